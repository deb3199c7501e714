/- Parts of the proof. -/
import Derived.Test.YtbbbocoliandcaaGreatDoorKli
import Derived.Test.YtbbbocoliandcaaGreatDoorKlj
set_option maxRecDepth 100000
set_option maxHeartbeats 8000000
open Go.Lib (hid)
namespace Go.Proofs.YtbbbocoliandcaaGreatDoor
namespace Sp
open Go.RowKit Bs Dv Gr
open Su (Sup SupOk GeoOk supE T4)
open Cn (JR)
theorem Qah{V0 V:World}{f:FuncId}{vs:Array Value}{v:Value}(hg:V0.grownBy V none)(h:∀W,V0.grownBy W none→Calls Tryz.prog f vs W fun e w'=>e=.returned v∧W=w')(q:Nat):Calls Tryz.prog f vs (V.drewN q) fun e w'=>e=.returned v∧w'=V.drewN q:=
 (h _ (Qa hg (Turn.drewN V q nowhere).grown)).mono fun _ _ k=>⟨k.1,k.2.symm⟩
theorem looks_any (size blocks:Int) (a1:Option Addr) (n c:Nat) (l:List AcT) (z:Nat) (w:World) (hs:AcSeg w a1 n c l) (hi:∀x∈l,AcIn x) (hz:z<4294967296) (hT4:T4 w) :
    Calls Tryz.prog 8 #[.agg #[.int .i64 size,.int .i64 blocks],.slice a1 n c,.int .u32 (z:Int)] w fun e w'=>e=.returned (.bool true)∧w.grownBy w' none:=by
  have B0:=heap_alloc_new w (.cells #[.int .i64 size,.int .i64 blocks] 28)
  have G0:=Qb w (.cells #[.int .i64 size,.int .i64 blocks] 28)
  obtain⟨W0,hW0⟩:∃X,w.alloc (.cells #[.int .i64 size,.int .i64 blocks] 28)=X:=⟨_,rfl⟩
  rw[hW0]at B0 G0
  have HB0:=hid B0
  have HG0:=hid G0
  have HW0:=hid hW0
  have HT40:=hid (hT4.grown G0)
  have HLV:=hid (Qgm W0 HT40.out)
  have HLG:=hid (fun W=>Cn.QfB size blocks W)
  have HLI:=hid (fun W (k:W0.grownBy W none)=>Qh9 a1 n c l W (hs.old (Qa G0 k)) hi)
  have HSEG:=hid (fun W (k:W0.grownBy W none)=>hs.old (Qa G0 k))
  have HIN:=hid hi
  have HLN:=hid hs.len
  have HZZ:=hid hz
  clear B0 G0 hW0 hs hi hz hT4
  go_enter Tryz.func8,Tryz.ntmps8
  go_upto_region 1 with fail
  rw[HW0.out]
  go_wp2_with fail
  refine HLV.out.mono ?_
  rintro e w1 ⟨rfl,hg⟩
  have HG1:=hid hg
  have HB1:=hid (Qi HB0.out hg)
  have c0:w1.cell? ⟨w.heap.size,0,none⟩=some (.int .i64 size):=by rw[cell_of_row _ _ _ _ _ _ HB1.out];rfl
  have c1:w1.cell? ⟨w.heap.size,1,none⟩=some (.int .i64 blocks):=by rw[cell_of_row _ _ _ _ _ _ HB1.out];rfl
  clear hg HLV
  dsimp only
  obtain⟨lg,hlg⟩:∃b,Cn.LightS size blocks=b:=⟨_,rfl⟩
  rw[hlg]at HLG
  have HLGE:=hid hlg
  clear hlg
  go_wp2_with fail
  refine(HLG.out _).mono ?_
  rintro e w2 ⟨rfl,hg⟩
  have HG2:=hid (Qa HG1.out hg)
  have HB2:=hid (Qi HB1.out hg)
  have HLI2:=hid (HLI.out w2 HG2.out)
  clear hg c0 c1 HLG HLI
  cases lg with
  | false=>
    have HE:=hid (Qa HG0.out HG2.out)
    go_wp2
    go_ret
    exact⟨rfl,HE.out⟩
  |true=>
  obtain⟨lb,hlb⟩:∃b,lightB l=b:=⟨_,rfl⟩
  rw[hlb]at HLI2
  have HLB:=hid hlb
  clear hlb
  dsimp only
  go_wp2_with fail
  refine HLI2.out.mono ?_
  rintro e w3 ⟨rfl,rfl⟩
  cases lb with
  | false=>
    have HE:=hid (Qa HG0.out HG2.out)
    go_wp2
    go_ret
    exact⟨rfl,HE.out⟩
  |true=>
  have c0:w2.cell? ⟨w.heap.size,0,none⟩=some (.int .i64 size):=by rw[cell_of_row _ _ _ _ _ _ HB2.out];rfl
  have c1:w2.cell? ⟨w.heap.size,1,none⟩=some (.int .i64 blocks):=by rw[cell_of_row _ _ _ _ _ _ HB2.out];rfl
  by_cases hok:GeoOk size blocks
  case neg=>
    have HBN:=hid (QiS size blocks w2 hok)
    clear hok
    go_wp2_with fail
    refine HBN.out.mono ?_
    rintro e w3 ⟨rfl,hg⟩
    have HE:=hid (Qa HG0.out (Qa HG2.out hg))
    clear hg c0 c1
    dsimp only
    go_wp2
    go_ret
    exact⟨rfl,HE.out⟩
  case pos=>
  obtain⟨K,rfl⟩:∃K:Nat,blocks=K:=Int.eq_ofNat_of_zero_le (by unfold GeoOk at hok;omega)
  obtain⟨Z,rfl⟩:∃Z:Nat,size=Z:=Int.eq_ofNat_of_zero_le (by unfold GeoOk at hok;omega)
  have hsk:=Cn.Qia HLGE.out hok
  have HSK:Hid (Z≤512∧K≤40):=hid (by omega)
  have hN60:n≤60:=by
    have h1:=HLB.out
    unfold lightB at h1
    rw[Bool.and_eq_true]at h1
    have h2:=of_decide_eq_true h1.2
    have h3:=HLN.out
    omega
  have HOKA:Hid (∀i,i<n→AcOk (l.getD i default)):=hid (fun i hi2=>by
    have h1:=HLB.out
    unfold lightB at h1
    rw[Bool.and_eq_true]at h1
    have h2:=of_decide_eq_true h1.1 i (by rw[HLN.out];exact hi2)
    refine(HIN.out _ ?_).ok h2
    have hl2:i<l.length:=by rw[HLN.out];exact hi2
    rw[List.getD_eq_getElem?_getD,List.getElem?_eq_getElem hl2]
    exact List.getElem_mem hl2)
  have HGE:=hid hok
  have HBG:=hid (QiT W0 w2 Z K HG2.out hok (Qbs hok hsk.2) HT40.out)
  have HRK:Hid (RnOk (firstR' Z K) 0):=hid (QhQ hok (Qbs hok hsk.2))
  have HDM:Hid ((firstR' Z K).s.dv.size=Z∧(firstR' Z K).s.dv.blocks=K):=hid (by obtain⟨g1,g2,-,-⟩:=Qb7 hok (Qbs hok hsk.2);exact⟨g1,g2⟩)
  clear hok hsk
  go_wp2_with fail
  refine HBG.out.mono ?_
  rintro e w3 ⟨rg,sg0,dg,rfl,hr,-⟩
  have HR3:=hid hr
  clear hr c0 c1 HBG HLI2
  dsimp only
  go_wp2
  go_loopw [8] (fun si wr=>∃(i sg:Nat) (r:Rn),i≤n∧si=.int .i64 (i:Int)∧Hid (Rs W0 wr rg sg dg (fun _=>False) r)∧Hid (RnOk r i)∧Hid (r.s.dv.size=Z∧r.s.dv.blocks=K)) (fun si _=>n-(intOf si).toNat)
  case atStart=>exact⟨0,sg0,_,Nat.zero_le _,rfl,HR3,HRK,HDM⟩
  case round=>
  clear HR3 HRK HDM
  obtain⟨i,sg,r,hin,rfl,HR,HK,HD⟩:=hrel
  by_cases hlt:i<n
  case pos=>
    have hq:decide (i<n)=true:=decide_eq_true hlt
    obtain⟨B,O,rfl,hat⟩:=(HSEG.out wr HR.out.gr).form (by omega)
    obtain⟨b0,b1,b2,b3,b4⟩:=hat i hlt
    have p0:(0:Int)≤(i:Int):=by omega
    have p1:(i:Int)<(n:Int):=by omega
    have HDO:=hid (rs_do HR.out HK.out (by omega) _ (HOKA.out i hlt) HT40.out)
    obtain⟨x,hx⟩:∃x,l.getD i default=x:=⟨_,rfl⟩
    rw[hx]at b0 b1 b2 b3 b4 HDO
    have HDO2:Hid (Calls Tryz.prog 39 #[.pointer (some ⟨rg,0,none⟩),.agg #[.int .i64 x.kind,.int .u8 x.tag,.int .i64 x.kids,.int .i64 x.n,.string (strOfNums x.data)]] wr (DoS W0 wr rg dg (fun _=>False) r x i)):=HDO
    obtain⟨k0,k1,k2,k3,k4,e0,e1,e2,e3,e4⟩:∃k0 k1 k2 k3 k4,x.kind=k0∧x.tag=k1∧x.kids=k2∧x.n=k3∧strOfNums x.data=k4:=⟨_,_,_,_,_,rfl,rfl,rfl,rfl,rfl⟩
    rw[e0,e1,e2,e3,e4]at HDO2
    rw[e0]at b0
    rw[e1]at b1
    rw[e2]at b2
    rw[e3]at b3
    rw[e4]at b4
    clear e0 e1 e2 e3 e4 hx hat HDO
    go_wp2_with fail
    refine HDO2.out.mono ?_
    rintro e w4 ⟨n4,er,r4,sg4,rfl,hd4,hk4,hr4,-⟩
    have HD4:Hid (r4.s.dv.size=Z∧r4.s.dv.blocks=K):=hid (by have h1:=hd4.dims HK.out (by omega);have h2:=HD.out;omega)
    have HR4:=hid hr4
    have HK4:=hid hk4
    clear hr4 hk4 hd4 b0 b1 b2 b3 b4 HR HK HD HDO2
    dsimp only
    go_wp2
    go_roundw
    case rel=>exact⟨i+1,sg4,r4,by omega,by go_num,HR4,HK4,HD4⟩
    case measure=>simp[intOf];omega
  case neg=>
  have hq:decide (i<n)=false:=decide_eq_false hlt
  obtain rfl:i=n:=by omega
  clear hlt hin
  obtain⟨hsh,hrc⟩:=HR.out.sh
  have HSH:Hid (Sh W0 wr sg dg (fun k=>k=rg) r.s):=hid (hsh.less (fun k e=>.inr e))
  have HRC:Hid (wr.cell? ⟨rg,0,none⟩=some (.pointer (some ⟨dg,0,none⟩))∧wr.cell? ⟨rg,1,none⟩=some (.pointer (some ⟨sg,0,none⟩))):=hid HR.out.cell
  have HOKS:=hid HK.out.sp
  obtain⟨oa,oc,d2,hsg2⟩:=HR.out.own
  obtain⟨own0,hown0,mown0,e1,e2,e3⟩:∃o h m,r.own=o∧r.hown=h∧r.mown=m:=⟨_,_,_,rfl,rfl,rfl⟩
  rw[e1,e2,e3]at HOKS
  rw[e1]at d2 hsg2
  obtain⟨s,e4⟩:∃s,r.s=s:=⟨_,rfl⟩
  rw[e4]at HSH HOKS
  have HPGL:Hid (s.sup.pages.length≤100000):=hid (by have:=HOKS.out.Qac;omega)
  have HWK:Hid (∀W,wr.grownBy W none→Calls Tryz.prog 57 #[.pointer (some ⟨sg,0,none⟩),.slice oa own0.length oc] W fun e w'=>∃C,e=.returned (.tuple #[.slice (some ⟨C,0,none⟩) s.dv.blocks s.dv.blocks,.int .i64 0])∧JR w' C s.now∧W.heap.size≤C∧W.grownBy w' none):=hid (fun W k=>Qj5 (HSH.out.go k) HOKS.out oa oc (hsg2.grown k))
  obtain⟨nO,hnO⟩:∃v,own0.length=v:=⟨_,rfl⟩
  rw[hnO]at d2 HWK
  have hnl:=HOKS.out.now.cok.len
  have hgeo:=HOKS.out.now.cok.geo
  have hkb:8≤s.dv.blocks∧s.dv.blocks≤4096:=by unfold GeoOk at hgeo;omega
  obtain⟨cz,hcz⟩:∃v,s.held.getD z 0=v:=⟨_,rfl⟩
  obtain⟨fr,hfr⟩:∃v,(frees s).length=v:=⟨_,rfl⟩
  obtain⟨fh,hfh⟩:∃v,(frees ⟨s.dv,s.sup,s.held,s.held,none,s.slot⟩).length=v:=⟨_,rfl⟩
  obtain⟨IM,hIM⟩:∃v,strOfNums s.dv.dur.flatten=v:=⟨_,rfl⟩
  obtain⟨op,hop⟩:∃v,s.dv.ops=v:=⟨_,rfl⟩
  obtain⟨gn,hgn⟩:∃v,s.sup.gen=v:=⟨_,rfl⟩
  obtain⟨rt,hrt⟩:∃v,s.sup.root=v:=⟨_,rfl⟩
  have HOPN:Hid (∀W,wr.grownBy W none→Calls Tryz.prog 15 #[.pointer (some ⟨dg,0,none⟩)] W fun e w'=>∃sg',e=.returned (.tuple #[.pointer (some ⟨sg',0,none⟩),.int .i64 0])∧Sh W0 w' sg' dg (fun k=>k=rg) ⟨s.dv,s.sup,s.held,s.held,none,s.slot⟩∧W.grownBy w' none):=hid (fun W k=>QgJ (HSH.out.go k) HOKS.out.kept HOKS.out.held.cok HT40.out)
  have HOP:Hid (∀W,wr.grownBy W none→Calls Tryz.prog 64 #[.pointer (some ⟨dg,0,none⟩)] W fun e w'=>e=.returned (.int .i64 (op:Int))∧W=w'):=hid (fun W k=>by have h1:=Qlk (HSH.out.go k);rw[hop]at h1;exact h1)
  have HIM:Hid (∀W,wr.grownBy W none→Calls Tryz.prog 52 #[.pointer (some ⟨dg,0,none⟩)] W fun e w'=>e=.returned (.string IM)∧W=w'):=hid (fun W k=>by have h1:=QjQ (HSH.out.go k);rw[hIM]at h1;exact h1)
  have HFR:Hid (∀W,wr.grownBy W none→Calls Tryz.prog 20 #[.pointer (some ⟨sg,0,none⟩)] W fun e w'=>e=.returned (.int .i64 (fr:Int))∧W=w'):=hid (fun W k=>QbR (HSH.out.go k) hfr)
  have HGN:Hid (∀W,wr.grownBy W none→Calls Tryz.prog 30 #[.pointer (some ⟨sg,0,none⟩)] W fun e w'=>e=.returned (.int .u64 gn)∧W=w'):=hid (fun W k=>by have h1:=QfY (HSH.out.go k);rw[hgn]at h1;exact h1)
  have HRT:Hid (∀W,wr.grownBy W none→Calls Tryz.prog 29 #[.pointer (some ⟨sg,0,none⟩)] W fun e w'=>e=.returned (.int .u32 rt)∧W=w'):=hid (fun W k=>by have h1:=Qep (HSH.out.go k);rw[hrt]at h1;exact h1)
  have HNL:=hid hnl
  have HKB:=hid hkb
  have HEQ:=hid (And.intro hcz (And.intro hfh (And.intro hgn hrt)))
  have d0:=HRC.out.1
  have d1:=HRC.out.2
  clear hsh hrc e1 e2 e3 e4 hcz hfr hfh hIM hop hgn hrt hnO hnl hgeo hkb hsg2 HR HK HD HSEG HIN HLN HLB HLGE HOKA HG1 HB1 HG2 HB2 HB0 HW0 HGE
  go_upto_region 12 with fail
  go_quiet (first
    |(go_at_call 64;with_reducible exact Calls.quiet_of_same ((HOP.out _ (Turn.drewN wr _ nowhere).grown).mono fun e w' q=>⟨q.1,q.2.symm⟩))
    |(go_at_call 52;with_reducible exact Calls.quiet_of_same ((HIM.out _ (Turn.drewN wr _ nowhere).grown).mono fun e w' q=>⟨q.1,q.2.symm⟩))
    |(go_at_call 20;with_reducible exact Calls.quiet_of_same ((HFR.out _ (Turn.drewN wr _ nowhere).grown).mono fun e w' q=>⟨q.1,q.2.symm⟩))
    |fail)
  obtain⟨V1,hV1⟩:∃V,wr.drewN nq=V:=⟨_,rfl⟩
  have HG1:Hid (wr.grownBy V1 none):=hid (by rw[←hV1];exact(Turn.drewN wr nq nowhere).grown)
  rw[hV1]
  have x1:=(Qc HG1.out).cell d1 id
  have x2:=(Qc HG1.out).cell d2 id
  have HD0:=hid d0
  have HD1:=hid d1
  have HD2:=hid d2
  have HW1:=hid (HWK.out _ (Qa HG1.out (Qj V1)))
  clear hV1 d0 d1 d2
  go_upto_region 13 with fail
  go_region_held3 (fun w'=>w'.cell? ⟨rg,1,none⟩=some (.pointer (some ⟨sg,0,none⟩))∧w'.cell? ⟨rg,2,none⟩=some (.slice oa nO oc)) (go_keep)
    (first
      | (go_at_call 57
         (with_reducible refine HW1.out.mono ?_)
         rintro e w5 ⟨C1,rfl,hj5,-,hg5⟩
         have HG5:=hid (Qa HG1.out (Qa (Qj V1) hg5))
         have HJ5:=hid hj5
         have k1:=(Qc HG5.out).cell HD1.out id
         have k2:=(Qc HG5.out).cell HD2.out id
         clear hg5 hj5)
      |fail)
  clear x1 x2 k2 HW1
  have HGE:=hid (QfZ (HSH.out.go HG5.out) HPGL.out z HZZ.out)
  obtain⟨V5,hV5⟩:∃V,w5=V:=⟨_,rfl⟩
  rw[hV5]at HG5 HJ5 HGE k1 ⊢
  clear hV5
  have hrem:(z:Int).tmod 50=((z % 50:Nat):Int):=by rw[Int.tmod_eq_emod_of_nonneg (by omega)];omega
  obtain⟨q5,hq5⟩:∃q,z % 50=q:=⟨_,rfl⟩
  rw[hq5]at hrem
  have hq50:q5<50:=by omega
  have HRM:=hid (fun W (k:wr.grownBy W none)=>Qk1 (HSH.out.go k) (q5:Int) (by omega))
  have HCT:=hid (fun W (k:wr.grownBy W none)=>QdJ (HSH.out.go k) z HZZ.out)
  clear hq5
  go_wp2_with fail
  refine HGE.out.mono ?_
  rintro e w6 ⟨hg6,hx6⟩
  obtain ⟨v6,rfl⟩:∃v,e=.returned v:=by
    rcases hx6 with ⟨-,rfl⟩|⟨p,a,c,-,-,rfl,-,-⟩
    · exact⟨_,rfl⟩
    · exact⟨_,rfl⟩
  have HG6:=hid (Qa HG5.out hg6)
  have k6:=(Qc HG6.out).cell HD1.out id
  have HJ6:=hid (HJ5.out.turn (Qc hg6) id)
  clear hg6 hx6 k1
  dsimp only
  go_wp2_with fail
  refine(HCT.out _ HG6.out).mono ?_
  rintro e w7 ⟨rfl,rfl⟩
  dsimp only
  go_wp2_with fail
  refine(HRM.out _ HG6.out).mono ?_
  rintro e w8 ⟨rfl,hg8⟩
  have HG8:=hid (Qa HG6.out hg8)
  have HJ8:=hid (HJ6.out.turn (Qc hg8) id)
  have x1:=(Qc HG8.out).cell HD1.out id
  have x2:=(Qc HG8.out).cell HD2.out id
  have HW2:=hid (HWK.out _ (Qa HG8.out (Qj w8)))
  clear hg8 k6 hrem hq50 HJ6 HG6 HGE HRM
  dsimp only
  go_upto_region 17 with fail
  go_region_held3 (fun w'=>w'.cell? ⟨rg,1,none⟩=some (.pointer (some ⟨sg,0,none⟩))∧w'.cell? ⟨rg,2,none⟩=some (.slice oa nO oc)) (go_keep)
    (first
      | (go_at_call 57
         (with_reducible refine HW2.out.mono ?_)
         rintro e w9 ⟨C2,rfl,hj9,-,hg9⟩
         have HG9:=hid (Qa HG8.out (Qa (Qj w8) hg9))
         have HJ9:=hid hj9
         have HJ9a:=hid (HJ8.out.turn (Qc (Qa (Qj w8) hg9)) id)
         have k1:=(Qc HG9.out).cell HD1.out id
         have k2:=(Qc HG9.out).cell HD2.out id
         clear hg9 hj9)
      |fail)
  clear x1 x2 k1 k2 HW2
  obtain⟨V9,hV9⟩:∃V,w9=V:=⟨_,rfl⟩
  rw[hV9]at HG9 HJ9 HJ9a ⊢
  clear hV9
  have y0:=(Qc HG9.out).cell HD0.out id
  have HO1:=hid (HOPN.out _ HG9.out)
  go_wp2_with fail
  refine HO1.out.mono ?_
  rintro e wA ⟨sgA,rfl,hsA,hgA⟩
  have HGA:=hid (Qa HG9.out hgA)
  have HSA:=hid hsA
  have HGA0:=hid hgA
  have y1:=(Qc HGA.out).cell HD0.out id
  have HO2:=hid (HOPN.out _ HGA.out)
  clear y0 hsA hgA HO1
  dsimp only
  go_wp2_with fail
  refine HO2.out.mono ?_
  rintro e wB ⟨sgB,rfl,hsB,hgB⟩
  have HGB:=hid (Qa HGA.out hgB)
  have HSB:=hid hsB
  have HSA2:=hid (HSA.out.go hgB)
  have hs1:=(HJ9a.out.turn (Qc (Qa HGA0.out hgB)) id).seg (by rw[HNL.out];have:=HKB.out;omega)
  have hs2:=(HJ9.out.turn (Qc (Qa HGA0.out hgB)) id).seg (by rw[HNL.out];have:=HKB.out;omega)
  rw[HNL.out]at hs1 hs2
  have HSM:=hid (Js.QdI _ _ _ _ _ _ _ hs1 hs2)
  clear y1 hsB hgB hs1 hs2 HO2 HJ9 HJ9a HSA
  dsimp only
  go_wp2_with fail
  refine HSM.out.mono ?_
  rintro e wC ⟨rfl,m9,rfl⟩
  obtain⟨VC,hVC⟩:∃V,wB.drewN m9=V:=⟨_,rfl⟩
  have hgC:wB.grownBy VC none:=by rw[←hVC];exact(Turn.drewN wB m9 nowhere).grown
  rw[hVC]
  have HGC:=hid (Qa HGB.out hgC)
  obtain⟨q1,q2,q3,q4⟩:=HEQ.out
  have HFA:Hid (∀W,VC.grownBy W none→Calls Tryz.prog 20 #[.pointer (some ⟨sgA,0,none⟩)] W fun e w'=>e=.returned (.int .i64 (fh:Int))∧W=w'):=hid (fun W k=>QbR (HSA2.out.go (Qa hgC k)) q2)
  have HFB:Hid (∀W,VC.grownBy W none→Calls Tryz.prog 20 #[.pointer (some ⟨sgB,0,none⟩)] W fun e w'=>e=.returned (.int .i64 (fh:Int))∧W=w'):=hid (fun W k=>QbR (HSB.out.go (Qa hgC k)) q2)
  have HGA2:Hid (∀W,VC.grownBy W none→Calls Tryz.prog 30 #[.pointer (some ⟨sgA,0,none⟩)] W fun e w'=>e=.returned (.int .u64 gn)∧W=w'):=hid (fun W k=>by have h1:=QfY (HSA2.out.go (Qa hgC k));rw[q3]at h1;exact h1)
  have HRA2:Hid (∀W,VC.grownBy W none→Calls Tryz.prog 29 #[.pointer (some ⟨sgA,0,none⟩)] W fun e w'=>e=.returned (.int .u32 rt)∧W=w'):=hid (fun W k=>by have h1:=Qep (HSA2.out.go (Qa hgC k));rw[q4]at h1;exact h1)
  have HCA:Hid (∀W,VC.grownBy W none→Calls Tryz.prog 23 #[.pointer (some ⟨sgA,0,none⟩),.int .u32 (z:Int)] W fun e w'=>e=.returned (.int .i64 cz)∧W=w'):=hid (fun W k=>by have h1:=QdJ (HSA2.out.go (Qa hgC k)) z HZZ.out;rw[q1]at h1;exact h1)
  have HCB:Hid (∀W,VC.grownBy W none→Calls Tryz.prog 23 #[.pointer (some ⟨sgB,0,none⟩),.int .u32 (z:Int)] W fun e w'=>e=.returned (.int .i64 cz)∧W=w'):=hid (fun W k=>by have h1:=QdJ (HSB.out.go (Qa hgC k)) z HZZ.out;rw[q1]at h1;exact h1)
  have y0:=(Qc HGC.out).cell HD0.out id
  have y1:=(Qc HGC.out).cell HD1.out id
  have b1:((op:Int)==(op:Int))=true:=beq_self_eq_true _
  have b2:(IM.toList==IM.toList)=true:=beq_self_eq_true _
  have b3:((fr:Int)==(fr:Int))=true:=beq_self_eq_true _
  have b4:(gn==gn)=true:=beq_self_eq_true _
  have b5:(rt==rt)=true:=beq_self_eq_true _
  have b6:((fh:Int)==(fh:Int))=true:=beq_self_eq_true _
  have b7:(cz==cz)=true:=beq_self_eq_true _
  have HE:Hid (w.grownBy VC none):=hid (Qa HG0.out (Qa HSH.out.gr HGC.out))
  clear q1 q2 q3 q4 hgC hVC HSM
  dsimp only
  go_upto_region 22 with fail
  go_quiet (first
    |(go_at_call 64;with_reducible exact Calls.quiet_of_same (Qah HGC.out HOP.out _))
    |(go_at_call 52;with_reducible exact Calls.quiet_of_same (Qah HGC.out HIM.out _))
    |(go_at_call 20;with_reducible exact Calls.quiet_of_same (Qah HGC.out HFR.out _))
    |(go_at_call 20;with_reducible exact Calls.quiet_of_same (Qah (Qx VC) HFA.out _))
    |(go_at_call 20;with_reducible exact Calls.quiet_of_same (Qah (Qx VC) HFB.out _))
    |(go_at_call 30;with_reducible exact Calls.quiet_of_same (Qah HGC.out HGN.out _))
    |(go_at_call 30;with_reducible exact Calls.quiet_of_same (Qah (Qx VC) HGA2.out _))
    |(go_at_call 29;with_reducible exact Calls.quiet_of_same (Qah HGC.out HRT.out _))
    |(go_at_call 29;with_reducible exact Calls.quiet_of_same (Qah (Qx VC) HRA2.out _))
    |(go_at_call 23;with_reducible exact Calls.quiet_of_same (Qah (Qx VC) HCA.out _))
    |(go_at_call 23;with_reducible exact Calls.quiet_of_same (Qah (Qx VC) HCB.out _))
    |fail)
  have HF:Hid (w.grownBy (VC.drewN nq) none):=hid (Qa HE.out (Turn.drewN VC nq nowhere).grown)
  go_wp2
  go_ret
  exact⟨rfl,HF.out⟩
theorem looks_int(size blocks:Int)(a1:Option Addr)(n c:Nat)(l:List AcT)(z:Int)(w:World)(hs:AcSeg w a1 n c l)(hi:∀x∈l,AcIn x)(hz:0≤z∧z≤4294967295)(hT4:T4 w) :
  Calls Tryz.prog 8 #[.agg #[.int .i64 size,.int .i64 blocks],.slice a1 n c,.int .u32 z] w fun e w'=>e=.returned (.bool true)∧w.grownBy w' none:=by
 obtain⟨k,rfl⟩:∃k:Nat,z=k:=Int.eq_ofNat_of_zero_le hz.1;exact looks_any size blocks a1 n c l k w hs hi (by omega) hT4
end Sp
end Go.Proofs.YtbbbocoliandcaaGreatDoor
