/- Parts of the proof. -/
import Derived.Test.YtbbbocoliandcaaGreatDoorKrl
set_option maxRecDepth 100000
set_option maxHeartbeats 8000000
open Go.Lib (hid)
namespace Go.Proofs.YtbbbocoliandcaaGreatDoor
namespace Sp
open Go.RowKit Bs Dv Gr
open Su (Sup SupOk GeoOk supE T4 getS)
open Cn (CnOk)
open Dr
def SC32:List Nat:=[151,152,153,154,155,156,157,158,159,160,161,162,163,164,165,166]
theorem QJ:SC32.Nodup:=by decide +kernel
def VC32(rg dg gl i n2 cl wn:Nat)(x1 x3:Int)(g:Nat):List Value:=[.slice (some ⟨gl,0,none⟩) n2 cl,.int .i64 (i:Int),.slice (some ⟨gl,0,none⟩) n2 cl,.int .i64 (i:Int),.pointer (some ⟨gl,i*2,none⟩),.pointer (some ⟨gl,i*2,none⟩),.int .i64 x1,.pointer (some ⟨rg,0,none⟩),.pointer (some ⟨rg,0,none⟩),.pointer (some ⟨rg,0,none⟩),.pointer (some ⟨dg,0,none⟩),.slice (fa g) wn (fc g),.int .i64 (wn:Int),.int .i64 x3,.pointer (some ⟨gl,i*2,none⟩),.pointer (some ⟨gl,i*2,none⟩)]
theorem Qk9{rg dg gl i n2 cl wn:Nat}{x1 x3:Int}(g9 j9:Nat)(hj:j9≠11):(VC32 rg dg gl i n2 cl wn x1 x3 g9).getD j9 undef=(VC32 rg dg gl i n2 cl wn x1 x3 0).getD j9 undef:=by
 match j9,hj with
 |0,_=>rfl
 |1,_=>rfl
 |2,_=>rfl
 |3,_=>rfl
 |4,_=>rfl
 |5,_=>rfl
 |6,_=>rfl
 |7,_=>rfl
 |8,_=>rfl
 |9,_=>rfl
 |10,_=>rfl
 |12,_=>rfl
 |13,_=>rfl
 |14,_=>rfl
 |15,_=>rfl
 |11,h=>exact absurd rfl h
 |j+16,_=>rfl
def SC33:List Nat:=[167,168,169,170,171,172,173,174,175,176,177,178,179,180,181,182]
theorem QK:SC33.Nodup:=by decide +kernel
def VC33(wz gl i n2 cl x2 x4 Z FV:Nat)(_g:Nat):List Value:=[.slice (some ⟨gl,0,none⟩) n2 cl,.int .i64 (i:Int),.slice (some ⟨gl,0,none⟩) n2 cl,.int .i64 (i:Int),.pointer (some ⟨gl,i*2,none⟩),.pointer (some ⟨gl,i*2+1,none⟩),.int .u64 (x2:Int),.pointer (some ⟨wz,0,none⟩),.int .i64 (Z:Int),.int .i64 ((Z / 64:Nat):Int),.int .u64 ((Z / 64:Nat):Int),.int .u64 (IntKind.u64.wrap (2 ^ (Z / 64))),.int .u64 (FV:Int),.int .u64 (x4:Int),.pointer (some ⟨gl,i*2,none⟩),.pointer (some ⟨gl,i*2+1,none⟩)]
theorem crash_any (size blocks:Int) (a1:Option Addr) (n c:Nat) (l:List AcT) (fz:Int) (a2:Option Addr) (n2 c2:Nat) (pk:List (Int×Nat)) (w:World) (hs:AcSeg w a1 n c l) (hi:∀x∈l,AcIn x) (hp:PSeg w a2 n2 c2 pk) (hT4:T4 w) (hT64:T64 w) :
    Calls Tryz.prog 7 #[.agg #[.int .i64 size,.int .i64 blocks],.slice a1 n c,.int .i64 fz,.slice a2 n2 c2] w fun e w'=>e=.returned (.bool true)∧w.grownBy w' none:=by
  have B0:=heap_alloc_new w (.cells #[.int .i64 size,.int .i64 blocks] 28)
  have G0:=Qb w (.cells #[.int .i64 size,.int .i64 blocks] 28)
  obtain⟨W0,hW0⟩:∃X,w.alloc (.cells #[.int .i64 size,.int .i64 blocks] 28)=X:=⟨_,rfl⟩
  rw[hW0]at B0 G0
  have HB0:=hid B0
  have HG0:=hid G0
  have HW0:=hid hW0
  have HT40:=hid (hT4.grown G0)
  have HLV:=hid (Qhk W0 HT40.out)
  have HLG:=hid (fun W=>Cn.Qgm size blocks W)
  have HLI:=hid (fun W (k:W0.grownBy W none)=>Qjj a1 n c l W (hs.old (Qa G0 k)) hi)
  have HSEG:=hid (fun W (k:W0.grownBy W none)=>hs.old (Qa G0 k))
  have HIN:=hid hi
  have HLN:=hid hs.len
  have HPK:=hid (fun W (k:W0.grownBy W none)=>hp.turn (Qd (Qa G0 k)) (fun _ _ e=>e))
  have HT64:=hid (fun W (k:W0.grownBy W none)=>(fun j hj=>(Qd (Qa G0 k)).cell (hT64 j hj) id:T64 W))
  clear B0 G0 hW0 hs hi hp hT4 hT64
  go_enter Tryz.func7,Tryz.ntmps7
  go_upto_region 1 with fail
  rw[HW0.out]
  go_wp2_with fail
  refine HLV.out.mono ?_
  rintro e w1 ⟨rfl,hg⟩
  have HG1:=hid hg
  have HB1:=hid (Ql HB0.out hg)
  have c0:w1.cell? ⟨w.heap.size,0,none⟩=some (.int .i64 size):=by rw[cell_of_row _ _ _ _ _ _ HB1.out];rfl
  have c1:w1.cell? ⟨w.heap.size,1,none⟩=some (.int .i64 blocks):=by rw[cell_of_row _ _ _ _ _ _ HB1.out];rfl
  clear hg HLV
  dsimp only
  obtain⟨lg,hlg⟩:∃b,Cn.LightS size blocks=b:=⟨_,rfl⟩
  rw[hlg]at HLG
  have HLGE:=hid hlg
  clear hlg
  go_wp2_with fail
  refine(HLG.out _).mono ?_
  rintro e w2 ⟨rfl,hg⟩
  have HG2:=hid (Qa HG1.out hg)
  have HB2:=hid (Ql HB1.out hg)
  have HLI2:=hid (HLI.out w2 HG2.out)
  clear hg c0 c1 HLG HLI
  cases lg with
  | false=>
    have HE:=hid (Qa HG0.out HG2.out)
    go_wp2
    go_ret
    exact⟨rfl,HE.out⟩
  |true=>
  obtain⟨lb,hlb⟩:∃b,lightB l=b:=⟨_,rfl⟩
  rw[hlb]at HLI2
  have HLB:=hid hlb
  clear hlb
  dsimp only
  go_wp2_with fail
  refine HLI2.out.mono ?_
  rintro e w3 ⟨rfl,rfl⟩
  cases lb with
  | false=>
    have HE:=hid (Qa HG0.out HG2.out)
    go_wp2
    go_ret
    exact⟨rfl,HE.out⟩
  |true=>
  have c0:w2.cell? ⟨w.heap.size,0,none⟩=some (.int .i64 size):=by rw[cell_of_row _ _ _ _ _ _ HB2.out];rfl
  have c1:w2.cell? ⟨w.heap.size,1,none⟩=some (.int .i64 blocks):=by rw[cell_of_row _ _ _ _ _ _ HB2.out];rfl
  by_cases hk40:n2≤40
  case neg=>
    have q40:decide ((40:Int)<(n2:Int))=true:=decide_eq_true (by omega)
    have HE:=hid (Qa HG0.out HG2.out)
    clear hk40
    go_wp2
    go_ret
    exact⟨rfl,HE.out⟩
  case pos=>
  have q40:decide ((40:Int)<(n2:Int))=false:=decide_eq_false (by omega)
  have HK40:=hid hk40
  clear hk40
  by_cases hok:GeoOk size blocks
  case neg=>
    have HBN:=hid (Qj4 size blocks w2 hok)
    clear hok
    go_wp2_with fail
    refine HBN.out.mono ?_
    rintro e w3 ⟨rfl,hg⟩
    have HE:=hid (Qa HG0.out (Qa HG2.out hg))
    clear hg c0 c1
    dsimp only
    go_wp2
    go_ret
    exact⟨rfl,HE.out⟩
  case pos=>
  obtain⟨K,rfl⟩:∃K:Nat,blocks=K:=Int.eq_ofNat_of_zero_le (by unfold GeoOk at hok;omega)
  obtain⟨Z,rfl⟩:∃Z:Nat,size=Z:=Int.eq_ofNat_of_zero_le (by unfold GeoOk at hok;omega)
  have hsk:=Cn.Qjk HLGE.out hok
  have HSK:Hid (Z≤512∧K≤40):=hid (by omega)
  have hN60:n≤60:=by
    have h1:=HLB.out
    unfold lightB at h1
    rw[Bool.and_eq_true]at h1
    have h2:=of_decide_eq_true h1.2
    have h3:=HLN.out
    omega
  have HOKA:Hid (∀i,i<n→AcOk (l.getD i default)):=hid (fun i hi2=>by
    have h1:=HLB.out
    unfold lightB at h1
    rw[Bool.and_eq_true]at h1
    have h2:=of_decide_eq_true h1.1 i (by rw[HLN.out];exact hi2)
    refine(HIN.out _ ?_).ok h2
    have hl2:i<l.length:=by rw[HLN.out];exact hi2
    rw[List.getD_eq_getElem?_getD,List.getElem?_eq_getElem hl2]
    exact List.getElem_mem hl2)
  have HGE:=hid hok
  have HBG:=hid (Qj5 W0 w2 Z K HG2.out hok (QbE hok hsk.2) HT40.out)
  have HRK:Hid (RnOk (firstR' Z K) 0):=hid (Qi4 hok (QbE hok hsk.2))
  have HDM:Hid ((firstR' Z K).s.dv.size=Z∧(firstR' Z K).s.dv.blocks=K):=hid (by obtain⟨g1,g2,-,-⟩:=Qcp hok (QbE hok hsk.2);exact⟨g1,g2⟩)
  clear hok hsk
  go_wp2_with fail
  refine HBG.out.mono ?_
  rintro e w3 ⟨rg,sg0,dg,rfl,hr,-⟩
  have HR3:=hid hr
  clear hr c0 c1 q40 HBG HLI2
  dsimp only
  go_wp2
  go_loopw [10] (fun si wr=>∃(i sg:Nat) (r:Rn),i≤n∧si=.int .i64 (i:Int)∧Hid (Rs W0 wr rg sg dg (fun _=>False) r)∧Hid (RnOk r i)∧Hid (r.s.dv.size=Z∧r.s.dv.blocks=K)) (fun si _=>n-(intOf si).toNat)
  case atStart=>exact⟨0,sg0,_,Nat.zero_le _,rfl,HR3,HRK,HDM⟩
  case round=>
  clear HR3 HRK HDM
  obtain⟨i,sg,r,hin,rfl,HR,HK,HD⟩:=hrel
  by_cases hlt:i<n
  case pos=>
    have hq:decide (i<n)=true:=decide_eq_true hlt
    obtain⟨B,O,rfl,hat⟩:=(HSEG.out wr HR.out.gr).form (by omega)
    obtain⟨b0,b1,b2,b3,b4⟩:=hat i hlt
    have p0:(0:Int)≤(i:Int):=by omega
    have p1:(i:Int)<(n:Int):=by omega
    have HDO:=hid (rs_do HR.out HK.out (by omega) _ (HOKA.out i hlt) HT40.out)
    obtain⟨x,hx⟩:∃x,l.getD i default=x:=⟨_,rfl⟩
    rw[hx]at b0 b1 b2 b3 b4 HDO
    have HDO2:Hid (Calls Tryz.prog 39 #[.pointer (some ⟨rg,0,none⟩),.agg #[.int .i64 x.kind,.int .u8 x.tag,.int .i64 x.kids,.int .i64 x.n,.string (strOfNums x.data)]] wr (DoS W0 wr rg dg (fun _=>False) r x i)):=HDO
    obtain⟨k0,k1,k2,k3,k4,e0,e1,e2,e3,e4⟩:∃k0 k1 k2 k3 k4,x.kind=k0∧x.tag=k1∧x.kids=k2∧x.n=k3∧strOfNums x.data=k4:=⟨_,_,_,_,_,rfl,rfl,rfl,rfl,rfl⟩
    rw[e0,e1,e2,e3,e4]at HDO2
    rw[e0]at b0
    rw[e1]at b1
    rw[e2]at b2
    rw[e3]at b3
    rw[e4]at b4
    clear e0 e1 e2 e3 e4 hx hat HDO
    go_wp2_with fail
    refine HDO2.out.mono ?_
    rintro e w4 ⟨n4,er,r4,sg4,rfl,hd4,hk4,hr4,-⟩
    have HD4:Hid (r4.s.dv.size=Z∧r4.s.dv.blocks=K):=hid (by have h1:=hd4.dims HK.out (by omega);have h2:=HD.out;omega)
    have HR4:=hid hr4
    have HK4:=hid hk4
    clear hr4 hk4 hd4 b0 b1 b2 b3 b4 HR HK HD HDO2
    dsimp only
    go_wp2
    go_roundw
    case rel=>exact⟨i+1,sg4,r4,by omega,by go_num,HR4,HK4,HD4⟩
    case measure=>simp[intOf];omega
  case neg=>
  have hq:decide (i<n)=false:=decide_eq_false hlt
  obtain rfl:i=n:=by omega
  clear hlt hin
  have HS:=hid (HR.out.sh.1.less (B:=fun k=>k=rg) (fun k e=>.inr e))
  have HC:Hid (wr.cell? ⟨rg,0,none⟩=some (.pointer (some ⟨dg,0,none⟩))∧wr.cell? ⟨rg,1,none⟩=some (.pointer (some ⟨sg,0,none⟩))∧wr.cell? ⟨rg,6,none⟩=some (.int .u32 (r.root:Int))):=hid ⟨HR.out.cell.1,HR.out.cell.2,HR.out.root⟩
  obtain⟨oa,oc,ho1,ho2⟩:=HR.out.own
  have HO1:=hid ho1
  have HO2:=hid ho2
  have HOK:=hid HK.out.sp
  have HLO:=hid HK.out.len.1
  have HRT:=hid HK.out.rt
  obtain⟨own,hown,mown,e1,e2,e3⟩:∃o h m,r.own=o∧r.hown=h∧r.mown=m:=⟨_,_,_,rfl,rfl,rfl⟩
  obtain⟨s,e4⟩:∃s,r.s=s:=⟨_,rfl⟩
  obtain⟨root,e5⟩:∃k,r.root=k:=⟨_,rfl⟩
  rw[e1,e2,e3,e4]at HOK
  rw[e1]at HO1 HO2 HLO
  rw[e4]at HS HD
  rw[e4,e5]at HRT
  rw[e5]at HC
  have HPG:Hid (s.sup.pages.length≤100000):=hid (by have:=HOK.out.Qay;omega)
  have HZ5:Hid (s.dv.size≤512):=hid (by have h1:=HD.out;have h2:=HSK.out;omega)
  have HR32:Hid (root<4294967296):=hid (by have h1:=HOK.out.kept.ok.root;have h2:=HRT.out;omega)
  have HN60:Hid (i≤60):=hid hN60
  obtain⟨ge,hge⟩:∃v,s.sup.gen=v:=⟨_,rfl⟩
  have HGV:=hid hge
  have HGB:Hid (0≤ge∧ge≤1000):=hid (by have h1:=HOK.out.kept.ok.gen;have h2:=HOK.out.gen;omega)
  have HGN:Hid (∀W,wr.grownBy W none→Calls Tryz.prog 30 #[.pointer (some ⟨sg,0,none⟩)] W fun e w'=>e=.returned (.int .u64 ge)∧W=w'):=hid (fun W k=>by have h1:=QgR (HS.out.go k);rw[hge]at h1;exact h1)
  have HOP:=hid (fun W (k:wr.grownBy W none)=>QhK (HS.out.go k) HOK.out.kept HOK.out.held.cok HT40.out)
  have HTN:Hid (∀k:Nat,k<4294967296→∀W,wr.grownBy W none→Calls Tryz.prog 58 #[.pointer (some ⟨sg,0,none⟩),.int .u32 (k:Int),.int .i64 6] W fun e w'=>e=.returned (.string (strOfNums (tellF s 6 k)))∧W.grownBy w' none):=hid (fun k hk W hW=>Qet HS.out HPG.out HZ5.out 6 (by decide) k hk W hW)
  have HRD0:=hid (fun W (k:wr.grownBy W none)=>QhL (HS.out.go k) 0 (by have:=HOK.out.dok.blo;omega))
  have HRD1:=hid (fun W (k:wr.grownBy W none)=>QhL (HS.out.go k) 1 (by have:=HOK.out.dok.blo;omega))
  have HI0:Hid (IsB (s.dv.last 0)∧IsB (s.dv.last 1)):=hid (by have:=HOK.out.dok.blo;exact⟨(HOK.out.dok.last (by omega)).2,(HOK.out.dok.last (by omega)).2⟩)
  obtain⟨X0,hX0⟩:∃X,strOfNums (s.dv.last 0)=X:=⟨_,rfl⟩
  obtain⟨X1,hX1⟩:∃X,strOfNums (s.dv.last 1)=X:=⟨_,rfl⟩
  rw[hX0]at HRD0
  rw[hX1]at HRD1
  have HX0:=hid hX0
  have HX1:=hid hX1
  have HGEO:Hid (wr.cell? ⟨w.heap.size,0,none⟩=some (.int .i64 (Z:Int))):=hid (by rw[cell_of_row _ _ _ _ _ _ (Ql HB0.out HS.out.gr)];rfl)
  have d0:=HC.out.1
  have d1:=HC.out.2.1
  have d6:=HC.out.2.2
  clear ho1 ho2 e1 e2 e3 e4 e5 hge hX0 hX1 hN60 HR HK HSEG HIN HLN HLB HLGE HOKA HG1 HB1 HG2 HB2 HW0 HGE
  go_upto_region 12 with fail
  go_cut [11,12] from 61 to 69 (fun gv tv wx=>gv=.int .u64 ge∧tv=.int .u32 (root:Int)∧Hid (wr.grownBy wx none))
  case first=>
    go_quiet ((go_at_call 30;exact Calls.quiet_of_same ((HGN.out _ (Turn.drewN wr _ nowhere).grown).mono fun e w' q=>⟨q.1,q.2.symm⟩)))
    go_wp2
    go_meet
    exact⟨rfl,rfl,hid (Turn.drewN wr _ nowhere).grown⟩
  case rest=>
  obtain⟨rfl,rfl,HG1⟩:=hcut
  clear d0 d1 d6
  obtain⟨T0,hT0⟩:∃S,(if root=0 then(⟨#[]⟩:ByteArray) else strOfNums (tellF (opened s.dv s.sup s.held s.slot) 6 root))=S:=⟨_,rfl⟩
  have d0:=(Qd HG1.out).cell HC.out.1 id
  have HT0:=hid hT0
  clear hT0
  go_upto_if 71 with fail
  go_cut [13,14,15] from 71 to 84 (fun ov _ _ wx=>ov=.string T0∧Hid (wr.grownBy wx none))
  case first=>
    by_cases h0:root=0
    · have q:((root:Int) != 0)=false:=by rw[h0];rfl
      have HE:Hid (T0=⟨#[]⟩):=hid (by rw[←HT0.out,if_pos h0])
      clear h0
      go_wp2
      go_meet
      exact⟨by rw[HE.out],HG1⟩
    · have q:((root:Int) != 0)=true:=bne_iff_ne.2 (by omega)
      have HE:Hid (strOfNums (tellF (opened s.dv s.sup s.held s.slot) 6 root)=T0):=hid (by rw[←HT0.out,if_neg h0])
      have HO:=hid (HOP.out _ HG1.out)
      clear h0
      go_wp2_with fail
      refine HO.out.mono ?_
      rintro e w5 ⟨so,rfl,hs5,hg5⟩
      have HG5:=hid (Qa HG1.out hg5)
      have HTO:Hid (Calls Tryz.prog 58 #[.pointer (some ⟨so,0,none⟩),.int .u32 (root:Int),.int .i64 6] w5 fun e w'=>e=.returned (.string T0)∧w5.grownBy w' none):=hid (by
        have h1:=Qet hs5 HPG.out HZ5.out 6 (by decide) root HR32.out w5 (QC _)
        rw[←HE.out]
        exact h1)
      clear hs5 hg5 HO d0 q
      try dsimp only
      go_wp2_with fail
      refine HTO.out.mono ?_
      rintro e w6 ⟨rfl,hg6⟩
      have HG6:=hid (Qa HG5.out hg6)
      clear hg6
      go_wp2
      go_meet
      exact⟨rfl,HG6⟩
  case rest=>
  obtain⟨rfl,HG2⟩:=hcut
  clear d0 HG1 HOP
  have d1:=(Qd HG2.out).cell HC.out.2.1 id
  have d2:=(Qd HG2.out).cell HO1.out id
  obtain⟨L,hL⟩:∃L,own.length=L:=⟨_,rfl⟩
  rw[hL]at d2 HO2
  go_upto_region 20 with fail
  go_upto_if 90 with fail
  go_cut [16,17] from 90 to 108 (fun nv tv wx=>∃(next:Nat) (N0:ByteArray),nv=.int .u32 (next:Int)∧tv=.string N0∧Hid (next<4294967296)∧Hid (next=0∨next∈own)∧Hid (next≠0→strOfNums (tellF s 6 next)=N0)∧Hid (wr.grownBy wx none))
  case first=>
    cases L with
    | zero=>
      have HX:Hid ((0:Nat)<4294967296∧True):=hid ⟨by decide,trivial⟩
      clear hL
      go_wp2
      go_meet
      exact⟨0,⟨#[]⟩,rfl,rfl,hid HX.out.1,hid (.inl rfl),hid (fun e=>absurd rfl e),HG2⟩
    | succ m=>
      have q:decide ((0:Int)<((m+1:Nat):Int))=true:=decide_eq_true (by omega)
      have hm60:m≤60:=by have h1:=HO2.out.len;have h2:=HN60.out;have h3:=HLO.out;omega
      obtain⟨go,oo,rfl,hat⟩:=HO2.out.addr (by omega)
      have hk:=(Qd HG2.out).cell (hat m (by omega)) id
      obtain⟨f1,f2⟩:=QlK hL
      rw[f1]at hk
      obtain⟨next,hnx⟩:∃k,own.getD m 0=k:=⟨_,rfl⟩
      rw[hnx]at hk f2
      have HMEM:=hid f2
      have HN32:Hid (next<4294967296):=hid (by have h1:=(HOK.out.now.ref.lt (HOK.out.now.ref.Qa0 f2));have h2:=HOK.out.dok.bhi;omega)
      have HTX:=hid (HTN.out next HN32.out)
      obtain⟨N0,hN0⟩:∃S,strOfNums (tellF s 6 next)=S:=⟨_,rfl⟩
      rw[hN0]at HTX
      have HN0:=hid hN0
      have p0:(0:Int)≤(m:Int):=by omega
      have p4:((m:Int)+1≤(m:Int))=False:=eq_false (by omega)
      have p1:(m:Int)<((m+1:Nat):Int):=by omega
      have p2:((m+1:Nat):Int)-1=(m:Int):=by omega
      have p3:IntKind.i64.wrap (m:Int)=(m:Int):=by rw[IntKind.wrap_i64];omega
      clear hat f1 f2 hnx hN0 hL
      go_upto_region 21 with fail
      go_quiet (fail)
      have HGE:=hid (Turn.drewN wc nq nowhere).grown
      have d1:=(Qd (Qa HG2.out HGE.out)).cell HC.out.2.1 id
      go_wp2_with fail
      refine(HTX.out _ (Qa HG2.out HGE.out)).mono ?_
      rintro e w6 ⟨rfl,hg6⟩
      have HG6:=hid (Qa (Qa HG2.out HGE.out) hg6)
      clear hg6
      go_wp2
      go_meet
      exact⟨next,N0,rfl,rfl,HN32,hid (.inr HMEM.out),hid (fun _=>HN0.out),HG6⟩
  case rest=>
  obtain⟨next,N0,rfl,rfl,HN32,HNX,HN0,HG3⟩:=hcut
  clear d1 d2 HG2 HO1 HO2 HTN hL
  have d0:=(Qd HG3.out).cell HC.out.1 id
  go_wp2_with fail
  refine(HRD0.out _ HG3.out).mono ?_
  rintro e w5 ⟨rfl,hg5⟩
  have HG5:=hid (Qa HG3.out hg5)
  clear hg5 d0
  try dsimp only
  have d0:=(Qd HG5.out).cell HC.out.1 id
  go_wp2_with fail
  refine(HRD1.out _ HG5.out).mono ?_
  rintro e w6 ⟨rfl,hg6⟩
  have HG6:=hid (Qa HG5.out hg6)
  clear hg6 d0 HRD0 HRD1 HG3 HG5
  try dsimp only
  have d0:=(Qd HG6.out).cell HC.out.1 id
  have HS6:=hid (HS.out.go (Qa HG6.out (Qk w6)))
  obtain⟨ff,hff⟩:∃v,pick fz 12=v:=⟨_,rfl⟩
  have hffb:=Qah fz 12 (by decide)
  have HP12:=hid (QL fz 12 w6.drew (by decide) (by decide))
  rw[hff]at HP12 hffb
  have HFU:=hid (Ql4 HS6.out ff (by omega))
  clear hff hffb
  go_upto_region 25 with fail
  go_region_held3 (fun w'=>w'.cell? ⟨rg,0,none⟩=some (.pointer (some ⟨dg,0,none⟩))) (go_keep)
    (first
      | (go_at_call 40
         (with_reducible refine HP12.out.mono ?_)
         rintro e w7 ⟨rfl,rfl⟩)
      | (go_at_call 60
         (with_reducible refine HFU.out.mono ?_)
         rintro e w7 ⟨rfl,hs7,ht7⟩
         have HS7:=hid hs7
         have HT7:=hid ((Stay.Qm (A:=fun k=>k=rg) (Qa HG6.out (Qk w6))).trans ht7)
         have k0:=HT7.out.cell HC.out.1 rfl
         clear hs7 ht7)
      |fail)
  have HC7:Hid (w7.cell? ⟨rg,0,none⟩=some (.pointer (some ⟨dg,0,none⟩))∧w7.cell? ⟨rg,1,none⟩=some (.pointer (some ⟨sg,0,none⟩))∧w7.cell? ⟨w.heap.size,0,none⟩=some (.int .i64 (Z:Int))):=hid ⟨k0,HT7.out.cell HC.out.2.1 rfl,by rw[cell_of_row _ _ _ _ _ _ (Ql HB0.out HS7.out.gr)];rfl⟩
  clear d0 k0 HT7 HC HG6 HS6 HFU HP12 HS HGN
  have d1:=HC7.out.2.1
  have HCM:=hid (Qhr HS7.out HOK.out (by have:=HN60.out;omega) next HN32.out HNX.out HT40.out)
  have HAF:=hid (fun(l:List (Int×Nat)) (hl:picksOk (comR (setF s ff) next).2 l) hch=>QiX HOK.out (by have:=HN60.out;omega) HRT.out HNX.out ff hl hch)
  have HSZ:Hid ((comR (setF s ff) next).2.size=s.dv.size):=hid (QcG (s.dv.setFuse ff) (newWrites s) (1-s.slot) (Su.putS (newSup s next)).1).1
  obtain⟨E,hE⟩:∃E,(comR (setF s ff) next).1=E:=⟨_,rfl⟩
  obtain⟨D,hD⟩:∃D,(comR (setF s ff) next).2=D:=⟨_,rfl⟩
  rw[hE,hD]at HCM
  simp only[hE,hD]at HAF
  rw[hD]at HSZ
  clear hE hD
  go_wp2_with fail
  refine HCM.out.mono ?_
  rintro e w8 ⟨rfl,s2,hs8,hd8,ht8⟩
  subst hd8
  have HS8:=hid hs8
  have d0:=ht8.cell HC7.out.1 rfl
  have HC8:=hid d0
  have HPD:=hid (QgT hs8)
  clear hs8 ht8 d1 HC7 HS7 HCM
  try dsimp only
  obtain⟨wn,hwn⟩:∃k,s2.dv.pend.length=k:=⟨_,rfl⟩
  rw[hwn]at HPD
  have HWN:=hid hwn
  clear hwn
  go_wp2_with fail
  refine HPD.out.mono ?_
  rintro e w9 ⟨wa,wc,rfl,hw9,hg9⟩
  have HW9:=hid hw9
  have HG9:=hid hg9
  have HS9:=hid (HS8.out.go hg9)
  have HC9:=hid ((Qd hg9).cell HC8.out id)
  clear hw9 hg9 d0 HPD HS8 HC8
  try dsimp only
  have HOWN:=hid (Qjt a2 n2 c2 pk w9 (HPK.out _ HS9.out.gr) (by have:=HK40.out;omega))
  go_wp2_with fail
  refine HOWN.out.mono ?_
  rintro e w10 ⟨gl,cl,rfl,h1,h2,h3,h4,h5,h6⟩
  have HCR0:Hid (Cr W0 rg sg dg gl n2 s2 wa wn wc w10 (fun k=>pk.getD k (0,0))):=hid ⟨h5,HS9.out.more h6 (fun k e=>e.imp id (fun z=>by rw[z];exact⟨h1,h2⟩)),(Qd h6).cell HC9.out id,HW9.out.turn (Qd h6) (fun _ _ e=>e),(fun e=>by have:=HS9.out.lt (k:=rg) rfl;omega),Nat.le_trans HS9.out.gr.size h1,fun ad had hn e=>by have:=Qmb HW9.out ad had hn;omega⟩
  have HCL:Hid (n2≤cl∧cl≤maxLen):=hid ⟨h3,h4⟩
  obtain⟨f0,hf0⟩:∃f:Nat→Int×Nat,(fun k=>pk.getD k (0,0))=f:=⟨_,rfl⟩
  rw[hf0]at HCR0
  clear h1 h2 h3 h4 h5 h6 hf0 HOWN HS9 HC9 HW9 HG9 HPK
  try dsimp only
  go_wp2
  go_loopw [25] (fun si wx=>∃(i:Nat) (f:Nat→Int×Nat),i≤n2∧si=.int .i64 (i:Int)∧Hid (Cr W0 rg sg dg gl n2 s2 wa wn wc wx f)) (fun si _=>n2-(intOf si).toNat)
  case atStart=>exact⟨0,f0,Nat.zero_le _,rfl,HCR0⟩
  case round=>
  clear HCR0
  obtain⟨i,f,hin,rfl,HCR⟩:=hrel
  by_cases hlt:i<n2
  case pos =>
    have hq:decide (i<n2)=true:=decide_eq_true hlt
    have p0:(0:Int)≤(i:Int):=by omega
    have p1:(i:Int)<(n2:Int):=by omega
    obtain⟨k1,k2⟩:=HCR.out.pr.at_ i hlt
    have hsm:=HCR.out.pr.small i hlt
    obtain⟨x1,hx1⟩:∃x,(f i).1=x:=⟨_,rfl⟩
    obtain⟨x2,hx2⟩:∃x,(f i).2=x:=⟨_,rfl⟩
    rw[hx1]at k1
    rw[hx2]at k2 hsm
    have d0:=HCR.out.c0
    have hwmax:(wn:Int)≤9223372036854775807:=by have h1:=HCR.out.ws.le;have h2:=HCR.out.ws.cap;unfold maxLen at h2;omega
    have HPA:=hid (fun W=>QkL x1 (wn:Int) W hwmax)
    have hps:=Qiv x1 (wn:Int) hwmax
    obtain⟨x3,hx3⟩:∃x,pick x1 (wn:Int)=x:=⟨_,rfl⟩
    rw[hx3]at HPA hps
    have HPS:=hid hps
    have HPE:=hid (fun W (k:wr.grownBy W none)=>(by have h1:=QkZ (HCR.out.sh.go k);rw[HWN.out]at h1;exact h1:Calls Tryz.prog 55 #[.pointer (some ⟨dg,0,none⟩)] W fun e w'=>∃q,e=.returned (.slice (fa q) wn (fc q))∧W.grownBy w' none))
    obtain⟨FV,hFV,hFW⟩:=QkA Z (by have:=HSK.out;omega)
    obtain⟨x4,hx4,hx5⟩:=Qkz x2 FV hsm.2.2 hFV
    have HX4:=hid hx4
    have HFR:=hid HCR.out.pr.froz
    have HX2:Hid (some (Value.int .u64 ((f i).2:Int))=some (.int .u64 (x2:Int))):=hid (by rw[hx2])
    clear hx1 hx2 hx3 hps hwmax hsm hx4 hFV
    go_upto_region 32 with fail
    go_cut [25] from 151 to 166 (fun iv wx=>iv=.int .i64 (i:Int)∧Hid (Cr W0 rg sg dg gl n2 s2 wa wn wc wx (fun k=>if k=i then(x3,(f i).2) else f k)))
    case first=>
      refine QH               (I:=fun a0 LL X W=>ES (fun LL X W=>EL SC32 (VC32 rg dg gl i n2 cl wn x1 x3) 11 (fun _ _=>True) 15 14 wr a0 LL X W) 16 ⟨gl,i*2,none⟩ (.int .i64 x3) LL X W) (by kernel_rfl) (by kernel_rfl)
        (ES.start (EL.start 167 (by simp) (by decide) (Qk _) (fun _ _ _ _ _=>trivial))) ?_ ?_
      · show ∀i,i<17→_
        refine Qc (Qc (Qc (Qc (Qc (Qc (Qc (Qc (Qc (Qc (Qc (Qc (Qc (Qc (Qc (Qc (Qc all_nil ?r0) ?r1) ?r2) ?r3) ?r4) ?r5) ?r6) ?r7) ?r8) ?r9) ?r10) ?r11) ?r12) ?r13) ?r14) ?r15) ?r16
        case r0=>
          refine StepAt.mk rfl (ns:=[]) (by kernel_rfl) rfl ?_
          intro LL X W h0 hn hS
          have hI:=hS.step (by decide) h0
          have e24:X.tmps[24]?.getD undef=.slice (some ⟨gl,0,none⟩) n2 cl:=hI.old 24 (by decide)
          refine Qe (v:=.slice (some ⟨gl,0,none⟩) n2 cl) ?_ (hS.next (by decide) h0 (hI.yield QJ 0 (by decide) (by decide) (fun e=>absurd e (by decide)) (fun _=>rfl)))
          simp[go_sem,e24]
        case r1=>
          refine StepAt.mk rfl (ns:=[]) (by kernel_rfl) rfl ?_
          intro LL X W h0 hn hS
          have hI:=hS.step (by decide) h0
          have e25:X.tmps[25]?.getD undef=.int .i64 (i:Int):=hI.old 25 (by decide)
          refine Qe (v:=.int .i64 (i:Int)) ?_ (hS.next (by decide) h0 (hI.yield QJ 1 (by decide) (by decide) (fun e=>absurd e (by decide)) (fun _=>rfl)))
          simp[go_sem,e25]
        case r2=>
          refine StepAt.mk rfl (ns:=[]) (by kernel_rfl) rfl ?_
          intro LL X W h0 hn hS
          have hI:=hS.step (by decide) h0
          have e24:X.tmps[24]?.getD undef=.slice (some ⟨gl,0,none⟩) n2 cl:=hI.old 24 (by decide)
          refine Qe (v:=.slice (some ⟨gl,0,none⟩) n2 cl) ?_ (hS.next (by decide) h0 (hI.yield QJ 2 (by decide) (by decide) (fun e=>absurd e (by decide)) (fun _=>rfl)))
          simp[go_sem,e24]
        case r3=>
          refine StepAt.mk rfl (ns:=[]) (by kernel_rfl) rfl ?_
          intro LL X W h0 hn hS
          have hI:=hS.step (by decide) h0
          have e25:X.tmps[25]?.getD undef=.int .i64 (i:Int):=hI.old 25 (by decide)
          refine Qe (v:=.int .i64 (i:Int)) ?_ (hS.next (by decide) h0 (hI.yield QJ 3 (by decide) (by decide) (fun e=>absurd e (by decide)) (fun _=>rfl)))
          simp[go_sem,e25]
        case r4=>
          refine StepAt.mk rfl (ns:=[2,3]) (by kernel_rfl) rfl ?_
          intro LL X W h0 hn hS
          have hI:=hS.step (by decide) h0
          have e153:X.tmps[153]?.getD undef=.slice (some ⟨gl,0,none⟩) n2 cl:=hI.get 2 (by decide) (fun _=>rfl) (hn 2 (by decide))
          have e154:X.tmps[154]?.getD undef=.int .i64 (i:Int):=hI.get 3 (by decide) (fun _=>rfl) (hn 3 (by decide))
          refine Qe (v:=.pointer (some ⟨gl,i*2,none⟩)) ?_ (hS.next (by decide) h0 (hI.yield QJ 4 (by decide) (by decide) (fun e=>absurd e (by decide)) (fun _=>rfl)))
          simp[go_sem,e153,e154,p0,p1]
        case r5=>
          refine StepAt.mk rfl (ns:=[4]) (by kernel_rfl) rfl ?_
          intro LL X W h0 hn hS
          have hI:=hS.step (by decide) h0
          have e155:X.tmps[155]?.getD undef=.pointer (some ⟨gl,i*2,none⟩):=hI.get 4 (by decide) (fun _=>rfl) (hn 4 (by decide))
          refine Qe (v:=.pointer (some ⟨gl,i*2,none⟩)) ?_ (hS.next (by decide) h0 (hI.yield QJ 5 (by decide) (by decide) (fun e=>absurd e (by decide)) (fun _=>rfl)))
          simp[go_sem,e155]
        case r6=>
          refine StepAt.mk rfl (ns:=[5]) (by kernel_rfl) rfl ?_
          intro LL X W h0 hn hS
          have hI:=hS.step (by decide) h0
          have e156:X.tmps[156]?.getD undef=.pointer (some ⟨gl,i*2,none⟩):=hI.get 5 (by decide) (fun _=>rfl) (hn 5 (by decide))
          have hG:=hI.grown
          have c0:=(Qd hG).cell k1 id
          refine Qe (v:=.int .i64 x1) ?_ (hS.next (by decide) h0 (hI.yield QJ 6 (by decide) (by decide) (fun e=>absurd e (by decide)) (fun _=>rfl)))
          simp[go_sem,e156,c0]
        case r7=>
          refine StepAt.mk rfl (ns:=[]) (by kernel_rfl) rfl ?_
          intro LL X W h0 hn hS
          have hI:=hS.step (by decide) h0
          have e9:X.tmps[9]?.getD undef=.pointer (some ⟨rg,0,none⟩):=hI.old 9 (by decide)
          refine Qe (v:=.pointer (some ⟨rg,0,none⟩)) ?_ (hS.next (by decide) h0 (hI.yield QJ 7 (by decide) (by decide) (fun e=>absurd e (by decide)) (fun _=>rfl)))
          simp[go_sem,e9]
        case r8=>
          refine StepAt.mk rfl (ns:=[7]) (by kernel_rfl) rfl ?_
          intro LL X W h0 hn hS
          have hI:=hS.step (by decide) h0
          have e158:X.tmps[158]?.getD undef=.pointer (some ⟨rg,0,none⟩):=hI.get 7 (by decide) (fun _=>rfl) (hn 7 (by decide))
          refine Qe (v:=.pointer (some ⟨rg,0,none⟩)) ?_ (hS.next (by decide) h0 (hI.yield QJ 8 (by decide) (by decide) (fun e=>absurd e (by decide)) (fun _=>rfl)))
          simp[go_sem,e158]
        case r9=>
          refine StepAt.mk rfl (ns:=[8]) (by kernel_rfl) rfl ?_
          intro LL X W h0 hn hS
          have hI:=hS.step (by decide) h0
          have e159:X.tmps[159]?.getD undef=.pointer (some ⟨rg,0,none⟩):=hI.get 8 (by decide) (fun _=>rfl) (hn 8 (by decide))
          refine Qe (v:=.pointer (some ⟨rg,0,none⟩)) ?_ (hS.next (by decide) h0 (hI.yield QJ 9 (by decide) (by decide) (fun e=>absurd e (by decide)) (fun _=>rfl)))
          simp[go_sem,e159]
        case r10=>
          refine StepAt.mk rfl (ns:=[9]) (by kernel_rfl) rfl ?_
          intro LL X W h0 hn hS
          have hI:=hS.step (by decide) h0
          have e160:X.tmps[160]?.getD undef=.pointer (some ⟨rg,0,none⟩):=hI.get 9 (by decide) (fun _=>rfl) (hn 9 (by decide))
          have hG:=hI.grown
          have c0:=(Qd hG).cell d0 id
          refine Qe (v:=.pointer (some ⟨dg,0,none⟩)) ?_ (hS.next (by decide) h0 (hI.yield QJ 10 (by decide) (by decide) (fun e=>absurd e (by decide)) (fun _=>rfl)))
          simp[go_sem,e160,c0]
        case r11=>
          refine StepAt.mk rfl (ns:=[10]) (by kernel_rfl) rfl ?_
          intro LL X W h0 hn hS
          have hI:=hS.step (by decide) h0
          have e161:X.tmps[161]?.getD undef=.pointer (some ⟨dg,0,none⟩):=hI.get 10 (by decide) (fun _=>rfl) (hn 10 (by decide))
          have hG:=hI.grown
          refine QaS (f:=55) (vs:=#[.pointer (some ⟨dg,0,none⟩)]) ?_ (HPE.out W hG) (fun e w2 h=>?_)
          · simp[go_sem,e161]
          · obtain⟨q,rfl,hg⟩:=h
            exact⟨_,rfl,hS.next (by decide) h0 (hI.call QJ (by decide) (fun e=>absurd e (by decide)) h0 (fun g=>.slice (fa g) wn (fc g)) (fun g j hj=>Qk9 g j hj) (fun _=>rfl) hg trivial)⟩
        case r12=>
          refine StepAt.mk rfl (ns:=[11]) (by kernel_rfl) rfl ?_
          intro LL X W h0 hn hS
          have hI:=hS.step (by decide) h0
          obtain⟨g,e162,hM⟩:=hI.made (by decide) (fun g=>.slice (fa g) wn (fc g)) (fun _=>rfl) (hn 11 (by decide))
          replace e162:X.tmps[162]?.getD undef=.slice (fa g) wn (fc g):=e162
          refine Qe (v:=.int .i64 (wn:Int)) ?_ (hS.next (by decide) h0 (hI.yield QJ 12 (by decide) (by decide) (fun e=>absurd e (by decide)) (fun _=>rfl)))
          simp[go_sem,e162]
        case r13=>
          refine StepAt.mk rfl (ns:=[6,12,11]) (by kernel_rfl) rfl ?_
          intro LL X W h0 hn hS
          have hI:=hS.step (by decide) h0
          have e157:X.tmps[157]?.getD undef=.int .i64 x1:=hI.get 6 (by decide) (fun _=>rfl) (hn 6 (by decide))
          have e163:X.tmps[163]?.getD undef=.int .i64 (wn:Int):=hI.get 12 (by decide) (fun _=>rfl) (hn 12 (by decide))
          have hG:=hI.grown
          refine QbB (v:=.int .i64 x3) (R:=fun w2=>W.grownBy w2 none) (f:=40) (vs:=#[.int .i64 x1,.int .i64 (wn:Int)]) ?_ ((HPA.out W).mono fun e w2 h=>⟨h.1,by rw[←h.2];exact QC _⟩) (fun w2 hg=>hS.next (by decide) h0 (hI.value QJ 13 (by decide) (by decide) (fun e=>absurd e (by decide)) (fun _=>rfl) hg))
          simp[go_sem,e157,e163]
        case r14=>
          refine StepAt.mk rfl (ns:=[0,1,0,1,2,3,4,5,6,7,8,9,10,11,12,13]) (by kernel_rfl) rfl ?_
          intro LL X W h0 hn hS
          have hI:=hS.step (by decide) h0
          have e151:X.tmps[151]?.getD undef=.slice (some ⟨gl,0,none⟩) n2 cl:=hI.get 0 (by decide) (fun _=>rfl) (hn 0 (by decide))
          have e152:X.tmps[152]?.getD undef=.int .i64 (i:Int):=hI.get 1 (by decide) (fun _=>rfl) (hn 1 (by decide))
          refine Qe (v:=.pointer (some ⟨gl,i*2,none⟩)) ?_ (hS.next (by decide) h0 (hI.yield QJ 14 (by decide) (by decide) (fun e=>absurd e (by decide)) (fun _=>rfl)))
          simp[go_sem,e151,e152,p0,p1]
        case r15=>
          refine StepAt.mk rfl (ns:=[14,0,1,2,3,4,5,6,7,8,9,10,11,12,13]) (by kernel_rfl) rfl ?_
          intro LL X W h0 hn hS
          have hI:=hS.step (by decide) h0
          have e165:X.tmps[165]?.getD undef=.pointer (some ⟨gl,i*2,none⟩):=hI.get 14 (by decide) (fun _=>rfl) (hn 14 (by decide))
          refine Qe (v:=.pointer (some ⟨gl,i*2,none⟩)) ?_ (hS.next (by decide) h0 (hI.yield QJ 15 (by decide) (by decide) (fun _=>hn 14 (by decide)) (fun _=>rfl)))
          simp[go_sem,e165]
        case r16=>
          refine StepAt.mk rfl (ns:=[15,13,13,0,1,2,3,4,5,6,7,8,9,10,11,12,13]) (by kernel_rfl) rfl ?_
          intro LL X W h0 hn hS
          have hI:=hS.pre h0
          have hall:∀j,j<16→LL j=true:=fun j hj=>by
            by_cases e:j=14
            · rw[e];exact hI.uv (hn 15 (by decide))
            · exact hn j (by revert e hj;revert j;decide)
          have e166:X.tmps[166]?.getD undef=.pointer (some ⟨gl,i*2,none⟩):=hI.get 15 (by decide) (fun _=>rfl) (hall 15 (by decide))
          have e164:X.tmps[164]?.getD undef=.int .i64 x3:=hI.get 13 (by decide) (fun _=>rfl) (hall 13 (by decide))
          have hG:=hI.grown
          exact Qg3 rfl (.tmp 166) (.tmp 164) rfl ⟨gl,i*2,none⟩ (by show X.tmps.getD 166 undef=_;rw[Array.getD_eq_getD_getElem?];exact e166) _ (by show X.tmps.getD 164 undef=_;rw[Array.getD_eq_getD_getElem?];exact e164) _ ((Qd hG).cell k1 id) (((HCR.out.go hG).pr.froz _ (by omega))) (hS.store h0 hall)
      · intro LL X W hLL hS
        obtain⟨_,LL2,W2,hL,hI,rfl⟩:=hS.post (hLL 16 (by show 16<17;decide))
        have hform:=hI.form
        have v151:At X 151=.slice (some ⟨gl,0,none⟩) n2 cl:=hI.at' 0 (by decide) (fun _=>rfl) (hL 0 (by omega))
        have v152:At X 152=.int .i64 (i:Int):=hI.at' 1 (by decide) (fun _=>rfl) (hL 1 (by omega))
        have v153:At X 153=.slice (some ⟨gl,0,none⟩) n2 cl:=hI.at' 2 (by decide) (fun _=>rfl) (hL 2 (by omega))
        have v154:At X 154=.int .i64 (i:Int):=hI.at' 3 (by decide) (fun _=>rfl) (hL 3 (by omega))
        have v155:At X 155=.pointer (some ⟨gl,i*2,none⟩):=hI.at' 4 (by decide) (fun _=>rfl) (hL 4 (by omega))
        have v156:At X 156=.pointer (some ⟨gl,i*2,none⟩):=hI.at' 5 (by decide) (fun _=>rfl) (hL 5 (by omega))
        have v157:At X 157=.int .i64 x1:=hI.at' 6 (by decide) (fun _=>rfl) (hL 6 (by omega))
        have v158:At X 158=.pointer (some ⟨rg,0,none⟩):=hI.at' 7 (by decide) (fun _=>rfl) (hL 7 (by omega))
        have v159:At X 159=.pointer (some ⟨rg,0,none⟩):=hI.at' 8 (by decide) (fun _=>rfl) (hL 8 (by omega))
        have v160:At X 160=.pointer (some ⟨rg,0,none⟩):=hI.at' 9 (by decide) (fun _=>rfl) (hL 9 (by omega))
        have v161:At X 161=.pointer (some ⟨dg,0,none⟩):=hI.at' 10 (by decide) (fun _=>rfl) (hL 10 (by omega))
        obtain⟨gk,vk,hMk⟩:=hI.made (by decide) (fun g=>.slice (fa g) wn (fc g)) (fun _=>rfl) (hL 11 (by omega))
        have v162:At X 162=.slice (fa gk) wn (fc gk):=by unfold At;rw[Array.getD_eq_getD_getElem?];exact vk
        have v163:At X 163=.int .i64 (wn:Int):=hI.at' 12 (by decide) (fun _=>rfl) (hL 12 (by omega))
        have v164:At X 164=.int .i64 x3:=hI.at' 13 (by decide) (fun _=>rfl) (hL 13 (by omega))
        have v165:At X 165=.pointer (some ⟨gl,i*2,none⟩):=hI.at' 14 (by decide) (fun _=>rfl) (hL 14 (by omega))
        have v166:At X 166=.pointer (some ⟨gl,i*2,none⟩):=hI.at' 15 (by decide) (fun _=>rfl) (hL 15 (by omega))
        have HGE:=hid hI.grown
        clear hI hL vk
        rw[show SC32=[151,152,153,154,155,156,157,158,159,160,161,162,163,164,165,166] from rfl,List.foldl_cons,List.foldl_cons,List.foldl_cons,List.foldl_cons,List.foldl_cons,List.foldl_cons,List.foldl_cons,List.foldl_cons,List.foldl_cons,List.foldl_cons,List.foldl_cons,List.foldl_cons,List.foldl_cons,List.foldl_cons,List.foldl_cons,List.foldl_cons,List.foldl_nil,v151,v152,v153,v154,v155,v156,v157,v158,v159,v160,v161,v162,v163,v164,v165,v166]at hform
        clear v151 v152 v153 v154 v155 v156 v157 v158 v159 v160 v161 v162 v163 v164 v165 v166
        subst hform
        simp only[Act.put,List.setIfInBounds_toArray,List.set_cons_succ,List.set_cons_zero]
        go_wp2
        go_meet
        exact⟨rfl,hid ((HCR.out.go HGE.out).put _ _ ((HCR.out.go HGE.out).pr.set1 i hlt x3 HPS.out))⟩
    case rest=>
    obtain⟨rfl,HCR5⟩:=hcut
    have HV5:=hid (HCR5.out.pr.at_ i hlt)
    have k5:wc.cell? ⟨gl,i*2+1,none⟩=some (.int .u64 (x2:Int)):=by
      have h1:=HV5.out.2
      rw[if_pos rfl]at h1
      rw[h1]
      exact HX2.out
    have d5:wc.cell? ⟨w.heap.size,0,none⟩=some (.int .i64 (Z:Int)):=by rw[cell_of_row _ _ _ _ _ _ (Ql HB0.out HCR5.out.sh.gr)];rfl
    have hn40:n2≤40:=HK40.out
    have hz5:Z≤512:=HSK.out.1
    have y1:IntKind.i64.wrap ((Z:Int) / 64)=(Z:Int) / 64:=by rw[IntKind.wrap_i64];omega
    have y2:IntKind.u64.wrap ((Z:Int) / 64)=(Z:Int) / 64:=by rw[IntKind.wrap_u64];omega
    have y4:((Z:Int) / 64).toNat=Z / 64:=by omega
    clear k1 k2 d0 HCR HPA HPE
    go_upto_region 33 with fail
    refine QH               (I:=fun a0 LL X W=>ES (fun LL X W=>EL SC33 (VC33 w.heap.size gl i n2 cl x2 x4 Z FV) 66 (fun _ _=>True) 15 14 wc a0 LL X W) 16 ⟨gl,i*2+1,none⟩ (.int .u64 (x4:Int)) LL X W) (by kernel_rfl) (by kernel_rfl)
      (ES.start (EL.start 183 (by simp) (by decide) (Qk _) (fun _ _ _ _ _=>trivial))) ?_ ?_
    · show ∀i,i<17→_
      refine Qc (Qc (Qc (Qc (Qc (Qc (Qc (Qc (Qc (Qc (Qc (Qc (Qc (Qc (Qc (Qc (Qc all_nil ?r0) ?r1) ?r2) ?r3) ?r4) ?r5) ?r6) ?r7) ?r8) ?r9) ?r10) ?r11) ?r12) ?r13) ?r14) ?r15) ?r16
      case r0=>
        refine StepAt.mk rfl (ns:=[]) (by kernel_rfl) rfl ?_
        intro LL X W h0 hn hS
        have hI:=hS.step (by decide) h0
        have e24:X.tmps[24]?.getD undef=.slice (some ⟨gl,0,none⟩) n2 cl:=hI.old 24 (by decide)
        refine Qe (v:=.slice (some ⟨gl,0,none⟩) n2 cl) ?_ (hS.next (by decide) h0 (hI.yield QK 0 (by decide) (by decide) (fun e=>absurd e (by decide)) (fun _=>rfl)))
        simp[go_sem,e24]
      case r1=>
        refine StepAt.mk rfl (ns:=[]) (by kernel_rfl) rfl ?_
        intro LL X W h0 hn hS
        have hI:=hS.step (by decide) h0
        have e25:X.tmps[25]?.getD undef=.int .i64 (i:Int):=hI.old 25 (by decide)
        refine Qe (v:=.int .i64 (i:Int)) ?_ (hS.next (by decide) h0 (hI.yield QK 1 (by decide) (by decide) (fun e=>absurd e (by decide)) (fun _=>rfl)))
        simp[go_sem,e25]
      case r2=>
        refine StepAt.mk rfl (ns:=[]) (by kernel_rfl) rfl ?_
        intro LL X W h0 hn hS
        have hI:=hS.step (by decide) h0
        have e24:X.tmps[24]?.getD undef=.slice (some ⟨gl,0,none⟩) n2 cl:=hI.old 24 (by decide)
        refine Qe (v:=.slice (some ⟨gl,0,none⟩) n2 cl) ?_ (hS.next (by decide) h0 (hI.yield QK 2 (by decide) (by decide) (fun e=>absurd e (by decide)) (fun _=>rfl)))
        simp[go_sem,e24]
      case r3=>
        refine StepAt.mk rfl (ns:=[]) (by kernel_rfl) rfl ?_
        intro LL X W h0 hn hS
        have hI:=hS.step (by decide) h0
        have e25:X.tmps[25]?.getD undef=.int .i64 (i:Int):=hI.old 25 (by decide)
        refine Qe (v:=.int .i64 (i:Int)) ?_ (hS.next (by decide) h0 (hI.yield QK 3 (by decide) (by decide) (fun e=>absurd e (by decide)) (fun _=>rfl)))
        simp[go_sem,e25]
      case r4=>
        refine StepAt.mk rfl (ns:=[2,3]) (by kernel_rfl) rfl ?_
        intro LL X W h0 hn hS
        have hI:=hS.step (by decide) h0
        have e169:X.tmps[169]?.getD undef=.slice (some ⟨gl,0,none⟩) n2 cl:=hI.get 2 (by decide) (fun _=>rfl) (hn 2 (by decide))
        have e170:X.tmps[170]?.getD undef=.int .i64 (i:Int):=hI.get 3 (by decide) (fun _=>rfl) (hn 3 (by decide))
        refine Qe (v:=.pointer (some ⟨gl,i*2,none⟩)) ?_ (hS.next (by decide) h0 (hI.yield QK 4 (by decide) (by decide) (fun e=>absurd e (by decide)) (fun _=>rfl)))
        simp[go_sem,e169,e170,p0,p1]
      case r5=>
        refine StepAt.mk rfl (ns:=[4]) (by kernel_rfl) rfl ?_
        intro LL X W h0 hn hS
        have hI:=hS.step (by decide) h0
        have e171:X.tmps[171]?.getD undef=.pointer (some ⟨gl,i*2,none⟩):=hI.get 4 (by decide) (fun _=>rfl) (hn 4 (by decide))
        refine Qe (v:=.pointer (some ⟨gl,i*2+1,none⟩)) ?_ (hS.next (by decide) h0 (hI.yield QK 5 (by decide) (by decide) (fun e=>absurd e (by decide)) (fun _=>rfl)))
        simp[go_sem,e171]
      case r6=>
        refine StepAt.mk rfl (ns:=[5]) (by kernel_rfl) rfl ?_
        intro LL X W h0 hn hS
        have hI:=hS.step (by decide) h0
        have e172:X.tmps[172]?.getD undef=.pointer (some ⟨gl,i*2+1,none⟩):=hI.get 5 (by decide) (fun _=>rfl) (hn 5 (by decide))
        have hG:=hI.grown
        have c0:=(Qd hG).cell k5 id
        refine Qe (v:=.int .u64 (x2:Int)) ?_ (hS.next (by decide) h0 (hI.yield QK 6 (by decide) (by decide) (fun e=>absurd e (by decide)) (fun _=>rfl)))
        simp[go_sem,e172,c0]
      case r7=>
        refine StepAt.mk rfl (ns:=[]) (by kernel_rfl) rfl ?_
        intro LL X W h0 hn hS
        have hI:=hS.step (by decide) h0
        have e4:X.tmps[4]?.getD undef=.pointer (some ⟨w.heap.size,0,none⟩):=hI.old 4 (by decide)
        refine Qe (v:=.pointer (some ⟨w.heap.size,0,none⟩)) ?_ (hS.next (by decide) h0 (hI.yield QK 7 (by decide) (by decide) (fun e=>absurd e (by decide)) (fun _=>rfl)))
        simp[go_sem,e4]
      case r8=>
        refine StepAt.mk rfl (ns:=[7]) (by kernel_rfl) rfl ?_
        intro LL X W h0 hn hS
        have hI:=hS.step (by decide) h0
        have e174:X.tmps[174]?.getD undef=.pointer (some ⟨w.heap.size,0,none⟩):=hI.get 7 (by decide) (fun _=>rfl) (hn 7 (by decide))
        have hG:=hI.grown
        have c0:=(Qd hG).cell d5 id
        refine Qe (v:=.int .i64 (Z:Int)) ?_ (hS.next (by decide) h0 (hI.yield QK 8 (by decide) (by decide) (fun e=>absurd e (by decide)) (fun _=>rfl)))
        simp[go_sem,e174,c0]
      case r9=>
        refine StepAt.mk rfl (ns:=[8]) (by kernel_rfl) rfl ?_
        intro LL X W h0 hn hS
        have hI:=hS.step (by decide) h0
        have e175:X.tmps[175]?.getD undef=.int .i64 (Z:Int):=hI.get 8 (by decide) (fun _=>rfl) (hn 8 (by decide))
        refine Qe (v:=.int .i64 ((Z / 64:Nat):Int)) ?_ (hS.next (by decide) h0 (hI.yield QK 9 (by decide) (by decide) (fun e=>absurd e (by decide)) (fun _=>rfl)))
        simp[go_sem,e175,y1]
      case r10=>
        refine StepAt.mk rfl (ns:=[9]) (by kernel_rfl) rfl ?_
        intro LL X W h0 hn hS
        have hI:=hS.step (by decide) h0
        have e176:X.tmps[176]?.getD undef=.int .i64 ((Z / 64:Nat):Int):=hI.get 9 (by decide) (fun _=>rfl) (hn 9 (by decide))
        refine Qe (v:=.int .u64 ((Z / 64:Nat):Int)) ?_ (hS.next (by decide) h0 (hI.yield QK 10 (by decide) (by decide) (fun e=>absurd e (by decide)) (fun _=>rfl)))
        simp[go_sem,e176,y2]
      case r11=>
        refine StepAt.mk rfl (ns:=[10]) (by kernel_rfl) rfl ?_
        intro LL X W h0 hn hS
        have hI:=hS.step (by decide) h0
        have e177:X.tmps[177]?.getD undef=.int .u64 ((Z / 64:Nat):Int):=hI.get 10 (by decide) (fun _=>rfl) (hn 10 (by decide))
        refine Qe (v:=.int .u64 (IntKind.u64.wrap (2 ^ (Z / 64)))) ?_ (hS.next (by decide) h0 (hI.yield QK 11 (by decide) (by decide) (fun e=>absurd e (by decide)) (fun _=>rfl)))
        simp[go_sem,e177,y4]
      case r12=>
        refine StepAt.mk rfl (ns:=[11]) (by kernel_rfl) rfl ?_
        intro LL X W h0 hn hS
        have hI:=hS.step (by decide) h0
        have e178:X.tmps[178]?.getD undef=.int .u64 (IntKind.u64.wrap (2 ^ (Z / 64))):=hI.get 11 (by decide) (fun _=>rfl) (hn 11 (by decide))
        refine Qe (v:=.int .u64 (FV:Int)) ?_ (hS.next (by decide) h0 (hI.yield QK 12 (by decide) (by decide) (fun e=>absurd e (by decide)) (fun _=>rfl)))
        simp[go_sem,e178,hFW]
      case r13=>
        refine StepAt.mk rfl (ns:=[6,12]) (by kernel_rfl) rfl ?_
        intro LL X W h0 hn hS
        have hI:=hS.step (by decide) h0
        have e173:X.tmps[173]?.getD undef=.int .u64 (x2:Int):=hI.get 6 (by decide) (fun _=>rfl) (hn 6 (by decide))
        have e179:X.tmps[179]?.getD undef=.int .u64 (FV:Int):=hI.get 12 (by decide) (fun _=>rfl) (hn 12 (by decide))
        refine Qe (v:=.int .u64 (x4:Int)) ?_ (hS.next (by decide) h0 (hI.yield QK 13 (by decide) (by decide) (fun e=>absurd e (by decide)) (fun _=>rfl)))
        simp[go_sem,e173,e179,hx5]
      case r14=>
        refine StepAt.mk rfl (ns:=[0,1,0,1,2,3,4,5,6,7,8,9,10,11,12,13]) (by kernel_rfl) rfl ?_
        intro LL X W h0 hn hS
        have hI:=hS.step (by decide) h0
        have e167:X.tmps[167]?.getD undef=.slice (some ⟨gl,0,none⟩) n2 cl:=hI.get 0 (by decide) (fun _=>rfl) (hn 0 (by decide))
        have e168:X.tmps[168]?.getD undef=.int .i64 (i:Int):=hI.get 1 (by decide) (fun _=>rfl) (hn 1 (by decide))
        refine Qe (v:=.pointer (some ⟨gl,i*2,none⟩)) ?_ (hS.next (by decide) h0 (hI.yield QK 14 (by decide) (by decide) (fun e=>absurd e (by decide)) (fun _=>rfl)))
        simp[go_sem,e167,e168,p0,p1]
      case r15=>
        refine StepAt.mk rfl (ns:=[14,0,1,2,3,4,5,6,7,8,9,10,11,12,13]) (by kernel_rfl) rfl ?_
        intro LL X W h0 hn hS
        have hI:=hS.step (by decide) h0
        have e181:X.tmps[181]?.getD undef=.pointer (some ⟨gl,i*2,none⟩):=hI.get 14 (by decide) (fun _=>rfl) (hn 14 (by decide))
        refine Qe (v:=.pointer (some ⟨gl,i*2+1,none⟩)) ?_ (hS.next (by decide) h0 (hI.yield QK 15 (by decide) (by decide) (fun _=>hn 14 (by decide)) (fun _=>rfl)))
        simp[go_sem,e181]
      case r16=>
        refine StepAt.mk rfl (ns:=[15,13,0,1,2,3,4,5,6,7,8,9,10,11,12,13]) (by kernel_rfl) rfl ?_
        intro LL X W h0 hn hS
        have hI:=hS.pre h0
        have hall:∀j,j<16→LL j=true:=fun j hj=>by
          by_cases e:j=14
          · rw[e];exact hI.uv (hn 15 (by decide))
          · exact hn j (by revert e hj;revert j;decide)
        have e182:X.tmps[182]?.getD undef=.pointer (some ⟨gl,i*2+1,none⟩):=hI.get 15 (by decide) (fun _=>rfl) (hall 15 (by decide))
        have e180:X.tmps[180]?.getD undef=.int .u64 (x4:Int):=hI.get 13 (by decide) (fun _=>rfl) (hall 13 (by decide))
        have hG:=hI.grown
        exact Qg4 rfl (.tmp 182) (.tmp 180) rfl ⟨gl,i*2+1,none⟩ (by show X.tmps.getD 182 undef=_;rw[Array.getD_eq_getD_getElem?];exact e182) _ (by show X.tmps.getD 180 undef=_;rw[Array.getD_eq_getD_getElem?];exact e180) _ ((Qd hG).cell k5 id) (((HCR5.out.go hG).pr.froz _ (by omega))) (hS.store h0 hall)
    · intro LL X W hLL hS
      obtain⟨_,LL2,W2,hL,hI,rfl⟩:=hS.post (hLL 16 (by show 16<17;decide))
      have hform:=hI.form
      have v167:At X 167=.slice (some ⟨gl,0,none⟩) n2 cl:=hI.at' 0 (by decide) (fun _=>rfl) (hL 0 (by omega))
      have v168:At X 168=.int .i64 (i:Int):=hI.at' 1 (by decide) (fun _=>rfl) (hL 1 (by omega))
      have v169:At X 169=.slice (some ⟨gl,0,none⟩) n2 cl:=hI.at' 2 (by decide) (fun _=>rfl) (hL 2 (by omega))
      have v170:At X 170=.int .i64 (i:Int):=hI.at' 3 (by decide) (fun _=>rfl) (hL 3 (by omega))
      have v171:At X 171=.pointer (some ⟨gl,i*2,none⟩):=hI.at' 4 (by decide) (fun _=>rfl) (hL 4 (by omega))
      have v172:At X 172=.pointer (some ⟨gl,i*2+1,none⟩):=hI.at' 5 (by decide) (fun _=>rfl) (hL 5 (by omega))
      have v173:At X 173=.int .u64 (x2:Int):=hI.at' 6 (by decide) (fun _=>rfl) (hL 6 (by omega))
      have v174:At X 174=.pointer (some ⟨w.heap.size,0,none⟩):=hI.at' 7 (by decide) (fun _=>rfl) (hL 7 (by omega))
      have v175:At X 175=.int .i64 (Z:Int):=hI.at' 8 (by decide) (fun _=>rfl) (hL 8 (by omega))
      have v176:At X 176=.int .i64 ((Z / 64:Nat):Int):=hI.at' 9 (by decide) (fun _=>rfl) (hL 9 (by omega))
      have v177:At X 177=.int .u64 ((Z / 64:Nat):Int):=hI.at' 10 (by decide) (fun _=>rfl) (hL 10 (by omega))
      have v178:At X 178=.int .u64 (IntKind.u64.wrap (2 ^ (Z / 64))):=hI.at' 11 (by decide) (fun _=>rfl) (hL 11 (by omega))
      have v179:At X 179=.int .u64 (FV:Int):=hI.at' 12 (by decide) (fun _=>rfl) (hL 12 (by omega))
      have v180:At X 180=.int .u64 (x4:Int):=hI.at' 13 (by decide) (fun _=>rfl) (hL 13 (by omega))
      have v181:At X 181=.pointer (some ⟨gl,i*2,none⟩):=hI.at' 14 (by decide) (fun _=>rfl) (hL 14 (by omega))
      have v182:At X 182=.pointer (some ⟨gl,i*2+1,none⟩):=hI.at' 15 (by decide) (fun _=>rfl) (hL 15 (by omega))
      have HGE:=hid hI.grown
      clear hI hL
      rw[show SC33=[167,168,169,170,171,172,173,174,175,176,177,178,179,180,181,182] from rfl,List.foldl_cons,List.foldl_cons,List.foldl_cons,List.foldl_cons,List.foldl_cons,List.foldl_cons,List.foldl_cons,List.foldl_cons,List.foldl_cons,List.foldl_cons,List.foldl_cons,List.foldl_cons,List.foldl_cons,List.foldl_cons,List.foldl_cons,List.foldl_cons,List.foldl_nil,v167,v168,v169,v170,v171,v172,v173,v174,v175,v176,v177,v178,v179,v180,v181,v182]at hform
      clear v167 v168 v169 v170 v171 v172 v173 v174 v175 v176 v177 v178 v179 v180 v181 v182
      subst hform
      simp only[Act.put,List.setIfInBounds_toArray,List.set_cons_succ,List.set_cons_zero]
      have HCR6:=hid ((HCR5.out.go HGE.out).put _ _ ((HCR5.out.go HGE.out).pr.set2 i hlt x4 HX4.out))
      go_wp2
      go_roundw
      case rel=>exact⟨i+1,_,by omega,by go_num,HCR6⟩
      case measure=>simp[intOf];omega
  case neg=>
  have hq:decide (i<n2)=false:=decide_eq_false hlt
  clear hlt hin
  have d0:=HCR.out.c0
  have HPS:=hid (HCR.out.pr.seg cl HCL.out.1 HCL.out.2)
  obtain⟨lp,hlp⟩:∃l:List (Int×Nat),(List.range n2).map f=l:=⟨_,rfl⟩
  rw[hlp]at HPS
  clear hlp
  by_cases hpo:picksOk s2.dv lp
  case neg=>
    have HN:=hid (Qhs HCR.out.sh _ n2 cl lp HPS.out hpo)
    have HE:=hid (Qa HG0.out HCR.out.sh.gr)
    clear hpo
    go_wp2_with fail
    refine HN.out.mono ?_
    rintro e w11 ⟨rfl,hg11⟩
    have HE2:=hid (Qa HE.out hg11)
    clear hg11
    try dsimp only
    go_wp2
    go_ret
    exact⟨rfl,HE2.out⟩
  case pos=>
  have HY:=hid (QkY HCR.out.sh _ n2 cl lp HPS.out hpo (HT64.out _ HCR.out.sh.gr))
  have HPO:=hid hpo
  clear hpo
  go_wp2_with fail
  refine HY.out.mono ?_
  rintro e w11 ⟨g2,b2,rfl,hh11,hg11⟩
  have HH:=hid hh11
  have HGA:=hid (Qa HCR.out.sh.gr hg11)
  have HWS:=hid (HCR.out.ws.turn (Qd hg11) (fun _ _ e=>e))
  have HPB:Hid (∀q∈s2.dv.pend,IsB q.2):=hid (by obtain⟨x,-,-,hm,-⟩:=HCR.out.sh;exact fun q hq=>(hm.dev.dev.ok.pblk q hq).2.2)
  clear hh11 hg11 d0 HY HPS
  try dsimp only
  have HCX:Hid (∀(k:Nat),k<2→∀(W:World),w11.grownBy W none→∀(was:List Int) (S:ByteArray),strOfNums was=S→IsB was→Calls Tryz.prog 63 #[.pointer (some ⟨g2,0,none⟩),.int .i64 (k:Int),.string S,.slice wa wn wc] W fun e w'=>e=.returned (.bool (chanceB ((s2.dv.crash lp).last k) was s2.dv.pend))∧W.grownBy w' none):=hid (fun k hk W hW was S hS hwas=>by
    rw[←hS]
    refine QhU (HH.out.go (Qd hW)) k ?_ was hwas wa wn wc _ (HWS.out.turn (Qd hW) (fun _ _ e=>e)) HPB.out
    have:=HH.out.dev.ok.blo
    omega)
  have HC0:=hid (HCX.out 0 (by decide) w11 (QC _) _ X0 HX0.out HI0.out.1)
  have HC1:=hid (fun W hW=>HCX.out 1 (by decide) W hW _ X1 HX1.out HI0.out.2)
  have HCE:Hid (chanceB ((s2.dv.crash lp).last 0) (s.dv.last 0) s2.dv.pend=false∧chanceB ((s2.dv.crash lp).last 1) (s.dv.last 1) s2.dv.pend=false∨E=0→∃sup held slot,Aft s root next E (s2.dv.crash lp) sup held slot):=hid (fun hor=>HAF.out lp HPO.out (fun hE=>by
    rcases hor with ⟨z0,z1⟩|z
    · have h2:=HOK.out.kept.two
      rcases h2 with z|z
      · rw[z];exact Qfg z1
      · rw[z];exact Qfg z0
    · exact absurd z hE))
  obtain⟨B0,hB0⟩:∃B,chanceB ((s2.dv.crash lp).last 0) (s.dv.last 0) s2.dv.pend=B:=⟨_,rfl⟩
  obtain⟨B1,hB1⟩:∃B,chanceB ((s2.dv.crash lp).last 1) (s.dv.last 1) s2.dv.pend=B:=⟨_,rfl⟩
  rw[hB0]at HC0 HCE
  rw[hB1]at HCE
  simp only[hB1]at HC1
  clear hB0 hB1 HCX HAF HX0 HX1 HI0
  go_upto_region 37 with fail
  go_cut [207] from 194 to 207 (fun cv wx=>∃C,cv=.bool C∧Hid (w11.grownBy wx none)∧Hid (C=false→(B0=false∧B1=false)∨E=0))
  case first=>
    by_cases h0:E=0
    · have q:(E != 0)=false:=by rw[h0];rfl
      have HZ:=hid h0
      clear h0
      go_wp2
      go_meet
      exact⟨false,rfl,hid (QC _),hid (fun _=>.inr HZ.out)⟩
    · have q:(E != 0)=true:=bne_iff_ne.2 h0
      clear h0
      go_wp2_with fail
      refine HC0.out.mono ?_
      rintro e w12 ⟨rfl,hg12⟩
      have HG12:=hid hg12
      have HC1b:=hid (HC1.out _ hg12)
      clear hg12 HC1 HC0
      cases B0 with
      | true=>
        go_wp2
        go_meet
        exact⟨true,rfl,HG12,hid (fun e=>by cases e)⟩
      | false=>
        go_wp2_with fail
        refine HC1b.out.mono ?_
        rintro e w13 ⟨rfl,hg13⟩
        have HG13:=hid (Qa HG12.out hg13)
        clear hg13
        go_wp2
        go_meet
        exact⟨B1,rfl,HG13,hid (fun e=>.inl ⟨by first|rfl|trivial,e⟩)⟩
  case rest=>
  obtain⟨C,rfl,HG12,HCC⟩:=hcut
  have HGB2:=hid (Qa HG0.out (Qa HGA.out HG12.out))
  cases C with
  | true=>
    go_wp2
    go_ret
    exact⟨rfl,HGB2.out⟩
  |false=>
  obtain⟨sup,held,slot,haft⟩:=HCE.out (HCC.out rfl)
  have HTL:=hid haft.tells
  have HHO:=hid (Qja (HH.out.go (Qd HG12.out)) haft.kept haft.cok HT40.out)
  have HP2:Hid (sup.pages.length≤100000∧(s2.dv.crash lp).size≤512):=hid (by
    have v:=(Su.Qaw haft.kept.yes).1
    have h1:=(Su.QA v.1).2.1
    have h2:=v.2.2.2.1
    have h3:=HSZ.out
    have h4:=HZ5.out
    exact⟨by omega,by show s2.dv.size≤512;omega⟩)
  clear haft HCE HCC HC0 HC1
  go_wp2_with fail
  refine HHO.out.mono ?_
  rintro e w14 ⟨so,rfl,hs14,hg14⟩
  have HS14:=hid hs14
  have HGF:=hid (Qa HGB2.out hg14)
  have HGG:Hid (∀v,sup.gen=v→Calls Tryz.prog 30 #[.pointer (some ⟨so,0,none⟩)] w14 fun e w'=>e=.returned (.int .u64 v)∧w14=w'):=hid (fun v hv=>by have h1:=QgR hs14;rw[show(opened (s2.dv.crash lp) sup held slot).sup.gen=v from hv]at h1;exact h1)
  have HRR:Hid (∀v,sup.root=v→Calls Tryz.prog 29 #[.pointer (some ⟨so,0,none⟩)] w14 fun e w'=>e=.returned (.int .u32 v)∧w14=w'):=hid (fun v hv=>by have h1:=QhM hs14;rw[show(opened (s2.dv.crash lp) sup held slot).sup.root=v from hv]at h1;exact h1)
  have HTT:Hid (∀k:Nat,k<4294967296→∀S,strOfNums (tellF (opened (s2.dv.crash lp) sup held slot) 6 k)=S→Calls Tryz.prog 58 #[.pointer (some ⟨so,0,none⟩),.int .u32 (k:Int),.int .i64 6] w14 fun e w'=>e=.returned (.string S)∧w14.grownBy w' none):=hid (fun k hk S hS=>by
    rw[←hS]
    exact Qet hs14 HP2.out.1 HP2.out.2 6 (by decide) k hk w14 (QC _))
  clear hs14 hg14 HHO HS14
  try dsimp only
  rcases HTL.out with ⟨hE,hg,hr,ht⟩|⟨hg,hr,ht⟩
  case inl=>
    have q0:(E != 0)=true:=bne_iff_ne.2 hE
    have q1:(ge==ge)=true:=beq_self_eq_true _
    have q2:((root:Int)==(root:Int))=true:=beq_self_eq_true _
    have HA:=hid (HGG.out ge (hg.trans HGV.out))
    have HB:=hid (HRR.out (root:Int) hr)
    by_cases h0:root=0
    · have q3:((root:Int)==0)=true:=by rw[h0];rfl
      clear hE hg hr ht h0
      go_wp2_with (first
        |(go_at_call 30;refine HA.out.mono ?_;rintro e w20 ⟨rfl,rfl⟩)
        |(go_at_call 29;refine HB.out.mono ?_;rintro e w20 ⟨rfl,rfl⟩)
        |fail)
      go_ret
      exact⟨rfl,HGF.out⟩
    · have q3:((root:Int)==0)=false:=beq_eq_false_iff_ne.2 (by omega)
      have HCT:=hid (HTT.out root HR32.out T0 (by rw[ht h0,←HT0.out,if_neg h0]))
      have q4:(T0.toList==T0.toList)=true:=beq_self_eq_true _
      clear hE hg hr ht h0
      go_wp2_with (first
        |(go_at_call 30;refine HA.out.mono ?_;rintro e w20 ⟨rfl,rfl⟩)
        |(go_at_call 29;refine HB.out.mono ?_;rintro e w20 ⟨rfl,rfl⟩)
        |(go_at_call 58;refine HCT.out.mono ?_;rintro e w20 ⟨rfl,hg20⟩;have HX:=hid (Qa HGF.out hg20);clear hg20)
        |fail)
      go_ret
      exact⟨rfl,HX.out⟩
  case inr=>
    have hgb:=HGB.out
    have q1:((ge+1:Int)==ge)=false:=beq_eq_false_iff_ne.2 (by omega)
    have q5:IntKind.u64.wrap (ge+1)=ge+1:=by rw[IntKind.wrap_u64];omega
    have q6:((ge+1:Int)==ge+1)=true:=beq_self_eq_true _
    have q2:((next:Int)==(next:Int))=true:=beq_self_eq_true _
    have HA:=hid (HGG.out (ge+1) (by rw[hg,HGV.out]))
    have HB:=hid (HRR.out (next:Int) hr)
    by_cases h0:next=0
    · have q3:((next:Int)==0)=true:=by rw[h0];rfl
      clear hg hr ht h0
      go_wp2_with (first
        |(go_at_call 30;refine HA.out.mono ?_;rintro e w20 ⟨rfl,rfl⟩)
        |(go_at_call 29;refine HB.out.mono ?_;rintro e w20 ⟨rfl,rfl⟩)
        |fail)
      go_ret
      exact⟨rfl,HGF.out⟩
    · have q3:((next:Int)==0)=false:=beq_eq_false_iff_ne.2 (by omega)
      have HCT:=hid (HTT.out next HN32.out N0 (by rw[ht h0];exact HN0.out h0))
      have q4:(N0.toList==N0.toList)=true:=beq_self_eq_true _
      clear hg hr ht h0
      go_wp2_with (first
        |(go_at_call 30;refine HA.out.mono ?_;rintro e w20 ⟨rfl,rfl⟩)
        |(go_at_call 29;refine HB.out.mono ?_;rintro e w20 ⟨rfl,rfl⟩)
        |(go_at_call 58;refine HCT.out.mono ?_;rintro e w20 ⟨rfl,hg20⟩;have HX:=hid (Qa HGF.out hg20);clear hg20)
        |fail)
      go_ret
      exact⟨rfl,HX.out⟩
end Sp
end Go.Proofs.YtbbbocoliandcaaGreatDoor
