/- Parts of the proof. -/
import Derived.Test.YtbbbocoliandcaaGreatDoorKai
import Derived.Test.YtbbbocoliandcaaGreatDoorKaj
set_option maxRecDepth 100000
set_option maxHeartbeats 8000000
open Go.Lib (hid)
namespace Go.Proofs.YtbbbocoliandcaaGreatDoor
namespace Sp
open Go.RowKit
open Fr (putF)
open Cn (usedC)
theorem Qkf{a:AcT}{r r':Rn}{n er:Int}{T:Nat}(d:DoR a r n er r')(h:RnOk r T)(ha:AcOk a):er=0∨er=9∨er=3:=by
 cases d with
 |Qal hk he=>
  obtain⟨h1,h2⟩:=h.pg ha;have hkids:∀k∈(actPg a r.own).kids,k.toNat∈r.own:=fun k hk=>by
   have:k.toNat∈(actPg a r.own).kids.map Int.toNat:=List.mem_map.2 ⟨k,hk,rfl⟩;rw[Qe9]at this;exact List.mem_of_mem_drop this
  have hu:∀j,j<(actPg a r.own).kids.length→useE r.s ((actPg a r.own).kids.getD j 0).toNat=0:=fun j hj=>by
   rw[List.getD_eq_getElem?_getD,List.getElem?_eq_getElem hj];exact h.sp.use (hkids _ (List.getElem_mem hj))
  have hac:∀j,j<(actPg a r.own).kids.length→accE r.s ((actPg a r.own).kids.getD j 0).toNat=0:=fun j hj=>by
   have:=hu j hj;unfold useE at this;by_cases q:accE r.s ((actPg a r.own).kids.getD j 0).toNat≠0
   ·rw[if_pos q]at this;exact this
   ·exact Decidable.not_not.1 q
  have hl:=Qdd (a:=a) r.own;have hK:=QbL (a:=a) r.own;have hc:checkE r.s (actPg a r.own)=0:=by
   unfold checkE;rw[if_neg (by omega),if_pos hac,if_pos hu]
  unfold putErr;rw[hc,if_neg (fun q=>q rfl)];by_cases q:(putF r.s.dv.size ((actPg a r.own).tag,r.s.sup.gen+1,dataP (actPg a r.own))).2≠0
  ·rw[if_pos q];unfold putF at q ⊢;rw[if_neg (fun z=>z h.sp.fits)]at q ⊢
   split at q
   ·rename_i z
    rw[if_pos z];exact .inr (.inr rfl)
   ·exact absurd rfl q
  ·rw[if_neg q]
   split
   ·exact .inr (.inl rfl)
   ·exact .inl rfl
 |Qr=>exact .inl rfl
 |get=>exact .inl rfl
 |idle=>exact .inl rfl
 |share=>exact .inl rfl
 |drop=>exact .inl rfl
 |commit=>exact .inl rfl
 |abort=>exact .inl rfl
 |mark=>exact .inl rfl
 |back=>exact .inl rfl
 |done=>exact .inl rfl
theorem Qdt{p q:Nat→Bool}:∀{l:List Nat},(∀n∈l,p n=true→q n=false)→l.countP (fun n=>p n || q n)=l.countP p+l.countP q
 | [],_=>rfl
 |a :: l,h=>by
  rw[List.countP_cons,List.countP_cons,List.countP_cons,Qdt (fun n hn=>h n (List.mem_cons_of_mem _ hn))];have h1:=h a (List.mem_cons_self ..);cases e:p a with
  |true=>rw[h1 e];simp;omega
  |false=>cases q a <;> simp;omega
theorem QeA{K:Nat}:∀{l:List Nat},l.Nodup→(∀x∈l,x<K)→(List.range K).countP (fun n=>decide (n∈l))=l.length
 | [],_,_=>by simp
 |a :: l,hn,hl=>by
  obtain⟨h1,h2⟩:=List.nodup_cons.1 hn;have e:(List.range K).countP (fun n=>decide (n∈a :: l))=(List.range K).countP (fun n=>(n==a) || decide (n∈l)):=by
   refine List.countP_congr fun n _=>?_
   simp
  rw[e,Qdt (fun n _ hx=>by
   have:n=a:=by simpa using hx
   rw[this];exact decide_eq_false h1),QeA h2 (fun x hx=>hl x (List.mem_cons_of_mem _ hx)),List.length_cons]
  have h3:(List.range K).count a=1:=Nat.le_antisymm (List.nodup_iff_count.1 List.nodup_range a) (List.count_pos_iff.2 (List.mem_range.2 (hl a (List.mem_cons_self ..))));unfold List.count at h3;omega
theorem QhN(p:Nat→Bool)(l:List Nat):l.countP p+l.countP (fun n=>!p n)=l.length:=by
 have:=List.length_eq_countP_add_countP p (l:=l);simp only[Bool.not_eq_true,Bool.decide_eq_false]at this;omega
theorem QeE{s:SpS}{hown mown:List Nat}{T:Nat}(h:SpOk s [] hown mown T)(hh:s.held=s.now)(hm:s.mark=none):(frees s).length+(2+s.sup.pages.length)=s.dv.blocks:=by
 have hgeo:=h.now.cok.geo;have hK:8≤s.dv.blocks:=by unfold Su.GeoOk at hgeo;omega
 obtain⟨r,hr⟩:=h.now.ref.rank;have hd:=(RefOk.none s.dv.blocks (kidsOf s.dv)).one h.now.ref (L:=fun m=>0<dOf s.sup.pages s.now m) hr (fun m q=>absurd q (by decide)) (fun _ q=>q);obtain⟨l,hl⟩:∃l:List Nat,l=0 :: 1 :: s.sup.pages.map Int.toNat:=⟨_,rfl⟩;have hpg:=fun p (hp:p∈s.sup.pages)=>h.page hp
 have hmem:∀n:Nat,n∈s.sup.pages.map Int.toNat↔(n:Int)∈s.sup.pages:=fun n=>by
  constructor
  ·intro e;obtain⟨p,hp,rfl⟩:=List.mem_map.1 e;have:=hpg p hp;rw[Int.toNat_of_nonneg (by omega)];exact hp
  ·exact fun e=>List.mem_map.2 ⟨_,e,Int.toNat_natCast n⟩
 have hnd:l.Nodup:=by
  rw[hl];have h2:(s.sup.pages.map Int.toNat).Nodup:=by
   have h3:=h.valid.2.2.2.2.2;refine List.pairwise_map.2 (h3.imp_of_mem fun {a b} ha hb hab e=>hab ?_);have:=hpg a ha;have:=hpg b hb;omega
  refine List.nodup_cons.2 ⟨fun e=>?_,List.nodup_cons.2 ⟨fun e=>?_,h2⟩⟩
  ·rcases List.mem_cons.1 e with e|e
   ·cases e
   ·have:=hpg _ ((hmem 0).1 e);omega
  ·have:=hpg _ ((hmem 1).1 e);omega
 have hlt:∀x∈l,x<s.dv.blocks:=fun x hx=>by
  rw[hl]at hx;rcases List.mem_cons.1 hx with e|hx
  ·omega
  ·rcases List.mem_cons.1 hx with e|hx
   ·omega
   ·have:=hpg _ ((hmem x).1 hx);omega
 have h1:=QeA hnd hlt;have h2:=QhN (fun n=>decide (n∈l)) (List.range s.dv.blocks);rw[List.length_range]at h2;have h3:(frees s).length=(List.range s.dv.blocks).countP (fun n=>!decide (n∈l)):=by
  unfold frees;rw[←List.countP_eq_length_filter];refine List.countP_congr fun n hn=>?_
  have hnK:=List.mem_range.1 hn;rw[Qx,hh,hm];have hlm:n∈l↔n<2∨(n:Int)∈s.sup.pages:=by
   rw[hl,List.mem_cons,List.mem_cons,hmem]
   constructor
   ·rintro(e|e|e)
    ·exact .inl (by omega)
    ·exact .inl (by omega)
    ·exact .inr e
   ·rintro(e|e)
    ·have:n=0∨n=1:=by omega
     rcases this with e|e
     ·exact .inl e
     ·exact .inr (.inl e)
    ·exact .inr (.inr e)
  have hcn:0≤s.now.getD n 0:=by
   rw[List.getD_eq_getElem?_getD,List.getElem?_eq_getElem (by rw[h.now.cok.len];exact hnK)];exact(h.now.cok.cnt _ (List.getElem_mem _)).1
  simp only[Bool.not_eq_true',decide_eq_false_iff_not,hlm]
  constructor
  ·rintro⟨a,b,-,-⟩ (e|e)
   ·omega
   ·have:=h.now.pg _ e;rw[Int.toNat_natCast]at this;omega
  ·intro e;have a:2≤n:=by omega
   have b:(n:Int)∉s.sup.pages:=fun z=>e (.inr z)
   have c:=hd n;unfold dOf at c;rw[if_pos ⟨a,b⟩]at c;have c0:s.now.getD n 0=0:=by omega
   exact⟨a,c0,c0,fun m z=>by cases z⟩
 rw[h3];have:l.length=2+s.sup.pages.length:=by rw[hl,List.length_cons,List.length_cons,List.length_map];omega
 omega
theorem QiK{s:SpS}{own hown mown:List Nat}{T:Nat}(h:SpOk s own hown mown T):usedC s.now+(frees s).length≤s.dv.blocks:=by
 have hlen:=h.now.cok.len;have e:s.now=(List.range s.dv.blocks).map fun n=>s.now.getD n 0:=by
  refine List.ext_getElem? fun n=>?_
  rw[List.getElem?_map];by_cases hn:n<s.dv.blocks
  ·rw[List.getElem?_range hn,Option.map_some,List.getD_eq_getElem?_getD,List.getElem?_eq_getElem (by omega)]
   rfl
  ·rw[List.getElem?_eq_none (by omega),List.getElem?_eq_none (by rw[List.length_range];omega)]
   rfl
 have h1:usedC s.now=(List.range s.dv.blocks).countP (fun n=>decide (0<s.now.getD n 0)):=by
  unfold usedC
  conv=>lhs;rw[e]
  rw[List.countP_map]
  rfl
 have h2:(frees s).length=(List.range s.dv.blocks).countP (mayP s):=by unfold frees;rw[←List.countP_eq_length_filter]
 have h3:=Qdt (p:=fun n=>decide (0<s.now.getD n 0)) (q:=mayP s) (l:=List.range s.dv.blocks) (fun n _ hx=>by
  have h4:=of_decide_eq_true hx;cases q:mayP s n with
  |false=>rfl
  |true=>
   have:=((Qx s n).1 q).2.1;omega)
 have h5:=List.countP_le_length (p:=fun n=>decide (0<s.now.getD n 0) || mayP s n) (l:=List.range s.dv.blocks);rw[List.length_range]at h5;omega
end Sp
namespace Sp
open Go.RowKit Bs Dv Gr
open Su (Sup SupOk GeoOk supE T4)
open Cn (JR usedC)
theorem Rs.sho{w0 w:World}{rg sg g:Nat}{A:Nat→Prop}{r:Rn}(h:Rs w0 w rg sg g A r):∃oa oc,w.cell? ⟨rg,2,none⟩=some (.slice oa r.own.length oc)∧Ws.Seg w oa r.own.length oc (ints r.own)∧Sh w0 w sg g (fun k=>k=rg∨blkO oa k) r.s:=by
 obtain⟨v,rfl,rfl,rfl,h,d⟩:=h;refine⟨v.oa,v.oc,h.box.cells.2.2.1,h.o,v.x,rfl,rfl,h.sp,fun k hk=>?_⟩;rcases hk with rfl|q
 ·exact⟨h.lt (.inr (.inl rfl)),h.rgn⟩
 ·have:=h.ap k (.inl q);exact⟨this.1,this.2.2.1⟩
theorem QgV(l:List Nat)(j:Nat)(hj:j<l.length):∀m,(l.getD j 0 :: l.drop (j+1)).count m=(l.drop j).count m:=fun m=>by
 rw[List.drop_eq_getElem_cons hj,List.getD_eq_getElem?_getD,List.getElem?_eq_getElem hj]
 rfl
theorem auditl_any (size blocks:Int) (a1:Option Addr) (n c:Nat) (l:List AcT) (w:World) (hs:AcSeg w a1 n c l) (hi:∀x∈l,AcIn x) (hT4:T4 w) :
    Calls Tryz.prog 6 #[.agg #[.int .i64 size,.int .i64 blocks],.slice a1 n c] w fun e w'=>e=.returned (.bool true)∧w.grownBy w' none:=by
  have B0:=heap_alloc_new w (.cells #[.int .i64 size,.int .i64 blocks] 28)
  have G0:=Qb w (.cells #[.int .i64 size,.int .i64 blocks] 28)
  obtain⟨W0,hW0⟩:∃X,w.alloc (.cells #[.int .i64 size,.int .i64 blocks] 28)=X:=⟨_,rfl⟩
  rw[hW0]at B0 G0
  have HB0:=hid B0
  have HG0:=hid G0
  have HW0:=hid hW0
  have HT40:=hid (hT4.grown G0)
  have HLV:=hid (Qgp W0 HT40.out)
  have HLG:=hid (fun W=>Cn.QfF size blocks W)
  have HLI:=hid (fun W (k:W0.grownBy W none)=>Qic a1 n c l W (hs.old (Qa G0 k)) hi)
  have HSEG:=hid (fun W (k:W0.grownBy W none)=>hs.old (Qa G0 k))
  have HIN:=hid hi
  have HLN:=hid hs.len
  clear B0 G0 hW0 hs hi hT4
  go_enter Tryz.func6,Tryz.ntmps6
  go_upto_region 1 with fail
  rw[HW0.out]
  go_wp2_with fail
  refine HLV.out.mono ?_
  rintro e w1 ⟨rfl,hg⟩
  have HG1:=hid hg
  have HB1:=hid (Qi HB0.out hg)
  have c0:w1.cell? ⟨w.heap.size,0,none⟩=some (.int .i64 size):=by rw[cell_of_row _ _ _ _ _ _ HB1.out];rfl
  have c1:w1.cell? ⟨w.heap.size,1,none⟩=some (.int .i64 blocks):=by rw[cell_of_row _ _ _ _ _ _ HB1.out];rfl
  clear hg HLV
  dsimp only
  obtain⟨lg,hlg⟩:∃b,Cn.LightS size blocks=b:=⟨_,rfl⟩
  rw[hlg]at HLG
  have HLGE:=hid hlg
  clear hlg
  go_wp2_with fail
  refine(HLG.out _).mono ?_
  rintro e w2 ⟨rfl,hg⟩
  have HG2:=hid (Qa HG1.out hg)
  have HB2:=hid (Qi HB1.out hg)
  have HLI2:=hid (HLI.out w2 HG2.out)
  clear hg c0 c1 HLG HLI
  cases lg with
  | false=>
    have HE:=hid (Qa HG0.out HG2.out)
    go_wp2
    go_ret
    exact⟨rfl,HE.out⟩
  |true=>
  obtain⟨lb,hlb⟩:∃b,lightB l=b:=⟨_,rfl⟩
  rw[hlb]at HLI2
  have HLB:=hid hlb
  clear hlb
  dsimp only
  go_wp2_with fail
  refine HLI2.out.mono ?_
  rintro e w3 ⟨rfl,rfl⟩
  cases lb with
  | false=>
    have HE:=hid (Qa HG0.out HG2.out)
    go_wp2
    go_ret
    exact⟨rfl,HE.out⟩
  |true=>
  have c0:w2.cell? ⟨w.heap.size,0,none⟩=some (.int .i64 size):=by rw[cell_of_row _ _ _ _ _ _ HB2.out];rfl
  have c1:w2.cell? ⟨w.heap.size,1,none⟩=some (.int .i64 blocks):=by rw[cell_of_row _ _ _ _ _ _ HB2.out];rfl
  by_cases hok:GeoOk size blocks
  case neg=>
    have HBN:=hid (QiS size blocks w2 hok)
    clear hok
    go_wp2_with fail
    refine HBN.out.mono ?_
    rintro e w3 ⟨rfl,hg⟩
    have HE:=hid (Qa HG0.out (Qa HG2.out hg))
    clear hg c0 c1
    dsimp only
    go_wp2
    go_ret
    exact⟨rfl,HE.out⟩
  case pos=>
  obtain⟨K,rfl⟩:∃K:Nat,blocks=K:=Int.eq_ofNat_of_zero_le (by unfold GeoOk at hok;omega)
  obtain⟨Z,rfl⟩:∃Z:Nat,size=Z:=Int.eq_ofNat_of_zero_le (by unfold GeoOk at hok;omega)
  have hsk:=Cn.Qid HLGE.out hok
  have HSK:Hid (Z≤512∧K≤40):=hid (by omega)
  have hN60:n≤60:=by
    have h1:=HLB.out
    unfold lightB at h1
    rw[Bool.and_eq_true]at h1
    have h2:=of_decide_eq_true h1.2
    have h3:=HLN.out
    omega
  have HOKA:Hid (∀i,i<n→AcOk (l.getD i default)):=hid (fun i hi2=>by
    have h1:=HLB.out
    unfold lightB at h1
    rw[Bool.and_eq_true]at h1
    have h2:=of_decide_eq_true h1.1 i (by rw[HLN.out];exact hi2)
    refine(HIN.out _ ?_).ok h2
    have hl2:i<l.length:=by rw[HLN.out];exact hi2
    rw[List.getD_eq_getElem?_getD,List.getElem?_eq_getElem hl2]
    exact List.getElem_mem hl2)
  have HGE:=hid hok
  have HBG:=hid (QiT W0 w2 Z K HG2.out hok (Qbr hok hsk.2) HT40.out)
  have HRK:Hid (RnOk (firstR' Z K) 0):=hid (QhU hok (Qbr hok hsk.2))
  have HDM:Hid ((firstR' Z K).s.dv.size=Z∧(firstR' Z K).s.dv.blocks=K):=hid (by obtain⟨g1,g2,-,-⟩:=Qb8 hok (Qbr hok hsk.2);exact⟨g1,g2⟩)
  clear hok hsk
  go_wp2_with fail
  refine HBG.out.mono ?_
  rintro e w3 ⟨rg,sg0,dg,rfl,hr,-⟩
  have HR3:=hid hr
  clear hr c0 c1 HBG HLI2
  dsimp only
  obtain⟨fr0,hfr0⟩:∃f,(frees (firstR' Z K).s).length=f:=⟨_,rfl⟩
  have HFR0:=hid (QbS HR3.out.sp hfr0)
  have HF0:Hid (fr0+(2+(firstR' Z K).s.sup.pages.length)=K):=hid (by
    have h1:=QeE (s:=(firstR' Z K).s) (hown:=[]) (mown:=[]) (T:=0) HRK.out.sp rfl rfl
    rw[hfr0,HDM.out.2]at h1
    exact h1)
  have HPL0:Hid (((firstR' Z K).s.sup.pages.length:Int)=Su.pagesF Z K):=hid (by
    have h1:=HRK.out.sp.valid.2.2.2.1
    have h2:=HRK.out.sp.kept.size
    have h3:=HRK.out.sp.kept.blocks
    rw[h1,h2,h3,HDM.out.1,HDM.out.2])
  have d1:=HR3.out.cell.2
  clear hfr0
  go_wp2_with fail
  refine HFR0.out.mono ?_
  rintro e w9 ⟨rfl,rfl⟩
  clear d1 HFR0
  dsimp only
  go_wp2
  go_loopw [7] (fun si wr=>∃(i sg:Nat) (r:Rn),i≤n∧si=.int .i64 (i:Int)∧Hid (Rs W0 wr rg sg dg (fun _=>False) r)∧Hid (RnOk r i)∧Hid (r.s.dv.size=Z∧r.s.dv.blocks=K)) (fun si _=>n-(intOf si).toNat)
  case atStart=>exact⟨0,sg0,_,Nat.zero_le _,rfl,HR3,HRK,HDM⟩
  case round=>
  clear HR3 HRK HDM
  obtain⟨i,sg,r,hin,rfl,HR,HK,HD⟩:=hrel
  by_cases hlt:i<n
  case pos =>
    have hq:decide (i<n)=true:=decide_eq_true hlt
    obtain⟨B,O,rfl,hat⟩:=(HSEG.out wr HR.out.gr).form (by omega)
    obtain⟨b0,b1,b2,b3,b4⟩:=hat i hlt
    have p0:(0:Int)≤(i:Int):=by omega
    have p1:(i:Int)<(n:Int):=by omega
    have HDO:=hid (rs_do HR.out HK.out (by omega) _ (HOKA.out i hlt) HT40.out)
    obtain⟨x,hx⟩:∃x,l.getD i default=x:=⟨_,rfl⟩
    rw[hx]at b0 b1 b2 b3 b4 HDO
    have HDO2:Hid (Calls Tryz.prog 39 #[.pointer (some ⟨rg,0,none⟩),.agg #[.int .i64 x.kind,.int .u8 x.tag,.int .i64 x.kids,.int .i64 x.n,.string (strOfNums x.data)]] wr (DoS W0 wr rg dg (fun _=>False) r x i)):=HDO
    obtain⟨k0,k1,k2,k3,k4,e0,e1,e2,e3,e4⟩:∃k0 k1 k2 k3 k4,x.kind=k0∧x.tag=k1∧x.kids=k2∧x.n=k3∧strOfNums x.data=k4:=⟨_,_,_,_,_,rfl,rfl,rfl,rfl,rfl⟩
    rw[e0,e1,e2,e3,e4]at HDO2
    rw[e0]at b0
    rw[e1]at b1
    rw[e2]at b2
    rw[e3]at b3
    rw[e4]at b4
    have HOKX:Hid (AcOk x):=hid (by rw[←hx];exact HOKA.out i hlt)
    clear e0 e1 e2 e3 e4 hx hat HDO
    go_wp2_with fail
    refine HDO2.out.mono ?_
    rintro e w4 ⟨n4,er,r4,sg4,rfl,hd4,hk4,hr4,-⟩
    have HD4:Hid (r4.s.dv.size=Z∧r4.s.dv.blocks=K):=hid (by have h1:=hd4.dims HK.out (by omega);have h2:=HD.out;omega)
    have HR4:=hid hr4
    have HK4:=hid hk4
    have HER:=hid (Qkf hd4 HK.out (HOKX.out))
    clear hr4 hk4 hd4 HOKX b0 b1 b2 b3 b4 HR HK HD HDO2
    dsimp only
    obtain⟨oa,oc,c2,hsg,hsho⟩:=HR4.out.sho
    have c1:=HR4.out.cell.2
    have HAU:=hid (Qet (HR4.out.sp.go (Qj w4)) HK4.out.sp oa r4.own.length oc rfl (hsg.grown (Qj w4)))
    obtain⟨nO,hnO⟩:∃v,r4.own.length=v:=⟨_,rfl⟩
    rw[hnO]at c2 HAU
    clear hsg hsho hnO
    go_upto_region 13 with fail
    go_cut [58] from 49 to 58 (fun cv wx=>cv=.bool false∧Hid (wx=w4))
    case first=>
      rcases HER.out with rfl|rfl|rfl
      all_goals
        go_wp2
        go_meet
        exact⟨rfl,hid rfl⟩
    case rest=>
    obtain⟨rfl,HWC⟩:=hcut
    obtain rfl:=HWC.out
    clear HWC
    go_upto_region 15 with fail
    go_region_held3 (fun w'=>w'.cell? ⟨rg,1,none⟩=some (.pointer (some ⟨sg4,0,none⟩))∧w'.cell? ⟨rg,2,none⟩=some (.slice oa nO oc)) (go_keep)
      (first
        | (go_at_call 56
           (with_reducible refine HAU.out.mono ?_)
           rintro e w5 ⟨rfl,hg5⟩
           have HG5:=hid (Qa (Qj wc) hg5)
           have k1:=(Qc HG5.out).cell c1 id
           have k2:=(Qc HG5.out).cell c2 id
           clear hg5)
        |fail)
    have HR5:=hid (HR4.out.go HG5.out)
    clear c1 c2 k1 k2 HAU HR4
    go_wp2
    go_roundw
    case rel=>exact⟨i+1,sg4,r4,by omega,by go_num,HR5,HK4,HD4⟩
    case measure=>simp[intOf];omega
  case neg=>
  have hq:decide (i<n)=false:=decide_eq_false hlt
  obtain rfl:i=n:=by omega
  clear hlt hin
  obtain⟨oa,oc,d2,hsg,hsho⟩:=HR.out.sho
  have HRC:Hid (wr.cell? ⟨rg,1,none⟩=some (.pointer (some ⟨sg,0,none⟩))):=hid HR.out.cell.2
  have HOKS:=hid HK.out.sp
  have HLO:=hid HK.out.len
  obtain⟨own0,hown0,mown0,e1,e2,e3⟩:∃o h m,r.own=o∧r.hown=h∧r.mown=m:=⟨_,_,_,rfl,rfl,rfl⟩
  rw[e1,e2,e3]at HOKS HLO
  rw[e1]at d2 hsg
  obtain⟨s,e4⟩:∃s,r.s=s:=⟨_,rfl⟩
  rw[e4]at hsho HOKS HD
  have HSH:=hid hsho
  have HSG:=hid hsg
  have HWK:=hid (Qga (hsho.go (Qj wr)) HOKS.out oa oc (hsg.grown (Qj wr)))
  rw[HD.out.2]at HWK
  obtain⟨nO,hnO⟩:∃v,own0.length=v:=⟨_,rfl⟩
  rw[hnO]at d2 HWK HLO HSG
  have HNO:=hid hnO
  have hnl:=HOKS.out.now.cok.len
  have hgeo:=HOKS.out.now.cok.geo
  rw[HD.out.2]at hnl
  have hkb:8≤K∧K≤40:=by
    have h1:=HD.out.2
    have h2:=HSK.out
    unfold GeoOk at hgeo
    omega
  obtain⟨fr,hfr⟩:∃v,(frees s).length=v:=⟨_,rfl⟩
  have HUF:Hid (usedC s.now+fr≤K):=hid (by
    have h1:=QiK HOKS.out
    rw[hfr,HD.out.2]at h1
    exact h1)
  have HFR:=hid (fun W (k:wr.grownBy W none)=>QbS (HSH.out.go k) hfr)
  have HNL:=hid hnl
  have HKB:=hid hkb
  have d1:=HRC.out
  have HD2:=hid d2
  have HGB:=hid (fun W (k:wr.grownBy W none)=>Qi HB0.out (Qa HSH.out.gr k))
  clear hsg hsho e1 e2 e3 e4 hnO hnl hgeo hkb hfr HR HK HSEG HIN HLN HLB HLGE HOKA HG1 HB1 HG2 HB2 HB0 HW0 HGE
  go_upto_region 17 with fail
  go_region_held3 (fun w'=>w'.cell? ⟨rg,1,none⟩=some (.pointer (some ⟨sg,0,none⟩))∧w'.cell? ⟨rg,2,none⟩=some (.slice oa nO oc)) (go_keep)
    (first
      | (go_at_call 57
         (with_reducible refine HWK.out.mono ?_)
         rintro e w5 ⟨C1,rfl,hj5,-,hg5⟩
         have HG5:=hid (Qa (Qj wr) hg5)
         have HJ5:=hid hj5
         have k1:=(Qc HG5.out).cell HRC.out id
         have k2:=(Qc HG5.out).cell HD2.out id
         clear hg5 hj5)
      |fail)
  clear d1 d2 k1 k2 HWK
  obtain⟨V5,hV5⟩:∃V,w5=V:=⟨_,rfl⟩
  rw[hV5]at HG5 HJ5 ⊢
  have g1:V5.cell? ⟨w.heap.size,1,none⟩=some (.int .i64 (K:Int)):=by rw[cell_of_row _ _ _ _ _ _ (HGB.out _ HG5.out)];rfl
  have hkb:=HKB.out
  clear hV5
  go_wp2
  go_loopw [12,13] (fun su si wx=>∃j:Nat,j≤K∧su=.int .i64 (usedC (s.now.take j):Int)∧si=.int .i64 (j:Int)∧wx=V5) (fun _ si _=>K-(intOf si).toNat)
  case atStart=>exact⟨0,Nat.zero_le _,by rw[List.take_zero];rfl,rfl,rfl⟩
  case round=>
  obtain⟨j,hj,rfl,rfl,rfl⟩:=hrel
  by_cases hlt:j<K
  case pos=>
    have q0:decide ((j:Int)<(K:Int))=true:=decide_eq_true (by omega)
    have p1:(0:Int)≤(j:Int):=by omega
    have p2:(j:Int)<(K:Int):=by omega
    have e0:=(HJ5.out j (by rw[HNL.out];exact hlt)).1
    have HUT:=hid (Cn.QiL s.now j (by rw[HNL.out];exact hlt))
    have hu:usedC (s.now.take j)≤40:=by
      have:usedC (s.now.take j)≤(s.now.take j).length:=List.countP_le_length
      rw[List.length_take]at this
      omega
    obtain⟨v,hv⟩:∃v,s.now.getD j 0=v:=⟨_,rfl⟩
    obtain⟨u,huu⟩:∃u,usedC (s.now.take j)=u:=⟨_,rfl⟩
    rw[hv]at e0 HUT
    rw[huu]at HUT hu ⊢
    clear hv huu
    by_cases h0:0<v
    · have q1:decide ((0:Int)<v)=true:=decide_eq_true h0
      have HU2:Hid (usedC (s.now.take (j+1))=u+1):=hid (by rw[HUT.out,if_pos h0])
      clear h0
      go_wp2
      go_roundw
      case rel=>exact⟨j+1,by omega,by rw[HU2.out];go_num,by go_num,trivial⟩
      case measure=>simp[intOf];omega
    · have q1:decide ((0:Int)<v)=false:=decide_eq_false h0
      have HU2:Hid (usedC (s.now.take (j+1))=u):=hid (by rw[HUT.out,if_neg h0];rfl)
      clear h0
      go_wp2
      go_roundw
      case rel=>exact⟨j+1,by omega,by rw[HU2.out],by go_num,trivial⟩
      case measure=>simp[intOf];omega
  case neg=>
  have q0:decide ((j:Int)<(K:Int))=false:=decide_eq_false (by omega)
  have q8:decide (j<K)=false:=decide_eq_false hlt
  rw[List.take_of_length_le (by rw[HNL.out];omega)]
  obtain⟨u,huu⟩:∃u,usedC s.now=u:=⟨_,rfl⟩
  rw[huu]at HUF ⊢
  have huf:=HUF.out
  have e1:(u:Int)+(fr:Int)=((u+fr:Nat):Int):=by omega
  have e2:IntKind.i64.wrap ((u+fr:Nat):Int)=((u+fr:Nat):Int):=IntWalk.i64_in _ (by omega)
  have e3:decide ((K:Int)<((u+fr:Nat):Int))=false:=decide_eq_false (by omega)
  have e4:decide (K<u+fr)=false:=decide_eq_false (by omega)
  obtain⟨uf,hue⟩:∃v,u+fr=v:=⟨_,rfl⟩
  rw[hue]at e1 e2 e3 e4
  have x1:=(Qc HG5.out).cell HRC.out id
  clear huu hlt hj huf hue
  go_upto_region 26 with fail
  go_quiet ((go_at_call 20;exact Calls.quiet_of_same ((HFR.out _ (Qa HG5.out (Turn.drewN wr _ nowhere).grown)).mono fun e w' q=>⟨q.1,q.2.symm⟩)))
  obtain⟨V6,hV6⟩:∃V,wr.drewN nq=V:=⟨_,rfl⟩
  have hg6:=Qa HG5.out (Turn.drewN wr nq nowhere).grown
  rw[hV6]at hg6 ⊢
  have HS6:Hid (Sh W0 V6 sg dg (fun k=>k=rg∨blkO oa k) { s with now:=s.now }):=hid (HSH.out.go hg6)
  have HK6:Hid (SpOk { s with now:=s.now } (own0.drop 0) hown0 mown0 (i+0)):=HOKS
  have HC6:Hid (V6.cell? ⟨rg,1,none⟩=some (.pointer (some ⟨sg,0,none⟩))∧V6.cell? ⟨rg,2,none⟩=some (.slice oa nO oc)):=hid ⟨(Qc hg6).cell HRC.out id,(Qc hg6).cell HD2.out id⟩
  have HSG6:Hid (Ws.Seg V6 oa nO oc (ints own0)):=hid (HSG.out.grown hg6)
  have hnO60:nO≤60:=by have:=HLO.out;omega
  clear hV6 hg6 x1 g1 e1 e2 q0 q8 hkb HFR HG5 HJ5 HSG HSH HRC HD2
  go_wp2
  go_loopw [14] (fun si wx=>∃(j:Nat) (cN:List Int),j≤nO∧si=.int .i64 (j:Int)∧Hid (Sh W0 wx sg dg (fun k=>k=rg∨blkO oa k) { s with now:=cN })∧Hid (SpOk { s with now:=cN } (own0.drop j) hown0 mown0 (i+j))∧Hid (wx.cell? ⟨rg,1,none⟩=some (.pointer (some ⟨sg,0,none⟩))∧wx.cell? ⟨rg,2,none⟩=some (.slice oa nO oc))∧Hid (Ws.Seg wx oa nO oc (ints own0))) (fun si _=>nO-(intOf si).toNat)
  case atStart=>exact⟨0,s.now,Nat.zero_le _,rfl,HS6,HK6,HC6,HSG6⟩
  case round=>
  clear HS6 HK6 HC6 HSG6
  obtain⟨j2,cN,hj2,rfl,HS7,HK7,HC7,HSG7⟩:=hrel
  have d1:=HC7.out.1
  have d2:=HC7.out.2
  by_cases hlt:j2<nO
  case pos =>
    have q9:decide (j2<nO)=true:=decide_eq_true hlt
    have p1:(0:Int)≤(j2:Int):=by omega
    have p2:(j2:Int)<(nO:Int):=by omega
    obtain⟨gA,oA,rfl,hc⟩:=HSG7.out.addr (by omega)
    have d3:=hc j2 hlt
    rw[QdC]at d3
    have HDR:=hid (QjU (HS7.out.go (Qj wr)) HK7.out (own0.getD j2 0) (own0.drop (j2+1)) (QgV own0 j2 (by rw[HNO.out];exact hlt)))
    obtain⟨nd,hnd⟩:∃v,own0.getD j2 0=v:=⟨_,rfl⟩
    rw[hnd]at d3 HDR
    clear hnd hc
    go_upto_region 31 with fail
    go_region_held3 (fun w'=>w'.cell? ⟨rg,1,none⟩=some (.pointer (some ⟨sg,0,none⟩))∧w'.cell? ⟨rg,2,none⟩=some (.slice (some ⟨gA,oA,none⟩) nO oc)∧w'.cell? ⟨gA,oA+j2,none⟩=some (.int .u32 (nd:Int))) (go_keep)
      (first
        | (go_at_call 19
           (with_reducible refine HDR.out.mono ?_)
           rintro e w7 ⟨c7,⟨rfl,hs7,ht7⟩,hk7⟩
           have HS8:=hid hs7
           have HK8:=hid hk7
           have HT8:Hid (Stay wr w7 (fun k=>k=rg∨blkO (some ⟨gA,oA,none⟩) k)):=hid ((Stay.Qk (Qj wr)).trans ht7)
           have k1:=HT8.out.cell d1 (.inl rfl)
           have k2:=HT8.out.cell d2 (.inl rfl)
           have k3:=HT8.out.cell d3 (.inr ⟨_,rfl,rfl⟩)
           clear hs7 hk7 ht7)
        |fail)
    have HC8:Hid (w7.cell? ⟨rg,1,none⟩=some (.pointer (some ⟨sg,0,none⟩))∧w7.cell? ⟨rg,2,none⟩=some (.slice (some ⟨gA,oA,none⟩) nO oc)):=hid ⟨HT8.out.cell d1 (.inl rfl),HT8.out.cell d2 (.inl rfl)⟩
    have HSG8:Hid (Ws.Seg w7 (some ⟨gA,oA,none⟩) nO oc (ints own0)):=hid (HT8.out.seg HSG7.out (fun ad e=>.inr ⟨ad,e,rfl⟩))
    clear d1 d2 d3 k1 k2 k3 HDR HS7 HK7 HC7 HSG7
    go_wp2
    go_roundw
    case rel=>exact⟨j2+1,c7,by omega,by go_num,HS8,HK8,HC8,HSG8⟩
    case measure=>simp[intOf];omega
  case neg=>
  have q9:decide (j2<nO)=false:=decide_eq_false hlt
  have hdr:own0.drop j2=[]:=List.drop_eq_nil_of_le (by rw[HNO.out];omega)
  rw[hdr]at HK7
  obtain⟨s7,hs7⟩:∃s7:SpS,{ s with now:=cN }=s7:=⟨_,rfl⟩
  have hdim:s7.dv.size=Z∧s7.dv.blocks=K:=by rw[←hs7];exact HD.out
  rw[hs7]at HS7 HK7
  have hT:i+j2≤1000:=by omega
  have HK9:=hid (HK7.out.commit hT (root:=0) (.inl rfl))
  have HCM:=hid (QeW HS7.out HK7.out hT 0 (by decide) (.inl rfl) HT40.out)
  obtain⟨s9,hs9⟩:∃s9,commitP s7 ((0:Nat):Int)=s9:=⟨_,rfl⟩
  have hd9:s9.dv.size=Z∧s9.dv.blocks=K:=by
    obtain⟨-,-,-,hd⟩:=HK7.out.Qao hT (root:=0) (.inl rfl)
    rw[←hs9]
    refine⟨?_,?_⟩
    · show(commitP s7 0).dv.size=_
      rw[hd]
      exact hdim.1
    · show(commitP s7 0).dv.blocks=_
      rw[hd]
      exact hdim.2
  have hh9:s9.held=s9.now∧s9.mark=none:=by rw[←hs9];exact⟨rfl,rfl⟩
  have HK9:Hid (SpOk s9 [] [] [] (i+j2+1)):=hid (by rw[←hs9];exact HK9.out)
  rw[hs9]at HCM
  have hfr9:(frees s9).length=fr0:=by
    have h1:=QeE HK9.out hh9.1 hh9.2
    have h2:=HK9.out.valid.2.2.2.1
    rw[HK9.out.kept.size,HK9.out.kept.blocks,hd9.1,hd9.2]at h2
    rw[hd9.2]at h1
    have h3:=HPL0.out
    have h4:=HF0.out
    omega
  have HF9:=hid hfr9
  clear hdr hs7 hdim hs9 hd9 hh9 hfr9 hlt
  go_wp2_with fail
  refine HCM.out.mono ?_
  rintro e w8 ⟨rfl,hs8,ht8⟩
  have HS8:=hid hs8
  have k1:=ht8.cell HC7.out.1 (.inl rfl)
  have HAU:=hid (Qet hs8 HK9.out none 0 0 rfl (QbN w8))
  clear hs8 ht8 d1 d2 HCM
  dsimp only
  go_wp2_with fail
  refine HAU.out.mono ?_
  rintro e w9 ⟨rfl,hg9⟩
  have HS9:=hid (HS8.out.go hg9)
  have k2:=(Qc hg9).cell k1 id
  have HFE:=hid (QbS HS9.out HF9.out)
  clear hg9 k1 HAU
  dsimp only
  go_wp2_with fail
  refine HFE.out.mono ?_
  rintro e wA ⟨rfl,rfl⟩
  have HE:=hid (Qa HG0.out HS9.out.gr)
  have b1:((fr0:Int)==(fr0:Int))=true:=beq_self_eq_true _
  dsimp only
  go_wp2
  go_ret
  exact⟨rfl,HE.out⟩
end Sp
end Go.Proofs.YtbbbocoliandcaaGreatDoor
