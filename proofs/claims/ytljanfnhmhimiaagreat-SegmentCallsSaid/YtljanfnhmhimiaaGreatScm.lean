/- Parts of the proof. -/
import Derived.Test.YtljanfnhmhimiaaGreatScl
set_option maxRecDepth 100000
set_option maxHeartbeats 8000000
open Go.Lib (hid)
namespace Go.Proofs.YtljanfnhmhimiaaGreat
namespace Sg
open Go.RowKit Go.Joins Zn Zr Dv
open Nu (getN cnt)
def RHeadX(w:World)(o:Option (Int×List Bool×Zon×List Int))(e:Ending)(w':World):Prop:=match o with
 |none=>RHeadNo w e w'
 |some (k,nl,z,r)=>RHeadYes w k nl nl.length z r e w'
theorem QoZ{w w':World}{k:Int}{nl:List Bool}{m C:Nat}{r0:List Int}{e:Ending}(h:RTwo w k nl m C r0 e w') :
  (match (match readCell k r0 with
   |none=>none
   |some (a,r1)=>match readCell k r1 with
    |none=>none
    |some (b,r2)=>if 0<cmpC a b then none else some ((⟨(m:Int),(C:Int),a,b⟩:Zon),r2)) with
   |none=>RHeadNo w e w'
   |some (z,r)=>RHeadYes w k nl m z r e w'):=by
 obtain⟨c1,r1,ok1,c2,r2,ok2,o1,o2,hy,hn⟩:=h;cases ha:readCell k r0 with
 |none=>
  rw[ha]at o1;exact hn (.inl o1)
 |some p=>
  obtain⟨a,ra⟩:=p;rw[ha]at o1;obtain⟨q0,q1,q2⟩:=o1;subst q1 q2;dsimp only;cases hb2:readCell k r1 with
  |none=>
   rw[hb2]at o2;exact hn (.inr (.inl o2))
  |some p=>
   obtain⟨b,rb⟩:=p;rw[hb2]at o2;obtain⟨q3,q1,q2⟩:=o2;subst q1 q2;dsimp only;by_cases hle:0<cmpC c1 c2
   ·rw[if_pos hle];exact hn (.inr (.inr hle))
   ·rw[if_neg hle];exact hy q0 q3 hle
theorem QaF(s:List Int)(hb:Bs.IsB s)(hl:s.length≤100000000)(w:World):Calls Tryz.prog 39 #[.string (strOfNums s)] w (RHeadX w (headS s)):=by
 cases s with
 |nil=>exact QjP w
 |cons k0 t=>
  rw[headS];by_cases hk:k0<1∨3<k0
  ·rw[if_pos hk];by_cases h1:k0<1
   ·exact QnC k0 t hb h1 w
   ·exact Qnq k0 t hb h1 (by omega) w
  ·rw[if_neg hk];have hbt:Oct.IsB t:=fun x hx=>hb x (List.mem_cons_of_mem _ hx)
   cases hg:getN t with
   |none=>exact Qj6 k0 t hb hl (by omega) (by omega) hg w
   |some p=>
    obtain⟨nl,r0⟩:=p;have hcl:=Nu.QaK nl;dsimp only;by_cases hc:cnt nl=nl.length
    ·rw[if_pos hc];have h:=QlL k0 t r0 nl nl.length nl.length hb hl (by omega) (by omega) hg rfl hc rfl w
     show Calls _ _ _ _ (RHeadYes w k0 nl nl.length ⟨(nl.length:Int),((cnt nl:Nat):Int),zeroC,zeroC⟩ r0)
     rw[hc];exact h
    ·rw[if_neg hc];refine(Qmu k0 t r0 nl nl.length (cnt nl) hb hl (by omega) (by omega) hg rfl rfl (fun e=>hc e.symm) w).mono fun e w' hx=>?_
     have h2:=QoZ hx;cases ha:readCell k0 r0 with
     |none=>rw[ha]at h2;exact h2
     |some p=>
      obtain⟨a,r1⟩:=p;rw[ha]at h2;dsimp only at h2 ⊢;cases hb2:readCell k0 r1 with
      |none=>rw[hb2]at h2;exact h2
      |some p=>
       obtain⟨b,r2⟩:=p;rw[hb2]at h2;dsimp only at h2 ⊢;by_cases hle:0<cmpC a b
       ·rw[if_pos hle]at h2 ⊢;exact h2
       ·rw[if_neg hle]at h2 ⊢;exact h2
theorem Qn6(s:List Int)(hb:Bs.IsB s)(hl:s.length≤100000000)(hh:headS s=none)(w:World):Calls Tryz.prog 18 #[.string (strOfNums s)] w fun e w'=>
  e=.returned (.tuple #[.int .i64 0,.agg #[.int .i64 0,.int .i64 0,.int .i64 0,.int .i64 0,.string ⟨#[]⟩,.int .i64 0,.int .i64 0,.string ⟨#[]⟩],.int .i64 4])∧w.grownBy w' none:=by
 have h0:=fun W=>QaF s hb hl W
 rw[hh]at h0;have HH:=hid h0;obtain⟨S,hS⟩:∃S,strOfNums s=S:=⟨_,rfl⟩;rw[hS]at HH ⊢;have hZ:=hid (ZB.new w zeroZ);have HT:=hid (Turn.alloc w (.cells #[.int .i64 zeroZ.cnt,.int .i64 zeroZ.nul,.int .i64 zeroZ.min.k,.int .i64 zeroZ.min.n,.string zeroZ.min.s,.int .i64 zeroZ.max.k,.int .i64 zeroZ.max.n,.string zeroZ.max.s] 33) nowhere);clear hS hb hl hh h0;go_enter Tryz.func18,Tryz.ntmps18
 go_wp2_with fail
 refine(HH.out _).mono ?_;intro e w1 hx;obtain⟨rfl,ht⟩:RHeadNo _ e w1:=hx;have T1:=hid (HT.out.trans (ht.trans (Turn.alloc w1 (.cells #[.int .i64 0,.int .i64 0,.int .i64 0,.int .i64 0,.string ⟨#[]⟩,.int .i64 0,.int .i64 0,.string ⟨#[]⟩] 33) nowhere) (fun _ _ h=>h)) (fun _ _ h=>h));have Z1:=hid ((hZ.out.old ht.grown).old (Qb w1 (.cells #[.int .i64 0,.int .i64 0,.int .i64 0,.int .i64 0,.string ⟨#[]⟩,.int .i64 0,.int .i64 0,.string ⟨#[]⟩] 33)));clear ht hZ HT HH;dsimp only;go_wp2_with (first
  |(with_reducible refine Qo rfl (.tmp 3) (.tmp 20) rfl w.heap.size rfl zeroZ rfl zeroZ Z1.out ?_;intro w4 hz4 ht4)
  |fail)
 exact bodyPost_ret (QdE rfl _ _ w.heap.size _ _ (0,0) _ rfl hz4 Tryz.underlying33 rfl QbG) rfl ⟨rfl,Ql T1.out.grown ht4 (Nat.le_refl _)⟩
theorem Qm4(s:List Int)(hb:Bs.IsB s)(hl:s.length≤100000000)(k:Int)(nl:List Bool)(z:Zon)(r:List Int)(hh:headS s=some (k,nl,z,r))(w:World):Calls Tryz.prog 18 #[.string (strOfNums s)] w fun e w'=>
  e=.returned (.tuple #[.int .i64 k,.agg #[.int .i64 z.cnt,.int .i64 z.nul,.int .i64 z.min.k,.int .i64 z.min.n,.string z.min.s,.int .i64 z.max.k,.int .i64 z.max.n,.string z.max.s],.int .i64 0])∧w.grownBy w' none:=by
 have h0:=fun W=>QaF s hb hl W
 rw[hh]at h0;have HH:=hid h0;obtain⟨S,hS⟩:∃S,strOfNums s=S:=⟨_,rfl⟩;rw[hS]at HH ⊢;have hZ:=hid (ZB.new w zeroZ);have HT:=hid (Turn.alloc w (.cells #[.int .i64 zeroZ.cnt,.int .i64 zeroZ.nul,.int .i64 zeroZ.min.k,.int .i64 zeroZ.min.n,.string zeroZ.min.s,.int .i64 zeroZ.max.k,.int .i64 zeroZ.max.n,.string zeroZ.max.s] 33) nowhere);clear hS hb hl hh h0;go_enter Tryz.func18,Tryz.ntmps18
 go_wp2_with fail
 refine(HH.out _).mono ?_;intro e w1 hx;obtain⟨a,c,ra,rc,rfl,-,-,-,-,ht⟩:RHeadYes _ k nl nl.length z r e w1:=hx;have T1:=hid (HT.out.trans ht (fun _ _ h=>h));have Z1:=hid (hZ.out.old ht.grown);clear ht hZ HT HH;dsimp only;go_upto_region 2 with (fail)
 obtain⟨W2,hW2⟩:∃V,w1.alloc (.cells #[.int .i64 z.cnt,.int .i64 z.nul,.int .i64 z.min.k,.int .i64 z.min.n,.string z.min.s,.int .i64 z.max.k,.int .i64 z.max.n,.string z.max.s] 33)=V:=⟨_,rfl⟩;obtain⟨g,hg⟩:∃g,g=w1.heap.size:=⟨_,rfl⟩;rw[hW2,←hg];have B2:Hid (ZB W2 g z):=hid (by rw[←hW2,hg];exact ZB.new w1 z);have T2:Hid (Turn w W2 nowhere):=hid (by rw[←hW2];exact T1.out.trans (Turn.alloc _ _ _) (fun _ _ h=>h));have Z2:Hid (ZB W2 w.heap.size zeroZ):=hid (by rw[←hW2];exact Z1.out.old (Qb _ _));have hgw:w.heap.size≠g:=by have:=Z1.out.lt;omega
 clear hW2 hg T1 Z1;go_upto_region 4 with (fail)
 obtain⟨d0,d1,⟨d2,d3,d4⟩,d5,d6,d7⟩:=B2.out.cells;obtain⟨z0,z1,⟨z2,z3,z4⟩,z5,z6,z7⟩:=Z2.out.cells;have f0:=ZB.froz Z2.out 0;have f1:=ZB.froz Z2.out 1;have f2:=ZB.froz Z2.out 2;have f3:=ZB.froz Z2.out 3;have f4:=ZB.froz Z2.out 4;have f5:=ZB.froz Z2.out 5;have f6:=ZB.froz Z2.out 6;have f7:=ZB.froz Z2.out 7;go_region
 have hz9:=ZB.setAll Z2.out z;have ht9:=QcB W2 w.heap.size z;obtain⟨W9,hW9⟩:∃V,((((((((W2.setCell ⟨w.heap.size,0,none⟩ (.int .i64 z.cnt)).setCell ⟨w.heap.size,1,none⟩ (.int .i64 z.nul)).setCell ⟨w.heap.size,2,none⟩ (.int .i64 z.min.k)).setCell ⟨w.heap.size,3,none⟩ (.int .i64 z.min.n)).setCell ⟨w.heap.size,4,none⟩ (.string z.min.s)).setCell ⟨w.heap.size,5,none⟩ (.int .i64 z.max.k)).setCell ⟨w.heap.size,6,none⟩ (.int .i64 z.max.n)).setCell ⟨w.heap.size,7,none⟩ (.string z.max.s))=V:=⟨_,rfl⟩;rw[hW9]at hz9 ht9 ⊢;have HZ9:Hid (ZB W9.drew w.heap.size z):=hid hz9;have HT9:Hid (w.grownBy W9.drew none):=hid (Ql T2.out.grown (ht9.trans (Turn.drew W9 _) (fun _ _ h=>h)) (Nat.le_refl _));clear hW9 hz9 ht9 d0 d1 d2 d3 d4 d5 d6 d7 z0 z1 z2 z3 z4 z5 z6 z7 f0 f1 f2 f3 f4 f5 f6 f7;go_wp2;exact bodyPost_ret (QdE rfl _ _ w.heap.size _ _ (0,0) _ rfl HZ9.out Tryz.underlying33 rfl QbG) rfl ⟨rfl,HT9.out⟩
theorem Qm3(s:List Int)(hb:Bs.IsB s)(hl:s.length≤100000000)(K:Int)(Z:Zon)(E:Int)(hz:zoneS s=(K,Z,E))(w:World):Calls Tryz.prog 18 #[.string (strOfNums s)] w fun e w'=>
  e=.returned (.tuple #[.int .i64 K,.agg #[.int .i64 Z.cnt,.int .i64 Z.nul,.int .i64 Z.min.k,.int .i64 Z.min.n,.string Z.min.s,.int .i64 Z.max.k,.int .i64 Z.max.n,.string Z.max.s],.int .i64 E])∧w.grownBy w' none:=by
 unfold zoneS at hz;cases hh:headS s with
 |none=>
  rw[hh]at hz;obtain⟨rfl,h2⟩:=Prod.mk.inj hz;obtain⟨rfl,rfl⟩:=Prod.mk.inj h2;exact Qn6 s hb hl hh w
 |some p=>
  obtain⟨k,nl,z,r⟩:=p;rw[hh]at hz;obtain⟨rfl,h2⟩:=Prod.mk.inj hz;obtain⟨rfl,rfl⟩:=Prod.mk.inj h2;exact Qm4 s hb hl k nl z r hh w
end Sg
namespace Sg
open Go.RowKit Go.Joins Zn Zr Dv
open Is (IsI)
open In (getI)
open Tx (getT)
open Pk (getR)
theorem QdF(S:Nat)(hS:S≤1000000)(W:World):(Instr.makeSlice 26 (.int .i64 0) (.int .i64 (S:Int))).run Tryz.prog W=.ok (.slice (some ⟨W.heap.size,0,none⟩) 0 S) (W.alloc (.cells (roomC S) 24)):=by
 obtain⟨i0,hi,hz0,hz1,hz2⟩:=QaZ;have h:=run_make (P:=Tryz.prog) W 26 24 i0 (.agg #[.int .i64 0,.int .i64 0,.string ⟨#[]⟩]) Tryz.underlying26 hi hz0 .i64 .i64 0 (S:Int) (by omega) (by omega) (by rw[hz2];omega) (by omega);rw[hz1,Int.toNat_natCast]at h;exact h
def NoX(w:World)(e:Ending)(w':World):Prop:=Turn w w' nowhere∧∃er,er≠0∧e=.returned (.tuple #[.slice none 0 0,.int .i64 er])
def YesI(w:World)(m:Nat)(L:List Int)(e:Ending)(w':World):Prop:=Turn w w' nowhere∧∃a k,e=.returned (.tuple #[.slice a m k,.int .i64 0])∧Is.Seg w' a m k L
theorem Qnf{bs:List Int}{L:List Int}{m:Nat}(hR:getI bs=(0,L))(hm:L.length=m)(hb:Oct.IsB bs)(hn:bs.length≤100000000)(cb:Nat)(a:Option Addr)(len c:Nat)(N:Int)(hN:(m:Int)=N)(w:World)(hs:Bs.Seg w a len c bs)(hB:BoxI w cb) :
  Calls Tryz.prog 140 #[.slice a len c,.int .i64 N,.pointer (some ⟨cb,0,none⟩)] w (YesI w m L):=by
 have HG:=hid (In.QaP hR hm hb hn a len c w hs);have hc:=hB.cell;subst hN;clear hR hm hb hn hs hB;go_enter Tryz.func140,Tryz.ntmps140
 go_wp2_with fail
 refine HG.out.mono ?_;rintro e w1 ⟨a1,k1,rfl,hs1,ht1⟩;have HF:Hid (YesI w m L (.returned (.tuple #[.slice a1 m k1,.int .i64 0])) w1):=hid ⟨ht1,_,_,rfl,hs1⟩;clear hs1 ht1 hc;dsimp only;go_wp2;go_ret2
 exact HF.out
theorem QoC{bs:List Int}{E:Int}{L:List Int}{m:Nat}(hR:getI bs=(E,L))(hm:L.length=m)(hb:Oct.IsB bs)(hn:bs.length≤100000000)(cb:Nat)(a:Option Addr)(len c:Nat)(N:Int)(hN:E≠0∨(m:Int)≠N)(w:World)(hs:Bs.Seg w a len c bs)(hB:BoxI w cb) :
  Calls Tryz.prog 140 #[.slice a len c,.int .i64 N,.pointer (some ⟨cb,0,none⟩)] w (NoX w):=by
 have HG:=hid (In.QaP hR hm hb hn a len c w hs);have hc:=hB.cell;clear hR hm hb hn hs hB;by_cases hE:E=0
 ·have hq:((m:Int) != N)=true:=bne_iff_ne.2 (hN.resolve_left (fun h=>h hE));subst hE;clear hN;go_enter Tryz.func140,Tryz.ntmps140
  go_wp2_with fail
  refine HG.out.mono ?_;rintro e w1 ⟨a1,k1,rfl,hs1,ht1⟩;have HF:Hid (NoX w (.returned (.tuple #[.slice none 0 0,.int .i64 4])) w1):=hid ⟨ht1,4,by decide,rfl⟩;clear hs1 ht1 hc;dsimp only;go_wp2;go_ret2
  exact HF.out
 ·have hq:(E != 0)=true:=bne_iff_ne.2 hE;clear hN hE;go_enter Tryz.func140,Tryz.ntmps140
  go_wp2_with fail
  refine HG.out.mono ?_;rintro e w1 ⟨a1,k1,rfl,hs1,ht1⟩;have HF:Hid (NoX w (.returned (.tuple #[.slice none 0 0,.int .i64 4])) w1):=hid ⟨ht1,4,by decide,rfl⟩;clear hs1 ht1 hc;dsimp only;go_wp2;go_ret2
  exact HF.out
def YesT(w:World)(m:Nat)(L:List (List Int))(e:Ending)(w':World):Prop:=Turn w w' nowhere∧∃a k,e=.returned (.tuple #[.slice a m k,.int .i64 0])∧Ss.Seg w' a m k L
theorem Qmk{bs:List Int}{L:List (List Int)}{m:Nat}(hR:Tx.resT (getT bs)=(0,L))(hm:L.length=m)(hb:Oct.IsB bs)(hn:bs.length≤100000000)(cb:Nat)(a:Option Addr)(len c:Nat)(N:Int)(hN:(m:Int)=N)(w:World)(hs:Bs.Seg w a len c bs)(hB:BoxT w cb) :
  Calls Tryz.prog 146 #[.slice a len c,.int .i64 N,.pointer (some ⟨cb,0,none⟩)] w (YesT w m L):=by
 have HG:=hid (Tx.QaP hR hm hb hn a len c w hs);have hc:=hB.cell;subst hN;clear hR hm hb hn hs hB;go_enter Tryz.func146,Tryz.ntmps146
 go_wp2_with fail
 refine HG.out.mono ?_;rintro e w1 ⟨a1,k1,rfl,hs1,ht1⟩;have HF:Hid (YesT w m L (.returned (.tuple #[.slice a1 m k1,.int .i64 0])) w1):=hid ⟨ht1,_,_,rfl,hs1⟩;clear hs1 ht1 hc;dsimp only;go_wp2;go_ret2
 exact HF.out
theorem QiF{bs:List Int}{E:Int}{L:List (List Int)}{m:Nat}(hR:Tx.resT (getT bs)=(E,L))(hm:L.length=m)(hb:Oct.IsB bs)(hn:bs.length≤100000000)(cb:Nat)(a:Option Addr)(len c:Nat)(N:Int)(hN:E≠0∨(m:Int)≠N)(w:World)(hs:Bs.Seg w a len c bs)(hB:BoxT w cb) :
  Calls Tryz.prog 146 #[.slice a len c,.int .i64 N,.pointer (some ⟨cb,0,none⟩)] w (NoX w):=by
 have HG:=hid (Tx.QaP hR hm hb hn a len c w hs);have hc:=hB.cell;clear hR hm hb hn hs hB;by_cases hE:E=0
 ·have hq:((m:Int) != N)=true:=bne_iff_ne.2 (hN.resolve_left (fun h=>h hE));subst hE;clear hN;go_enter Tryz.func146,Tryz.ntmps146
  go_wp2_with fail
  refine HG.out.mono ?_;rintro e w1 ⟨a1,k1,rfl,hs1,ht1⟩;have HF:Hid (NoX w (.returned (.tuple #[.slice none 0 0,.int .i64 4])) w1):=hid ⟨ht1,4,by decide,rfl⟩;clear hs1 ht1 hc;dsimp only;go_wp2;go_ret2
  exact HF.out
 ·have hq:(E != 0)=true:=bne_iff_ne.2 hE;clear hN hE;go_enter Tryz.func146,Tryz.ntmps146
  go_wp2_with fail
  refine HG.out.mono ?_;rintro e w1 ⟨a1,k1,rfl,hs1,ht1⟩;have HF:Hid (NoX w (.returned (.tuple #[.slice none 0 0,.int .i64 4])) w1):=hid ⟨ht1,4,by decide,rfl⟩;clear hs1 ht1 hc;dsimp only;go_wp2;go_ret2
  exact HF.out
def YesB(w:World)(m:Nat)(L:List Int)(e:Ending)(w':World):Prop:=Turn w w' nowhere∧∃a k,e=.returned (.tuple #[.slice a m k,.int .i64 0])∧Us.Seg w' a m k L
theorem all_B{bs:List Int}{E:Int}{L:List Int}{m:Nat}{N:Int}(hR:getR bs N 1=(E,L))(hm:L.length=m)(hb:Pk.Fit 8 bs)(a:Option Addr)(len c:Nat)(w:World)(hs:Bs.Seg w a len c bs) :
  Calls Tryz.prog 103 #[.slice a len c,.int .i64 N] w (Pk.GetF w m E L):=by
 have HG:=hid (Pk.QfO hR hm hb a len c w hs);clear hR hm hb hs;go_enter Tryz.func103,Tryz.ntmps103
 go_wp2_with fail
 refine HG.out.mono ?_;rintro e w1 ⟨a1,k1,rfl,hs1,ht1⟩;have HF:Hid (Pk.GetF w m E L (.returned (.tuple #[.slice a1 m k1,.int .i64 E])) w1):=hid ⟨_,_,rfl,hs1,ht1⟩;clear hs1 ht1;dsimp only;go_wp2;go_ret2
 exact HF.out
def NoY(w:World)(e:Ending)(w':World):Prop:=Turn w w' nowhere∧∃(er:Int) (a:Option Addr) (m k:Nat),er≠0∧e=.returned (.tuple #[.slice a m k,.int .i64 er])
theorem Qjv{w w':World}{e:Ending}(h:NoX w e w'):NoY w e w':=by
 obtain⟨h1,er,h2,h3⟩:=h;exact⟨h1,er,none,0,0,h2,h3⟩
def GotC(w:World)(m:Nat)(l:List Cel)(e:Ending)(w':World):Prop:=Turn w w' nowhere∧∃a k,e=.returned (.tuple #[.slice a m k,.int .i64 0])∧CSeg w' a m k l∧(∀ad,a=some ad→w.heap.size≤ad.block)
theorem Qip(cb:Nat)(a:Option Addr)(len c:Nat)(N:Int)(w:World)(H:Calls Tryz.prog 140 #[.slice a len c,.int .i64 N,.pointer (some ⟨cb,0,none⟩)] (w.alloc (.cells #[.func (.func 89) #[] #[],.func (.func 90) #[] #[],.func (.func 91) #[] #[],.func (.func 93) #[] #[],.func (.func 95) #[] #[],.func (.func 140) #[] #[.pointer (some ⟨cb,0,none⟩)]] 99)) (NoY (w.alloc (.cells #[.func (.func 89) #[] #[],.func (.func 90) #[] #[],.func (.func 91) #[] #[],.func (.func 93) #[] #[],.func (.func 95) #[] #[],.func (.func 140) #[] #[.pointer (some ⟨cb,0,none⟩)]] 99)))) :
  Calls Tryz.prog 236 #[.agg #[.func (.func 89) #[] #[],.func (.func 90) #[] #[],.func (.func 91) #[] #[],.func (.func 93) #[] #[],.func (.func 95) #[] #[],.func (.func 140) #[] #[.pointer (some ⟨cb,0,none⟩)]],.slice a len c,.int .i64 N] w (NoX w):=by
 have HX:=hid H;clear H;go_enter Tryz.func236,Tryz.ntmps236
 go_wp2_with fail
 refine HX.out.mono ?_;rintro e w1 ⟨ht1,er,a1,m1,k1,her,rfl⟩;have hq:(er != 0)=true:=bne_iff_ne.2 her;have HF:Hid (NoX w (.returned (.tuple #[.slice none 0 0,.int .i64 er])) w1):=hid ⟨(Turn.alloc w _ nowhere).trans ht1 (fun _ _ h=>h),er,her,rfl⟩;clear ht1 her;dsimp only;go_wp2;go_ret2
 exact HF.out
theorem QgT(cb:Nat)(a:Option Addr)(len c m:Nat)(N:Int)(L:List Int)(hm:L.length=m)(hm2:m≤65536)(w:World)(H:Calls Tryz.prog 140 #[.slice a len c,.int .i64 N,.pointer (some ⟨cb,0,none⟩)] (w.alloc (.cells #[.func (.func 89) #[] #[],.func (.func 90) #[] #[],.func (.func 91) #[] #[],.func (.func 93) #[] #[],.func (.func 95) #[] #[],.func (.func 140) #[] #[.pointer (some ⟨cb,0,none⟩)]] 99)) (YesI (w.alloc (.cells #[.func (.func 89) #[] #[],.func (.func 90) #[] #[],.func (.func 91) #[] #[],.func (.func 93) #[] #[],.func (.func 95) #[] #[],.func (.func 140) #[] #[.pointer (some ⟨cb,0,none⟩)]] 99)) m L)) :
  Calls Tryz.prog 236 #[.agg #[.func (.func 89) #[] #[],.func (.func 90) #[] #[],.func (.func 91) #[] #[],.func (.func 93) #[] #[],.func (.func 95) #[] #[],.func (.func 140) #[] #[.pointer (some ⟨cb,0,none⟩)]],.slice a len c,.int .i64 N] w (GotC w m (L.map fun x=>(⟨1,x,⟨#[]⟩⟩:Cel))):=by
 obtain⟨i0,ii,iz0,iz1,iz2⟩:=QaZ;have HX:=hid H;have HM:=hid hm;have hmk:=QdF m (by omega);have hcod:=heap_alloc_new w (.cells #[.func (.func 89) #[] #[],.func (.func 90) #[] #[],.func (.func 91) #[] #[],.func (.func 93) #[] #[],.func (.func 95) #[] #[],.func (.func 140) #[] #[.pointer (some ⟨cb,0,none⟩)]] 99);have HC0:=hid hcod
 skip
 clear H hm hcod;go_enter Tryz.func236,Tryz.ntmps236
 go_wp2_with fail
 refine HX.out.mono ?_;rintro e w1 ⟨ht1,av,kv,rfl,hs1⟩;have C1:Hid (w1.heap[w.heap.size]?=some (.cells #[.func (.func 89) #[] #[],.func (.func 90) #[] #[],.func (.func 91) #[] #[],.func (.func 93) #[] #[],.func (.func 95) #[] #[],.func (.func 140) #[] #[.pointer (some ⟨cb,0,none⟩)]] 99 (0,0))):=hid (Qae HC0.out ht1.grown);have T1:=hid ((Turn.alloc w (.cells #[.func (.func 89) #[] #[],.func (.func 90) #[] #[],.func (.func 91) #[] #[],.func (.func 93) #[] #[],.func (.func 95) #[] #[],.func (.func 140) #[] #[.pointer (some ⟨cb,0,none⟩)]] 99) nowhere).trans ht1 (fun _ _ h=>h));have S1:=hid hs1;clear ht1 hs1 HX HC0;dsimp only;have hmade:=World.ownsRow_made (base:=w1.heap.size) (e:=24) (size:=3) w1 (roomC m) m (Nat.le_refl _) (by unfold maxLen;omega) (QcM m);have R2:=hid hmade;clear hmade;go_wp2;clear hmk
 go_loopw [10,29] (fun vv iv wx=>∃(k gv cv:Nat),iv=.int .i64 k∧k≤m∧vv=.slice (some ⟨gv,0,none⟩) k cv∧wx.ownsRow w1.heap.size 24 3 (.slice (some ⟨gv,0,none⟩) k cv) k (flatC ((L.take k).map fun x=>(⟨1,x,⟨#[]⟩⟩:Cel)))∧Turn w1 wx nowhere) (fun _ iv _=>m-(intOf iv).toNat)
 case atStart=>exact⟨0,_,_,rfl,Nat.zero_le _,rfl,R2.out,Turn.alloc _ _ _⟩
 case round=>
  obtain⟨k,gv,cv,rfl,hk,rfl,r1,ht⟩:=hrel;have HT:=hid ht;have R1:=hid r1;have hsv:=S1.out.grown ht.grown;have HC:=hid (Qae C1.out ht.grown);have hgs:=ht.size;clear r1 ht R2;by_cases hlt:k<m
  ·obtain⟨gA,oA,rfl,hcx⟩:=hsv.addr (by omega);have g1:=hcx k hlt;obtain⟨x,hx⟩:∃x,L.getD k 0=x:=⟨_,rfl⟩;rw[hx]at g1;have M1:Hid ((L.take (k+1)).map (fun x=>(⟨1,x,⟨#[]⟩⟩:Cel))=(L.take k).map (fun x=>(⟨1,x,⟨#[]⟩⟩:Cel))++[⟨1,x,⟨#[]⟩⟩]):=hid (by
    rw[List.take_succ_eq_append_getElem (by rw[HM.out];exact hlt),List.map_append,←hx];simp[List.getD,HM.out,hlt])
   skip
   skip
   skip
   have HCC:=hid (fun W=>QmN x W);have f1:wr.cell? ⟨w.heap.size,1,none⟩=some (.func (.func 90) #[] #[]):=by rw[cell_of_row _ _ _ _ _ _ HC.out];rfl
   have hlt2:(k:Int)<(m:Int):=by omega
   clear hcx hx hsv;go_wp2_with fail
   refine(HCC.out _).mono ?_;rintro e wv ⟨rfl,hgv⟩;have RV:=hid (Qi R1.out hgv);have TV:=hid (HT.out.trans (Pk.Qc hgv) (fun _ _ h=>h));have hvs:=TV.out.size;clear hgv HT R1 HC f1 g1 HCC;dsimp only;go_wp2_with (at_builtin;refine wpList_append_own _ rfl _ _ 26 rfl w1.heap.size 24 i0 (.agg #[.int .i64 0,.int .i64 0,.string ⟨#[]⟩]) 3 32 Tryz.underlying26 ii iz0 iz1 iz2 rfl (by decide) _ k _ rfl (RV.out.alloc _) ⟨wv.heap.size,0,none⟩ 1 1 (flatC [⟨1,x,⟨#[]⟩⟩]) rfl rfl (Qc9 wv ⟨1,x,⟨#[]⟩⟩) (by intro u hu;simp[flatC]at hu;rcases hu with rfl|rfl|rfl <;> rfl) (by unfold maxLen;omega) (by omega) (by simp;omega) ?_;intro V4 w4 hown4 hg4 hnil4)
   obtain⟨g4,c4,rfl⟩:∃g c,V4=.slice (some ⟨g,0,none⟩) (k+1) c:=by
    rcases hown4.2 with ⟨rfl,h0⟩|⟨g,cap,cur,hv,_⟩
    ·omega
    ·exact⟨g,cap,hv⟩
   have R4:Hid (w4.ownsRow w1.heap.size 24 3 (.slice (some ⟨g4,0,none⟩) (k+1) c4) (k+1) (flatC ((L.take (k+1)).map fun x=>(⟨1,x,⟨#[]⟩⟩:Cel)))):=hid (by rw[M1.out,Qbo];exact hown4);have T4:=hid (Pk.Qc (Bs.grownBy_trans (Qa TV.out.grown (Qb _ _)) hg4 (fun i e=>(RV.out.lt i e).1)));clear hown4 hg4 hnil4 RV M1 TV;go_wp2;go_roundw
   case rel=>exact⟨k+1,_,_,by go_num,by omega,by go_num,R4.out,T4.out⟩
   case measure=>simp[intOf];omega
  ·obtain rfl:k=m:=by omega
   have hT:L.take k=L:=List.take_of_length_le (by rw[HM.out];exact Nat.le_refl _);rw[hT]at R1;have HF:Hid (GotC w k (L.map fun x=>(⟨1,x,⟨#[]⟩⟩:Cel)) (.returned (.tuple #[.slice (some ⟨gv,0,none⟩) k cv,.int .i64 0])) wr):=hid ⟨T1.out.trans HT.out (fun _ _ h=>h),_,_,rfl,CSeg.own R1.out,fun ad e=>by cases e;exact Nat.le_trans T1.out.size (R1.out.lt _ rfl).1⟩;clear hT hlt R1 HC hsv;go_wp2;go_ret2
   exact HF.out
theorem Qid(a:Option Addr)(len c:Nat)(N:Int)(w:World)(H:Calls Tryz.prog 103 #[.slice a len c,.int .i64 N] (w.alloc (.cells #[.func (.func 98) #[] #[],.func (.func 99) #[] #[],.func (.func 100) #[] #[],.func (.func 101) #[] #[],.func (.func 102) #[] #[],.func (.func 103) #[] #[]] 108)) (NoY (w.alloc (.cells #[.func (.func 98) #[] #[],.func (.func 99) #[] #[],.func (.func 100) #[] #[],.func (.func 101) #[] #[],.func (.func 102) #[] #[],.func (.func 103) #[] #[]] 108)))) :
  Calls Tryz.prog 240 #[.agg #[.func (.func 98) #[] #[],.func (.func 99) #[] #[],.func (.func 100) #[] #[],.func (.func 101) #[] #[],.func (.func 102) #[] #[],.func (.func 103) #[] #[]],.slice a len c,.int .i64 N] w (NoX w):=by
 have HX:=hid H;clear H;go_enter Tryz.func240,Tryz.ntmps240
 go_wp2_with fail
 refine HX.out.mono ?_;rintro e w1 ⟨ht1,er,a1,m1,k1,her,rfl⟩;have hq:(er != 0)=true:=bne_iff_ne.2 her;have HF:Hid (NoX w (.returned (.tuple #[.slice none 0 0,.int .i64 er])) w1):=hid ⟨(Turn.alloc w _ nowhere).trans ht1 (fun _ _ h=>h),er,her,rfl⟩;clear ht1 her;dsimp only;go_wp2;go_ret2
 exact HF.out
theorem Qha(a:Option Addr)(len c m:Nat)(N:Int)(L:List Int)(hL:∀x∈L,0≤x∧x<2)(hm:L.length=m)(hm2:m≤65536)(w:World)(H:Calls Tryz.prog 103 #[.slice a len c,.int .i64 N] (w.alloc (.cells #[.func (.func 98) #[] #[],.func (.func 99) #[] #[],.func (.func 100) #[] #[],.func (.func 101) #[] #[],.func (.func 102) #[] #[],.func (.func 103) #[] #[]] 108)) (YesB (w.alloc (.cells #[.func (.func 98) #[] #[],.func (.func 99) #[] #[],.func (.func 100) #[] #[],.func (.func 101) #[] #[],.func (.func 102) #[] #[],.func (.func 103) #[] #[]] 108)) m L)) :
  Calls Tryz.prog 240 #[.agg #[.func (.func 98) #[] #[],.func (.func 99) #[] #[],.func (.func 100) #[] #[],.func (.func 101) #[] #[],.func (.func 102) #[] #[],.func (.func 103) #[] #[]],.slice a len c,.int .i64 N] w (GotC w m (L.map fun x=>(⟨2,x,⟨#[]⟩⟩:Cel))):=by
 obtain⟨i0,ii,iz0,iz1,iz2⟩:=QaZ;have HX:=hid H;have HM:=hid hm;have hmk:=QdF m (by omega);have hcod:=heap_alloc_new w (.cells #[.func (.func 98) #[] #[],.func (.func 99) #[] #[],.func (.func 100) #[] #[],.func (.func 101) #[] #[],.func (.func 102) #[] #[],.func (.func 103) #[] #[]] 108);have HC0:=hid hcod;have HLB:=hid hL;clear H hm hcod;go_enter Tryz.func240,Tryz.ntmps240
 go_wp2_with fail
 refine HX.out.mono ?_;rintro e w1 ⟨ht1,av,kv,rfl,hs1⟩;have C1:Hid (w1.heap[w.heap.size]?=some (.cells #[.func (.func 98) #[] #[],.func (.func 99) #[] #[],.func (.func 100) #[] #[],.func (.func 101) #[] #[],.func (.func 102) #[] #[],.func (.func 103) #[] #[]] 108 (0,0))):=hid (Qae HC0.out ht1.grown);have T1:=hid ((Turn.alloc w (.cells #[.func (.func 98) #[] #[],.func (.func 99) #[] #[],.func (.func 100) #[] #[],.func (.func 101) #[] #[],.func (.func 102) #[] #[],.func (.func 103) #[] #[]] 108) nowhere).trans ht1 (fun _ _ h=>h));have S1:=hid hs1;clear ht1 hs1 HX HC0;dsimp only;have hmade:=World.ownsRow_made (base:=w1.heap.size) (e:=24) (size:=3) w1 (roomC m) m (Nat.le_refl _) (by unfold maxLen;omega) (QcM m);have R2:=hid hmade;clear hmade;go_wp2;clear hmk
 go_loopw [10,29] (fun vv iv wx=>∃(k gv cv:Nat),iv=.int .i64 k∧k≤m∧vv=.slice (some ⟨gv,0,none⟩) k cv∧wx.ownsRow w1.heap.size 24 3 (.slice (some ⟨gv,0,none⟩) k cv) k (flatC ((L.take k).map fun x=>(⟨2,x,⟨#[]⟩⟩:Cel)))∧Turn w1 wx nowhere) (fun _ iv _=>m-(intOf iv).toNat)
 case atStart=>exact⟨0,_,_,rfl,Nat.zero_le _,rfl,R2.out,Turn.alloc _ _ _⟩
 case round=>
  obtain⟨k,gv,cv,rfl,hk,rfl,r1,ht⟩:=hrel;have HT:=hid ht;have R1:=hid r1;have hsv:=S1.out.grown ht.grown;have HC:=hid (Qae C1.out ht.grown);have hgs:=ht.size;clear r1 ht R2;by_cases hlt:k<m
  ·obtain⟨gA,oA,rfl,hcx⟩:=hsv.addr (by omega);have g1:=hcx k hlt;obtain⟨x,hx⟩:∃x,L.getD k 0=x:=⟨_,rfl⟩;rw[hx]at g1;have M1:Hid ((L.take (k+1)).map (fun x=>(⟨2,x,⟨#[]⟩⟩:Cel))=(L.take k).map (fun x=>(⟨2,x,⟨#[]⟩⟩:Cel))++[⟨2,x,⟨#[]⟩⟩]):=hid (by
    rw[List.take_succ_eq_append_getElem (by rw[HM.out];exact hlt),List.map_append,←hx];simp[List.getD,HM.out,hlt])
   have hxm:x∈L:=by rw[←hx,List.getD_eq_getElem?_getD,List.getElem?_eq_getElem (by rw[HM.out];exact hlt)];exact List.getElem_mem _
   have hx0:=(HLB.out x hxm).1;have hx1:x<9223372036854775808:=by have:=(HLB.out x hxm).2;omega
   have HCC:=hid (fun W=>Qng x hx0 hx1 W);have f1:wr.cell? ⟨w.heap.size,1,none⟩=some (.func (.func 99) #[] #[]):=by rw[cell_of_row _ _ _ _ _ _ HC.out];rfl
   have hlt2:(k:Int)<(m:Int):=by omega
   clear hcx hx hsv hxm;go_wp2_with fail
   refine(HCC.out _).mono ?_;rintro e wv ⟨rfl,hgv⟩;have RV:=hid (Qi R1.out hgv);have TV:=hid (HT.out.trans (Pk.Qc hgv) (fun _ _ h=>h));have hvs:=TV.out.size;clear hgv HT R1 HC f1 g1 HCC;dsimp only;go_wp2_with (at_builtin;refine wpList_append_own _ rfl _ _ 26 rfl w1.heap.size 24 i0 (.agg #[.int .i64 0,.int .i64 0,.string ⟨#[]⟩]) 3 32 Tryz.underlying26 ii iz0 iz1 iz2 rfl (by decide) _ k _ rfl (RV.out.alloc _) ⟨wv.heap.size,0,none⟩ 1 1 (flatC [⟨2,x,⟨#[]⟩⟩]) rfl rfl (Qc9 wv ⟨2,x,⟨#[]⟩⟩) (by intro u hu;simp[flatC]at hu;rcases hu with rfl|rfl|rfl <;> rfl) (by unfold maxLen;omega) (by omega) (by simp;omega) ?_;intro V4 w4 hown4 hg4 hnil4)
   obtain⟨g4,c4,rfl⟩:∃g c,V4=.slice (some ⟨g,0,none⟩) (k+1) c:=by
    rcases hown4.2 with ⟨rfl,h0⟩|⟨g,cap,cur,hv,_⟩
    ·omega
    ·exact⟨g,cap,hv⟩
   have R4:Hid (w4.ownsRow w1.heap.size 24 3 (.slice (some ⟨g4,0,none⟩) (k+1) c4) (k+1) (flatC ((L.take (k+1)).map fun x=>(⟨2,x,⟨#[]⟩⟩:Cel)))):=hid (by rw[M1.out,Qbo];exact hown4);have T4:=hid (Pk.Qc (Bs.grownBy_trans (Qa TV.out.grown (Qb _ _)) hg4 (fun i e=>(RV.out.lt i e).1)));clear hown4 hg4 hnil4 RV M1 TV;go_wp2;go_roundw
   case rel=>exact⟨k+1,_,_,by go_num,by omega,by go_num,R4.out,T4.out⟩
   case measure=>simp[intOf];omega
  ·obtain rfl:k=m:=by omega
   have hT:L.take k=L:=List.take_of_length_le (by rw[HM.out];exact Nat.le_refl _);rw[hT]at R1;have HF:Hid (GotC w k (L.map fun x=>(⟨2,x,⟨#[]⟩⟩:Cel)) (.returned (.tuple #[.slice (some ⟨gv,0,none⟩) k cv,.int .i64 0])) wr):=hid ⟨T1.out.trans HT.out (fun _ _ h=>h),_,_,rfl,CSeg.own R1.out,fun ad e=>by cases e;exact Nat.le_trans T1.out.size (R1.out.lt _ rfl).1⟩;clear hT hlt R1 HC hsv;go_wp2;go_ret2
   exact HF.out
theorem QeE(cb:Nat)(a:Option Addr)(len c:Nat)(N:Int)(w:World)(H:Calls Tryz.prog 146 #[.slice a len c,.int .i64 N,.pointer (some ⟨cb,0,none⟩)] (w.alloc (.cells #[.func (.func 105) #[] #[],.func (.func 106) #[] #[],.func (.func 107) #[] #[],.func (.func 108) #[] #[],.func (.func 109) #[] #[],.func (.func 146) #[] #[.pointer (some ⟨cb,0,none⟩)]] 117)) (NoY (w.alloc (.cells #[.func (.func 105) #[] #[],.func (.func 106) #[] #[],.func (.func 107) #[] #[],.func (.func 108) #[] #[],.func (.func 109) #[] #[],.func (.func 146) #[] #[.pointer (some ⟨cb,0,none⟩)]] 117)))) :
  Calls Tryz.prog 244 #[.agg #[.func (.func 105) #[] #[],.func (.func 106) #[] #[],.func (.func 107) #[] #[],.func (.func 108) #[] #[],.func (.func 109) #[] #[],.func (.func 146) #[] #[.pointer (some ⟨cb,0,none⟩)]],.slice a len c,.int .i64 N] w (NoX w):=by
 have HX:=hid H;clear H;go_enter Tryz.func244,Tryz.ntmps244
 go_wp2_with fail
 refine HX.out.mono ?_;rintro e w1 ⟨ht1,er,a1,m1,k1,her,rfl⟩;have hq:(er != 0)=true:=bne_iff_ne.2 her;have HF:Hid (NoX w (.returned (.tuple #[.slice none 0 0,.int .i64 er])) w1):=hid ⟨(Turn.alloc w _ nowhere).trans ht1 (fun _ _ h=>h),er,her,rfl⟩;clear ht1 her;dsimp only;go_wp2;go_ret2
 exact HF.out
theorem Qg8(cb:Nat)(a:Option Addr)(len c m:Nat)(N:Int)(L:List (List Int))(hm:L.length=m)(hm2:m≤65536)(w:World)(H:Calls Tryz.prog 146 #[.slice a len c,.int .i64 N,.pointer (some ⟨cb,0,none⟩)] (w.alloc (.cells #[.func (.func 105) #[] #[],.func (.func 106) #[] #[],.func (.func 107) #[] #[],.func (.func 108) #[] #[],.func (.func 109) #[] #[],.func (.func 146) #[] #[.pointer (some ⟨cb,0,none⟩)]] 117)) (YesT (w.alloc (.cells #[.func (.func 105) #[] #[],.func (.func 106) #[] #[],.func (.func 107) #[] #[],.func (.func 108) #[] #[],.func (.func 109) #[] #[],.func (.func 146) #[] #[.pointer (some ⟨cb,0,none⟩)]] 117)) m L)) :
  Calls Tryz.prog 244 #[.agg #[.func (.func 105) #[] #[],.func (.func 106) #[] #[],.func (.func 107) #[] #[],.func (.func 108) #[] #[],.func (.func 109) #[] #[],.func (.func 146) #[] #[.pointer (some ⟨cb,0,none⟩)]],.slice a len c,.int .i64 N] w (GotC w m (L.map fun x=>(⟨3,0,strOfNums x⟩:Cel))):=by
 obtain⟨i0,ii,iz0,iz1,iz2⟩:=QaZ;have HX:=hid H;have HM:=hid hm;have hmk:=QdF m (by omega);have hcod:=heap_alloc_new w (.cells #[.func (.func 105) #[] #[],.func (.func 106) #[] #[],.func (.func 107) #[] #[],.func (.func 108) #[] #[],.func (.func 109) #[] #[],.func (.func 146) #[] #[.pointer (some ⟨cb,0,none⟩)]] 117);have HC0:=hid hcod
 skip
 clear H hm hcod;go_enter Tryz.func244,Tryz.ntmps244
 go_wp2_with fail
 refine HX.out.mono ?_;rintro e w1 ⟨ht1,av,kv,rfl,hs1⟩;have C1:Hid (w1.heap[w.heap.size]?=some (.cells #[.func (.func 105) #[] #[],.func (.func 106) #[] #[],.func (.func 107) #[] #[],.func (.func 108) #[] #[],.func (.func 109) #[] #[],.func (.func 146) #[] #[.pointer (some ⟨cb,0,none⟩)]] 117 (0,0))):=hid (Qae HC0.out ht1.grown);have T1:=hid ((Turn.alloc w (.cells #[.func (.func 105) #[] #[],.func (.func 106) #[] #[],.func (.func 107) #[] #[],.func (.func 108) #[] #[],.func (.func 109) #[] #[],.func (.func 146) #[] #[.pointer (some ⟨cb,0,none⟩)]] 117) nowhere).trans ht1 (fun _ _ h=>h));have S1:=hid hs1;clear ht1 hs1 HX HC0;dsimp only;have hmade:=World.ownsRow_made (base:=w1.heap.size) (e:=24) (size:=3) w1 (roomC m) m (Nat.le_refl _) (by unfold maxLen;omega) (QcM m);have R2:=hid hmade;clear hmade;go_wp2;clear hmk
 go_loopw [10,29] (fun vv iv wx=>∃(k gv cv:Nat),iv=.int .i64 k∧k≤m∧vv=.slice (some ⟨gv,0,none⟩) k cv∧wx.ownsRow w1.heap.size 24 3 (.slice (some ⟨gv,0,none⟩) k cv) k (flatC ((L.take k).map fun x=>(⟨3,0,strOfNums x⟩:Cel)))∧Turn w1 wx nowhere) (fun _ iv _=>m-(intOf iv).toNat)
 case atStart=>exact⟨0,_,_,rfl,Nat.zero_le _,rfl,R2.out,Turn.alloc _ _ _⟩
 case round=>
  obtain⟨k,gv,cv,rfl,hk,rfl,r1,ht⟩:=hrel;have HT:=hid ht;have R1:=hid r1;have hsv:=S1.out.grown ht.grown;have HC:=hid (Qae C1.out ht.grown);have hgs:=ht.size;clear r1 ht R2;by_cases hlt:k<m
  ·obtain⟨gA,oA,rfl,hcx⟩:=hsv.addr (by omega);have g1:=hcx k hlt;obtain⟨x,hx⟩:∃x,L.getD k []=x:=⟨_,rfl⟩;rw[hx]at g1;have M1:Hid ((L.take (k+1)).map (fun x=>(⟨3,0,strOfNums x⟩:Cel))=(L.take k).map (fun x=>(⟨3,0,strOfNums x⟩:Cel))++[⟨3,0,strOfNums x⟩]):=hid (by
    rw[List.take_succ_eq_append_getElem (by rw[HM.out];exact hlt),List.map_append,←hx];simp[List.getD,HM.out,hlt])
   skip
   skip
   skip
   have HCC:=hid (fun W=>Qmd (strOfNums x) W);have f1:wr.cell? ⟨w.heap.size,1,none⟩=some (.func (.func 106) #[] #[]):=by rw[cell_of_row _ _ _ _ _ _ HC.out];rfl
   have hlt2:(k:Int)<(m:Int):=by omega
   clear hcx hx hsv;go_wp2_with fail
   refine(HCC.out _).mono ?_;rintro e wv ⟨rfl,hgv⟩;have RV:=hid (Qi R1.out hgv);have TV:=hid (HT.out.trans (Pk.Qc hgv) (fun _ _ h=>h));have hvs:=TV.out.size;clear hgv HT R1 HC f1 g1 HCC;dsimp only;go_wp2_with (at_builtin;refine wpList_append_own _ rfl _ _ 26 rfl w1.heap.size 24 i0 (.agg #[.int .i64 0,.int .i64 0,.string ⟨#[]⟩]) 3 32 Tryz.underlying26 ii iz0 iz1 iz2 rfl (by decide) _ k _ rfl (RV.out.alloc _) ⟨wv.heap.size,0,none⟩ 1 1 (flatC [⟨3,0,strOfNums x⟩]) rfl rfl (Qc9 wv ⟨3,0,strOfNums x⟩) (by intro u hu;simp[flatC]at hu;rcases hu with rfl|rfl|rfl <;> rfl) (by unfold maxLen;omega) (by omega) (by simp;omega) ?_;intro V4 w4 hown4 hg4 hnil4)
   obtain⟨g4,c4,rfl⟩:∃g c,V4=.slice (some ⟨g,0,none⟩) (k+1) c:=by
    rcases hown4.2 with ⟨rfl,h0⟩|⟨g,cap,cur,hv,_⟩
    ·omega
    ·exact⟨g,cap,hv⟩
   have R4:Hid (w4.ownsRow w1.heap.size 24 3 (.slice (some ⟨g4,0,none⟩) (k+1) c4) (k+1) (flatC ((L.take (k+1)).map fun x=>(⟨3,0,strOfNums x⟩:Cel)))):=hid (by rw[M1.out,Qbo];exact hown4);have T4:=hid (Pk.Qc (Bs.grownBy_trans (Qa TV.out.grown (Qb _ _)) hg4 (fun i e=>(RV.out.lt i e).1)));clear hown4 hg4 hnil4 RV M1 TV;go_wp2;go_roundw
   case rel=>exact⟨k+1,_,_,by go_num,by omega,by go_num,R4.out,T4.out⟩
   case measure=>simp[intOf];omega
  ·obtain rfl:k=m:=by omega
   have hT:L.take k=L:=List.take_of_length_le (by rw[HM.out];exact Nat.le_refl _);rw[hT]at R1;have HF:Hid (GotC w k (L.map fun x=>(⟨3,0,strOfNums x⟩:Cel)) (.returned (.tuple #[.slice (some ⟨gv,0,none⟩) k cv,.int .i64 0])) wr):=hid ⟨T1.out.trans HT.out (fun _ _ h=>h),_,_,rfl,CSeg.own R1.out,fun ad e=>by cases e;exact Nat.le_trans T1.out.size (R1.out.lt _ rfl).1⟩;clear hT hlt R1 HC hsv;go_wp2;go_ret2
   exact HF.out
end Sg
namespace Sg
open Go.RowKit Go.Joins Zn Zr Dv
open Nu (encN cnt)
theorem bl_of{w:World}{base e n c:Nat}{a:Option Addr}{l:List Bool}(h:w.ownsRow base e 1 (.slice a n c) n (l.map Value.bool)):Bl.Seg w a n c l:=by
 rcases h.2 with ⟨e1,h0⟩|⟨g,cap,cur,e1,_⟩
 ·cases e1
  have hl:=h.1;rw[List.length_map]at hl;obtain rfl:l=[]:=List.length_eq_zero_iff.1 (by omega);exact Bl.Seg.nil w
 ·cases e1
  exact Bl.Seg.own h
theorem QfK{w w':World}{B b g:Nat}{l:List Int}{z:Zon}(hB:Bd w B b l)(k:Wrote w B b w')(h:ZB w g z):ZB w' g z:=Qgq hB k h (by decide) (by decide)
theorem Qjb{w w':World}{g:Nat}{z:Zon}(h:ZB w g z)(k:Turn w w' nowhere):ZB w' g z:=h.old k.grown
theorem Qpx{c:Cel}(h:CelOk 2 c):0≤c.n∧c.n<2:=by
 have hk:=h.k;rcases QcG h.ok with q|q|q|q
 ·omega
 ·omega
 ·have:=q.2.1;omega
 ·omega
theorem Qh3(c:Cel):0<(cellB c).length:=by
 unfold cellB;by_cases e1:c.k=1
 ·rw[if_pos e1,In.Qu];omega
 ·rw[if_neg e1];by_cases e2:c.k=2
  ·rw[if_pos e2];simp
  ·rw[if_neg e2];unfold Tx.strB;rw[List.length_append];have:=Oct.QaN 9 ((nm c.s).length:Int);omega
theorem QjY{l:List Int}(h:l.length≤4096):0<(In.bestB l).length∧(In.bestB l).length≤300000000:=by
 rcases In.QgE l with e|e|e <;> rw[e]
 ·have:=In.Qba 1 l h;omega
 ·have:=In.Qba 2 l h;omega
 ·have:=In.Qba 3 l h;omega
theorem Qkc{l:List Cel}(h:∀c∈l,CelOk 2 c)(h0:0<l.length)(hl:l.length≤4096):0<(Pk.putR (l.map (·.n)) 1).2.length∧(Pk.putR (l.map (·.n)) 1).2.length≤300000000:=by
 have hf:=QpM h;have hu:=Pk.Qhn hf (by omega);have hc:Pk.canB (l.map (·.n)).length 1=true:=(Pk.Qy _ _).2 ⟨by omega,by rw[List.length_map];omega,by omega,by omega⟩;have hok:(Pk.putR (l.map (·.n)) 1).1=0:=by
  rw[Pk.Qbw];refine⟨hc,?_⟩;have:=(Pk.Qbv (l.map (·.n)) 1 hu.nonneg).2 hf;omega
 have h1:=Pk.QfI _ _ hok;unfold Pk.sizeF at h1;rw[if_pos hc,List.length_map]at h1;have h2:=Pk.Qc0 (l.map (·.n)) 1;have h3:Pk.sizeN ((l.length:Int)).toNat (1:Int).toNat=(l.length*1+7) / 8:=by rw[Int.toNat_natCast];rfl
 rw[h3]at h1;omega
theorem Qi1{l:List Cel}(h:∀c∈l,CelOk 3 c)(hl:l.length≤4096):0<(Tx.bestT (l.map fun c=>nm c.s)).length∧(Tx.bestT (l.map fun c=>nm c.s)).length≤300000000:=by
 have hb:=QbR 3 hl h;have e:bodyS 3 l=Tx.bestT (l.map fun c=>nm c.s):=by unfold bodyS;rw[if_neg (by decide),if_neg (by decide)]
 rw[e]at hb;refine⟨?_,hb⟩;unfold Tx.bestT
 split
 ·unfold Tx.dictT;rw[List.length_cons];omega
 ·unfold Tx.plainT;rw[List.length_cons];omega
def PutX(w:World)(kind:Int)(l:List Cel)(e:Ending)(w':World):Prop:=e=.returned (.tuple #[.string (strOfNums (putS kind l).2),.int .i64 (putS kind l).1])∧w.grownBy w' none
theorem Qdu{w0 w w':World}(h:Turn w0 w nowhere)(k:Below w0.heap.size w w'):Turn w0 w' nowhere:=
 ⟨k.os.trans h.os,k.tape.trans h.tape,k.output.trans h.output,Nat.le_trans h.size k.size,fun i hi hn=>(k.block i hi).trans (h.block i hi hn)⟩
theorem Qkh(kind:Int)(a:Option Addr)(n c:Nat)(l:List Cel)(w:World)(hs:CSeg w a n c l)(hi:IntOk l):Calls Tryz.prog 11 #[.int .i64 kind,.slice a n c] w (PutX w kind l):=by
 have HS:=hid hs;have HL:=hid hs.len;have HCK:=hid (QbB kind a n c l w hs);obtain⟨E,hE⟩:∃E,E=checkS kind l:=⟨_,rfl⟩;rw[←hE]at HCK;clear hs;by_cases h0:E=0
 ·have hcol:Col kind l:=QbW.1 (by rw[←hE];exact h0);have q0:(E != 0)=false:=by rw[h0];rfl
  have HCOL:=hid hcol;have hn:n≤4096:=by rw[←HL.out];exact hcol.few
  have HR:Hid (putS kind l=(0,encS kind l)):=hid (Qe9 hcol);obtain⟨m,hm⟩:∃m,(someL l).length=m:=⟨_,rfl⟩;have hel:=Nu.QdV (l:=nullsL l) (by rw[QaX,HL.out];omega);obtain⟨q,hq⟩:∃q,(encN (nullsL l)).length=q:=⟨_,rfl⟩;have hk1:=hcol.k1;have hk3:=hcol.k3;have hku:IntKind.u8.wrap kind=kind:=by rw[IntKind.wrap_u8];omega
  rw[hq]at hel;have hmk:m≤n:=by
   have h1:=Qa8 l;have h2:=HL.out;omega
  have HM:=hid hm;have HQ:=hid hq;have HI:=hid hi;clear h0 hE hcol hm hq hi;go_enter Tryz.func11,Tryz.ntmps11
  go_wp2_with fail
  refine HCK.out.mono ?_;rintro e w1 ⟨rfl,hg⟩;have T1:=hid (Pk.Qc hg);have HPA:=hid (Qok a n c m l w1 (HS.out.old hg) (by omega) HM.out);clear hg HCK;dsimp only;go_wp2_with fail
  refine HPA.out.mono ?_;rintro e w2 ⟨an,cn,bs,ds,rfl,rn,rs,ht2⟩;have T2:=hid (T1.out.trans ht2 (fun _ _ h=>h));have RS2:=hid rs;have h12:w.heap.size≤w1.heap.size:=T1.out.size;have HPN:=hid (Nu.Qbd (l:=nullsL l) (E:=0) (B:=encN (nullsL l)) (m:=q) (by unfold Nu.putN;rw[if_neg (by rw[QaX,HL.out];omega)]) HQ.out an n cn w2 (bl_of rn));clear rn rs ht2 HPA T1;dsimp only;go_wp2_with fail
  refine HPN.out.mono ?_;rintro e w3 ⟨a3,k3,rfl,hs3,ht3⟩;have T3:=hid (T2.out.trans ht3 (fun _ _ h=>h));have RS3:=hid (Qi RS2.out ht3.grown);have SF3:=hid hs3;have HB3:=T3.out.size;have hq0:0<q:=by omega
  have HWB:=hid (Qgz w.heap.size w3.heap.size kind (w3.alloc (.cells #[.pointer none,.slice none 0 0] 56)) HB3 (heap_alloc_new w3 _) (by simp;omega));obtain⟨b,hb⟩:∃b,b=w3.heap.size:=⟨_,rfl⟩;have HBB:=hid hb;clear hs3 ht3 HPN T2 RS2;dsimp only;go_wp2_with fail
  refine HWB.out.mono ?_;rintro e w4 ⟨rfl,hbd4,ht4⟩;have hg4:w3.grownBy w4 none:=Ql (Qb w3 _) ht4 (Nat.le_refl _);have T4:=hid (T3.out.trans (Pk.Qc hg4) (fun _ _ h=>h));have RS4:=hid (Qi RS3.out hg4);have h34:=hg4.size;rw[←HBB.out]at hbd4 h34;rw[←HBB.out];have HW1:=hid (Qan w.heap.size b [kind] (encN (nullsL l)) a3 q k3 w4 hbd4 (by omega) (SF3.out.grown hg4) hq0 (by simp;omega));have hwb:w.heap.size≤b:=by rw[HBB.out];exact HB3
  have HBD4:=hid hbd4;clear hbd4 ht4 hg4 HWB T3 RS3 SF3 hb HBB;dsimp only;go_wp2_with fail
  refine HW1.out.mono ?_;rintro e w5 ⟨rfl,hbd5,hw5⟩;have T5:=hid (Wrote.base T4.out hw5 hwb);have RS5:=hid (Qbs HBD4.out hw5 RS4.out (by decide) (by decide));have HBD5:=hid hbd5;have hB5:Bs.IsB ([kind]++encN (nullsL l)):=by
   intro x hx;rcases List.mem_append.1 hx with hx|hx
   ·rw[List.mem_singleton]at hx;omega
   ·exact Nu.QaS (by rw[QaX,HL.out];omega) x hx
  have h45:w.heap.size≤w5.heap.size:=T5.out.size;clear hbd5 hw5 HW1 HBD4 T4 RS4 HB3 h34;dsimp only;by_cases hs0:someL l=[]
  ·have hm0:m=0:=by rw[←HM.out,hs0];rfl
   have HT:Hid (encS kind l=[kind]++encN (nullsL l)):=hid (by unfold encS tailS;rw[if_pos hs0,List.append_nil];rfl);have hmz:¬(0:Int)<(m:Int):=by omega
   have HST:=hid (QcV w.heap.size b _ w5 HBD5.out (by simp) hB5);clear hs0 hm0 RS5 HBD5 hB5;go_wp2_with fail
   refine HST.out.mono ?_;rintro e w6 ⟨rfl,hb6⟩;have HF:Hid (PutX w kind l (.returned (.tuple #[.string (strOfNums ([kind]++encN (nullsL l))),.int .i64 0])) w6):=hid ⟨by rw[HR.out,HT.out],(Qdu T5.out hb6).grown⟩;clear hb6 HST;dsimp only;go_wp2;go_ret2
   exact HF.out
  ·have hm0:0<m:=by rw[←HM.out];exact List.length_pos_iff.2 hs0
   have HT:Hid (encS kind l=[kind]++(encN (nullsL l)++(cellB (ofZ l).min++(cellB (ofZ l).max++bodyS kind (someL l))))):=hid (by unfold encS tailS;rw[if_neg hs0];rfl);obtain⟨o1,o2,m1,m2,_⟩:=QiK HCOL.out hs0;have hof:=Qhc l;have hmp:(0:Int)<(m:Int):=by omega
   obtain⟨z,hz⟩:∃z,z=ofZ (someL l):=⟨_,rfl⟩;have HOF:=hid (fun W hs=>Of_any bs m ds (someL l) W hs (by omega));rw[←hz]at HOF hof;rw[hof.1,hof.2.1]at HT;rw[hof.1]at o1;rw[hof.2.1]at o2;have HSM:=hid HCOL.out.some;have HSI:Hid (IntOk (someL l)):=hid (fun x hx=>HI.out x (Qf3.1 hx).1);have HMIN:=hid o1;have HMAX:=hid o2;have HCO:=hid (QJ kind w5 hk1 hk3);have hlB:([kind]++encN (nullsL l)).length=1+q:=by rw[List.length_append,HQ.out];rfl
   have HLB:=hid hlB;clear hs0 hz hof o1 o2 m1 m2 hlB;go_wp2_with fail
   refine HCO.out.mono ?_;rintro e w6 ⟨v,rfl,hv,ht6⟩;have T6:=hid (T5.out.trans ht6 (fun _ _ h=>h));have RS6:=hid (Qi RS5.out ht6.grown);have BD6:=hid (Qbq HBD5.out ht6);have HV:=hid hv;have HO6:=hid (HOF.out w6 (QdU RS6.out HM.out));clear hv ht6 HCO T5 RS5 HBD5 HOF;dsimp only;go_wp2_with fail
   refine HO6.out.mono ?_;rintro e w7 ⟨rfl,hg7⟩;have T7:=hid (T6.out.trans (Pk.Qc (Qa hg7 (Qb w7 (.cells #[.int .i64 z.cnt,.int .i64 z.nul,.int .i64 z.min.k,.int .i64 z.min.n,.string z.min.s,.int .i64 z.max.k,.int .i64 z.max.n,.string z.max.s] 33)))) (fun _ _ h=>h));have RS7:=hid (Qi RS6.out (Qa hg7 (Qb w7 (.cells #[.int .i64 z.cnt,.int .i64 z.nul,.int .i64 z.min.k,.int .i64 z.min.n,.string z.min.s,.int .i64 z.max.k,.int .i64 z.max.n,.string z.max.s] 33))));have BD7:=hid (Qbq BD6.out (Pk.Qc (Qa hg7 (Qb w7 (.cells #[.int .i64 z.cnt,.int .i64 z.nul,.int .i64 z.min.k,.int .i64 z.min.n,.string z.min.s,.int .i64 z.max.k,.int .i64 z.max.n,.string z.max.s] 33)))));have ZB7:=hid (ZB.new w7 z);obtain⟨W8,hW8⟩:∃V,w7.alloc (.cells #[.int .i64 z.cnt,.int .i64 z.nul,.int .i64 z.min.k,.int .i64 z.min.n,.string z.min.s,.int .i64 z.max.k,.int .i64 z.max.n,.string z.max.s] 33)=V:=⟨_,rfl⟩;rw[hW8]at T7 RS7 BD7 ZB7;obtain⟨zb,hzb⟩:∃g,g=w7.heap.size:=⟨_,rfl⟩;rw[←hzb]at ZB7;have HW8:=hid hW8;have HZB:=hid hzb;have HX7:∀x,x=w7→True:=fun _ _=>trivial
   clear hg7 HO6 T6 RS6 BD6 hW8 hzb HX7;dsimp only;rcases HV.out with ⟨hk,cb,hcv,-⟩|⟨hk,hcv⟩|⟨hk,cb,hcv,-⟩
   ·subst hk hcv;go_upto_region 11 with (fail)
    rw[HW8.out,←HZB.out];have h78:=T7.out.size;obtain⟨-,-,⟨c0,c1,c2⟩,-,-,-⟩:=ZB7.out.cells;have hmeth:=fun W=>Qhm cb W
    have HE1:Hid (cellB z.min=In.num8 z.min.n):=hid (if_pos HMIN.out.k);have HE2:Hid (cellB z.max=In.num8 z.max.n):=hid (if_pos HMAX.out.k);have HE3:Hid (bodyS 1 (someL l)=In.bestB ((someL l).map (·.n))):=hid (if_pos rfl);have HP1:=hid (putCell_I cb z.min  W8);go_wp2_with fail
    refine HP1.out.mono ?_;rintro e w9 ⟨a9,k9,rfl,hs9,ht9⟩;have T9:=hid (T7.out.trans ht9 (fun _ _ h=>h));have RS9:=hid (Qi RS7.out ht9.grown);have BD9:=hid (Qbq BD7.out ht9);have ZB9:=hid (Qjb ZB7.out ht9);have h79:=T9.out.size;have HW:=hid (Qan w.heap.size b ([1]++encN (nullsL l)) (In.num8 z.min.n) a9 8 k9 w9 BD9.out (by omega) hs9 (by omega) (by rw[HLB.out];omega));clear hs9 ht9 HP1 T7 RS7 BD7 ZB7 c0 c1 c2;dsimp only;go_wp2_with fail
    refine HW.out.mono ?_;rintro e w10 ⟨rfl,hbd10,hw10⟩;have T10:=hid (Wrote.base T9.out hw10 hwb);have RS10:=hid (Qbs BD9.out hw10 RS9.out (by decide) (by decide));have ZB10:=hid (QfK BD9.out hw10 ZB9.out);have BD10:=hid hbd10;clear hbd10 hw10 HW T9 RS9 BD9 ZB9;dsimp only;obtain⟨-,-,-,c0,c1,c2⟩:=ZB10.out.cells;have HP2:=hid (putCell_I cb z.max  w10);go_wp2_with fail
    refine HP2.out.mono ?_;rintro e w11 ⟨a11,k11,rfl,hs11,ht11⟩;have T11:=hid (T10.out.trans ht11 (fun _ _ h=>h));have RS11:=hid (Qi RS10.out ht11.grown);have BD11:=hid (Qbq BD10.out ht11);have h711:=T11.out.size;have HW2:=hid (Qan w.heap.size b ([1]++encN (nullsL l)++(In.num8 z.min.n)) (In.num8 z.max.n) a11 8 k11 w11 BD11.out (by omega) hs11 (by omega) (by rw[List.length_append,HLB.out,In.Qu];omega));clear hs11 ht11 HP2 T10 RS10 BD10 ZB10 c0 c1 c2;dsimp only;go_wp2_with fail
    refine HW2.out.mono ?_;rintro e w12 ⟨rfl,hbd12,hw12⟩;have T12:=hid (Wrote.base T11.out hw12 hwb);have RS12:=hid (Qbs BD11.out hw12 RS11.out (by decide) (by decide));have BD12:=hid hbd12;clear hbd12 hw12 HW2 T11 RS11 BD11 hmeth;dsimp only;have hmeth:=fun W=>Qgg cb W
    obtain⟨M,hM⟩:∃M,(In.bestB ((someL l).map (·.n))).length=M:=⟨_,rfl⟩;have HML:=hid hM;have hM1:0<M∧M≤300000000:=by rw[←hM];exact QjY (by rw[List.length_map,HM.out];omega)
    have HPS:=hid (QkN cb bs m ds M (someL l) w12 (QdU RS12.out HM.out) (by omega) HSI.out hM);clear hM;go_wp2_with fail
    refine HPS.out.mono ?_;rintro e w13 ⟨a13,k13,rfl,hs13,ht13⟩;have T13:=hid (T12.out.trans ht13 (fun _ _ h=>h));have BD13:=hid (Qbq BD12.out ht13);have h713:=T13.out.size;have X0:=Qan w.heap.size b ([1]++encN (nullsL l)++(In.num8 z.min.n)++(In.num8 z.max.n)) (In.bestB ((someL l).map (·.n))) a13 M k13 w13;have X1:=X0 BD13.out;have X2:=X1 (by omega);have X3:=X2 hs13;have X4:=X3 hM1.1;have X5:=X4 (by rw[List.length_append,List.length_append,HLB.out,In.Qu,In.Qu];omega);have HW3:=hid X5;clear X0 X1 X2 X3 X4 X5;clear hs13 ht13 HPS T12 RS12 BD12 hmeth;dsimp only;go_wp2_with fail
    refine HW3.out.mono ?_;rintro e w14 ⟨rfl,hbd14,hw14⟩;have T14:=hid (Wrote.base T13.out hw14 hwb);have HEN:Hid ([1]++encN (nullsL l)++(In.num8 z.min.n)++(In.num8 z.max.n)++In.bestB ((someL l).map (·.n))=encS 1 l):=hid (by
     rw[HT.out,HE1.out,HE2.out,HE3.out];simp only[List.append_assoc])
    have HST:=hid (QcV w.heap.size b ([1]++encN (nullsL l)++(In.num8 z.min.n)++(In.num8 z.max.n)++In.bestB ((someL l).map (·.n))) w14 hbd14 (by simp) (by rw[HEN.out];exact QaS HCOL.out));clear hbd14 hw14 HW3 T13 BD13;dsimp only;go_wp2_with fail
    refine HST.out.mono ?_;rintro e w15 ⟨rfl,hb15⟩;have HF:Hid (PutX w 1 l (.returned (.tuple #[.string (strOfNums ([1]++encN (nullsL l)++(In.num8 z.min.n)++(In.num8 z.max.n)++In.bestB ((someL l).map (·.n)))),.int .i64 0])) w15):=hid ⟨by rw[HR.out,HEN.out],(Qdu T14.out hb15).grown⟩;clear hb15 HST;dsimp only;go_wp2;go_ret2
    exact HF.out
   ·subst hk hcv;go_upto_region 11 with (fail)
    rw[HW8.out,←HZB.out];have h78:=T7.out.size;obtain⟨-,-,⟨c0,c1,c2⟩,-,-,-⟩:=ZB7.out.cells;have hmeth:=fun W=>Qhf W
    have HE1:Hid (cellB z.min=[z.min.n]):=hid (by unfold cellB;rw[if_neg (by rw[HMIN.out.k];decide),if_pos HMIN.out.k]);have HE2:Hid (cellB z.max=[z.max.n]):=hid (by unfold cellB;rw[if_neg (by rw[HMAX.out.k];decide),if_pos HMAX.out.k]);have HE3:Hid (bodyS 2 (someL l)=(Pk.putR ((someL l).map (·.n)) 1).2):=hid (by unfold bodyS;rw[if_neg (by decide),if_pos rfl]);have hmn:=QbU HMIN.out HMIN.out.k;have hmx:=QbU HMAX.out HMAX.out.k;have HP1:=hid (putCell_B z.min hmn.1 hmn.2 W8);go_wp2_with fail
    refine HP1.out.mono ?_;rintro e w9 ⟨a9,k9,rfl,hs9,ht9⟩;have T9:=hid (T7.out.trans ht9 (fun _ _ h=>h));have RS9:=hid (Qi RS7.out ht9.grown);have BD9:=hid (Qbq BD7.out ht9);have ZB9:=hid (Qjb ZB7.out ht9);have h79:=T9.out.size;have HW:=hid (Qan w.heap.size b ([2]++encN (nullsL l)) [z.min.n] a9 1 k9 w9 BD9.out (by omega) hs9 (by omega) (by rw[HLB.out];omega));clear hs9 ht9 HP1 T7 RS7 BD7 ZB7 c0 c1 c2;dsimp only;go_wp2_with fail
    refine HW.out.mono ?_;rintro e w10 ⟨rfl,hbd10,hw10⟩;have T10:=hid (Wrote.base T9.out hw10 hwb);have RS10:=hid (Qbs BD9.out hw10 RS9.out (by decide) (by decide));have ZB10:=hid (QfK BD9.out hw10 ZB9.out);have BD10:=hid hbd10;clear hbd10 hw10 HW T9 RS9 BD9 ZB9;dsimp only;obtain⟨-,-,-,c0,c1,c2⟩:=ZB10.out.cells;have HP2:=hid (putCell_B z.max hmx.1 hmx.2 w10);go_wp2_with fail
    refine HP2.out.mono ?_;rintro e w11 ⟨a11,k11,rfl,hs11,ht11⟩;have T11:=hid (T10.out.trans ht11 (fun _ _ h=>h));have RS11:=hid (Qi RS10.out ht11.grown);have BD11:=hid (Qbq BD10.out ht11);have h711:=T11.out.size;have HW2:=hid (Qan w.heap.size b ([2]++encN (nullsL l)++[z.min.n]) [z.max.n] a11 1 k11 w11 BD11.out (by omega) hs11 (by omega) (by rw[List.length_append,HLB.out,List.length_singleton];omega));clear hs11 ht11 HP2 T10 RS10 BD10 ZB10 c0 c1 c2;dsimp only;go_wp2_with fail
    refine HW2.out.mono ?_;rintro e w12 ⟨rfl,hbd12,hw12⟩;have T12:=hid (Wrote.base T11.out hw12 hwb);have RS12:=hid (Qbs BD11.out hw12 RS11.out (by decide) (by decide));have BD12:=hid hbd12;clear hbd12 hw12 HW2 T11 RS11 BD11 hmeth;dsimp only;have hmeth:=fun W=>Qgw W
    obtain⟨M,hM⟩:∃M,((Pk.putR ((someL l).map (·.n)) 1).2).length=M:=⟨_,rfl⟩;have HML:=hid hM;have hM1:0<M∧M≤300000000:=by rw[←hM];exact Qkc HSM.out (by rw[HM.out];omega) (by rw[HM.out];omega)
    have HPS:=hid (Qld bs m ds M (someL l) w12 (QdU RS12.out HM.out) (by omega) (fun x hx=>Qpx (HSM.out x hx)) hM);clear hM;go_wp2_with fail
    refine HPS.out.mono ?_;rintro e w13 ⟨a13,k13,rfl,hs13,ht13⟩;have T13:=hid (T12.out.trans ht13 (fun _ _ h=>h));have BD13:=hid (Qbq BD12.out ht13);have h713:=T13.out.size;have X0:=Qan w.heap.size b ([2]++encN (nullsL l)++[z.min.n]++[z.max.n]) ((Pk.putR ((someL l).map (·.n)) 1).2) a13 M k13 w13;have X1:=X0 BD13.out;have X2:=X1 (by omega);have X3:=X2 hs13;have X4:=X3 hM1.1;have X5:=X4 (by rw[List.length_append,List.length_append,HLB.out,List.length_singleton,List.length_singleton];omega);have HW3:=hid X5;clear X0 X1 X2 X3 X4 X5;clear hs13 ht13 HPS T12 RS12 BD12 hmeth;dsimp only;go_wp2_with fail
    refine HW3.out.mono ?_;rintro e w14 ⟨rfl,hbd14,hw14⟩;have T14:=hid (Wrote.base T13.out hw14 hwb);have HEN:Hid ([2]++encN (nullsL l)++[z.min.n]++[z.max.n]++(Pk.putR ((someL l).map (·.n)) 1).2=encS 2 l):=hid (by
     rw[HT.out,HE1.out,HE2.out,HE3.out];simp only[List.append_assoc])
    have HST:=hid (QcV w.heap.size b ([2]++encN (nullsL l)++[z.min.n]++[z.max.n]++(Pk.putR ((someL l).map (·.n)) 1).2) w14 hbd14 (by simp) (by rw[HEN.out];exact QaS HCOL.out));clear hbd14 hw14 HW3 T13 BD13;dsimp only;go_wp2_with fail
    refine HST.out.mono ?_;rintro e w15 ⟨rfl,hb15⟩;have HF:Hid (PutX w 2 l (.returned (.tuple #[.string (strOfNums ([2]++encN (nullsL l)++[z.min.n]++[z.max.n]++(Pk.putR ((someL l).map (·.n)) 1).2)),.int .i64 0])) w15):=hid ⟨by rw[HR.out,HEN.out],(Qdu T14.out hb15).grown⟩;clear hb15 HST;dsimp only;go_wp2;go_ret2
    exact HF.out
   ·subst hk hcv;go_upto_region 11 with (fail)
    rw[HW8.out,←HZB.out];have h78:=T7.out.size;obtain⟨-,-,⟨c0,c1,c2⟩,-,-,-⟩:=ZB7.out.cells;have hmeth:=fun W=>Qg4 cb W
    have HE1:Hid (cellB z.min=Tx.strB (nm z.min.s)):=hid (by unfold cellB;rw[if_neg (by rw[HMIN.out.k];decide),if_neg (by rw[HMIN.out.k];decide)]);have HE2:Hid (cellB z.max=Tx.strB (nm z.max.s)):=hid (by unfold cellB;rw[if_neg (by rw[HMAX.out.k];decide),if_neg (by rw[HMAX.out.k];decide)]);have HE3:Hid (bodyS 3 (someL l)=Tx.bestT ((someL l).map fun c=>nm c.s)):=hid (by unfold bodyS;rw[if_neg (by decide),if_neg (by decide)]);obtain⟨x1,hx1⟩:∃m,(Tx.strB (nm z.min.s)).length=m:=⟨_,rfl⟩;obtain⟨x2,hx2⟩:∃m,(Tx.strB (nm z.max.s)).length=m:=⟨_,rfl⟩;have hxb:0<x1∧x1≤65600∧0<x2∧x2≤65600:=by
     rw[←hx1,←hx2,←HE1.out,←HE2.out];exact⟨Qh3 z.min,Qdt HMIN.out,Qh3 z.max,Qdt HMAX.out⟩
    have HX1:=hid hx1;have HX2:=hid hx2;clear hx1 hx2;have HP1:=hid (putCell_T cb z.min (QaM HMIN.out.ok) x1 HX1.out W8);go_wp2_with fail
    refine HP1.out.mono ?_;rintro e w9 ⟨a9,k9,rfl,hs9,ht9⟩;have T9:=hid (T7.out.trans ht9 (fun _ _ h=>h));have RS9:=hid (Qi RS7.out ht9.grown);have BD9:=hid (Qbq BD7.out ht9);have ZB9:=hid (Qjb ZB7.out ht9);have h79:=T9.out.size;have HW:=hid (Qan w.heap.size b ([3]++encN (nullsL l)) (Tx.strB (nm z.min.s)) a9 x1 k9 w9 BD9.out (by omega) hs9 (by omega) (by rw[HLB.out];omega));clear hs9 ht9 HP1 T7 RS7 BD7 ZB7 c0 c1 c2;dsimp only;go_wp2_with fail
    refine HW.out.mono ?_;rintro e w10 ⟨rfl,hbd10,hw10⟩;have T10:=hid (Wrote.base T9.out hw10 hwb);have RS10:=hid (Qbs BD9.out hw10 RS9.out (by decide) (by decide));have ZB10:=hid (QfK BD9.out hw10 ZB9.out);have BD10:=hid hbd10;clear hbd10 hw10 HW T9 RS9 BD9 ZB9;dsimp only;obtain⟨-,-,-,c0,c1,c2⟩:=ZB10.out.cells;have HP2:=hid (putCell_T cb z.max (QaM HMAX.out.ok) x2 HX2.out w10);go_wp2_with fail
    refine HP2.out.mono ?_;rintro e w11 ⟨a11,k11,rfl,hs11,ht11⟩;have T11:=hid (T10.out.trans ht11 (fun _ _ h=>h));have RS11:=hid (Qi RS10.out ht11.grown);have BD11:=hid (Qbq BD10.out ht11);have h711:=T11.out.size;have HW2:=hid (Qan w.heap.size b ([3]++encN (nullsL l)++(Tx.strB (nm z.min.s))) (Tx.strB (nm z.max.s)) a11 x2 k11 w11 BD11.out (by omega) hs11 (by omega) (by rw[List.length_append,HLB.out,HX1.out];omega));clear hs11 ht11 HP2 T10 RS10 BD10 ZB10 c0 c1 c2;dsimp only;go_wp2_with fail
    refine HW2.out.mono ?_;rintro e w12 ⟨rfl,hbd12,hw12⟩;have T12:=hid (Wrote.base T11.out hw12 hwb);have RS12:=hid (Qbs BD11.out hw12 RS11.out (by decide) (by decide));have BD12:=hid hbd12;clear hbd12 hw12 HW2 T11 RS11 BD11 hmeth;dsimp only;have hmeth:=fun W=>QgQ cb W
    obtain⟨M,hM⟩:∃M,(Tx.bestT ((someL l).map fun c=>nm c.s)).length=M:=⟨_,rfl⟩;have HML:=hid hM;have hM1:0<M∧M≤300000000:=by rw[←hM];exact Qi1 HSM.out (by rw[HM.out];omega)
    have HPS:=hid (Qk5 cb bs m ds M (someL l) w12 (QdU RS12.out HM.out) (by omega) (fun x hx=>QaM (HSM.out x hx).ok) hM);clear hM;go_wp2_with fail
    refine HPS.out.mono ?_;rintro e w13 ⟨a13,k13,rfl,hs13,ht13⟩;have T13:=hid (T12.out.trans ht13 (fun _ _ h=>h));have BD13:=hid (Qbq BD12.out ht13);have h713:=T13.out.size;have X0:=Qan w.heap.size b ([3]++encN (nullsL l)++(Tx.strB (nm z.min.s))++(Tx.strB (nm z.max.s))) (Tx.bestT ((someL l).map fun c=>nm c.s)) a13 M k13 w13;have X1:=X0 BD13.out;have X2:=X1 (by omega);have X3:=X2 hs13;have X4:=X3 hM1.1;have X5:=X4 (by rw[List.length_append,List.length_append,HLB.out,HX1.out,HX2.out];omega);have HW3:=hid X5;clear X0 X1 X2 X3 X4 X5;clear hs13 ht13 HPS T12 RS12 BD12 hmeth;dsimp only;go_wp2_with fail
    refine HW3.out.mono ?_;rintro e w14 ⟨rfl,hbd14,hw14⟩;have T14:=hid (Wrote.base T13.out hw14 hwb);have HEN:Hid ([3]++encN (nullsL l)++(Tx.strB (nm z.min.s))++(Tx.strB (nm z.max.s))++Tx.bestT ((someL l).map fun c=>nm c.s)=encS 3 l):=hid (by
     rw[HT.out,HE1.out,HE2.out,HE3.out];simp only[List.append_assoc])
    have HST:=hid (QcV w.heap.size b ([3]++encN (nullsL l)++(Tx.strB (nm z.min.s))++(Tx.strB (nm z.max.s))++Tx.bestT ((someL l).map fun c=>nm c.s)) w14 hbd14 (by simp) (by rw[HEN.out];exact QaS HCOL.out));clear hbd14 hw14 HW3 T13 BD13;dsimp only;go_wp2_with fail
    refine HST.out.mono ?_;rintro e w15 ⟨rfl,hb15⟩;have HF:Hid (PutX w 3 l (.returned (.tuple #[.string (strOfNums ([3]++encN (nullsL l)++(Tx.strB (nm z.min.s))++(Tx.strB (nm z.max.s))++Tx.bestT ((someL l).map fun c=>nm c.s))),.int .i64 0])) w15):=hid ⟨by rw[HR.out,HEN.out],(Qdu T14.out hb15).grown⟩;clear hb15 HST;dsimp only;go_wp2;go_ret2
    exact HF.out
 ·have q0:(E != 0)=true:=bne_iff_ne.2 h0;have HR:Hid (putS kind l=(E,[])):=hid (by unfold putS;rw[←hE,if_pos h0]);clear h0 hE;go_enter Tryz.func11,Tryz.ntmps11
  go_wp2_with fail
  refine HCK.out.mono ?_;rintro e w1 ⟨rfl,hg⟩;have HF:Hid (PutX w kind l (.returned (.tuple #[.string ⟨#[]⟩,.int .i64 E])) w1):=hid ⟨by rw[HR.out];rfl,hg⟩;clear hg;dsimp only;go_wp2;go_ret2
  exact HF.out
end Sg
namespace Sg
open Go.RowKit Go.Joins Zn Zr Dv
theorem Qni{s:List Int}{w w':World}{e:Ending}(h:HeadX w (headS s) e w'):∃(q:Hd) (p:Value) (E:Int),e=.returned (.tuple #[.agg #[.int .i64 q.kind,.slice q.a q.n q.c,.int .i64 q.z.cnt,.int .i64 q.z.nul,.int .i64 q.z.min.k,.int .i64 q.z.min.n,.string q.z.min.s,.int .i64 q.z.max.k,.int .i64 q.z.max.n,.string q.z.max.s],p,.int .i64 E])∧Turn w w' nowhere∧zoneS s=(q.kind,q.z,E):=by
 unfold zoneS;cases hh:headS s with
 |none=>
  rw[hh]at h;obtain⟨rfl,ht⟩:=h;exact⟨zeroH,_,_,rfl,ht,rfl⟩
 |some p=>
  obtain⟨k,nl,z,r⟩:=p;rw[hh]at h;obtain⟨a,c,b,g,rfl,_,_,_,_,_,_,_,ht⟩:=h;exact⟨⟨k,a,nl.length,c,z⟩,_,_,rfl,ht,rfl⟩
theorem Zone_any:ZoneC:=by
 intro s w hb hl;have hh0:=fun W=>(QdC s hb hl W).mono fun e w' h=>Qni h
 obtain⟨K,Z,E,hz⟩:∃K Z E,zoneS s=(K,Z,E):=⟨_,_,_,rfl⟩;rw[hz]at hh0 ⊢;have HH:=hid hh0;clear hh0 hz;dsimp only;obtain⟨S,hS⟩:∃S,strOfNums s=S:=⟨_,rfl⟩;rw[hS]at HH ⊢;have hz0:=hid (ZB.new w zeroZ);have HT0:=hid (Turn.alloc w (.cells #[.int .i64 zeroZ.cnt,.int .i64 zeroZ.nul,.int .i64 zeroZ.min.k,.int .i64 zeroZ.min.n,.string zeroZ.min.s,.int .i64 zeroZ.max.k,.int .i64 zeroZ.max.n,.string zeroZ.max.s] 33) nowhere);clear hS hb hl;go_enter Tryz.func13,Tryz.ntmps13
 go_wp2_with fail
 refine(HH.out _).mono ?_;rintro e w1 ⟨q,p,E1,rfl,ht1,hzs⟩;obtain⟨rfl,h2⟩:=Prod.mk.inj hzs;obtain⟨rfl,rfl⟩:=Prod.mk.inj h2;clear h2;have T1:=hid (HT0.out.trans ht1 (fun _ _ h=>h));have Z1:=hid (hz0.out.old ht1.grown);clear hzs ht1 hz0 HT0 HH;dsimp only;go_upto_region 2 with (fail)
 obtain⟨W2,hW2⟩:∃V,w1.alloc (.cells #[.int .i64 q.kind,.slice q.a q.n q.c,.int .i64 q.z.cnt,.int .i64 q.z.nul,.int .i64 q.z.min.k,.int .i64 q.z.min.n,.string q.z.min.s,.int .i64 q.z.max.k,.int .i64 q.z.max.n,.string q.z.max.s] 69)=V:=⟨_,rfl⟩;obtain⟨g,hg⟩:∃g,g=w1.heap.size:=⟨_,rfl⟩;rw[hW2,←hg];have H2:Hid (HB W2 g q):=hid (by rw[←hW2,hg];exact heap_alloc_new w1 _);have T2:Hid (Turn w W2 nowhere):=hid (by rw[←hW2];exact T1.out.trans (Turn.alloc _ _ _) (fun _ _ h=>h));have Z2:Hid (ZB W2 w.heap.size zeroZ):=hid (by rw[←hW2];exact Z1.out.old (Qb _ _));have hgw:w.heap.size≠g:=by have:=Z1.out.lt;omega
 clear hW2 hg T1 Z1;obtain⟨d0,d1,d2,d3,d4,d5,d6,d7,d8,d9⟩:=H2.out.cellsAt;obtain⟨z0,z1,⟨z2,z3,z4⟩,z5,z6,z7⟩:=Z2.out.cells;have f0:=ZB.froz Z2.out 0;have f1:=ZB.froz Z2.out 1;have f2:=ZB.froz Z2.out 2;have f3:=ZB.froz Z2.out 3;have f4:=ZB.froz Z2.out 4;have f5:=ZB.froz Z2.out 5;have f6:=ZB.froz Z2.out 6;have f7:=ZB.froz Z2.out 7;go_region
 have hz9:=ZB.setAll Z2.out q.z;have ht9:=QcB W2 w.heap.size q.z;obtain⟨W9,hW9⟩:∃V,((((((((W2.setCell ⟨w.heap.size,0,none⟩ (.int .i64 q.z.cnt)).setCell ⟨w.heap.size,1,none⟩ (.int .i64 q.z.nul)).setCell ⟨w.heap.size,2,none⟩ (.int .i64 q.z.min.k)).setCell ⟨w.heap.size,3,none⟩ (.int .i64 q.z.min.n)).setCell ⟨w.heap.size,4,none⟩ (.string q.z.min.s)).setCell ⟨w.heap.size,5,none⟩ (.int .i64 q.z.max.k)).setCell ⟨w.heap.size,6,none⟩ (.int .i64 q.z.max.n)).setCell ⟨w.heap.size,7,none⟩ (.string q.z.max.s))=V:=⟨_,rfl⟩;rw[hW9]at hz9 ht9 ⊢;have HZ9:Hid (ZB W9.drew w.heap.size q.z):=hid hz9;have HT9:Hid (w.grownBy W9.drew none):=hid (Ql T2.out.grown (ht9.trans (Turn.drew W9 _) (fun _ _ h=>h)) (Nat.le_refl _));clear hW9 hz9 ht9 d0 d1 d2 d3 d4 d5 d6 d7 d8 d9 z0 z1 z2 z3 z4 z5 z6 z7 f0 f1 f2 f3 f4 f5 f6 f7;go_wp2;exact bodyPost_ret (QdE rfl _ _ w.heap.size _ _ (0,0) _ rfl HZ9.out Tryz.underlying33 rfl QbG) rfl ⟨rfl,HT9.out⟩
end Sg
end Go.Proofs.YtljanfnhmhimiaaGreat
