/- Parts of the proof. -/
import Derived.Test.YtgffbbdcbkikhaaGreatDoorKbM
import Derived.Test.YtgffbbdcbkikhaaGreatDoorKbS
set_option maxRecDepth 100000
set_option maxHeartbeats 8000000
open Go.Lib (hid)
namespace Go.Proofs.YtgffbbdcbkikhaaGreatDoor
namespace Su
open Go.RowKit Bs Dv Gr
open Fr (Qg kindF FmOk fmE fmV Fm)
def GotX(w:World)(r:Sup×Int)(e:Ending)(w':World):Prop:=
 w.grownBy w' none∧∃(a:Option Addr) (n c:Nat),e=.returned (.tuple #[.agg #[.int .u64 r.1.gen,.int .i64 r.1.size,.int .i64 r.1.blocks,.int .u32 r.1.root,.slice a n c],.int .i64 r.2])∧Ws.Seg w' a n c r.1.pages∧∀ad,a=some ad→w.heap.size≤ad.block
theorem GotX.no{w w':World}{E:Int}(hg:w.grownBy w' none):GotX w (zeroS,E) (.returned (.tuple #[.agg #[.int .u64 0,.int .i64 0,.int .i64 0,.int .u32 0,.slice none 0 0],.int .i64 E])) w':=
 ⟨hg,none,0,0,rfl,Ws.Seg.nil w',fun _ h=>by cases h⟩
theorem Q9(B:List Int)(w:World)(hB:Bs.IsB B)(hlen:B.length≤1000000)(hT:T4 w) :
  Calls Tryz.prog 99 #[.string (strOfNums B)] w (GotX w (getS B)):=by
 have S0:=SB.new w zeroS none 0 0;have G0:=Qb w (.cells #[.int .u64 0,.int .i64 0,.int .i64 0,.int .u32 0,.slice none 0 0] 92);have S0:SB (w.alloc (.cells #[.int .u64 0,.int .i64 0,.int .i64 0,.int .u32 0,.slice none 0 0] 92)) w.heap.size zeroS none 0 0:=S0;obtain⟨W0,hW0⟩:∃X,w.alloc (.cells #[.int .u64 0,.int .i64 0,.int .i64 0,.int .u32 0,.slice none 0 0] 92)=X:=⟨_,rfl⟩;rw[hW0]at S0 G0;have HS0:=hid S0;have HG0:=hid G0;have HK:=hid (Fr.Qf9 B 1 W0 hB hlen);have HP:Hid (getS B=getP B):=hid (QiT hB);have hko:(kindF B 1).2=0→FmOk (1,(kindF B 1).1.2.1,(kindF B 1).1.2.2)∧(kindF B 1).1.2.2.length≤4096:=fun h=>⟨QeL hB h,by
  have h1:=Qga hB h;have h2:=(Qde h).2.1;omega⟩
 have hL:(strOfNums B).size=B.length:=strOfNums_size B;have HT:=hid hT;unfold getP at HP;obtain⟨⟨⟨t,g,d⟩,E⟩,hk⟩:∃r,kindF B 1=r:=⟨_,rfl⟩;rw[hk]at HK HP hko;dsimp only at HP hko;have HKO:=hid hko;obtain⟨S,hS⟩:∃S,strOfNums B=S:=⟨_,rfl⟩;rw[hS]at HK hL ⊢;obtain⟨R,hR⟩:∃R,getS B=R:=⟨_,rfl⟩;rw[hR]at HP ⊢;obtain⟨m,hm⟩:∃m,B.length=m:=⟨_,rfl⟩;rw[hm]at HP hL;clear hB hlen hT S0 G0 hko hk hS hR hm;go_enter Tryz.func99,Tryz.ntmps99
 go_wp2_with fail
 refine HK.out.mono ?_;rintro e w1 ⟨rfl,hg⟩;have HG1:=hid (Qa HG0.out (Qa hg (Qb w1 (.cells #[.int .u8 t,.int .u64 g,.string (strOfNums d)] 132))));have HS1:=hid (HS0.out.old (Qa hg (Qb w1 (.cells #[.int .u8 t,.int .u64 g,.string (strOfNums d)] 132))));have HF1:=hid (heap_alloc_new w1 (.cells #[.int .u8 t,.int .u64 g,.string (strOfNums d)] 132));have hw1:w.heap.size<W0.heap.size:=by rw[←hW0];simp
 have hw2:W0.heap.size≤w1.heap.size:=hg.size;obtain⟨W1,hW1⟩:∃X,w1.alloc (.cells #[.int .u8 t,.int .u64 g,.string (strOfNums d)] 132)=X:=⟨_,rfl⟩;rw[hW1]at HG1 HS1 HF1;clear hg HG0 HS0 HK hW0;simp only[fmE,fmV];by_cases h0:E=0
 ·obtain⟨hfm,hdl⟩:=HKO.out h0;have HRD:=hid (Qb8 t g d W1 hfm.2.2 hdl (HT.out.grown HG1.out));have HRO:=hid (Qhv hfm);rw[if_neg (fun h=>h h0)]at HP;subst h0;obtain⟨D,hD⟩:∃D,strOfNums d=D:=⟨_,rfl⟩;rw[hD]at HRD HF1 hW1 ⊢;have f0:W1.cell? ⟨w1.heap.size,0,none⟩=some (.int .u8 t):=by rw[cell_of_row _ _ _ _ _ _ HF1.out];rfl
  have f1:W1.cell? ⟨w1.heap.size,1,none⟩=some (.int .u64 g):=by rw[cell_of_row _ _ _ _ _ _ HF1.out];rfl
  have f2:W1.cell? ⟨w1.heap.size,2,none⟩=some (.string D):=by rw[cell_of_row _ _ _ _ _ _ HF1.out];rfl
  clear hfm hdl hD;go_wp2_with fail
  refine HRD.out.mono ?_;rintro e w2 ⟨hg2,s,a,n,c,rfl,hx⟩;have hg3:=Qa hg2 (Qb w2 (.cells #[.int .u64 s.gen,.int .i64 s.size,.int .i64 s.blocks,.int .u32 s.root,.slice a n c] 92));have HG3:=hid (Qa HG1.out hg3);have HS3:=hid (HS1.out.old hg3);have HB3:=hid (SB.new w2 s a n c);have hsz:=HG1.out.size;have hsz2:=hg2.size;have hgl:w.heap.size<w2.heap.size:=by
   have h1:w1.heap.size<W1.heap.size:=block_lt HF1.out;omega
  obtain⟨W3,hW3⟩:∃X,w2.alloc (.cells #[.int .u64 s.gen,.int .i64 s.size,.int .i64 s.blocks,.int .u32 s.root,.slice a n c] 92)=X:=⟨_,rfl⟩;have HXA:Hid (OkD g d→s=readS g d∧Ws.Seg W3 a n c s.pages∧∀ad,a=some ad→w.heap.size<ad.block):=hid (fun h=>by
   have h4:w1.heap.size<W1.heap.size:=block_lt HF1.out;obtain⟨h1,h2,h3⟩:=hx h;refine⟨h1,h2.grown (by rw[←hW3];exact Qb _ _),fun ad had=>?_⟩;have:=h3 ad had;omega)
  rw[hW3]at HG3 HS3 HB3;have HW3:=hid hW3;clear hg2 hg3 hx hsz hsz2 hW1 f0 f1 f2 HG1 HS1 HF1 HRD hW3;dsimp only;go_upto_region 5 with (fail)
  rw[HW3.out];have hpt:SB W3 w2.heap.size s a n c:=HB3.out;obtain⟨b0,b1,b2,b3,b4⟩:=HB3.out.cells;obtain⟨r,hr⟩:∃r,decide (OkD g d)=r:=⟨_,rfl⟩;rw[hr];clear HW3 hpt;cases r with
  |false=>
   have hR:R=(zeroS,4):=by rw[HP.out,if_pos (of_decide_eq_false hr)]
   subst hR;clear hr HXA HP;go_wp2_with (first
    |(with_reducible refine QC rfl (.tmp 2) (.tmp 37) rfl w.heap.size rfl zeroS none 0 0 rfl zeroS none 0 0 HS3.out ?_;intro w6 hq6 ht6)
    |fail)
   refine bodyPost_ret (Qw rfl _ _ _ _ _ _ _ rfl hq6 (.int .i64 4) rfl) rfl (GotX.no (Qh HG3.out ht6 (Nat.le_refl _)))
  |true=>
   have hod:OkD g d:=of_decide_eq_true hr;obtain⟨hs,hseg,hnew⟩:=HXA.out hod;have HP2:Hid (R=if s.size≠(m:Int) then(zeroS,4) else if supE s≠0 then(zeroS,4) else(s,0)):=hid (by rw[HP.out,if_neg (fun h=>h hod),hs]);have HSO:Hid (SupOk s):=hid (by rw[hs];exact HRO.out);have HCK:=hid (Qc4 s a n c W3 hseg HSO.out);have HSG:=hid hseg;have HNW:=hid hnew;clear hr HXA HP hod hs hseg hnew HRO HKO;by_cases h1:s.size=(m:Int)
   ·have q1:(s.size != (m:Int))=false:=by rw[h1];simp
    have HP3:Hid (R=if supE s≠0 then(zeroS,4) else(s,0)):=hid (by rw[HP2.out,if_neg (fun h=>h h1)]);obtain⟨E2,hE2⟩:∃E2,supE s=E2:=⟨_,rfl⟩;rw[hE2]at HP3 HCK;clear h1 HP2 hE2;by_cases h2:E2=0
    ·have hR:R=(s,0):=by rw[HP3.out,if_neg (fun h=>h h2)]
     subst hR h2;clear HP3;go_wp2_with fail
     refine HCK.out.mono ?_;rintro e w4 ⟨rfl,hg4⟩;have HG4:=hid (Qa HG3.out hg4);have HS4:=hid (HS3.out.old hg4);have HB4:=hid (HB3.out.old hg4);have HSG4:=hid (HSG.out.grown hg4);obtain⟨p0,p1,p2,p3,p4⟩:=HB4.out.cells;clear hg4 b0 b1 b2 b3 b4 HCK HG3 HS3 HB3 HSG;dsimp only;go_wp2_with (first
      |(with_reducible refine QC rfl (.tmp 2) (.tmp 38) rfl w.heap.size rfl s a n c rfl zeroS none 0 0 HS4.out ?_;intro w6 hq6 ht6)
      |fail)
     refine bodyPost_ret (Qw rfl _ _ _ _ _ _ _ rfl hq6 (.int .i64 0) rfl) rfl ⟨Qh HG4.out ht6 (Nat.le_refl _),a,n,c,rfl,HSG4.out.kept (Q7 ht6) (fun ad had e=>by
      have h1:=HNW.out ad had;have h2:=Option.some.inj e;omega),fun ad had=>Nat.le_of_lt (HNW.out ad had)⟩
    ·have hR:R=(zeroS,4):=by rw[HP3.out,if_pos h2]
     subst hR;have q2:(E2 != 0)=true:=bne_iff_ne.2 h2;clear HP3 h2;go_wp2_with fail
     refine HCK.out.mono ?_;rintro e w4 ⟨rfl,hg4⟩;have HG4:=hid (Qa HG3.out hg4);have HS4:=hid (HS3.out.old hg4);clear hg4 b0 b1 b2 b3 b4 HCK HG3 HS3 HB3 HSG;dsimp only;go_wp2_with (first
      |(with_reducible refine QC rfl (.tmp 2) (.tmp 37) rfl w.heap.size rfl zeroS none 0 0 rfl zeroS none 0 0 HS4.out ?_;intro w6 hq6 ht6)
      |fail)
     refine bodyPost_ret (Qw rfl _ _ _ _ _ _ _ rfl hq6 (.int .i64 4) rfl) rfl (GotX.no (Qh HG4.out ht6 (Nat.le_refl _)))
   ·have q1:(s.size != (m:Int))=true:=bne_iff_ne.2 h1;have hR:R=(zeroS,4):=by rw[HP2.out,if_pos h1]
    subst hR;clear h1 HP2 HCK;go_wp2_with (first
     |(with_reducible refine QC rfl (.tmp 2) (.tmp 37) rfl w.heap.size rfl zeroS none 0 0 rfl zeroS none 0 0 HS3.out ?_;intro w6 hq6 ht6)
     |fail)
    refine bodyPost_ret (Qw rfl _ _ _ _ _ _ _ rfl hq6 (.int .i64 4) rfl) rfl (GotX.no (Qh HG3.out ht6 (Nat.le_refl _)))
 ·have hR:R=(zeroS,E):=by rw[HP.out,if_pos h0]
  subst hR;have q0:(E != 0)=true:=bne_iff_ne.2 h0;clear h0 HP HKO;have f0:W1.cell? ⟨w1.heap.size,0,none⟩=some (.int .u8 t):=by rw[cell_of_row _ _ _ _ _ _ HF1.out];rfl
  go_wp2_with (first
   |(with_reducible refine QC rfl (.tmp 2) (.tmp 15) rfl w.heap.size rfl zeroS none 0 0 rfl zeroS none 0 0 HS1.out ?_;intro w6 hq6 ht6)
   |fail)
  refine bodyPost_ret (Qw rfl _ _ _ _ _ _ _ rfl hq6 (.int .i64 E) rfl) rfl (GotX.no (Qh HG1.out ht6 (Nat.le_refl _)))
end Su
namespace Su
open Go.RowKit Bs Dv Gr
open Fr (Qg)
theorem SB.setAll{w:World}{g:Nat}{s:Sup}{a:Option Addr}{n c:Nat}(h:SB w g s a n c)(t:Sup)(p:Option Addr)(m k:Nat) :
  SB (((((w.setCell ⟨g,0,none⟩ (.int .u64 t.gen)).setCell ⟨g,1,none⟩ (.int .i64 t.size)).setCell ⟨g,2,none⟩ (.int .i64 t.blocks)).setCell ⟨g,3,none⟩ (.int .u32 t.root)).setCell ⟨g,4,none⟩ (.slice p m k)) g t p m k:=by
 have h1:=Go.heap_setCell_same w g 0 _ _ (.int .u64 t.gen) h;have h2:=Go.heap_setCell_same _ g 1 _ _ (.int .i64 t.size) h1;have h3:=Go.heap_setCell_same _ g 2 _ _ (.int .i64 t.blocks) h2;have h4:=Go.heap_setCell_same _ g 3 _ _ (.int .u32 t.root) h3;exact Go.heap_setCell_same _ g 4 _ _ (.slice p m k) h4
theorem Qfx(w:World)(g:Nat)(v0 v1 v2 v3 v4:Value):Turn w (((((w.setCell ⟨g,0,none⟩ v0).setCell ⟨g,1,none⟩ v1).setCell ⟨g,2,none⟩ v2).setCell ⟨g,3,none⟩ v3).setCell ⟨g,4,none⟩ v4) (·=g):=
 ((((Turn.setCell w _ _ (S:=(·=g)) rfl).trans (Turn.setCell _ _ _ (S:=(·=g)) rfl) (fun _ _ e=>e)).trans (Turn.setCell _ _ _ (S:=(·=g)) rfl) (fun _ _ e=>e)).trans (Turn.setCell _ _ _ (S:=(·=g)) rfl) (fun _ _ e=>e)).trans (Turn.setCell _ _ _ (S:=(·=g)) rfl) (fun _ _ e=>e)
def ChoseX(w:World)(r:Int×Sup×Int)(e:Ending)(w':World):Prop:=
 w.grownBy w' none∧∃(a:Option Addr) (n c:Nat),e=.returned (.tuple #[.int .i64 r.1,.agg #[.int .u64 r.2.1.gen,.int .i64 r.2.1.size,.int .i64 r.2.1.blocks,.int .u32 r.2.1.root,.slice a n c],.int .i64 r.2.2])∧Ws.Seg w' a n c r.2.1.pages∧∀ad,a=some ad→w.heap.size≤ad.block
def stS(A B:List Int):Nat→Int×Sup×Int
 |0=>(-1,zeroS,10)
 |1=>pickS 0 A (-1,zeroS,10)
 |_=>pickS 1 B (pickS 0 A (-1,zeroS,10))
theorem QhO(A B:List Int)(w:World)(hA:Bs.IsB A)(hB:Bs.IsB B)(hlA:A.length≤1000000)(hlB:B.length≤1000000)(hT:T4 w) :
  Calls Tryz.prog 59 #[.string (strOfNums A),.string (strOfNums B)] w (ChoseX w (chooseS A B)):=by
 have S0:SB (w.alloc (.cells #[.int .u64 0,.int .i64 0,.int .i64 0,.int .u32 0,.slice none 0 0] 92)) w.heap.size zeroS none 0 0:=SB.new w zeroS none 0 0;have G0:=Qb w (.cells #[.int .u64 0,.int .i64 0,.int .i64 0,.int .u32 0,.slice none 0 0] 92);obtain⟨W0,hW0⟩:∃X,w.alloc (.cells #[.int .u64 0,.int .i64 0,.int .i64 0,.int .u32 0,.slice none 0 0] 92)=X:=⟨_,rfl⟩;rw[hW0]at S0 G0;have HS0:=hid S0;have HG0:=hid G0;have HT:=hid hT;have HCH:Hid (chooseS A B=stS A B 2):=hid (QiG hA hB).symm;have HGA:Hid (∀k:Nat,k<2→∀W,T4 W→Calls Tryz.prog 99 #[.string (strOfNums ([A,B].getD k []))] W (GotX W (getS ([A,B].getD k [])))):=hid (fun k hk W hW=>by
  rcases(show k=0∨k=1 by omega) with rfl|rfl
  ·exact Q9 A W hA hlA hW
  ·exact Q9 B W hB hlB hW)
 have HIX:Hid (∀k:Nat,k<2→∀W,(Instr.index 158 (.agg #[.string (strOfNums A),.string (strOfNums B)]) (.int .i64 (k:Int))).run Tryz.prog W=.ok (.string (strOfNums ([A,B].getD k []))) W):=hid (fun k hk W=>by
  rcases(show k=0∨k=1 by omega) with rfl|rfl <;> rfl)
 have HST:Hid (∀k:Nat,k<2→stS A B (k+1)=pickS (k:Int) ([A,B].getD k []) (stS A B k)):=hid (fun k hk=>by
  rcases(show k=0∨k=1 by omega) with rfl|rfl <;> rfl)
 obtain⟨SA,hSA⟩:∃S,strOfNums A=S:=⟨_,rfl⟩;obtain⟨SX,hSX⟩:∃S,strOfNums B=S:=⟨_,rfl⟩;rw[hSA,hSX]at HIX ⊢;obtain⟨st,hst⟩:∃st,stS A B=st:=⟨_,rfl⟩;have HS00:Hid (st 0=(-1,zeroS,10)):=hid (by rw[←hst];rfl);rw[hst]at HCH HST;obtain⟨R,hR⟩:∃R,chooseS A B=R:=⟨_,rfl⟩;rw[hR]at HCH ⊢;have hwl:w.heap.size<W0.heap.size:=by rw[←hW0];simp
 clear hA hB hlA hlB hT S0 G0 hSA hSX hst hR;go_enter Tryz.func59,Tryz.ntmps59
 go_wp2;clear hW0
 go_loopw [4,6,14] (fun s4 s6 si wr=>∃(k:Nat) (z1 z3:Int) (z2:Sup) (a:Option Addr) (n c:Nat),k≤2∧si=.int .i64 k∧s4=.int .i64 z1∧s6=.int .i64 z3∧Hid (st k=(z1,z2,z3))∧Hid (SB wr w.heap.size z2 a n c)∧Hid (w.grownBy wr none)∧Hid (w.heap.size<wr.heap.size)∧Hid (Ws.Seg wr a n c z2.pages∧∀ad,a=some ad→w.heap.size<ad.block)) (fun _ _ si _=>2-(intOf si).toNat)
 case atStart=>exact⟨0,-1,10,zeroS,none,0,0,by omega,rfl,rfl,rfl,HS00,HS0,HG0,hid hwl,hid ⟨Ws.Seg.nil _,fun _ h=>by cases h⟩⟩
 case round=>
  clear HS0 HG0;obtain⟨k,z1,z3,z2,a,n,c,hk,rfl,rfl,rfl,HZ,HS,HG,HLW,HP⟩:=hrel;by_cases hlt:k<2
  ·have hix:=HIX.out k hlt;have HGE:=hid (HGA.out k hlt wr (HT.out.grown HG.out));have HSTk:=hid (HST.out k hlt);obtain⟨X,hX⟩:∃X,[A,B].getD k []=X:=⟨_,rfl⟩;rw[hX]at hix HGE HSTk;rw[HZ.out]at HSTk;obtain⟨⟨t,E⟩,hE⟩:∃r,getS X=r:=⟨_,rfl⟩;have HPK:Hid (st (k+1)=if E=0∧z2.gen<t.gen then((k:Int),t,0) else(z1,z2,z3)):=hid (by rw[HSTk.out];unfold pickS;rw[hE]);rw[hE]at HGE;obtain⟨SQ,hSQ⟩:∃S,strOfNums X=S:=⟨_,rfl⟩;rw[hSQ]at hix HGE;clear hX hE hSQ HSTk HZ;go_wp2_with fail
   refine HGE.out.mono ?_;rintro e w1 ⟨hg1,p,m,q,rfl,hseg,hnew⟩;dsimp only;go_upto_region 6 with (fail)
   have hg2:=Qa hg1 (Qb w1 (.cells #[.int .u64 t.gen,.int .i64 t.size,.int .i64 t.blocks,.int .u32 t.root,.slice p m q] 92));have HB2:=hid (SB.new w1 t p m q);have HG2:=hid (Qa HG.out hg2);have HS2:=hid (HS.out.old hg2);have hlw:=HLW.out;have hsz1:wr.heap.size≤w1.heap.size:=hg1.size;have HP2:=hid (⟨HP.out.1.grown hg2,HP.out.2⟩:Ws.Seg _ a n c z2.pages∧∀ad,a=some ad→w.heap.size<ad.block);have HQ2:Hid (Ws.Seg (w1.alloc (.cells #[.int .u64 t.gen,.int .i64 t.size,.int .i64 t.blocks,.int .u32 t.root,.slice p m q] 92)) p m q t.pages∧∀ad,p=some ad→w.heap.size<ad.block):=hid ⟨hseg.grown (Qb _ _),fun ad had=>by have:=hnew ad had;omega⟩;have hsz2:(w1.alloc (.cells #[.int .u64 t.gen,.int .i64 t.size,.int .i64 t.blocks,.int .u32 t.root,.slice p m q] 92)).heap.size=w1.heap.size+1:=by simp
   obtain⟨W2,hW2⟩:∃X,w1.alloc (.cells #[.int .u64 t.gen,.int .i64 t.size,.int .i64 t.blocks,.int .u32 t.root,.slice p m q] 92)=X:=⟨_,rfl⟩;rw[hW2]at HB2 HG2 HS2 HP2 HQ2 hsz2 ⊢;have hl2:w.heap.size<W2.heap.size:=by omega
   have hne:w1.heap.size≠w.heap.size:=by omega
   have HL2:=hid hl2;obtain⟨b0,b1,b2,b3,b4⟩:=HB2.out.cells;obtain⟨d0,d1,d2,d3,d4⟩:=HS2.out.cells;clear hg1 hg2 hseg hnew hsz1 hsz2 hlw hW2 hl2 HG HS HP HLW HGE hix;by_cases h0:E=0
   ·by_cases h1:z2.gen<t.gen
    ·have HK:Hid (st (k+1)=((k:Int),t,0)):=hid (by rw[HPK.out,if_pos ⟨h0,h1⟩]);have q1:decide (z2.gen<t.gen)=true:=decide_eq_true h1;subst h0;clear h1 HPK;have f0:=HS2.out.froz 0;have f1:=HS2.out.froz 1;have f2:=HS2.out.froz 2;have f3:=HS2.out.froz 3;have f4:=HS2.out.froz 4;go_wp2;go_region
     have hz9:=HS2.out.setAll t p m q;have ht9:=Qfx W2 w.heap.size (.int .u64 t.gen) (.int .i64 t.size) (.int .i64 t.blocks) (.int .u32 t.root) (.slice p m q);obtain⟨W9,hW9⟩:∃V,(((((W2.setCell ⟨w.heap.size,0,none⟩ (.int .u64 t.gen)).setCell ⟨w.heap.size,1,none⟩ (.int .i64 t.size)).setCell ⟨w.heap.size,2,none⟩ (.int .i64 t.blocks)).setCell ⟨w.heap.size,3,none⟩ (.int .u32 t.root)).setCell ⟨w.heap.size,4,none⟩ (.slice p m q))=V:=⟨_,rfl⟩;rw[hW9]at hz9 ht9 ⊢;have ht10:Turn W2 W9.drew (·=w.heap.size):=ht9.trans (Turn.drew W9 _) (fun _ _ h=>h);have HS9:Hid (SB W9.drew w.heap.size t p m q):=hid hz9;have HG9:=hid (Qh HG2.out ht10 (Nat.le_refl _));have HL9:Hid (w.heap.size<W9.drew.heap.size):=hid (Nat.lt_of_lt_of_le HL2.out ht10.size);have HQ9:Hid (Ws.Seg W9.drew p m q t.pages∧∀ad,p=some ad→w.heap.size<ad.block):=hid ⟨HQ2.out.1.kept (Q7 ht10) (fun ad had e=>by have h1:=HQ2.out.2 ad had;have h2:=Option.some.inj e;omega),HQ2.out.2⟩;clear hW9 hz9 ht9 ht10 f0 f1 f2 f3 f4 d0 d1 d2 d3 d4 b0 b1 b2 b3 b4 HS2 HG2 HL2 HP2 HQ2 HB2;go_wp2;go_roundw
     case rel=>exact⟨k+1,k,0,t,p,m,q,by omega,by go_num,rfl,rfl,HK,HS9,HG9,HL9,HQ9⟩
     case measure=>simp[intOf];omega
    ·have HK:Hid (st (k+1)=(z1,z2,z3)):=hid (by rw[HPK.out,if_neg (fun h=>h1 h.2)]);have q1:decide (z2.gen<t.gen)=false:=decide_eq_false h1;subst h0;clear h1 HPK;go_wp2;go_roundw
     case rel=>exact⟨k+1,z1,z3,z2,a,n,c,by omega,by go_num,rfl,rfl,HK,HS2,HG2,HL2,HP2⟩
     case measure=>simp[intOf];omega
   ·have HK:Hid (st (k+1)=(z1,z2,z3)):=hid (by rw[HPK.out,if_neg (fun h=>h0 h.1)]);have q1:(E==0)=false:=beq_eq_false_iff_ne.2 h0;clear h0 HPK;go_wp2;go_roundw
    case rel=>exact⟨k+1,z1,z3,z2,a,n,c,by omega,by go_num,rfl,rfl,HK,HS2,HG2,HL2,HP2⟩
    case measure=>simp[intOf];omega
  ·obtain rfl:k=2:=by omega
   have hR:R=(z1,z2,z3):=by rw[HCH.out,HZ.out]
   subst hR;obtain⟨d0,d1,d2,d3,d4⟩:=HS.out.cells;have f0:=HS.out.froz 0;have f1:=HS.out.froz 1;have f2:=HS.out.froz 2;have f3:=HS.out.froz 3;have f4:=HS.out.froz 4;clear HZ HCH HST HIX HGA;go_wp2;go_region
   have hz9:=HS.out.setAll z2 a n c;have ht9:=Qfx wr w.heap.size (.int .u64 z2.gen) (.int .i64 z2.size) (.int .i64 z2.blocks) (.int .u32 z2.root) (.slice a n c);obtain⟨W9,hW9⟩:∃V,(((((wr.setCell ⟨w.heap.size,0,none⟩ (.int .u64 z2.gen)).setCell ⟨w.heap.size,1,none⟩ (.int .i64 z2.size)).setCell ⟨w.heap.size,2,none⟩ (.int .i64 z2.blocks)).setCell ⟨w.heap.size,3,none⟩ (.int .u32 z2.root)).setCell ⟨w.heap.size,4,none⟩ (.slice a n c))=V:=⟨_,rfl⟩;rw[hW9]at hz9 ht9 ⊢;have ht10:Turn wr W9.drew (·=w.heap.size):=ht9.trans (Turn.drew W9 _) (fun _ _ h=>h);have HS9:Hid (SB W9.drew w.heap.size z2 a n c):=hid hz9;have HF:Hid (ChoseX w (z1,z2,z3) (.returned (.tuple #[.int .i64 z1,.agg #[.int .u64 z2.gen,.int .i64 z2.size,.int .i64 z2.blocks,.int .u32 z2.root,.slice a n c],.int .i64 z3])) W9.drew):=hid ⟨Qh HG.out ht10 (Nat.le_refl _),a,n,c,rfl,
    HP.out.1.kept (Q7 ht10) (fun ad had e=>by have h1:=HP.out.2 ad had;have h2:=Option.some.inj e;omega),fun ad had=>Nat.le_of_lt (HP.out.2 ad had)⟩
   clear hW9 hz9 ht9 ht10 f0 f1 f2 f3 f4 d0 d1 d2 d3 d4 HS HG HLW HP;go_wp2;exact bodyPost_ret (Qez rfl _ _ w.heap.size z2 a n c (.int .i64 z1) (.int .i64 z3) rfl HS9.out rfl rfl) rfl HF.out
end Su
namespace Su
open Go.RowKit Bs Dv Gr
open Fr (getF kindF none3 strE blk)
theorem QlN{s:Sup}:Bs.IsB (putS s).1:=by
 by_cases h:supE s=0
 ·rw[Qu h];exact Fr.QaD _ _ _ _ ⟨by decide,by decide⟩ (QaZ s)
 ·rw[Qb7 h];exact fun x hx=>by cases hx
theorem QkI{s:Sup}(h:supE s=0):((putS s).1.length:Int)=s.size:=by
 obtain⟨hv,hr⟩:=Qaq h;have hg:=QR hv.1;have hf:=Qbn hv.1;have hl:=Qax s;unfold Fr.Fits at hf;rw[Qu h]
 show((blk s.size.toNat 1 s.gen (dataS s)).length:Int)=_
 rw[Fr.Qo _ _ _ _ (by omega)];omega
theorem Qju(s:Sup):(putS s).1.length≤4096:=by
 by_cases h:supE s=0
 ·have h1:=QkI h;have h2:=(Qaq h).1.1.2.1;omega
 ·rw[Qb7 h];show(0:Nat)≤4096;decide
end Su
namespace Cn
open Go.RowKit Bs Dv Gr
open Oct (putB ofB)
theorem QhM(l:List Int)(k:Nat)(hk:k<l.length):bytesC (l.take (k+1))=bytesC (l.take k)++putB 2 (l.getD k 0):=by
 rw[List.take_succ_eq_append_getElem hk,Qc3,List.getD_eq_getElem?_getD,List.getElem?_eq_getElem hk]
 show _++(putB 2 l[k]++[])=_
 rw[List.append_nil]
 rfl
def room8(S:Nat):Array Value:=madeCells (Value.int .u8 0).cells S
theorem QcT(S:Nat)(hS:S≤1000000)(W:World):(Instr.makeSlice 46 (.int .i64 0) (.int .i64 (S:Int))).run Tryz.prog W=.ok (.slice (some ⟨W.heap.size,0,none⟩) 0 S) (W.alloc (.cells (room8 S) 5)):=by
 obtain⟨i0,hi,hz0,hz1,hz2⟩:=info_parts QU;have h:=run_make (P:=Tryz.prog) W 46 5 i0 (.int .u8 0) Tryz.underlying46 hi hz0 .i64 .i64 0 (S:Int) (by omega) (by omega) (by rw[hz2];omega) (by omega);rw[hz1,Int.toNat_natCast,Nat.mul_one]at h;exact h
theorem Qdi(W:World)(S:Nat)(hS:S≤1000000):(W.alloc (.cells (room8 S) 5)).ownsRow W.heap.size 5 1 (.slice (some ⟨W.heap.size,0,none⟩) 0 S) 0 []:=
 World.ownsRow_made (base:=W.heap.size) (e:=5) (size:=1) W (room8 S) S (Nat.le_refl _) (by unfold maxLen;omega) (by unfold room8;rw[size_madeCells,Nat.mul_one])
theorem QbU(ad:Addr)(n c:Nat)(l:List Int)(w:World)(hs:Hs.Seg w (some ad) n c l)(hcn:IsC l)(hn:n≤4096) :
  Calls Tryz.prog 121 #[.slice (some ad) n c] w fun e w'=>e=.returned (.string (strOfNums (bytesC l)))∧w.grownBy w' none:=by
 obtain⟨i0,hi,hz0,hz1,hz2⟩:=info_parts QU;have hlen:=hs.len;have hcap:=hs.cap;have hle:=hs.le;unfold maxLen at hcap;have HSEG:=hid hs;have HPU:=hid (fun(v:Int) W (h0:0≤v) (h1:v<65536)=>Oct.Qu none 0 0 [] v 2 W (Seg.nil W) h0 (by omega) (by decide) (by decide) (by decide));have HBS:=hid (fun k (hk:k<n)=>QhM l k (by rw[hlen];exact hk));have HGT:Hid (∀j,j<n→0≤l.getD j 0∧l.getD j 0<65536):=hid (fun j hj=>hcn _ (by rw[List.getD_eq_getElem?_getD,List.getElem?_eq_getElem (by rw[hlen];exact hj)];exact List.getElem_mem _));have HLEN:=hid hlen;have HTA:Hid (bytesC (l.take n)=bytesC l):=hid (by rw[List.take_of_length_le (by omega)]);have HBL:=hid (fun k (hk:k≤n)=>(by rw[Qa8,List.length_take,hlen];omega:(bytesC (l.take k)).length=2*k));clear hs hcn hlen;have hmk:=QcT (2*n) (by omega);have e2:((2*n:Nat):Int)=2*(n:Int):=by omega
 rw[e2]at hmk;have HO0:=hid (Qdi w (2*n) (by omega));have HG0:=hid (Qb w (.cells (room8 (2*n)) 5));obtain⟨W1,hW1⟩:∃X,w.alloc (.cells (room8 (2*n)) 5)=X:=⟨_,rfl⟩;rw[hW1]at HO0 HG0;have HW1:=hid hW1;clear hW1;clear e2;go_enter Tryz.func121,Tryz.ntmps121
 go_wp2;rw[HW1.out]
 go_loopw [3,12] (fun s3 si wr=>∃(k g' c':Nat),k≤n∧si=.int .i64 k∧s3=.slice (some ⟨g',0,none⟩) (2*k) c'∧Hid (wr.ownsRow w.heap.size 5 1 (.slice (some ⟨g',0,none⟩) (2*k) c') (2*k) ((bytesC (l.take k)).map (Value.int .u8)))∧Hid (w.grownBy wr none)) (fun _ si _=>n-(intOf si).toNat)
 case atStart=>exact⟨0,w.heap.size,2*n,by omega,rfl,rfl,HO0,HG0⟩
 case round=>
  clear hmk HO0 HG0;obtain⟨k,g',c',hk,rfl,rfl,HO,HG⟩:=hrel;by_cases hlt:k<n
  ·have hq:decide (k<n)=true:=decide_eq_true hlt;have HS1:=hid (HSEG.out.grown HG.out);have hx:=HGT.out k hlt;have hcell:wr.cell? (ad.add k)=some (.int .u16 (l.getD k 0)):=HS1.out.at_ ad rfl k _ (by rw[List.getElem?_map,List.getElem?_eq_getElem (by rw[HLEN.out];exact hlt),List.getD_eq_getElem?_getD,List.getElem?_eq_getElem (by rw[HLEN.out];exact hlt)];rfl);have HB:=hid (HBS.out k hlt);obtain⟨x,hxx⟩:∃x,l.getD k 0=x:=⟨_,rfl⟩;rw[hxx]at hx hcell HB;have e1:IntKind.u64.wrap x=x:=by rw[IntKind.wrap_u64];omega
   have HP:=hid (HPU.out x wr hx.1 hx.2);rw[List.nil_append]at HP;have hlt4:k<4096:=by omega
   clear hxx hx;go_wp2_with fail
   refine HP.out.mono ?_;intro e w2 hnew;obtain⟨g2,q,rfl,hf⟩:=hnew.value;obtain⟨hq2,ho2,hg2⟩:=hf.is;rw[Oct.Qe]at hq2;subst hq2;have HSeg:=hid (Seg.own ho2);have HO2:=hid (HO.out.kept hg2 (.inr (fun e=>by cases e)));have HG2:=hid (Qa HG.out hg2);have hbase:w.heap.size≤w2.heap.size:=HG2.out.size;clear hnew hf ho2 hg2 HO HG HP;dsimp only;go_wp2_with (at_builtin;refine QaT rfl (.tmp 16) (.tmp 19) 46 rfl w.heap.size 5 i0 Tryz.underlying46 hi hz0 hz1 hz2 g' (2*k) c' ((bytesC (l.take k)).map (Value.int .u8)) rfl HO2.out (some ⟨g2,0,none⟩) 2 2 (putB 2 x) rfl HSeg.out (by omega) hbase ?_;intro g3 c3 w3 hown3 hgrow3;have HO3:=hid hown3;have HG3:=hid hgrow3;clear hown3 hgrow3)
   have HGN:Hid (w.grownBy w3 none):=hid (by
    have hb:w.heap.size≤g':=by
     rcases HO2.out.2 with ⟨e,_⟩|⟨g5,cap,cur,e,hb,_⟩
     ·cases e
     ·cases e;exact hb
    exact⟨HG3.out.os.trans HG2.out.os,HG3.out.tape.trans HG2.out.tape,HG3.out.output.trans HG2.out.output,Nat.le_trans HG2.out.size HG3.out.size,fun i hi _=>(HG3.out.block i (Nat.lt_of_lt_of_le hi HG2.out.size) (fun e=>by have:=Option.some.inj e;omega)).trans (HG2.out.block i hi (by simp))⟩)
   have HON:Hid (w3.ownsRow w.heap.size 5 1 (.slice (some ⟨g3,0,none⟩) (2*(k+1)) c3) (2*(k+1)) ((bytesC (l.take (k+1))).map (Value.int .u8))):=hid (by
    rw[HB.out,List.map_append];exact HO3.out)
   go_roundw
   case rel=>exact⟨k+1,g3,c3,by omega,by go_num,by rw[show 2*(k+1)=2*k+2 by omega],HON,HGN⟩
   case measure=>simp[intOf];omega
  ·have hq:decide (k<n)=false:=decide_eq_false hlt;obtain rfl:k=n:=by omega
   have hcv:=Qaw g' 0 (2*k) c' (bytesC l) wr (by
    have h:=HO.out;rw[HTA.out]at h;exact Reg.own h) (by have:=HBL.out k (Nat.le_refl _);rw[HTA.out]at this;exact this)
   obtain⟨S,hS⟩:∃S,strOfNums (bytesC l)=S:=⟨_,rfl⟩;rw[hS]at hcv;have HS:=hid hS;clear hS HO;go_wp2;go_ret
   exact⟨by rw[HS.out];rfl,HG.out⟩
end Cn
end Go.Proofs.YtgffbbdcbkikhaaGreatDoor
