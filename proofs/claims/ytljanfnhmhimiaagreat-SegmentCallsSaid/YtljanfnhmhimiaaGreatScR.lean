/- Parts of the proof. -/
import Derived.Deep.DeepCutAuto
import Derived.Test.YtljanfnhmhimiaaGreatScM
set_option maxRecDepth 100000
set_option maxHeartbeats 8000000
open Go.Lib (hid)
namespace Go.Proofs.YtljanfnhmhimiaaGreat
namespace Zn
open Go.RowKit Bs Dv
def Small(z:Zon):Prop:=0≤z.cnt∧z.cnt≤1000000∧0≤z.nul∧z.nul≤1000000
theorem ZB.froz{w:World}{g:Nat}{z:Zon}(h:ZB w g z)(j:Nat):w.frozen? ⟨g,j,none⟩=false:=by
 unfold ZB at h;simp[World.frozen?,h]
theorem ZB.setMin{w:World}{g:Nat}{z:Zon}(h:ZB w g z)(c:Cel):ZB (((w.setCell ⟨g,2,none⟩ (.int .i64 c.k)).setCell ⟨g,3,none⟩ (.int .i64 c.n)).setCell ⟨g,4,none⟩ (.string c.s)) g ⟨z.cnt,z.nul,c,z.max⟩:=
 Go.heap_setCell_same _ g 4 _ _ (.string c.s) (Go.heap_setCell_same _ g 3 _ _ (.int .i64 c.n) (Go.heap_setCell_same w g 2 _ _ (.int .i64 c.k) h))
theorem ZB.setMax{w:World}{g:Nat}{z:Zon}(h:ZB w g z)(c:Cel):ZB (((w.setCell ⟨g,5,none⟩ (.int .i64 c.k)).setCell ⟨g,6,none⟩ (.int .i64 c.n)).setCell ⟨g,7,none⟩ (.string c.s)) g ⟨z.cnt,z.nul,z.min,c⟩:=
 Go.heap_setCell_same _ g 7 _ _ (.string c.s) (Go.heap_setCell_same _ g 6 _ _ (.int .i64 c.n) (Go.heap_setCell_same w g 5 _ _ (.int .i64 c.k) h))
theorem ZB.not{w w':World}{g k:Nat}{z:Zon}(h:ZB w g z)(t:Turn w w' (·=k))(hne:g≠k):ZB w' g z:=Qk h t hne
theorem Q8(w:World)(g i j k:Nat)(x y z:Value):Turn w (((w.setCell ⟨g,i,none⟩ x).setCell ⟨g,j,none⟩ y).setCell ⟨g,k,none⟩ z) (·=g):=
 ((Turn.setCell w _ _ (S:=(·=g)) rfl).trans (Turn.setCell _ _ _ (S:=(·=g)) rfl) (fun _ _ e=>e)).trans (Turn.setCell _ _ _ (S:=(·=g)) rfl) (fun _ _ e=>e)
theorem Qnl(a b:Zon)(w:World)(ha:Small a)(hb:Small b):Calls Tryz.prog 56 #[.agg #[.int .i64 a.cnt,.int .i64 a.nul,.int .i64 a.min.k,.int .i64 a.min.n,.string a.min.s,.int .i64 a.max.k,.int .i64 a.max.n,.string a.max.s],.agg #[.int .i64 b.cnt,.int .i64 b.nul,.int .i64 b.min.k,.int .i64 b.min.n,.string b.min.s,.int .i64 b.max.k,.int .i64 b.max.n,.string b.max.s]] w fun e w'=>
  e=.returned (.agg #[.int .i64 (joinZ a b).cnt,.int .i64 (joinZ a b).nul,.int .i64 (joinZ a b).min.k,.int .i64 (joinZ a b).min.n,.string (joinZ a b).min.s,.int .i64 (joinZ a b).max.k,.int .i64 (joinZ a b).max.n,.string (joinZ a b).max.s])∧w.grownBy w' none:=by
 unfold Small at ha hb;have s1:IntKind.i64.wrap (a.cnt+b.cnt)=a.cnt+b.cnt:=IntWalk.i64_in _ (by omega);have s2:IntKind.i64.wrap (a.nul+b.nul)=a.nul+b.nul:=IntWalk.i64_in _ (by omega);have hs3:-9223372036854775808≤a.cnt+b.cnt∧a.cnt+b.cnt≤9223372036854775807:=by omega
 have hs4:-9223372036854775808≤a.nul+b.nul∧a.nul+b.nul≤9223372036854775807:=by omega
 have HC:=hid (fun W=>QdG a.min b.min W);have HD:=hid (fun W=>QdG a.max b.max W);obtain⟨z0,hz0⟩:∃z0:Zon,z0=⟨a.cnt+b.cnt,a.nul+b.nul,b.min,b.max⟩:=⟨_,rfl⟩;obtain⟨W0,hW0⟩:∃W0,(((w.alloc (.cells #[.int .i64 a.cnt,.int .i64 a.nul,.int .i64 a.min.k,.int .i64 a.min.n,.string a.min.s,.int .i64 a.max.k,.int .i64 a.max.n,.string a.max.s] 33)).alloc (.cells #[.int .i64 b.cnt,.int .i64 b.nul,.int .i64 b.min.k,.int .i64 b.min.n,.string b.min.s,.int .i64 b.max.k,.int .i64 b.max.n,.string b.max.s] 33)).alloc (.cells #[.int .i64 0,.int .i64 0,.int .i64 0,.int .i64 0,.string ⟨#[]⟩,.int .i64 0,.int .i64 0,.string ⟨#[]⟩] 33)).alloc (.cells #[.int .i64 (a.cnt+b.cnt),.int .i64 (a.nul+b.nul),.int .i64 b.min.k,.int .i64 b.min.n,.string b.min.s,.int .i64 b.max.k,.int .i64 b.max.n,.string b.max.s] 33)=W0:=⟨_,rfl⟩;have G0:Hid (w.grownBy W0 none):=hid (by rw[←hW0];exact Qa (Qa (Qa (Qb _ _) (Qb _ _)) (Qb _ _)) (Qb _ _));have A0:Hid (ZB W0 w.heap.size a):=hid (by rw[←hW0];exact(((ZB.new w a).old (Qb _ _)).old (Qb _ _)).old (Qb _ _));have B0:Hid (ZB W0 (w.heap.size+1) b):=hid (by
  have h:=ZB.new (w.alloc (.cells #[.int .i64 a.cnt,.int .i64 a.nul,.int .i64 a.min.k,.int .i64 a.min.n,.string a.min.s,.int .i64 a.max.k,.int .i64 a.max.n,.string a.max.s] 33)) b;rw[World.size_alloc]at h;rw[←hW0];exact(h.old (Qb _ _)).old (Qb _ _))
 have R0:Hid (ZB W0 (w.heap.size+1+1) zeroZ):=hid (by
  have h:=ZB.new ((w.alloc (.cells #[.int .i64 a.cnt,.int .i64 a.nul,.int .i64 a.min.k,.int .i64 a.min.n,.string a.min.s,.int .i64 a.max.k,.int .i64 a.max.n,.string a.max.s] 33)).alloc (.cells #[.int .i64 b.cnt,.int .i64 b.nul,.int .i64 b.min.k,.int .i64 b.min.n,.string b.min.s,.int .i64 b.max.k,.int .i64 b.max.n,.string b.max.s] 33)) zeroZ;rw[World.size_alloc,World.size_alloc]at h;rw[←hW0];exact h.old (Qb _ _))
 have Z0:Hid (ZB W0 (w.heap.size+1+1+1) z0):=hid (by
  have h:=ZB.new (((w.alloc (.cells #[.int .i64 a.cnt,.int .i64 a.nul,.int .i64 a.min.k,.int .i64 a.min.n,.string a.min.s,.int .i64 a.max.k,.int .i64 a.max.n,.string a.max.s] 33)).alloc (.cells #[.int .i64 b.cnt,.int .i64 b.nul,.int .i64 b.min.k,.int .i64 b.min.n,.string b.min.s,.int .i64 b.max.k,.int .i64 b.max.n,.string b.max.s] 33)).alloc (.cells #[.int .i64 zeroZ.cnt,.int .i64 zeroZ.nul,.int .i64 zeroZ.min.k,.int .i64 zeroZ.min.n,.string zeroZ.min.s,.int .i64 zeroZ.max.k,.int .i64 zeroZ.max.n,.string zeroZ.max.s] 33)) z0;rw[World.size_alloc,World.size_alloc,World.size_alloc]at h;rw[←hW0,hz0]at *;exact h)
 have HW0:=hid hW0;have HZ0:=hid hz0;clear hW0 hz0;by_cases h:a.cnt=a.nul
 ·have hq:(a.cnt==a.nul)=true:=beq_iff_eq.2 h;have HN:=hid (fun W=>(Qb1 a W).mono fun e w' (h:_∧_)=>(show e=.returned (.bool true)∧W.grownBy w' none from⟨by rw[h.1,hq],h.2⟩));have HE:Hid (Ending.returned (.agg #[.int .i64 z0.cnt,.int .i64 z0.nul,.int .i64 z0.min.k,.int .i64 z0.min.n,.string z0.min.s,.int .i64 z0.max.k,.int .i64 z0.max.n,.string z0.max.s])=.returned (.agg #[.int .i64 (joinZ a b).cnt,.int .i64 (joinZ a b).nul,.int .i64 (joinZ a b).min.k,.int .i64 (joinZ a b).min.n,.string (joinZ a b).min.s,.int .i64 (joinZ a b).max.k,.int .i64 (joinZ a b).max.n,.string (joinZ a b).max.s])):=hid (by rw[QF h,HZ0.out]);clear hq h;go_enter Tryz.func56,Tryz.ntmps56
  go_wp2_with fail
  rw[HW0.out];refine(HN.out _).mono ?_;rintro e w1 ⟨rfl,hg⟩;have A1:=hid (A0.out.old hg);have B1:=hid (B0.out.old hg);have R1:=hid (R0.out.old hg);have Z1:=hid (Z0.out.old hg);have G1:=hid (Qa G0.out hg);clear hg;obtain⟨a0,a1,⟨a2,a3,a4⟩,a5,a6,a7⟩:=A1.out.cells;obtain⟨b0,b1,⟨b2,b3,b4⟩,b5,b6,b7⟩:=B1.out.cells;obtain⟨c0,c1,⟨c2,c3,c4⟩,c5,c6,c7⟩:=Z1.out.cells;dsimp only;go_wp2_with (first
   |(with_reducible refine Qo rfl (.tmp 4) (.tmp 23) rfl (w.heap.size+1+1) rfl z0 rfl zeroZ R1.out ?_;intro w9 hz9 ht9)
   |fail)
  refine bodyPost_ret (QN rfl _ _ _ _ rfl hz9) rfl ⟨HE.out,Ql G1.out ht9 (by omega)⟩
 ·have hq:(a.cnt==a.nul)=false:=beq_eq_false_iff_ne.2 h;have HN:=hid (fun W=>(Qb1 a W).mono fun e w' (h:_∧_)=>(show e=.returned (.bool false)∧W.grownBy w' none from⟨by rw[h.1,hq],h.2⟩));by_cases k:b.cnt=b.nul
  ·have hr:(b.cnt==b.nul)=true:=beq_iff_eq.2 k;have HM:=hid (fun W=>(Qb1 b W).mono fun e w' (h:_∧_)=>(show e=.returned (.bool true)∧W.grownBy w' none from⟨by rw[h.1,hr],h.2⟩));have HE:Hid (Ending.returned (.agg #[.int .i64 z0.cnt,.int .i64 z0.nul,.int .i64 a.min.k,.int .i64 a.min.n,.string a.min.s,.int .i64 a.max.k,.int .i64 a.max.n,.string a.max.s])=.returned (.agg #[.int .i64 (joinZ a b).cnt,.int .i64 (joinZ a b).nul,.int .i64 (joinZ a b).min.k,.int .i64 (joinZ a b).min.n,.string (joinZ a b).min.s,.int .i64 (joinZ a b).max.k,.int .i64 (joinZ a b).max.n,.string (joinZ a b).max.s])):=hid (by rw[QA h k,HZ0.out]);clear hq h hr k;go_enter Tryz.func56,Tryz.ntmps56
   go_wp2_with fail
   rw[HW0.out];refine(HN.out _).mono ?_;rintro e w1 ⟨rfl,hg⟩;have A1:=hid (A0.out.old hg);have B1:=hid (B0.out.old hg);have R1:=hid (R0.out.old hg);have Z1:=hid (Z0.out.old hg);have G1:=hid (Qa G0.out hg);clear hg;obtain⟨a0,a1,⟨a2,a3,a4⟩,a5,a6,a7⟩:=A1.out.cells;obtain⟨b0,b1,⟨b2,b3,b4⟩,b5,b6,b7⟩:=B1.out.cells;obtain⟨c0,c1,⟨c2,c3,c4⟩,c5,c6,c7⟩:=Z1.out.cells;dsimp only;go_wp2_with fail
   refine(HM.out _).mono ?_;rintro e w2 ⟨rfl,hg⟩;have A2:=hid (A1.out.old hg);have B2:=hid (B1.out.old hg);have R2:=hid (R1.out.old hg);have Z2:=hid (Z1.out.old hg);have G2:=hid (Qa G1.out hg);clear hg;clear a0 a1 a2 a3 a4 a5 a6 a7 b0 b1 b2 b3 b4 b5 b6 b7 c0 c1 c2 c3 c4 c5 c6 c7;obtain⟨a0,a1,⟨a2,a3,a4⟩,a5,a6,a7⟩:=A2.out.cells;obtain⟨b0,b1,⟨b2,b3,b4⟩,b5,b6,b7⟩:=B2.out.cells;obtain⟨c0,c1,⟨c2,c3,c4⟩,c5,c6,c7⟩:=Z2.out.cells;have y2:=Z2.out.froz 2;have y3:=Z2.out.froz 3;have y4:=Z2.out.froz 4;dsimp only;go_wp2_with fail
   obtain⟨w3,hw3⟩:∃w3,((w2.setCell ⟨w.heap.size+1+1+1,2,none⟩ (.int .i64 a.min.k)).setCell ⟨w.heap.size+1+1+1,3,none⟩ (.int .i64 a.min.n)).setCell ⟨w.heap.size+1+1+1,4,none⟩ (.string a.min.s)=w3:=⟨_,rfl⟩;have t3:=Q8 w2 (w.heap.size+1+1+1) 2 3 4 (.int .i64 a.min.k) (.int .i64 a.min.n) (.string a.min.s);have A3:=hid (ZB.not A2.out t3 (by omega));have B3:=hid (ZB.not B2.out t3 (by omega));have R3:=hid (ZB.not R2.out t3 (by omega));have G3:=hid (Ql G2.out t3 (by omega));have Z3:=hid (Z2.out.setMin a.min);rw[hw3]at A3 B3 R3 G3 Z3;rw[hw3];clear hw3 t3 y2 y3 y4;clear a0 a1 a2 a3 a4 a5 a6 a7 b0 b1 b2 b3 b4 b5 b6 b7 c0 c1 c2 c3 c4 c5 c6 c7;obtain⟨a0,a1,⟨a2,a3,a4⟩,a5,a6,a7⟩:=A3.out.cells;obtain⟨b0,b1,⟨b2,b3,b4⟩,b5,b6,b7⟩:=B3.out.cells;obtain⟨c0,c1,⟨c2,c3,c4⟩,c5,c6,c7⟩:=Z3.out.cells;refine(HM.out _).mono ?_;rintro e w4 ⟨rfl,hg⟩;have A4:=hid (A3.out.old hg);have B4:=hid (B3.out.old hg);have R4:=hid (R3.out.old hg);have Z4:=hid (Z3.out.old hg);have G4:=hid (Qa G3.out hg);clear hg;clear a0 a1 a2 a3 a4 a5 a6 a7 b0 b1 b2 b3 b4 b5 b6 b7 c0 c1 c2 c3 c4 c5 c6 c7;obtain⟨a0,a1,⟨a2,a3,a4⟩,a5,a6,a7⟩:=A4.out.cells;obtain⟨b0,b1,⟨b2,b3,b4⟩,b5,b6,b7⟩:=B4.out.cells;obtain⟨c0,c1,⟨c2,c3,c4⟩,c5,c6,c7⟩:=Z4.out.cells;have y5:=Z4.out.froz 5;have y6:=Z4.out.froz 6;have y7:=Z4.out.froz 7;dsimp only;obtain⟨w5,hw5⟩:∃w5,((w4.setCell ⟨w.heap.size+1+1+1,5,none⟩ (.int .i64 a.max.k)).setCell ⟨w.heap.size+1+1+1,6,none⟩ (.int .i64 a.max.n)).setCell ⟨w.heap.size+1+1+1,7,none⟩ (.string a.max.s)=w5:=⟨_,rfl⟩;have t5:=Q8 w4 (w.heap.size+1+1+1) 5 6 7 (.int .i64 a.max.k) (.int .i64 a.max.n) (.string a.max.s);have A5:=hid (ZB.not A4.out t5 (by omega));have B5:=hid (ZB.not B4.out t5 (by omega));have R5:=hid (ZB.not R4.out t5 (by omega));have G5:=hid (Ql G4.out t5 (by omega));have Z5:=hid (Z4.out.setMax a.max);rw[hw5]at A5 B5 R5 G5 Z5;have HW:=hid hw5;clear hw5 t5;go_upto_region 8 with (fail)
   rw[HW.out];clear y5 y6 y7;clear a0 a1 a2 a3 a4 a5 a6 a7 b0 b1 b2 b3 b4 b5 b6 b7 c0 c1 c2 c3 c4 c5 c6 c7;obtain⟨a0,a1,⟨a2,a3,a4⟩,a5,a6,a7⟩:=A5.out.cells;obtain⟨b0,b1,⟨b2,b3,b4⟩,b5,b6,b7⟩:=B5.out.cells;obtain⟨c0,c1,⟨c2,c3,c4⟩,c5,c6,c7⟩:=Z5.out.cells;go_wp2_with (first
    |(with_reducible refine Qo rfl (.tmp 4) (.tmp 50) rfl (w.heap.size+1+1) rfl ⟨z0.cnt,z0.nul,a.min,a.max⟩ rfl zeroZ R5.out ?_;intro w9 hz9 ht9)
    |fail)
   refine bodyPost_ret (QN rfl _ _ _ _ rfl hz9) rfl ⟨HE.out,Ql G5.out ht9 (by omega)⟩
  ·have hr:(b.cnt==b.nul)=false:=beq_eq_false_iff_ne.2 k;have HM:=hid (fun W=>(Qb1 b W).mono fun e w' (h:_∧_)=>(show e=.returned (.bool false)∧W.grownBy w' none from⟨by rw[h.1,hr],h.2⟩));have HJ:=hid (Qs h k);clear hq h hr k;by_cases h1:cmpC a.min b.min<0
   ·have e1:Hid (minC a.min b.min=a.min):=hid (if_pos h1);by_cases h2:0<cmpC a.max b.max
    ·have e2:Hid (maxC a.max b.max=a.max):=hid (if_pos h2);have HE:Hid (Ending.returned (.agg #[.int .i64 z0.cnt,.int .i64 z0.nul,.int .i64 a.min.k,.int .i64 a.min.n,.string a.min.s,.int .i64 a.max.k,.int .i64 a.max.n,.string a.max.s])=.returned (.agg #[.int .i64 (joinZ a b).cnt,.int .i64 (joinZ a b).nul,.int .i64 (joinZ a b).min.k,.int .i64 (joinZ a b).min.n,.string (joinZ a b).min.s,.int .i64 (joinZ a b).max.k,.int .i64 (joinZ a b).max.n,.string (joinZ a b).max.s])):=hid (by rw[HJ.out,e1.out,e2.out,HZ0.out]);clear e1 e2;go_enter Tryz.func56,Tryz.ntmps56
     go_wp2_with fail
     rw[HW0.out];refine(HN.out _).mono ?_;rintro e w1 ⟨rfl,hg⟩;have A1:=hid (A0.out.old hg);have B1:=hid (B0.out.old hg);have R1:=hid (R0.out.old hg);have Z1:=hid (Z0.out.old hg);have G1:=hid (Qa G0.out hg);clear hg;obtain⟨a0,a1,⟨a2,a3,a4⟩,a5,a6,a7⟩:=A1.out.cells;obtain⟨b0,b1,⟨b2,b3,b4⟩,b5,b6,b7⟩:=B1.out.cells;obtain⟨c0,c1,⟨c2,c3,c4⟩,c5,c6,c7⟩:=Z1.out.cells;dsimp only;go_wp2_with fail
     refine(HM.out _).mono ?_;rintro e w2 ⟨rfl,hg⟩;have A2:=hid (A1.out.old hg);have B2:=hid (B1.out.old hg);have R2:=hid (R1.out.old hg);have Z2:=hid (Z1.out.old hg);have G2:=hid (Qa G1.out hg);clear hg;clear a0 a1 a2 a3 a4 a5 a6 a7 b0 b1 b2 b3 b4 b5 b6 b7 c0 c1 c2 c3 c4 c5 c6 c7;obtain⟨a0,a1,⟨a2,a3,a4⟩,a5,a6,a7⟩:=A2.out.cells;obtain⟨b0,b1,⟨b2,b3,b4⟩,b5,b6,b7⟩:=B2.out.cells;obtain⟨c0,c1,⟨c2,c3,c4⟩,c5,c6,c7⟩:=Z2.out.cells;dsimp only;go_wp2_with fail
     refine(HC.out _).mono ?_;rintro e w3 ⟨rfl,hg⟩;have A3:=hid (A2.out.old hg);have B3:=hid (B2.out.old hg);have R3:=hid (R2.out.old hg);have Z3:=hid (Z2.out.old hg);have G3:=hid (Qa G2.out hg);clear hg;clear a0 a1 a2 a3 a4 a5 a6 a7 b0 b1 b2 b3 b4 b5 b6 b7 c0 c1 c2 c3 c4 c5 c6 c7;obtain⟨a0,a1,⟨a2,a3,a4⟩,a5,a6,a7⟩:=A3.out.cells;obtain⟨b0,b1,⟨b2,b3,b4⟩,b5,b6,b7⟩:=B3.out.cells;obtain⟨c0,c1,⟨c2,c3,c4⟩,c5,c6,c7⟩:=Z3.out.cells;have y2:=Z3.out.froz 2;have y3:=Z3.out.froz 3;have y4:=Z3.out.froz 4;dsimp only;go_wp2_with fail
     obtain⟨w4,hw4⟩:∃w4,((w3.setCell ⟨w.heap.size+1+1+1,2,none⟩ (.int .i64 a.min.k)).setCell ⟨w.heap.size+1+1+1,3,none⟩ (.int .i64 a.min.n)).setCell ⟨w.heap.size+1+1+1,4,none⟩ (.string a.min.s)=w4:=⟨_,rfl⟩;have t4:=Q8 w3 (w.heap.size+1+1+1) 2 3 4 (.int .i64 a.min.k) (.int .i64 a.min.n) (.string a.min.s);have A4:=hid (ZB.not A3.out t4 (by omega));have B4:=hid (ZB.not B3.out t4 (by omega));have R4:=hid (ZB.not R3.out t4 (by omega));have G4:=hid (Ql G3.out t4 (by omega));have Z4:=hid (Z3.out.setMin a.min);rw[hw4]at A4 B4 R4 G4 Z4;rw[hw4];clear hw4 t4 y2 y3 y4;clear a0 a1 a2 a3 a4 a5 a6 a7 b0 b1 b2 b3 b4 b5 b6 b7 c0 c1 c2 c3 c4 c5 c6 c7;obtain⟨a0,a1,⟨a2,a3,a4⟩,a5,a6,a7⟩:=A4.out.cells;obtain⟨b0,b1,⟨b2,b3,b4⟩,b5,b6,b7⟩:=B4.out.cells;obtain⟨c0,c1,⟨c2,c3,c4⟩,c5,c6,c7⟩:=Z4.out.cells;refine(HM.out _).mono ?_;rintro e w5 ⟨rfl,hg⟩;have A5:=hid (A4.out.old hg);have B5:=hid (B4.out.old hg);have R5:=hid (R4.out.old hg);have Z5:=hid (Z4.out.old hg);have G5:=hid (Qa G4.out hg);clear hg;clear a0 a1 a2 a3 a4 a5 a6 a7 b0 b1 b2 b3 b4 b5 b6 b7 c0 c1 c2 c3 c4 c5 c6 c7;obtain⟨a0,a1,⟨a2,a3,a4⟩,a5,a6,a7⟩:=A5.out.cells;obtain⟨b0,b1,⟨b2,b3,b4⟩,b5,b6,b7⟩:=B5.out.cells;obtain⟨c0,c1,⟨c2,c3,c4⟩,c5,c6,c7⟩:=Z5.out.cells;dsimp only;go_wp2_with fail
     refine(HD.out _).mono ?_;rintro e w6 ⟨rfl,hg⟩;have A6:=hid (A5.out.old hg);have B6:=hid (B5.out.old hg);have R6:=hid (R5.out.old hg);have Z6:=hid (Z5.out.old hg);have G6:=hid (Qa G5.out hg);clear hg;clear a0 a1 a2 a3 a4 a5 a6 a7 b0 b1 b2 b3 b4 b5 b6 b7 c0 c1 c2 c3 c4 c5 c6 c7;obtain⟨a0,a1,⟨a2,a3,a4⟩,a5,a6,a7⟩:=A6.out.cells;obtain⟨b0,b1,⟨b2,b3,b4⟩,b5,b6,b7⟩:=B6.out.cells;obtain⟨c0,c1,⟨c2,c3,c4⟩,c5,c6,c7⟩:=Z6.out.cells;have y5:=Z6.out.froz 5;have y6:=Z6.out.froz 6;have y7:=Z6.out.froz 7;dsimp only;obtain⟨w7,hw7⟩:∃w7,((w6.setCell ⟨w.heap.size+1+1+1,5,none⟩ (.int .i64 a.max.k)).setCell ⟨w.heap.size+1+1+1,6,none⟩ (.int .i64 a.max.n)).setCell ⟨w.heap.size+1+1+1,7,none⟩ (.string a.max.s)=w7:=⟨_,rfl⟩;have t7:=Q8 w6 (w.heap.size+1+1+1) 5 6 7 (.int .i64 a.max.k) (.int .i64 a.max.n) (.string a.max.s);have A7:=hid (ZB.not A6.out t7 (by omega));have B7:=hid (ZB.not B6.out t7 (by omega));have R7:=hid (ZB.not R6.out t7 (by omega));have G7:=hid (Ql G6.out t7 (by omega));have Z7:=hid (Z6.out.setMax a.max);rw[hw7]at A7 B7 R7 G7 Z7;have HW:=hid hw7;clear hw7 t7;go_upto_region 8 with (fail)
     rw[HW.out];clear y5 y6 y7;clear a0 a1 a2 a3 a4 a5 a6 a7 b0 b1 b2 b3 b4 b5 b6 b7 c0 c1 c2 c3 c4 c5 c6 c7;obtain⟨a0,a1,⟨a2,a3,a4⟩,a5,a6,a7⟩:=A7.out.cells;obtain⟨b0,b1,⟨b2,b3,b4⟩,b5,b6,b7⟩:=B7.out.cells;obtain⟨c0,c1,⟨c2,c3,c4⟩,c5,c6,c7⟩:=Z7.out.cells;go_wp2_with (first
      |(with_reducible refine Qo rfl (.tmp 4) (.tmp 50) rfl (w.heap.size+1+1) rfl ⟨z0.cnt,z0.nul,a.min,a.max⟩ rfl zeroZ R7.out ?_;intro w9 hz9 ht9)
      |fail)
     refine bodyPost_ret (QN rfl _ _ _ _ rfl hz9) rfl ⟨HE.out,Ql G7.out ht9 (by omega)⟩
    ·have e2:Hid (maxC a.max b.max=b.max):=hid (if_neg h2);have HE:Hid (Ending.returned (.agg #[.int .i64 z0.cnt,.int .i64 z0.nul,.int .i64 a.min.k,.int .i64 a.min.n,.string a.min.s,.int .i64 z0.max.k,.int .i64 z0.max.n,.string z0.max.s])=.returned (.agg #[.int .i64 (joinZ a b).cnt,.int .i64 (joinZ a b).nul,.int .i64 (joinZ a b).min.k,.int .i64 (joinZ a b).min.n,.string (joinZ a b).min.s,.int .i64 (joinZ a b).max.k,.int .i64 (joinZ a b).max.n,.string (joinZ a b).max.s])):=hid (by rw[HJ.out,e1.out,e2.out,HZ0.out]);clear e1 e2;go_enter Tryz.func56,Tryz.ntmps56
     go_wp2_with fail
     rw[HW0.out];refine(HN.out _).mono ?_;rintro e w1 ⟨rfl,hg⟩;have A1:=hid (A0.out.old hg);have B1:=hid (B0.out.old hg);have R1:=hid (R0.out.old hg);have Z1:=hid (Z0.out.old hg);have G1:=hid (Qa G0.out hg);clear hg;obtain⟨a0,a1,⟨a2,a3,a4⟩,a5,a6,a7⟩:=A1.out.cells;obtain⟨b0,b1,⟨b2,b3,b4⟩,b5,b6,b7⟩:=B1.out.cells;obtain⟨c0,c1,⟨c2,c3,c4⟩,c5,c6,c7⟩:=Z1.out.cells;dsimp only;go_wp2_with fail
     refine(HM.out _).mono ?_;rintro e w2 ⟨rfl,hg⟩;have A2:=hid (A1.out.old hg);have B2:=hid (B1.out.old hg);have R2:=hid (R1.out.old hg);have Z2:=hid (Z1.out.old hg);have G2:=hid (Qa G1.out hg);clear hg;clear a0 a1 a2 a3 a4 a5 a6 a7 b0 b1 b2 b3 b4 b5 b6 b7 c0 c1 c2 c3 c4 c5 c6 c7;obtain⟨a0,a1,⟨a2,a3,a4⟩,a5,a6,a7⟩:=A2.out.cells;obtain⟨b0,b1,⟨b2,b3,b4⟩,b5,b6,b7⟩:=B2.out.cells;obtain⟨c0,c1,⟨c2,c3,c4⟩,c5,c6,c7⟩:=Z2.out.cells;dsimp only;go_wp2_with fail
     refine(HC.out _).mono ?_;rintro e w3 ⟨rfl,hg⟩;have A3:=hid (A2.out.old hg);have B3:=hid (B2.out.old hg);have R3:=hid (R2.out.old hg);have Z3:=hid (Z2.out.old hg);have G3:=hid (Qa G2.out hg);clear hg;clear a0 a1 a2 a3 a4 a5 a6 a7 b0 b1 b2 b3 b4 b5 b6 b7 c0 c1 c2 c3 c4 c5 c6 c7;obtain⟨a0,a1,⟨a2,a3,a4⟩,a5,a6,a7⟩:=A3.out.cells;obtain⟨b0,b1,⟨b2,b3,b4⟩,b5,b6,b7⟩:=B3.out.cells;obtain⟨c0,c1,⟨c2,c3,c4⟩,c5,c6,c7⟩:=Z3.out.cells;have y2:=Z3.out.froz 2;have y3:=Z3.out.froz 3;have y4:=Z3.out.froz 4;dsimp only;go_wp2_with fail
     obtain⟨w4,hw4⟩:∃w4,((w3.setCell ⟨w.heap.size+1+1+1,2,none⟩ (.int .i64 a.min.k)).setCell ⟨w.heap.size+1+1+1,3,none⟩ (.int .i64 a.min.n)).setCell ⟨w.heap.size+1+1+1,4,none⟩ (.string a.min.s)=w4:=⟨_,rfl⟩;have t4:=Q8 w3 (w.heap.size+1+1+1) 2 3 4 (.int .i64 a.min.k) (.int .i64 a.min.n) (.string a.min.s);have A4:=hid (ZB.not A3.out t4 (by omega));have B4:=hid (ZB.not B3.out t4 (by omega));have R4:=hid (ZB.not R3.out t4 (by omega));have G4:=hid (Ql G3.out t4 (by omega));have Z4:=hid (Z3.out.setMin a.min);rw[hw4]at A4 B4 R4 G4 Z4;rw[hw4];clear hw4 t4 y2 y3 y4;clear a0 a1 a2 a3 a4 a5 a6 a7 b0 b1 b2 b3 b4 b5 b6 b7 c0 c1 c2 c3 c4 c5 c6 c7;obtain⟨a0,a1,⟨a2,a3,a4⟩,a5,a6,a7⟩:=A4.out.cells;obtain⟨b0,b1,⟨b2,b3,b4⟩,b5,b6,b7⟩:=B4.out.cells;obtain⟨c0,c1,⟨c2,c3,c4⟩,c5,c6,c7⟩:=Z4.out.cells;refine(HM.out _).mono ?_;rintro e w5 ⟨rfl,hg⟩;have A5:=hid (A4.out.old hg);have B5:=hid (B4.out.old hg);have R5:=hid (R4.out.old hg);have Z5:=hid (Z4.out.old hg);have G5:=hid (Qa G4.out hg);clear hg;clear a0 a1 a2 a3 a4 a5 a6 a7 b0 b1 b2 b3 b4 b5 b6 b7 c0 c1 c2 c3 c4 c5 c6 c7;obtain⟨a0,a1,⟨a2,a3,a4⟩,a5,a6,a7⟩:=A5.out.cells;obtain⟨b0,b1,⟨b2,b3,b4⟩,b5,b6,b7⟩:=B5.out.cells;obtain⟨c0,c1,⟨c2,c3,c4⟩,c5,c6,c7⟩:=Z5.out.cells;dsimp only;go_wp2_with fail
     refine(HD.out _).mono ?_;rintro e w6 ⟨rfl,hg⟩;have A6:=hid (A5.out.old hg);have B6:=hid (B5.out.old hg);have R6:=hid (R5.out.old hg);have Z6:=hid (Z5.out.old hg);have G6:=hid (Qa G5.out hg);clear hg;clear a0 a1 a2 a3 a4 a5 a6 a7 b0 b1 b2 b3 b4 b5 b6 b7 c0 c1 c2 c3 c4 c5 c6 c7;obtain⟨a0,a1,⟨a2,a3,a4⟩,a5,a6,a7⟩:=A6.out.cells;obtain⟨b0,b1,⟨b2,b3,b4⟩,b5,b6,b7⟩:=B6.out.cells;obtain⟨c0,c1,⟨c2,c3,c4⟩,c5,c6,c7⟩:=Z6.out.cells;dsimp only;go_wp2_with (first
      |(with_reducible refine Qo rfl (.tmp 4) (.tmp 50) rfl (w.heap.size+1+1) rfl ⟨z0.cnt,z0.nul,a.min,z0.max⟩ rfl zeroZ R6.out ?_;intro w9 hz9 ht9)
      |fail)
     refine bodyPost_ret (QN rfl _ _ _ _ rfl hz9) rfl ⟨HE.out,Ql G6.out ht9 (by omega)⟩
   ·have e1:Hid (minC a.min b.min=b.min):=hid (if_neg h1);by_cases h2:0<cmpC a.max b.max
    ·have e2:Hid (maxC a.max b.max=a.max):=hid (if_pos h2);have HE:Hid (Ending.returned (.agg #[.int .i64 z0.cnt,.int .i64 z0.nul,.int .i64 z0.min.k,.int .i64 z0.min.n,.string z0.min.s,.int .i64 a.max.k,.int .i64 a.max.n,.string a.max.s])=.returned (.agg #[.int .i64 (joinZ a b).cnt,.int .i64 (joinZ a b).nul,.int .i64 (joinZ a b).min.k,.int .i64 (joinZ a b).min.n,.string (joinZ a b).min.s,.int .i64 (joinZ a b).max.k,.int .i64 (joinZ a b).max.n,.string (joinZ a b).max.s])):=hid (by rw[HJ.out,e1.out,e2.out,HZ0.out]);clear e1 e2;go_enter Tryz.func56,Tryz.ntmps56
     go_wp2_with fail
     rw[HW0.out];refine(HN.out _).mono ?_;rintro e w1 ⟨rfl,hg⟩;have A1:=hid (A0.out.old hg);have B1:=hid (B0.out.old hg);have R1:=hid (R0.out.old hg);have Z1:=hid (Z0.out.old hg);have G1:=hid (Qa G0.out hg);clear hg;obtain⟨a0,a1,⟨a2,a3,a4⟩,a5,a6,a7⟩:=A1.out.cells;obtain⟨b0,b1,⟨b2,b3,b4⟩,b5,b6,b7⟩:=B1.out.cells;obtain⟨c0,c1,⟨c2,c3,c4⟩,c5,c6,c7⟩:=Z1.out.cells;dsimp only;go_wp2_with fail
     refine(HM.out _).mono ?_;rintro e w2 ⟨rfl,hg⟩;have A2:=hid (A1.out.old hg);have B2:=hid (B1.out.old hg);have R2:=hid (R1.out.old hg);have Z2:=hid (Z1.out.old hg);have G2:=hid (Qa G1.out hg);clear hg;clear a0 a1 a2 a3 a4 a5 a6 a7 b0 b1 b2 b3 b4 b5 b6 b7 c0 c1 c2 c3 c4 c5 c6 c7;obtain⟨a0,a1,⟨a2,a3,a4⟩,a5,a6,a7⟩:=A2.out.cells;obtain⟨b0,b1,⟨b2,b3,b4⟩,b5,b6,b7⟩:=B2.out.cells;obtain⟨c0,c1,⟨c2,c3,c4⟩,c5,c6,c7⟩:=Z2.out.cells;dsimp only;go_wp2_with fail
     refine(HC.out _).mono ?_;rintro e w3 ⟨rfl,hg⟩;have A3:=hid (A2.out.old hg);have B3:=hid (B2.out.old hg);have R3:=hid (R2.out.old hg);have Z3:=hid (Z2.out.old hg);have G3:=hid (Qa G2.out hg);clear hg;clear a0 a1 a2 a3 a4 a5 a6 a7 b0 b1 b2 b3 b4 b5 b6 b7 c0 c1 c2 c3 c4 c5 c6 c7;obtain⟨a0,a1,⟨a2,a3,a4⟩,a5,a6,a7⟩:=A3.out.cells;obtain⟨b0,b1,⟨b2,b3,b4⟩,b5,b6,b7⟩:=B3.out.cells;obtain⟨c0,c1,⟨c2,c3,c4⟩,c5,c6,c7⟩:=Z3.out.cells;dsimp only;go_wp2_with fail
     refine(HM.out _).mono ?_;rintro e w4 ⟨rfl,hg⟩;have A4:=hid (A3.out.old hg);have B4:=hid (B3.out.old hg);have R4:=hid (R3.out.old hg);have Z4:=hid (Z3.out.old hg);have G4:=hid (Qa G3.out hg);clear hg;clear a0 a1 a2 a3 a4 a5 a6 a7 b0 b1 b2 b3 b4 b5 b6 b7 c0 c1 c2 c3 c4 c5 c6 c7;obtain⟨a0,a1,⟨a2,a3,a4⟩,a5,a6,a7⟩:=A4.out.cells;obtain⟨b0,b1,⟨b2,b3,b4⟩,b5,b6,b7⟩:=B4.out.cells;obtain⟨c0,c1,⟨c2,c3,c4⟩,c5,c6,c7⟩:=Z4.out.cells;dsimp only;go_wp2_with fail
     refine(HD.out _).mono ?_;rintro e w5 ⟨rfl,hg⟩;have A5:=hid (A4.out.old hg);have B5:=hid (B4.out.old hg);have R5:=hid (R4.out.old hg);have Z5:=hid (Z4.out.old hg);have G5:=hid (Qa G4.out hg);clear hg;clear a0 a1 a2 a3 a4 a5 a6 a7 b0 b1 b2 b3 b4 b5 b6 b7 c0 c1 c2 c3 c4 c5 c6 c7;obtain⟨a0,a1,⟨a2,a3,a4⟩,a5,a6,a7⟩:=A5.out.cells;obtain⟨b0,b1,⟨b2,b3,b4⟩,b5,b6,b7⟩:=B5.out.cells;obtain⟨c0,c1,⟨c2,c3,c4⟩,c5,c6,c7⟩:=Z5.out.cells;have y5:=Z5.out.froz 5;have y6:=Z5.out.froz 6;have y7:=Z5.out.froz 7;dsimp only;obtain⟨w6,hw6⟩:∃w6,((w5.setCell ⟨w.heap.size+1+1+1,5,none⟩ (.int .i64 a.max.k)).setCell ⟨w.heap.size+1+1+1,6,none⟩ (.int .i64 a.max.n)).setCell ⟨w.heap.size+1+1+1,7,none⟩ (.string a.max.s)=w6:=⟨_,rfl⟩;have t6:=Q8 w5 (w.heap.size+1+1+1) 5 6 7 (.int .i64 a.max.k) (.int .i64 a.max.n) (.string a.max.s);have A6:=hid (ZB.not A5.out t6 (by omega));have B6:=hid (ZB.not B5.out t6 (by omega));have R6:=hid (ZB.not R5.out t6 (by omega));have G6:=hid (Ql G5.out t6 (by omega));have Z6:=hid (Z5.out.setMax a.max);rw[hw6]at A6 B6 R6 G6 Z6;have HW:=hid hw6;clear hw6 t6;go_upto_region 8 with (fail)
     rw[HW.out];clear y5 y6 y7;clear a0 a1 a2 a3 a4 a5 a6 a7 b0 b1 b2 b3 b4 b5 b6 b7 c0 c1 c2 c3 c4 c5 c6 c7;obtain⟨a0,a1,⟨a2,a3,a4⟩,a5,a6,a7⟩:=A6.out.cells;obtain⟨b0,b1,⟨b2,b3,b4⟩,b5,b6,b7⟩:=B6.out.cells;obtain⟨c0,c1,⟨c2,c3,c4⟩,c5,c6,c7⟩:=Z6.out.cells;go_wp2_with (first
      |(with_reducible refine Qo rfl (.tmp 4) (.tmp 50) rfl (w.heap.size+1+1) rfl ⟨z0.cnt,z0.nul,z0.min,a.max⟩ rfl zeroZ R6.out ?_;intro w9 hz9 ht9)
      |fail)
     refine bodyPost_ret (QN rfl _ _ _ _ rfl hz9) rfl ⟨HE.out,Ql G6.out ht9 (by omega)⟩
    ·have e2:Hid (maxC a.max b.max=b.max):=hid (if_neg h2);have HE:Hid (Ending.returned (.agg #[.int .i64 z0.cnt,.int .i64 z0.nul,.int .i64 z0.min.k,.int .i64 z0.min.n,.string z0.min.s,.int .i64 z0.max.k,.int .i64 z0.max.n,.string z0.max.s])=.returned (.agg #[.int .i64 (joinZ a b).cnt,.int .i64 (joinZ a b).nul,.int .i64 (joinZ a b).min.k,.int .i64 (joinZ a b).min.n,.string (joinZ a b).min.s,.int .i64 (joinZ a b).max.k,.int .i64 (joinZ a b).max.n,.string (joinZ a b).max.s])):=hid (by rw[HJ.out,e1.out,e2.out,HZ0.out]);clear e1 e2;go_enter Tryz.func56,Tryz.ntmps56
     go_wp2_with fail
     rw[HW0.out];refine(HN.out _).mono ?_;rintro e w1 ⟨rfl,hg⟩;have A1:=hid (A0.out.old hg);have B1:=hid (B0.out.old hg);have R1:=hid (R0.out.old hg);have Z1:=hid (Z0.out.old hg);have G1:=hid (Qa G0.out hg);clear hg;obtain⟨a0,a1,⟨a2,a3,a4⟩,a5,a6,a7⟩:=A1.out.cells;obtain⟨b0,b1,⟨b2,b3,b4⟩,b5,b6,b7⟩:=B1.out.cells;obtain⟨c0,c1,⟨c2,c3,c4⟩,c5,c6,c7⟩:=Z1.out.cells;dsimp only;go_wp2_with fail
     refine(HM.out _).mono ?_;rintro e w2 ⟨rfl,hg⟩;have A2:=hid (A1.out.old hg);have B2:=hid (B1.out.old hg);have R2:=hid (R1.out.old hg);have Z2:=hid (Z1.out.old hg);have G2:=hid (Qa G1.out hg);clear hg;clear a0 a1 a2 a3 a4 a5 a6 a7 b0 b1 b2 b3 b4 b5 b6 b7 c0 c1 c2 c3 c4 c5 c6 c7;obtain⟨a0,a1,⟨a2,a3,a4⟩,a5,a6,a7⟩:=A2.out.cells;obtain⟨b0,b1,⟨b2,b3,b4⟩,b5,b6,b7⟩:=B2.out.cells;obtain⟨c0,c1,⟨c2,c3,c4⟩,c5,c6,c7⟩:=Z2.out.cells;dsimp only;go_wp2_with fail
     refine(HC.out _).mono ?_;rintro e w3 ⟨rfl,hg⟩;have A3:=hid (A2.out.old hg);have B3:=hid (B2.out.old hg);have R3:=hid (R2.out.old hg);have Z3:=hid (Z2.out.old hg);have G3:=hid (Qa G2.out hg);clear hg;clear a0 a1 a2 a3 a4 a5 a6 a7 b0 b1 b2 b3 b4 b5 b6 b7 c0 c1 c2 c3 c4 c5 c6 c7;obtain⟨a0,a1,⟨a2,a3,a4⟩,a5,a6,a7⟩:=A3.out.cells;obtain⟨b0,b1,⟨b2,b3,b4⟩,b5,b6,b7⟩:=B3.out.cells;obtain⟨c0,c1,⟨c2,c3,c4⟩,c5,c6,c7⟩:=Z3.out.cells;dsimp only;go_wp2_with fail
     refine(HM.out _).mono ?_;rintro e w4 ⟨rfl,hg⟩;have A4:=hid (A3.out.old hg);have B4:=hid (B3.out.old hg);have R4:=hid (R3.out.old hg);have Z4:=hid (Z3.out.old hg);have G4:=hid (Qa G3.out hg);clear hg;clear a0 a1 a2 a3 a4 a5 a6 a7 b0 b1 b2 b3 b4 b5 b6 b7 c0 c1 c2 c3 c4 c5 c6 c7;obtain⟨a0,a1,⟨a2,a3,a4⟩,a5,a6,a7⟩:=A4.out.cells;obtain⟨b0,b1,⟨b2,b3,b4⟩,b5,b6,b7⟩:=B4.out.cells;obtain⟨c0,c1,⟨c2,c3,c4⟩,c5,c6,c7⟩:=Z4.out.cells;dsimp only;go_wp2_with fail
     refine(HD.out _).mono ?_;rintro e w5 ⟨rfl,hg⟩;have A5:=hid (A4.out.old hg);have B5:=hid (B4.out.old hg);have R5:=hid (R4.out.old hg);have Z5:=hid (Z4.out.old hg);have G5:=hid (Qa G4.out hg);clear hg;clear a0 a1 a2 a3 a4 a5 a6 a7 b0 b1 b2 b3 b4 b5 b6 b7 c0 c1 c2 c3 c4 c5 c6 c7;obtain⟨a0,a1,⟨a2,a3,a4⟩,a5,a6,a7⟩:=A5.out.cells;obtain⟨b0,b1,⟨b2,b3,b4⟩,b5,b6,b7⟩:=B5.out.cells;obtain⟨c0,c1,⟨c2,c3,c4⟩,c5,c6,c7⟩:=Z5.out.cells;dsimp only;go_wp2_with (first
      |(with_reducible refine Qo rfl (.tmp 4) (.tmp 50) rfl (w.heap.size+1+1) rfl ⟨z0.cnt,z0.nul,z0.min,z0.max⟩ rfl zeroZ R5.out ?_;intro w9 hz9 ht9)
      |fail)
     refine bodyPost_ret (QN rfl _ _ _ _ rfl hz9) rfl ⟨HE.out,Ql G5.out ht9 (by omega)⟩
end Zn
namespace Zn
open Go.RowKit Bs Dv
def flatC:List Cel→List Value
 | []=>[]
 |c :: l=>.int .i64 c.k :: .int .i64 c.n :: .string c.s :: flatC l
theorem QbS:∀l:List Cel,(flatC l).length=l.length*3
 | []=>rfl
 |c :: l=>by simp only[flatC,List.length_cons,QbS l];omega
theorem Qbo:∀l m:List Cel,flatC (l++m)=flatC l++flatC m
 | [],_=>rfl
 |c :: l,m=>by simp only[List.cons_append,flatC,Qbo l m]
theorem Qeb:∀(l:List Cel) (k:Nat) (_:k<l.length),(flatC l)[k*3]?=some (.int .i64 (l.getD k zeroC).k)∧(flatC l)[k*3+1]?=some (.int .i64 (l.getD k zeroC).n)∧(flatC l)[k*3+2]?=some (.string (l.getD k zeroC).s)
 | [],_,h=>by cases h
 |c :: l,0,_=>⟨rfl,rfl,rfl⟩
 |c :: l,k+1,h=>by
  have ih:=Qeb l k (by simpa using h);rw[show(k+1)*3=k*3+1+1+1 from by omega,show k*3+1+1+1+1=k*3+1+1+1+1 from rfl,show k*3+1+1+1+2=k*3+2+1+1+1 from rfl]
  simpa only[flatC,List.getElem?_cons_succ,List.getD_cons_succ] using ih
structure CSeg (w:World) (a:Option Addr) (n c:Nat) (l:List Cel):Prop where
 len:l.length=n
 le:n≤c
 cap:c≤maxLen
 nil_:a=none→n=0∧c=0
 at_:∀ad,a=some ad→∀j u,(flatC l)[j]?=some u→w.cell? (ad.add j)=some u
theorem CSeg.nil(w:World):CSeg w none 0 0 []:=⟨rfl,Nat.le_refl _,by unfold maxLen;omega,fun _=>⟨rfl,rfl⟩,fun _ h=>by cases h⟩
theorem CSeg.old{w w':World}{a:Option Addr}{n c:Nat}{l:List Cel}(h:CSeg w a n c l)(k:w.grownBy w' none):CSeg w' a n c l:=
 ⟨h.len,h.le,h.cap,h.nil_,fun ad had j u hu=>(QbD k).cell (h.at_ ad had j u hu) id⟩
theorem Qdp{w:World}{a:Addr}{v:Value}(h:w.cell? a=some v):a.spot=none:=by
 unfold World.cell? at h
 split at h
 ·split at h
  ·cases h
  ·rename_i h2
   simpa using h2
 ·cases h
theorem CSeg.form{w:World}{a:Option Addr}{n c:Nat}{l:List Cel}(h:CSeg w a n c l)(hn:n≠0):∃B O,a=some ⟨B,O,none⟩∧∀k,k<n→w.cell? ⟨B,O+k*3,none⟩=some (.int .i64 (l.getD k zeroC).k)∧w.cell? ⟨B,O+k*3+1,none⟩=some (.int .i64 (l.getD k zeroC).n)∧w.cell? ⟨B,O+k*3+2,none⟩=some (.string (l.getD k zeroC).s):=by
 cases a with
 |none=>exact absurd (h.nil_ rfl).1 hn
 |some ad=>
  have hl:=h.len;have h0:=Qdp (h.at_ ad rfl (0*3) _ (Qeb l 0 (by omega)).1);obtain⟨B,O,sp⟩:=ad;have:sp=none:=by
   have h1:=h0;unfold Addr.add at h1
   simpa using h1
  subst this;refine⟨B,O,rfl,fun k hk=>?_⟩;obtain⟨h1,h2,h3⟩:=Qeb l k (by omega);have e1:=h.at_ _ rfl _ _ h1;have e2:=h.at_ _ rfl _ _ h2;have e3:=h.at_ _ rfl _ _ h3;rw[Addr.add_lit]at e1 e2 e3;exact⟨e1,by rw[Nat.add_assoc];exact e2,by rw[Nat.add_assoc];exact e3⟩
theorem ZB.setAll{w:World}{g:Nat}{q:Zon}(h:ZB w g q)(z:Zon):ZB ((((((((w.setCell ⟨g,0,none⟩ (.int .i64 z.cnt)).setCell ⟨g,1,none⟩ (.int .i64 z.nul)).setCell ⟨g,2,none⟩ (.int .i64 z.min.k)).setCell ⟨g,3,none⟩ (.int .i64 z.min.n)).setCell ⟨g,4,none⟩ (.string z.min.s)).setCell ⟨g,5,none⟩ (.int .i64 z.max.k)).setCell ⟨g,6,none⟩ (.int .i64 z.max.n)).setCell ⟨g,7,none⟩ (.string z.max.s)) g z:=by
 obtain⟨W1,e1⟩:∃W',W'=w.setCell ⟨g,0,none⟩ (.int .i64 z.cnt):=⟨_,rfl⟩;have h1:W1.heap[g]?=some (.cells #[.int .i64 z.cnt,.int .i64 q.nul,.int .i64 q.min.k,.int .i64 q.min.n,.string q.min.s,.int .i64 q.max.k,.int .i64 q.max.n,.string q.max.s] 33 (0,0)):=by rw[e1];exact Go.heap_setCell_same w g 0 _ _ (.int .i64 z.cnt) h
 obtain⟨W2,e2⟩:∃W',W'=W1.setCell ⟨g,1,none⟩ (.int .i64 z.nul):=⟨_,rfl⟩;have h2:W2.heap[g]?=some (.cells #[.int .i64 z.cnt,.int .i64 z.nul,.int .i64 q.min.k,.int .i64 q.min.n,.string q.min.s,.int .i64 q.max.k,.int .i64 q.max.n,.string q.max.s] 33 (0,0)):=by rw[e2];exact Go.heap_setCell_same W1 g 1 _ _ (.int .i64 z.nul) h1
 obtain⟨W3,e3⟩:∃W',W'=W2.setCell ⟨g,2,none⟩ (.int .i64 z.min.k):=⟨_,rfl⟩;have h3:W3.heap[g]?=some (.cells #[.int .i64 z.cnt,.int .i64 z.nul,.int .i64 z.min.k,.int .i64 q.min.n,.string q.min.s,.int .i64 q.max.k,.int .i64 q.max.n,.string q.max.s] 33 (0,0)):=by rw[e3];exact Go.heap_setCell_same W2 g 2 _ _ (.int .i64 z.min.k) h2
 obtain⟨W4,e4⟩:∃W',W'=W3.setCell ⟨g,3,none⟩ (.int .i64 z.min.n):=⟨_,rfl⟩;have h4:W4.heap[g]?=some (.cells #[.int .i64 z.cnt,.int .i64 z.nul,.int .i64 z.min.k,.int .i64 z.min.n,.string q.min.s,.int .i64 q.max.k,.int .i64 q.max.n,.string q.max.s] 33 (0,0)):=by rw[e4];exact Go.heap_setCell_same W3 g 3 _ _ (.int .i64 z.min.n) h3
 obtain⟨W5,e5⟩:∃W',W'=W4.setCell ⟨g,4,none⟩ (.string z.min.s):=⟨_,rfl⟩;have h5:W5.heap[g]?=some (.cells #[.int .i64 z.cnt,.int .i64 z.nul,.int .i64 z.min.k,.int .i64 z.min.n,.string z.min.s,.int .i64 q.max.k,.int .i64 q.max.n,.string q.max.s] 33 (0,0)):=by rw[e5];exact Go.heap_setCell_same W4 g 4 _ _ (.string z.min.s) h4
 obtain⟨W6,e6⟩:∃W',W'=W5.setCell ⟨g,5,none⟩ (.int .i64 z.max.k):=⟨_,rfl⟩;have h6:W6.heap[g]?=some (.cells #[.int .i64 z.cnt,.int .i64 z.nul,.int .i64 z.min.k,.int .i64 z.min.n,.string z.min.s,.int .i64 z.max.k,.int .i64 q.max.n,.string q.max.s] 33 (0,0)):=by rw[e6];exact Go.heap_setCell_same W5 g 5 _ _ (.int .i64 z.max.k) h5
 obtain⟨W7,e7⟩:∃W',W'=W6.setCell ⟨g,6,none⟩ (.int .i64 z.max.n):=⟨_,rfl⟩;have h7:W7.heap[g]?=some (.cells #[.int .i64 z.cnt,.int .i64 z.nul,.int .i64 z.min.k,.int .i64 z.min.n,.string z.min.s,.int .i64 z.max.k,.int .i64 z.max.n,.string q.max.s] 33 (0,0)):=by rw[e7];exact Go.heap_setCell_same W6 g 6 _ _ (.int .i64 z.max.n) h6
 obtain⟨W8,e8⟩:∃W',W'=W7.setCell ⟨g,7,none⟩ (.string z.max.s):=⟨_,rfl⟩;have h8:W8.heap[g]?=some (.cells #[.int .i64 z.cnt,.int .i64 z.nul,.int .i64 z.min.k,.int .i64 z.min.n,.string z.min.s,.int .i64 z.max.k,.int .i64 z.max.n,.string z.max.s] 33 (0,0)):=by rw[e8];exact Go.heap_setCell_same W7 g 7 _ _ (.string z.max.s) h7
 rw[←e1,←e2,←e3,←e4,←e5,←e6,←e7,←e8];exact h8
theorem QcB(w:World)(g:Nat)(z:Zon):Turn w ((((((((w.setCell ⟨g,0,none⟩ (.int .i64 z.cnt)).setCell ⟨g,1,none⟩ (.int .i64 z.nul)).setCell ⟨g,2,none⟩ (.int .i64 z.min.k)).setCell ⟨g,3,none⟩ (.int .i64 z.min.n)).setCell ⟨g,4,none⟩ (.string z.min.s)).setCell ⟨g,5,none⟩ (.int .i64 z.max.k)).setCell ⟨g,6,none⟩ (.int .i64 z.max.n)).setCell ⟨g,7,none⟩ (.string z.max.s)) (·=g):=
 ((((((((Turn.setCell w _ _ (S:=(·=g)) rfl).trans (Turn.setCell _ _ _ (S:=(·=g)) rfl) (fun _ _ e=>e)).trans (Turn.setCell _ _ _ (S:=(·=g)) rfl) (fun _ _ e=>e)).trans (Turn.setCell _ _ _ (S:=(·=g)) rfl) (fun _ _ e=>e)).trans (Turn.setCell _ _ _ (S:=(·=g)) rfl) (fun _ _ e=>e)).trans (Turn.setCell _ _ _ (S:=(·=g)) rfl) (fun _ _ e=>e)).trans (Turn.setCell _ _ _ (S:=(·=g)) rfl) (fun _ _ e=>e)).trans (Turn.setCell _ _ _ (S:=(·=g)) rfl) (fun _ _ e=>e))
theorem Qa7(l:List Cel)(k:Nat)(h:k<l.length):l.take (k+1)=l.take k++[l.getD k zeroC]:=by
 rw[List.take_succ_eq_append_getElem h];simp[List.getD,h]
theorem Qog(l:List Cel)(h:l.length≤100000):Small (ofZ l):=by
 have g:=Qd3 l;have c:=QdP l;have h1:=g.nul;have h2:=g.le;unfold Small;omega
theorem QmL(c:Cel):Small (oneZ c):=by
 unfold Small;rw[Qg0,Qg7]
 split <;> omega
theorem Of_any (a : Option Addr) (n c : Nat) (l : List Cel) (w : World) (hs : CSeg w a n c l) (hn : n ≤ 65536) : Calls Tryz.prog 32 #[.slice a n c] w fun e w' =>
    e = .returned (.agg #[.int .i64 (ofZ l).cnt, .int .i64 (ofZ l).nul, .int .i64 (ofZ l).min.k, .int .i64 (ofZ l).min.n, .string (ofZ l).min.s, .int .i64 (ofZ l).max.k, .int .i64 (ofZ l).max.n, .string (ofZ l).max.s]) ∧ w.grownBy w' none := by
  have HS := Lib.hid hs
  have HL := Lib.hid hs.len
  have R0 := Lib.hid (ZB.new w zeroZ)
  have Z0 : Hid (ZB ((w.alloc (.cells #[.int .i64 zeroZ.cnt, .int .i64 zeroZ.nul, .int .i64 zeroZ.min.k, .int .i64 zeroZ.min.n, .string zeroZ.min.s, .int .i64 zeroZ.max.k, .int .i64 zeroZ.max.n, .string zeroZ.max.s] 33)).alloc (.cells #[.int .i64 zeroZ.cnt, .int .i64 zeroZ.nul, .int .i64 zeroZ.min.k, .int .i64 zeroZ.min.n, .string zeroZ.min.s, .int .i64 zeroZ.max.k, .int .i64 zeroZ.max.n, .string zeroZ.max.s] 33)) (w.heap.size + 1) zeroZ) := Lib.hid (by
    have h := ZB.new (w.alloc (.cells #[.int .i64 zeroZ.cnt, .int .i64 zeroZ.nul, .int .i64 zeroZ.min.k, .int .i64 zeroZ.min.n, .string zeroZ.min.s, .int .i64 zeroZ.max.k, .int .i64 zeroZ.max.n, .string zeroZ.max.s] 33)) zeroZ
    rw [World.size_alloc] at h
    exact h)
  have G0 := Lib.hid (Qa         (Qb          w (.cells #[.int .i64 zeroZ.cnt, .int .i64 zeroZ.nul, .int .i64 zeroZ.min.k, .int .i64 zeroZ.min.n, .string zeroZ.min.s, .int .i64 zeroZ.max.k, .int .i64 zeroZ.max.n, .string zeroZ.max.s] 33)) (Qb          _ (.cells #[.int .i64 zeroZ.cnt, .int .i64 zeroZ.nul, .int .i64 zeroZ.min.k, .int .i64 zeroZ.min.n, .string zeroZ.min.s, .int .i64 zeroZ.max.k, .int .i64 zeroZ.max.n, .string zeroZ.max.s] 33)))
  have R1 := Lib.hid (R0.out.old (Qb          _ (.cells #[.int .i64 zeroZ.cnt, .int .i64 zeroZ.nul, .int .i64 zeroZ.min.k, .int .i64 zeroZ.min.n, .string zeroZ.min.s, .int .i64 zeroZ.max.k, .int .i64 zeroZ.max.n, .string zeroZ.max.s] 33)))
  clear hs R0
  go_enter Tryz.func32, Tryz.ntmps32
  go_wp2
  go_loopw [9] (fun iv wx => ∃ k : Nat, iv = .int .i64 k ∧ k ≤ n ∧ ZB wx (w.heap.size + 1) (ofZ (l.take k)) ∧ ZB wx w.heap.size zeroZ ∧ w.grownBy wx none) (fun iv _ => n - (intOf iv).toNat)
  case atStart => exact ⟨0, rfl, Nat.zero_le _, Z0.out, R1.out, G0.out⟩
  case round =>
    obtain ⟨k, rfl, hk, hz, hr, hg⟩ := hrel
    have HZ := Lib.hid hz
    have HR := Lib.hid hr
    have HG := Lib.hid hg
    clear hz hr hg
    by_cases hlt : k < n
    · obtain ⟨B, O, rfl, hcs⟩ := (HS.out.old HG.out).form (by omega)
      obtain ⟨c0, c1, c2⟩ := hcs k hlt
      clear hcs
      obtain ⟨x, hx⟩ : ∃ x, x = l.getD k zeroC := ⟨_, rfl⟩
      rw [← hx] at c0 c1 c2
      obtain ⟨z, hz⟩ : ∃ z, z = ofZ (l.take k) := ⟨_, rfl⟩
      obtain ⟨o, ho⟩ : ∃ o, o = oneZ x := ⟨_, rfl⟩
      obtain ⟨j, hj⟩ : ∃ j, j = joinZ z o := ⟨_, rfl⟩
      have HN := Lib.hid (fun W => Qpk     x W)
      have HJ := Lib.hid (fun W => Qnl      z o W (by rw [hz]; exact Qog      _ (by rw [List.length_take]; have := HL.out; omega)) (by rw [ho]; exact QmL       x))
      have HT : Hid (j = ofZ (l.take (k + 1))) := Lib.hid (by rw [Qa7       l k (by have := HL.out; omega), Qjt     , hj, hz, ho, hx])
      rw [← ho] at HN
      rw [← hj] at HJ
      rw [← hz] at HZ
      clear hx hz ho hj
      obtain ⟨z0, z1, ⟨z2, z3, z4⟩, z5, z6, z7⟩ := HZ.out.cells
      go_wp2_with fail
      obtain ⟨W1, hW1⟩ : ∃ W1, wr.alloc (.cells #[.int .i64 x.k, .int .i64 x.n, .string x.s] 24) = W1 := ⟨_, rfl⟩
      have G1 : Hid (w.grownBy W1 none) := Lib.hid (by rw [← hW1]; exact Qa         HG.out (Qb          _ _))
      have R1 : Hid (ZB W1 w.heap.size zeroZ) := Lib.hid (by rw [← hW1]; exact HR.out.old (Qb          _ _))
      have Z1 : Hid (ZB W1 (w.heap.size + 1) z) := Lib.hid (by rw [← hW1]; exact HZ.out.old (Qb          _ _))
      have X1 : Hid (CB W1 wr.heap.size x) := Lib.hid (by rw [← hW1]; exact CB.new wr x)
      rw [hW1]
      clear hW1 z0 z1 z2 z3 z4 z5 z6 z7 c0 c1 c2
      obtain ⟨z0, z1, ⟨z2, z3, z4⟩, z5, z6, z7⟩ := Z1.out.cells
      obtain ⟨c0, c1, c2⟩ := X1.out.cells
      go_region_with (first
        | (go_at_call 57
           (with_reducible refine (HN.out _).mono ?_)
           rintro e wa ⟨rfl, hga⟩
           have GA := Lib.hid (Qa         (QbE        W1) hga)
           obtain ⟨a0, a1, ⟨a2, a3, a4⟩, a5, a6, a7⟩ := (Z1.out.old GA.out).cells
           clear hga)
        | (go_at_call 56
           (with_reducible refine (HJ.out _).mono ?_)
           rintro e wb ⟨rfl, hgb⟩
           have GB := Lib.hid (Qa         GA.out hgb)
           have ZB2 := Lib.hid (Z1.out.old GB.out)
           obtain ⟨b0, b1, ⟨b2, b3, b4⟩, b5, b6, b7⟩ := ZB2.out.cells
           have y0 := ZB2.out.froz 0
           have y1 := ZB2.out.froz 1
           have y2 := ZB2.out.froz 2
           have y3 := ZB2.out.froz 3
           have y4 := ZB2.out.froz 4
           have y5 := ZB2.out.froz 5
           have y6 := ZB2.out.froz 6
           have y7 := ZB2.out.froz 7
           clear hgb)
        | fail)
      all_goals
        obtain ⟨W9, hW9⟩ : ∃ W9, (((((((wb.setCell ⟨w.heap.size + 1, 0, none⟩ (.int .i64 j.cnt)).setCell ⟨w.heap.size + 1, 1, none⟩ (.int .i64 j.nul)).setCell ⟨w.heap.size + 1, 2, none⟩ (.int .i64 j.min.k)).setCell ⟨w.heap.size + 1, 3, none⟩ (.int .i64 j.min.n)).setCell ⟨w.heap.size + 1, 4, none⟩ (.string j.min.s)).setCell ⟨w.heap.size + 1, 5, none⟩ (.int .i64 j.max.k)).setCell ⟨w.heap.size + 1, 6, none⟩ (.int .i64 j.max.n)).setCell ⟨w.heap.size + 1, 7, none⟩ (.string j.max.s) = W9 := ⟨_, rfl⟩
        have t9 := QcB       wb (w.heap.size + 1) j
        have Z9 := ZB2.out.setAll j
        rw [hW9] at t9 Z9
        rw [hW9]
        clear hW9
        have R9 := ((R1.out.old GB.out)).not t9 (by omega)
        have G9 := Ql        (Qa         G1.out GB.out) t9 (by omega)
        have HF := Lib.hid (And.intro (show ZB W9 (w.heap.size + 1) (ofZ (l.take (k + 1))) from by rw [← HT.out]; exact Z9) (And.intro R9 G9))
        clear Z9 R9 G9 t9
        go_wp2
        go_roundw
        case rel => exact ⟨k + 1, by go_num, by omega, HF.out.1, HF.out.2.1, HF.out.2.2⟩
        case measure => simp [intOf]; omega
    · obtain rfl : k = n := by omega
      have HT : Hid (ofZ (l.take k) = ofZ l) := Lib.hid (by rw [List.take_of_length_le (by rw [HL.out]; exact Nat.le_refl _)])
      rw [HT.out] at HZ
      obtain ⟨z, hz⟩ : ∃ z, z = ofZ l := ⟨_, rfl⟩
      rw [← hz] at HZ
      have HE := Lib.hid hz
      clear hz HT hlt
      obtain ⟨z0, z1, ⟨z2, z3, z4⟩, z5, z6, z7⟩ := HZ.out.cells
      go_wp2_with (first
        | (with_reducible refine Qo                rfl (.tmp 2) (.tmp 18) rfl w.heap.size rfl z rfl zeroZ HR.out ?_; intro w9 hz9 ht9)
        | fail)
      refine bodyPost_ret (QN               rfl _ _ _ _ rfl hz9) rfl ⟨by rw [HE.out], Ql        HG.out ht9 (Nat.le_refl _)⟩
end Zn
namespace Zr
open Go.RowKit Bs Dv Zn
theorem QoX(m c:Cel):minC m c=if cmpC c m<0 then c else m:=by
 have h:=Qav.anti c m;unfold minC;by_cases h1:cmpC m c<0
 ·rw[if_pos h1,if_neg (by omega)]
 ·rw[if_neg h1];by_cases h2:cmpC c m<0
  ·rw[if_pos h2]
  ·rw[if_neg h2];exact(Qav.zero _ _).1 (by omega)
theorem QoR(m c:Cel):maxC m c=if 0<cmpC c m then c else m:=by
 have h:=Qav.anti c m;unfold maxC;by_cases h1:0<cmpC m c
 ·rw[if_pos h1,if_neg (by omega)]
 ·rw[if_neg h1];by_cases h2:0<cmpC c m
  ·rw[if_pos h2]
  ·rw[if_neg h2];exact(Qav.zero _ _).1 (by omega)
def wayZ(n:Nat)(z:Zon):Zon:=⟨(n:Int),z.nul,z.min,z.max⟩
theorem Qnt(n:Nat){z:Zon}{c:Cel}(h:c.k=0)(g:Zn.Good z):wayZ n (joinZ z (oneZ c))=⟨(n:Int),z.nul+1,z.min,z.max⟩:=by
 have e1:oneZ c=⟨1,1,zeroC,zeroC⟩:=by unfold oneZ;rw[if_pos h]
 unfold wayZ;by_cases hz:z.cnt=z.nul
 ·rw[e1,QF hz];have:=g.none hz;rw[this.1,this.2]
 ·rw[e1,QA hz rfl]
theorem Qna(n:Nat){z:Zon}{c:Cel}(h:c.k≠0)(hz:z.cnt=z.nul):wayZ n (joinZ z (oneZ c))=⟨(n:Int),z.nul,c,c⟩:=by
 have e1:oneZ c=⟨1,0,c,c⟩:=by unfold oneZ;rw[if_neg h]
 rw[e1,QF hz];unfold wayZ;simp
theorem Qnu(n:Nat){z:Zon}{c:Cel}(h:c.k≠0)(hz:z.cnt≠z.nul):wayZ n (joinZ z (oneZ c))=⟨(n:Int),z.nul,(if cmpC c z.min<0 then c else z.min),(if 0<cmpC c z.max then c else z.max)⟩:=by
 have e1:oneZ c=⟨1,0,c,c⟩:=by unfold oneZ;rw[if_neg h]
 rw[e1,Qs hz (by simp),←QoX,←QoR];unfold wayZ;simp
theorem Qap{W:World}{B O k:Nat}{x:Cel}(h:W.cell? ⟨B,O+k*3,none⟩=some (.int .i64 x.k)∧W.cell? ⟨B,O+k*3+1,none⟩=some (.int .i64 x.n)∧W.cell? ⟨B,O+k*3+2,none⟩=some (.string x.s)) :
  (∀q:Gw W,q.at_.cell? ⟨B,O+k*3,none⟩=some (.int .i64 x.k))∧(∀q:Gw W,q.at_.cell? ⟨B,O+k*3+1,none⟩=some (.int .i64 x.n))∧∀q:Gw W,q.at_.cell? ⟨B,O+k*3+2,none⟩=some (.string x.s):=
 ⟨fun q=>(QbD q.grown).cell h.1 id,fun q=>(QbD q.grown).cell h.2.1 id,fun q=>(QbD q.grown).cell h.2.2 id⟩
theorem Qp{W:World}{B O n c k:Nat}{l:List Cel}{x:Cel}(h:CSeg W (some ⟨B,O,none⟩) n c l)(hk:k<n)(hx:x=l.getD k zeroC) :
  W.cell? ⟨B,O+k*3,none⟩=some (.int .i64 x.k)∧W.cell? ⟨B,O+k*3+1,none⟩=some (.int .i64 x.n)∧W.cell? ⟨B,O+k*3+2,none⟩=some (.string x.s):=by
 obtain⟨B',O',e,f⟩:=h.form (by omega);cases e
 rw[hx];exact f k hk
theorem QgY(a:Option Addr)(n c:Nat)(l:List Cel)(w:World)(hs:CSeg w a n c l)(hn:n≤65536):Calls Tryz.prog 21 #[.slice a n c] w fun e w'=>
  e=.returned (.agg #[.int .i64 (ofZ l).cnt,.int .i64 (ofZ l).nul,.int .i64 (ofZ l).min.k,.int .i64 (ofZ l).min.n,.string (ofZ l).min.s,.int .i64 (ofZ l).max.k,.int .i64 (ofZ l).max.n,.string (ofZ l).max.s])∧w.grownBy w' none:=by
 have HS:=hid hs;have HL:=hid hs.len;obtain⟨z0,hz0⟩:∃z,z=wayZ n zeroZ:=⟨_,rfl⟩;have HZ0:Hid (z0=wayZ n (ofZ (l.take 0))):=hid hz0;obtain⟨W0,hW0⟩:∃W,(w.alloc (.cells #[.int .i64 0,.int .i64 0,.int .i64 0,.int .i64 0,.string ⟨#[]⟩,.int .i64 0,.int .i64 0,.string ⟨#[]⟩] 33)).alloc (.cells #[.int .i64 (n:Int),.int .i64 0,.int .i64 0,.int .i64 0,.string ⟨#[]⟩,.int .i64 0,.int .i64 0,.string ⟨#[]⟩] 33)=W:=⟨_,rfl⟩;have G0:Hid (w.grownBy W0 none):=hid (by rw[←hW0];exact Qa (Qb _ _) (Qb _ _));have R0:Hid (ZB W0 w.heap.size zeroZ):=hid (by rw[←hW0];exact(ZB.new w zeroZ).old (Qb _ _));have Z0:Hid (ZB W0 (w.heap.size+1) z0):=hid (by
  have h:=ZB.new (w.alloc (.cells #[.int .i64 0,.int .i64 0,.int .i64 0,.int .i64 0,.string ⟨#[]⟩,.int .i64 0,.int .i64 0,.string ⟨#[]⟩] 33)) z0;rw[World.size_alloc]at h;rw[←hW0];rw[hz0]at h ⊢;exact h)
 have HW0:=hid hW0;clear hs hz0 hW0;go_enter Tryz.func21,Tryz.ntmps21
 go_wp2;rw[HW0.out];clear HW0
 go_loopw [4,5] (fun fv iv wx=>∃k:Nat,iv=.int .i64 k∧k≤n∧fv=.bool (decide ((ofZ (l.take k)).cnt=(ofZ (l.take k)).nul))∧ZB wx (w.heap.size+1) (wayZ n (ofZ (l.take k)))∧ZB wx w.heap.size zeroZ∧w.grownBy wx none) (fun _ iv _=>n-(intOf iv).toNat)
 case atStart=>exact⟨0,rfl,Nat.zero_le _,rfl,by rw[←HZ0.out];exact Z0.out,R0.out,G0.out⟩
 case round=>
  obtain⟨k,rfl,hk,rfl,hz,hr,hg⟩:=hrel;have HZ:=hid hz;have HR:=hid hr;have HG:=hid hg;clear hz hr hg Z0 R0 G0 HZ0;by_cases hlt:k<n
  ·obtain⟨B,O,rfl,hcs⟩:=(HS.out.old HG.out).form (by omega);have hx3:=hcs k hlt;obtain⟨x,hx⟩:∃x,x=l.getD k zeroC:=⟨_,rfl⟩;rw[←hx]at hx3;have hts:=Qa7 l k (by have:=HL.out;omega);rw[←hx]at hts;have hgd:=Qd3 (l.take k);have hcn:=QdP (l.take k);obtain⟨z,hz⟩:∃z,z=ofZ (l.take k):=⟨_,rfl⟩;have hj:ofZ (l.take (k+1))=joinZ z (oneZ x):=by rw[hts,Qjt,hz]
   have hcj:(joinZ z (oneZ x)).cnt=z.cnt+1:=by rw[Qbg,Qg0]
   have hnj:(joinZ z (oneZ x)).nul=z.nul+(if x.k=0 then 1 else 0):=by rw[Qa0,Qg7]
   have hkl:z.cnt≤65536:=by rw[hz,hcn,List.length_take];omega
   rw[←hz]at hgd;rw[←hz]at HZ ⊢;have HJ:=hid hj;have HXE:=hid hx;have XC:=hid hx3;have hj0:(0:Int)≤(k:Int):=by omega
   have hjk:(k:Int)<(n:Int):=by omega
   have g1:=hgd.nul;have g2:=hgd.le;have HGD:=hid hgd;clear hx hts hz hcn hj hcs hx3 hgd;by_cases h0:x.k=0
   ·have q0:(x.k==0)=true:=beq_iff_eq.2 h0;have HN:=hid (Qnt n h0 HGD.out);rw[if_pos h0]at hnj;have HD:Hid (decide (z.cnt=z.nul)=decide ((joinZ z (oneZ x)).cnt=(joinZ z (oneZ x)).nul)):=hid (by rw[hcj,hnj];exact decide_eq_decide.2 ⟨fun _=>by omega,fun _=>by omega⟩);have hwr:IntKind.i64.wrap (z.nul+1)=z.nul+1:=IntWalk.i64_in _ (by omega);clear h0 hcj hnj HGD;obtain⟨c0,c1,c2⟩:=XC.out;obtain⟨z0',z1,⟨z2,z3,z4⟩,z5,z6,z7⟩:=HZ.out.cells;have y1:=HZ.out.froz 1;unfold wayZ at z0' z1 z2 z3 z4 z5 z6 z7;dsimp only at z0' z1 z2 z3 z4 z5 z6 z7;go_wp2;go_roundw
    case rel=>
     refine⟨k+1,by go_num,by omega,?_,?_,?_,?_⟩
     ·rw[HJ.out];exact congrArg Value.bool HD.out
     ·rw[HJ.out,HN.out];exact Go.heap_setCell_same _ _ 1 _ _ (.int .i64 (z.nul+1)) HZ.out
     ·exact HR.out.not (Turn.setCell _ _ _ (S:=(·=w.heap.size+1)) rfl) (by omega)
     ·exact QmJ HG.out _ _ (by simp)
    case measure=>simp[intOf];omega
   ·have q0:(x.k==0)=false:=beq_eq_false_iff_ne.2 h0;rw[if_neg h0]at hnj;have HD:Hid (false=decide ((joinZ z (oneZ x)).cnt=(joinZ z (oneZ x)).nul)):=hid (by rw[hcj,hnj];exact(decide_eq_false (by omega)).symm);replace HZ:Hid (ZB wr (w.heap.size+1) ⟨(n:Int),z.nul,z.min,z.max⟩):=HZ;by_cases hf:z.cnt=z.nul
    ·have HN:=hid (Qna n h0 hf);rw[decide_eq_true hf];clear h0 hf hcj hnj HGD;obtain⟨c0,c1,c2⟩:=XC.out;go_upto_region 8 with (fail)
     clear c0 c1 c2;obtain⟨c0,c1,c2⟩:=Qap XC.out;obtain⟨z0',z1,⟨z2,z3,z4⟩,z5,z6,z7⟩:=HZ.out.gw;refine QL (by kernel_rfl) ?_
     repeat(go_big_quiet_step (fail))
     refine wpQuiet_nil ?_;rintro _ ⟨p,rfl⟩;clear c0 c1 c2 z0' z1 z2 z3 z4 z5 z6 z7;have HZ:=hid (HZ.out.old p.grown);have HR:=hid (HR.out.old p.grown);have HG:=hid (Qa HG.out p.grown);have XC:=hid (Qp (HS.out.old HG.out) hlt HXE.out);generalize p.at_=W1 at *;clear p;obtain⟨c0,c1,c2⟩:=XC.out;obtain⟨z0',z1,⟨z2,z3,z4⟩,z5,z6,z7⟩:=HZ.out.cells;have y2:=HZ.out.froz 2;have y3:=HZ.out.froz 3;have y4:=HZ.out.froz 4;go_upto_region 10 with (fail)
     clear c0 c1 c2 z0' z1 z2 z3 z4 z5 z6 z7 y2 y3 y4;obtain⟨W2,hW2⟩:∃V,((W1.setCell ⟨w.heap.size+1,2,none⟩ (.int .i64 x.k)).setCell ⟨w.heap.size+1,3,none⟩ (.int .i64 x.n)).setCell ⟨w.heap.size+1,4,none⟩ (.string x.s)=V:=⟨_,rfl⟩;have t9:Turn W1 W2 (·=w.heap.size+1):=by rw[←hW2];exact Q8 _ _ _ _ _ _ _ _
     have HZ:Hid (ZB W2 (w.heap.size+1) ⟨(n:Int),z.nul,x,z.max⟩):=hid (by rw[←hW2];exact HZ.out.setMin x);have HR:=hid (HR.out.not t9 (by omega));have HG:=hid (Ql HG.out t9 (by omega));have XC:=hid (Qp (HS.out.old HG.out) hlt HXE.out);rw[hW2];clear hW2 t9;obtain⟨c0,c1,c2⟩:=Qap XC.out;obtain⟨z0',z1,⟨z2,z3,z4⟩,z5,z6,z7⟩:=HZ.out.gw;refine QL (by kernel_rfl) ?_
     repeat(go_big_quiet_step (fail))
     refine wpQuiet_nil ?_;rintro _ ⟨p,rfl⟩;clear c0 c1 c2 z0' z1 z2 z3 z4 z5 z6 z7;have HZ:=hid (HZ.out.old p.grown);have HR:=hid (HR.out.old p.grown);have HG:=hid (Qa HG.out p.grown);have XC:=hid (Qp (HS.out.old HG.out) hlt HXE.out);generalize p.at_=W1 at *;clear p;obtain⟨c0,c1,c2⟩:=XC.out;obtain⟨z0',z1,⟨z2,z3,z4⟩,z5,z6,z7⟩:=HZ.out.cells;have y5:=HZ.out.froz 5;have y6:=HZ.out.froz 6;have y7:=HZ.out.froz 7;go_upto_region 12 with (fail)
     clear c0 c1 c2 z0' z1 z2 z3 z4 z5 z6 z7 y5 y6 y7;obtain⟨W2,hW2⟩:∃V,((W1.setCell ⟨w.heap.size+1,5,none⟩ (.int .i64 x.k)).setCell ⟨w.heap.size+1,6,none⟩ (.int .i64 x.n)).setCell ⟨w.heap.size+1,7,none⟩ (.string x.s)=V:=⟨_,rfl⟩;have t9:Turn W1 W2 (·=w.heap.size+1):=by rw[←hW2];exact Q8 _ _ _ _ _ _ _ _
     have HZ:Hid (ZB W2 (w.heap.size+1) ⟨(n:Int),z.nul,x,x⟩):=hid (by rw[←hW2];exact HZ.out.setMax x);have HR:=hid (HR.out.not t9 (by omega));have HG:=hid (Ql HG.out t9 (by omega));have XC:=hid (Qp (HS.out.old HG.out) hlt HXE.out);rw[hW2];clear hW2 t9;go_wp2;go_roundw
     case rel=>exact⟨k+1,by go_num,by omega,by rw[HJ.out];exact congrArg Value.bool HD.out,by rw[HJ.out,HN.out];exact HZ.out,HR.out,HG.out⟩
     case measure=>simp[intOf];omega
    ·have HN:=hid (Qnu n h0 hf);rw[decide_eq_false hf];have H1:=hid (fun W=>Qdf x z.min W);have H2:=hid (fun W=>Qdf x z.max W);obtain⟨o1,ho1⟩:∃o,o=cmpC x z.min:=⟨_,rfl⟩;obtain⟨o2,ho2⟩:∃o,o=cmpC x z.max:=⟨_,rfl⟩;rw[←ho1]at H1;rw[←ho2]at H2;rw[←ho1,←ho2]at HN;clear h0 hf hcj hnj HGD ho1 ho2;by_cases b1:o1<0
     ·rw[if_pos b1]at HN;have d1:decide (o1<0)=true:=decide_eq_true b1;clear b1;by_cases b2:0<o2
      ·rw[if_pos b2]at HN;have d2:decide (0<o2)=true:=decide_eq_true b2;clear b2;obtain⟨c0,c1,c2⟩:=XC.out;go_upto_region 8 with (fail)
       clear c0 c1 c2;obtain⟨c0,c1,c2⟩:=Qap XC.out;obtain⟨z0',z1,⟨z2,z3,z4⟩,z5,z6,z7⟩:=HZ.out.gw;refine QL (by kernel_rfl) ?_
       repeat(go_big_quiet_step (first|(go_at_call 43;with_reducible exact Calls.QbX (H1.out _))|fail))
       refine wpQuiet_nil ?_;rintro _ ⟨p,rfl⟩;clear c0 c1 c2 z0' z1 z2 z3 z4 z5 z6 z7;have HZ:=hid (HZ.out.old p.grown);have HR:=hid (HR.out.old p.grown);have HG:=hid (Qa HG.out p.grown);have XC:=hid (Qp (HS.out.old HG.out) hlt HXE.out);generalize p.at_=W1 at *;clear p;obtain⟨c0,c1,c2⟩:=XC.out;obtain⟨z0',z1,⟨z2,z3,z4⟩,z5,z6,z7⟩:=HZ.out.cells;have y2:=HZ.out.froz 2;have y3:=HZ.out.froz 3;have y4:=HZ.out.froz 4;go_upto_region 10 with (fail)
       clear c0 c1 c2 z0' z1 z2 z3 z4 z5 z6 z7 y2 y3 y4;obtain⟨W2,hW2⟩:∃V,((W1.setCell ⟨w.heap.size+1,2,none⟩ (.int .i64 x.k)).setCell ⟨w.heap.size+1,3,none⟩ (.int .i64 x.n)).setCell ⟨w.heap.size+1,4,none⟩ (.string x.s)=V:=⟨_,rfl⟩;have t9:Turn W1 W2 (·=w.heap.size+1):=by rw[←hW2];exact Q8 _ _ _ _ _ _ _ _
       have HZ:Hid (ZB W2 (w.heap.size+1) ⟨(n:Int),z.nul,x,z.max⟩):=hid (by rw[←hW2];exact HZ.out.setMin x);have HR:=hid (HR.out.not t9 (by omega));have HG:=hid (Ql HG.out t9 (by omega));have XC:=hid (Qp (HS.out.old HG.out) hlt HXE.out);rw[hW2];clear hW2 t9;obtain⟨c0,c1,c2⟩:=Qap XC.out;obtain⟨z0',z1,⟨z2,z3,z4⟩,z5,z6,z7⟩:=HZ.out.gw;refine QL (by kernel_rfl) ?_
       repeat(go_big_quiet_step (first|(go_at_call 43;with_reducible exact Calls.QbX (H2.out _))|fail))
       refine wpQuiet_nil ?_;rintro _ ⟨p,rfl⟩;clear c0 c1 c2 z0' z1 z2 z3 z4 z5 z6 z7;have HZ:=hid (HZ.out.old p.grown);have HR:=hid (HR.out.old p.grown);have HG:=hid (Qa HG.out p.grown);have XC:=hid (Qp (HS.out.old HG.out) hlt HXE.out);generalize p.at_=W1 at *;clear p;obtain⟨c0,c1,c2⟩:=XC.out;obtain⟨z0',z1,⟨z2,z3,z4⟩,z5,z6,z7⟩:=HZ.out.cells;have y5:=HZ.out.froz 5;have y6:=HZ.out.froz 6;have y7:=HZ.out.froz 7;go_upto_region 12 with (fail)
       clear c0 c1 c2 z0' z1 z2 z3 z4 z5 z6 z7 y5 y6 y7;obtain⟨W2,hW2⟩:∃V,((W1.setCell ⟨w.heap.size+1,5,none⟩ (.int .i64 x.k)).setCell ⟨w.heap.size+1,6,none⟩ (.int .i64 x.n)).setCell ⟨w.heap.size+1,7,none⟩ (.string x.s)=V:=⟨_,rfl⟩;have t9:Turn W1 W2 (·=w.heap.size+1):=by rw[←hW2];exact Q8 _ _ _ _ _ _ _ _
       have HZ:Hid (ZB W2 (w.heap.size+1) ⟨(n:Int),z.nul,x,x⟩):=hid (by rw[←hW2];exact HZ.out.setMax x);have HR:=hid (HR.out.not t9 (by omega));have HG:=hid (Ql HG.out t9 (by omega));have XC:=hid (Qp (HS.out.old HG.out) hlt HXE.out);rw[hW2];clear hW2 t9;go_wp2;go_roundw
       case rel=>exact⟨k+1,by go_num,by omega,by rw[HJ.out];exact congrArg Value.bool HD.out,by rw[HJ.out,HN.out];exact HZ.out,HR.out,HG.out⟩
       case measure=>simp[intOf];omega
      ·rw[if_neg b2]at HN;have d2:decide (0<o2)=false:=decide_eq_false b2;clear b2;obtain⟨c0,c1,c2⟩:=XC.out;go_upto_region 8 with (fail)
       clear c0 c1 c2;obtain⟨c0,c1,c2⟩:=Qap XC.out;obtain⟨z0',z1,⟨z2,z3,z4⟩,z5,z6,z7⟩:=HZ.out.gw;refine QL (by kernel_rfl) ?_
       repeat(go_big_quiet_step (first|(go_at_call 43;with_reducible exact Calls.QbX (H1.out _))|fail))
       refine wpQuiet_nil ?_;rintro _ ⟨p,rfl⟩;clear c0 c1 c2 z0' z1 z2 z3 z4 z5 z6 z7;have HZ:=hid (HZ.out.old p.grown);have HR:=hid (HR.out.old p.grown);have HG:=hid (Qa HG.out p.grown);have XC:=hid (Qp (HS.out.old HG.out) hlt HXE.out);generalize p.at_=W1 at *;clear p;obtain⟨c0,c1,c2⟩:=XC.out;obtain⟨z0',z1,⟨z2,z3,z4⟩,z5,z6,z7⟩:=HZ.out.cells;have y2:=HZ.out.froz 2;have y3:=HZ.out.froz 3;have y4:=HZ.out.froz 4;go_upto_region 10 with (fail)
       clear c0 c1 c2 z0' z1 z2 z3 z4 z5 z6 z7 y2 y3 y4;obtain⟨W2,hW2⟩:∃V,((W1.setCell ⟨w.heap.size+1,2,none⟩ (.int .i64 x.k)).setCell ⟨w.heap.size+1,3,none⟩ (.int .i64 x.n)).setCell ⟨w.heap.size+1,4,none⟩ (.string x.s)=V:=⟨_,rfl⟩;have t9:Turn W1 W2 (·=w.heap.size+1):=by rw[←hW2];exact Q8 _ _ _ _ _ _ _ _
       have HZ:Hid (ZB W2 (w.heap.size+1) ⟨(n:Int),z.nul,x,z.max⟩):=hid (by rw[←hW2];exact HZ.out.setMin x);have HR:=hid (HR.out.not t9 (by omega));have HG:=hid (Ql HG.out t9 (by omega));have XC:=hid (Qp (HS.out.old HG.out) hlt HXE.out);rw[hW2];clear hW2 t9;obtain⟨c0,c1,c2⟩:=Qap XC.out;obtain⟨z0',z1,⟨z2,z3,z4⟩,z5,z6,z7⟩:=HZ.out.gw;refine QL (by kernel_rfl) ?_
       repeat(go_big_quiet_step (first|(go_at_call 43;with_reducible exact Calls.QbX (H2.out _))|fail))
       refine wpQuiet_nil ?_;rintro _ ⟨p,rfl⟩;clear c0 c1 c2 z0' z1 z2 z3 z4 z5 z6 z7;have HZ:=hid (HZ.out.old p.grown);have HR:=hid (HR.out.old p.grown);have HG:=hid (Qa HG.out p.grown);have XC:=hid (Qp (HS.out.old HG.out) hlt HXE.out);generalize p.at_=W1 at *;clear p;go_wp2;go_roundw
       case rel=>exact⟨k+1,by go_num,by omega,by rw[HJ.out];exact congrArg Value.bool HD.out,by rw[HJ.out,HN.out];exact HZ.out,HR.out,HG.out⟩
       case measure=>simp[intOf];omega
     ·rw[if_neg b1]at HN;have d1:decide (o1<0)=false:=decide_eq_false b1;clear b1;by_cases b2:0<o2
      ·rw[if_pos b2]at HN;have d2:decide (0<o2)=true:=decide_eq_true b2;clear b2;obtain⟨c0,c1,c2⟩:=XC.out;go_upto_region 8 with (fail)
       clear c0 c1 c2;obtain⟨c0,c1,c2⟩:=Qap XC.out;obtain⟨z0',z1,⟨z2,z3,z4⟩,z5,z6,z7⟩:=HZ.out.gw;refine QL (by kernel_rfl) ?_
       repeat(go_big_quiet_step (first|(go_at_call 43;with_reducible exact Calls.QbX (H1.out _))|fail))
       refine wpQuiet_nil ?_;rintro _ ⟨p,rfl⟩;clear c0 c1 c2 z0' z1 z2 z3 z4 z5 z6 z7;have HZ:=hid (HZ.out.old p.grown);have HR:=hid (HR.out.old p.grown);have HG:=hid (Qa HG.out p.grown);have XC:=hid (Qp (HS.out.old HG.out) hlt HXE.out);generalize p.at_=W1 at *;clear p;obtain⟨c0,c1,c2⟩:=XC.out;go_upto_region 10 with (fail)
       clear c0 c1 c2;obtain⟨c0,c1,c2⟩:=Qap XC.out;obtain⟨z0',z1,⟨z2,z3,z4⟩,z5,z6,z7⟩:=HZ.out.gw;refine QL (by kernel_rfl) ?_
       repeat(go_big_quiet_step (first|(go_at_call 43;with_reducible exact Calls.QbX (H2.out _))|fail))
       refine wpQuiet_nil ?_;rintro _ ⟨p,rfl⟩;clear c0 c1 c2 z0' z1 z2 z3 z4 z5 z6 z7;have HZ:=hid (HZ.out.old p.grown);have HR:=hid (HR.out.old p.grown);have HG:=hid (Qa HG.out p.grown);have XC:=hid (Qp (HS.out.old HG.out) hlt HXE.out);generalize p.at_=W1 at *;clear p;obtain⟨c0,c1,c2⟩:=XC.out;obtain⟨z0',z1,⟨z2,z3,z4⟩,z5,z6,z7⟩:=HZ.out.cells;have y5:=HZ.out.froz 5;have y6:=HZ.out.froz 6;have y7:=HZ.out.froz 7;go_upto_region 12 with (fail)
       clear c0 c1 c2 z0' z1 z2 z3 z4 z5 z6 z7 y5 y6 y7;obtain⟨W2,hW2⟩:∃V,((W1.setCell ⟨w.heap.size+1,5,none⟩ (.int .i64 x.k)).setCell ⟨w.heap.size+1,6,none⟩ (.int .i64 x.n)).setCell ⟨w.heap.size+1,7,none⟩ (.string x.s)=V:=⟨_,rfl⟩;have t9:Turn W1 W2 (·=w.heap.size+1):=by rw[←hW2];exact Q8 _ _ _ _ _ _ _ _
       have HZ:Hid (ZB W2 (w.heap.size+1) ⟨(n:Int),z.nul,z.min,x⟩):=hid (by rw[←hW2];exact HZ.out.setMax x);have HR:=hid (HR.out.not t9 (by omega));have HG:=hid (Ql HG.out t9 (by omega));have XC:=hid (Qp (HS.out.old HG.out) hlt HXE.out);rw[hW2];clear hW2 t9;go_wp2;go_roundw
       case rel=>exact⟨k+1,by go_num,by omega,by rw[HJ.out];exact congrArg Value.bool HD.out,by rw[HJ.out,HN.out];exact HZ.out,HR.out,HG.out⟩
       case measure=>simp[intOf];omega
      ·rw[if_neg b2]at HN;have d2:decide (0<o2)=false:=decide_eq_false b2;clear b2;obtain⟨c0,c1,c2⟩:=XC.out;go_upto_region 8 with (fail)
       clear c0 c1 c2;obtain⟨c0,c1,c2⟩:=Qap XC.out;obtain⟨z0',z1,⟨z2,z3,z4⟩,z5,z6,z7⟩:=HZ.out.gw;refine QL (by kernel_rfl) ?_
       repeat(go_big_quiet_step (first|(go_at_call 43;with_reducible exact Calls.QbX (H1.out _))|fail))
       refine wpQuiet_nil ?_;rintro _ ⟨p,rfl⟩;clear c0 c1 c2 z0' z1 z2 z3 z4 z5 z6 z7;have HZ:=hid (HZ.out.old p.grown);have HR:=hid (HR.out.old p.grown);have HG:=hid (Qa HG.out p.grown);have XC:=hid (Qp (HS.out.old HG.out) hlt HXE.out);generalize p.at_=W1 at *;clear p;obtain⟨c0,c1,c2⟩:=XC.out;go_upto_region 10 with (fail)
       clear c0 c1 c2;obtain⟨c0,c1,c2⟩:=Qap XC.out;obtain⟨z0',z1,⟨z2,z3,z4⟩,z5,z6,z7⟩:=HZ.out.gw;refine QL (by kernel_rfl) ?_
       repeat(go_big_quiet_step (first|(go_at_call 43;with_reducible exact Calls.QbX (H2.out _))|fail))
       refine wpQuiet_nil ?_;rintro _ ⟨p,rfl⟩;clear c0 c1 c2 z0' z1 z2 z3 z4 z5 z6 z7;have HZ:=hid (HZ.out.old p.grown);have HR:=hid (HR.out.old p.grown);have HG:=hid (Qa HG.out p.grown);have XC:=hid (Qp (HS.out.old HG.out) hlt HXE.out);generalize p.at_=W1 at *;clear p;go_wp2;go_roundw
       case rel=>exact⟨k+1,by go_num,by omega,by rw[HJ.out];exact congrArg Value.bool HD.out,by rw[HJ.out,HN.out];exact HZ.out,HR.out,HG.out⟩
       case measure=>simp[intOf];omega
  ·obtain rfl:k=n:=by omega
   have HT:Hid (wayZ k (ofZ (l.take k))=ofZ l):=hid (by
    have h1:l.take k=l:=List.take_of_length_le (by rw[HL.out];exact Nat.le_refl _);have h2:=QdP l;rw[HL.out]at h2;rw[h1];exact Qbz h2.symm rfl rfl rfl)
   rw[HT.out]at HZ;obtain⟨z,hz⟩:∃z,z=ofZ l:=⟨_,rfl⟩;rw[←hz]at HZ;have HE:=hid hz;clear hz HT hlt;obtain⟨z0',z1,⟨z2,z3,z4⟩,z5,z6,z7⟩:=HZ.out.cells;go_wp2_with (first
    |(with_reducible refine Qo rfl (.tmp 2) (.tmp 57) rfl w.heap.size rfl z rfl zeroZ HR.out ?_;intro w9 hz9 ht9)
    |fail)
   refine bodyPost_ret (QN rfl _ _ _ _ rfl hz9) rfl ⟨by rw[HE.out],Ql HG.out ht9 (Nat.le_refl _)⟩
end Zr
namespace Zn
open Go.RowKit Bs Dv
theorem flatC_take(l:List Cel)(m:Nat):flatC (l.take m)=(flatC l).take (m*3):=by
 induction l generalizing m with
 |nil=>simp[flatC]
 |cons c l ih=>
  cases m with
  |zero=>simp[flatC]
  |succ m=>
   rw[show(m+1)*3=m*3+1+1+1 from by omega];simp only[List.take_succ_cons,flatC,ih]
theorem flatC_drop(l:List Cel)(m:Nat):flatC (l.drop m)=(flatC l).drop (m*3):=by
 induction l generalizing m with
 |nil=>simp[flatC]
 |cons c l ih=>
  cases m with
  |zero=>simp[flatC]
  |succ m=>
   rw[show(m+1)*3=m*3+1+1+1 from by omega];simp only[List.drop_succ_cons,flatC,ih]
theorem CSeg.own{w:World}{base e g n c:Nat}{l:List Cel}(h:w.ownsRow base e 3 (.slice (some ⟨g,0,none⟩) n c) n (flatC l)):CSeg w (some ⟨g,0,none⟩) n c l:=by
 have hl:l.length=n:=by have:=h.1;rw[QbS]at this;omega
 refine⟨hl,?_,?_,fun e=>by(cases e),?_⟩
 ·rcases h.2 with ⟨e,_⟩|⟨g',cap,cur,e,_,_,h1,h2,_⟩
  ·cases e
  ·cases e;exact h1
 ·rcases h.2 with ⟨e,_⟩|⟨g',cap,cur,e,_,_,h1,h2,_⟩
  ·cases e
  ·cases e;exact h2
 ·intro ad had j u hu;cases had
  exact h.cells rfl j u hu
theorem CSeg.lit(w:World)(l:List Cel)(hl:l.length≤1000):CSeg (w.alloc (.cells (flatC l).toArray 24)) (some ⟨w.heap.size,0,none⟩) l.length l.length l:=by
 refine⟨rfl,Nat.le_refl _,by unfold maxLen;omega,(fun e=>by cases e),fun ad had j u hu=>?_⟩;cases had
 rw[Addr.add_lit,Nat.zero_add,cell_of_row _ _ _ _ _ _ (heap_alloc_new w _)]
 simpa using hu
theorem QkU:(Tryz.prog.info? 24).map (fun i=>(i.zero,i.size,i.bytes))=some (some (.agg #[.int .i64 0,.int .i64 0,.string ⟨#[]⟩]),3,32):=by kernel_rfl
theorem QaZ:∃i,Tryz.prog.info? 24=some i∧i.zero=some (.agg #[.int .i64 0,.int .i64 0,.string ⟨#[]⟩])∧i.size=3∧i.bytes=32:=by
 have h:=QkU;cases hq:Tryz.prog.info? 24 with
 |none=>rw[hq]at h;cases h
 |some i=>
  rw[hq]at h;simp only[Option.map_some,Option.some.injEq,Prod.mk.injEq]at h;exact⟨i,rfl,h.1,h.2.1,h.2.2⟩
end Zn
namespace Sg
open Go.RowKit Bs Dv Zn
theorem Qdx:∀(l:List Cel) (i:Nat) (x:Cel),flatC (l.set i x)=if i<l.length then(((flatC l).set (i*3) (.int .i64 x.k)).set (i*3+1) (.int .i64 x.n)).set (i*3+2) (.string x.s) else flatC l
 | [],i,x=>by rw[if_neg (by simp)];rfl
 |c :: l,0,x=>by rw[if_pos (by simp)];rfl
 |c :: l,i+1,x=>by
  have ih:=Qdx l i x;rw[List.set_cons_succ,flatC,ih];by_cases h:i<l.length
  ·rw[if_pos h,if_pos (by rw[List.length_cons];omega),flatC,show(i+1)*3=i*3+1+1+1 from by omega]
   rfl
  ·rw[if_neg h,if_neg (by rw[List.length_cons];omega)]
   rfl
theorem QdS{w:World}{base g n c:Nat}{l:List Cel}(h:w.ownsRow base 24 3 (.slice (some ⟨g,0,none⟩) n c) n (flatC l))(i:Nat)(x:Cel)(hi:i<l.length) :
  (((w.setCell ⟨g,i*3,none⟩ (.int .i64 x.k)).setCell ⟨g,i*3+1,none⟩ (.int .i64 x.n)).setCell ⟨g,i*3+2,none⟩ (.string x.s)).ownsRow base 24 3 (.slice (some ⟨g,0,none⟩) n c) n (flatC (l.set i x)) ∧
  w.grownBy (((w.setCell ⟨g,i*3,none⟩ (.int .i64 x.k)).setCell ⟨g,i*3+1,none⟩ (.int .i64 x.n)).setCell ⟨g,i*3+2,none⟩ (.string x.s)) (some g):=by
 obtain⟨h1,g1⟩:=h.stored (i*3) (.int .i64 x.k);obtain⟨h2,g2⟩:=h1.stored (i*3+1) (.int .i64 x.n);obtain⟨h3,g3⟩:=h2.stored (i*3+2) (.string x.s);refine⟨by rw[Qdx,if_pos hi];exact h3,⟨?_,?_,?_,?_,?_⟩⟩
 ·exact g3.os.trans (g2.os.trans g1.os)
 ·exact g3.tape.trans (g2.tape.trans g1.tape)
 ·exact g3.output.trans (g2.output.trans g1.output)
 ·exact Nat.le_trans g1.size (Nat.le_trans g2.size g3.size)
 ·intro k hk hn;rw[g3.block k (Nat.lt_of_lt_of_le hk (Nat.le_trans g1.size g2.size)) hn,g2.block k (Nat.lt_of_lt_of_le hk g1.size) hn,g1.block k hk hn]
theorem _root_.Go.Proofs.YtljanfnhmhimiaaGreat.Zn.CSeg.cells0{w:World}{g n c:Nat}{l:List Cel}(h:CSeg w (some ⟨g,0,none⟩) n c l)(k:Nat)(hk:k<n) :
  w.cell? ⟨g,k*3,none⟩=some (.int .i64 (l.getD k zeroC).k)∧w.cell? ⟨g,k*3+1,none⟩=some (.int .i64 (l.getD k zeroC).n)∧w.cell? ⟨g,k*3+2,none⟩=some (.string (l.getD k zeroC).s):=by
 obtain⟨B,O,e,f⟩:=h.form (by omega);cases e
 have h1:=f k hk
 simpa using h1
end Sg
namespace Zn
open Go.RowKit
def roomC(S:Nat):Array Value:=madeCells #[.int .i64 0,.int .i64 0,.string ⟨#[]⟩] (S*3)
theorem QcM(S:Nat):(roomC S).size=S*3:=size_madeCells _ _
theorem Qlr(S:Nat):(roomC S).toList=flatC (List.replicate S zeroC):=by
 unfold roomC madeCells;rw[Array.toList_map,Array.toList_range]
 induction S with
 |zero=>rfl
 |succ S ih=>
  rw[show(S+1)*3=S*3+1+1+1 from by omega,List.range_succ,List.range_succ,List.range_succ,List.append_assoc,List.append_assoc,List.map_append,ih,List.replicate_succ',Qbo];have h0:S*3 % 3=0:=by omega
  have h1:(S*3+1) % 3=1:=by omega
  have h2:(S*3+1+1) % 3=2:=by omega
  simp[flatC,zeroC,h0,h1,h2]
theorem Q3(S:Nat)(hS:S≤1000000)(W:World):(Instr.makeSlice 26 (.int .i64 (S:Int)) (.int .i64 (S:Int))).run Tryz.prog W=.ok (.slice (some ⟨W.heap.size,0,none⟩) S S) (W.alloc (.cells (roomC S) 24)):=by
 obtain⟨i0,hi,hz0,hz1,hz2⟩:=QaZ;have h:=run_make (P:=Tryz.prog) W 26 24 i0 (.agg #[.int .i64 0,.int .i64 0,.string ⟨#[]⟩]) Tryz.underlying26 hi hz0 .i64 .i64 (S:Int) (S:Int) (by omega) (by omega) (by rw[hz2];omega) (by omega);rw[hz1,Int.toNat_natCast]at h;exact h
theorem Q6(S:Nat)(hS:S≤1000000)(W:World):(W.alloc (.cells (roomC S) 24)).ownsRow W.heap.size 24 3 (.slice (some ⟨W.heap.size,0,none⟩) S S) S (flatC (List.replicate S zeroC)):=by
 exact⟨by rw[QbS,List.length_replicate],.inr ⟨W.heap.size,S,roomC S,rfl,Nat.le_refl _,heap_alloc_new W _,Nat.le_refl _,by unfold maxLen;omega,QcM S,by rw[Qlr];exact List.take_of_length_le (by rw[QbS,List.length_replicate];omega)⟩⟩
theorem Qmf(S:Nat)(hS:S≤1000000)(W:World):CSeg (W.alloc (.cells (roomC S) 24)) (some ⟨W.heap.size,0,none⟩) S S (List.replicate S zeroC):=CSeg.own (Q6 S hS W)
end Zn
namespace Zn
open Go.RowKit Bs Dv
def LightX(n most:Nat)(w:World)(e:Ending)(w':World):Prop:=∃b:Bool,e=.returned (.bool b)∧(b=true→n≤most)∧w=w'
def StrsOk(l:List Cel):Prop:=∀x∈l,x.s.size≤140737488355328
theorem StrsOk.at{l:List Cel}(h:StrsOk l)(k:Nat):(l.getD k zeroC).s.size≤140737488355328:=by
 by_cases hk:k<l.length
 ·rw[List.getD_eq_getElem?_getD,List.getElem?_eq_getElem hk];exact h _ (List.getElem_mem hk)
 ·rw[List.getD_eq_getElem?_getD,List.getElem?_eq_none (Nat.not_lt.1 hk)];show(0:Nat)≤_;omega
theorem Qg2(a:Option Addr)(n c:Nat)(l:List Cel)(w:World)(hs:CSeg w a n c l)(ho:StrsOk l) :
  Calls Tryz.prog 36 #[.slice a n c,.int .i64 60,.int .i64 600] w (LightX n 60 w):=by
 have hcap:=hs.le;have hcap2:=hs.cap;unfold maxLen at hcap2;have HS:=hid hs;clear hs;have H0:Hid (LightX n 60 w (.returned (.bool false)) w):=hid ⟨false,rfl,(fun h=>by cases h),rfl⟩;by_cases h60:60<n
 ·have h60':(60:Int)<n:=by omega
  clear h60;go_enter Tryz.func36,Tryz.ntmps36
  go_wp2;go_ret
  exact H0.out
 ·have h60':¬(60:Int)<n:=by omega
  have H1:Hid (LightX n 60 w (.returned (.bool true)) w):=hid ⟨true,rfl,(fun _=>by omega),rfl⟩;clear h60;go_enter Tryz.func36,Tryz.ntmps36
  go_wp2
  go_loop [7,8] (fun tv iv=>∃k t:Nat,tv=.int .i64 t∧iv=.int .i64 k∧k≤n∧t≤600) (fun _ iv=>n-(intOf iv).toNat)
  case atStart=>exact⟨0,0,rfl,rfl,Nat.zero_le _,Nat.zero_le _⟩
  case round=>
   obtain⟨k,t,rfl,rfl,hk,ht⟩:=hrel;by_cases hlt:k<n
   ·obtain⟨B,O,rfl,hcs⟩:=HS.out.form (by omega);obtain⟨-,-,c2⟩:=hcs k hlt;clear hcs;have hz:=ho.at k;obtain⟨s,hs⟩:∃s,s=(l.getD k zeroC).s:=⟨_,rfl⟩;rw[←hs]at c2 hz;clear hs;have hw:IntKind.i64.wrap ((t:Int)+(s.size:Int))=(t:Int)+(s.size:Int):=IntWalk.i64_in _ (by omega);by_cases h6:600<t+s.size
    ·have h6':(600:Int)<(t:Int)+(s.size:Int):=by omega
     clear h6;go_wp2;go_ret
     exact H0.out
    ·have h6':¬(600:Int)<(t:Int)+(s.size:Int):=by omega
     have HT:=hid (show t+s.size≤600 by omega);clear h6;go_wp2
     go_round
     case rel=>exact⟨k+1,t+s.size,by go_num,by go_num,by omega,HT.out⟩
     case measure=>simp[intOf];omega
   ·obtain rfl:k=n:=by omega
    clear hlt;go_wp2;go_ret
    exact H1.out
end Zn
end Go.Proofs.YtljanfnhmhimiaaGreat
