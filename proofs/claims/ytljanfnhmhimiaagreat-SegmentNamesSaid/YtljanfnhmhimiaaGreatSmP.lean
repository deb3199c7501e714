/-
  What the program's and the document's functions do, in memory and as plain functions: ZnJoin, ZnOf, ZrOf, CSame, ZnSeg, ZnLight, ZnMake, SgRow.
-/
import Derived.Deep.DeepCutAuto
import Derived.Deep.RegionWith
import Derived.BigFrame
import Derived.BigQuiet
import Derived.Deep.QuietTactic
import Derived.Laws.OwnMore
import Derived.Test.YtljanfnhmhimiaaGreatSmG
import Derived.Test.YtljanfnhmhimiaaGreatSmK

namespace Go.Proofs.YtljanfnhmhimiaaGreat.Zn
open Go.RowKit Bs Dv

/-- numbers that may be added -/
def Small (z : Zon) : Prop := 0 ≤ z.cnt ∧ z.cnt ≤ 1000000 ∧ 0 ≤ z.nul ∧ z.nul ≤ 1000000

theorem ZB.froz {w : World} {g : Nat} {z : Zon} (h : ZB w g z) (j : Nat) : w.frozen? ⟨g, j, none⟩ = false := by
  unfold ZB at h
  simp [World.frozen?, h]
theorem ZB.setMin {w : World} {g : Nat} {z : Zon} (h : ZB w g z) (c : Cel) : ZB (((w.setCell ⟨g, 2, none⟩ (.int .i64 c.k)).setCell ⟨g, 3, none⟩ (.int .i64 c.n)).setCell ⟨g, 4, none⟩ (.string c.s)) g ⟨z.cnt, z.nul, c, z.max⟩ :=
  Go.heap_setCell_same _ g 4 _ _ (.string c.s) (Go.heap_setCell_same _ g 3 _ _ (.int .i64 c.n) (Go.heap_setCell_same w g 2 _ _ (.int .i64 c.k) h))
theorem ZB.setMax {w : World} {g : Nat} {z : Zon} (h : ZB w g z) (c : Cel) : ZB (((w.setCell ⟨g, 5, none⟩ (.int .i64 c.k)).setCell ⟨g, 6, none⟩ (.int .i64 c.n)).setCell ⟨g, 7, none⟩ (.string c.s)) g ⟨z.cnt, z.nul, z.min, c⟩ :=
  Go.heap_setCell_same _ g 7 _ _ (.string c.s) (Go.heap_setCell_same _ g 6 _ _ (.int .i64 c.n) (Go.heap_setCell_same w g 5 _ _ (.int .i64 c.k) h))
theorem ZB.not {w w' : World} {g k : Nat} {z : Zon} (h : ZB w g z) (t : Turn w w' (· = k)) (hne : g ≠ k) : ZB w' g z := block_turn h t hne
theorem turn_set3 (w : World) (g i j k : Nat) (x y z : Value) : Turn w (((w.setCell ⟨g, i, none⟩ x).setCell ⟨g, j, none⟩ y).setCell ⟨g, k, none⟩ z) (· = g) :=
  ((Turn.setCell w _ _ (S := (· = g)) rfl).trans (Turn.setCell _ _ _ (S := (· = g)) rfl) (fun _ _ e => e)).trans (Turn.setCell _ _ _ (S := (· = g)) rfl) (fun _ _ e => e)

set_option maxRecDepth 100000 in
set_option maxHeartbeats 4000000 in
theorem Join_any (a b : Zon) (w : World) (ha : Small a) (hb : Small b) : Calls Tryz.prog 56 #[.agg #[.int .i64 a.cnt, .int .i64 a.nul, .int .i64 a.min.k, .int .i64 a.min.n, .string a.min.s, .int .i64 a.max.k, .int .i64 a.max.n, .string a.max.s], .agg #[.int .i64 b.cnt, .int .i64 b.nul, .int .i64 b.min.k, .int .i64 b.min.n, .string b.min.s, .int .i64 b.max.k, .int .i64 b.max.n, .string b.max.s]] w fun e w' =>
    e = .returned (.agg #[.int .i64 (joinZ a b).cnt, .int .i64 (joinZ a b).nul, .int .i64 (joinZ a b).min.k, .int .i64 (joinZ a b).min.n, .string (joinZ a b).min.s, .int .i64 (joinZ a b).max.k, .int .i64 (joinZ a b).max.n, .string (joinZ a b).max.s]) ∧ w.grownBy w' none := by
  unfold Small at ha hb
  have s1 : IntKind.i64.wrap (a.cnt + b.cnt) = a.cnt + b.cnt := IntWalk.i64_in _ (by omega)
  have s2 : IntKind.i64.wrap (a.nul + b.nul) = a.nul + b.nul := IntWalk.i64_in _ (by omega)
  have hs3 : -9223372036854775808 ≤ a.cnt + b.cnt ∧ a.cnt + b.cnt ≤ 9223372036854775807 := by omega
  have hs4 : -9223372036854775808 ≤ a.nul + b.nul ∧ a.nul + b.nul ≤ 9223372036854775807 := by omega
  have HC := Lib.hid (fun W => Compare_any a.min b.min W)
  have HD := Lib.hid (fun W => Compare_any a.max b.max W)
  obtain ⟨z0, hz0⟩ : ∃ z0 : Zon, z0 = ⟨a.cnt + b.cnt, a.nul + b.nul, b.min, b.max⟩ := ⟨_, rfl⟩
  obtain ⟨W0, hW0⟩ : ∃ W0, (((w.alloc (.cells #[.int .i64 a.cnt, .int .i64 a.nul, .int .i64 a.min.k, .int .i64 a.min.n, .string a.min.s, .int .i64 a.max.k, .int .i64 a.max.n, .string a.max.s] 33)).alloc (.cells #[.int .i64 b.cnt, .int .i64 b.nul, .int .i64 b.min.k, .int .i64 b.min.n, .string b.min.s, .int .i64 b.max.k, .int .i64 b.max.n, .string b.max.s] 33)).alloc (.cells #[.int .i64 0, .int .i64 0, .int .i64 0, .int .i64 0, .string ⟨#[]⟩, .int .i64 0, .int .i64 0, .string ⟨#[]⟩] 33)).alloc (.cells #[.int .i64 (a.cnt + b.cnt), .int .i64 (a.nul + b.nul), .int .i64 b.min.k, .int .i64 b.min.n, .string b.min.s, .int .i64 b.max.k, .int .i64 b.max.n, .string b.max.s] 33) = W0 := ⟨_, rfl⟩
  have G0 : Hid (w.grownBy W0 none) := Lib.hid (by rw [← hW0]; exact grown_then (grown_then (grown_then (grown_alloc _ _) (grown_alloc _ _)) (grown_alloc _ _)) (grown_alloc _ _))
  have A0 : Hid (ZB W0 w.heap.size a) := Lib.hid (by rw [← hW0]; exact (((ZB.new w a).old (grown_alloc _ _)).old (grown_alloc _ _)).old (grown_alloc _ _))
  have B0 : Hid (ZB W0 (w.heap.size + 1) b) := Lib.hid (by
    have h := ZB.new (w.alloc (.cells #[.int .i64 a.cnt, .int .i64 a.nul, .int .i64 a.min.k, .int .i64 a.min.n, .string a.min.s, .int .i64 a.max.k, .int .i64 a.max.n, .string a.max.s] 33)) b
    rw [World.size_alloc] at h
    rw [← hW0]; exact (h.old (grown_alloc _ _)).old (grown_alloc _ _))
  have R0 : Hid (ZB W0 (w.heap.size + 1 + 1) zeroZ) := Lib.hid (by
    have h := ZB.new ((w.alloc (.cells #[.int .i64 a.cnt, .int .i64 a.nul, .int .i64 a.min.k, .int .i64 a.min.n, .string a.min.s, .int .i64 a.max.k, .int .i64 a.max.n, .string a.max.s] 33)).alloc (.cells #[.int .i64 b.cnt, .int .i64 b.nul, .int .i64 b.min.k, .int .i64 b.min.n, .string b.min.s, .int .i64 b.max.k, .int .i64 b.max.n, .string b.max.s] 33)) zeroZ
    rw [World.size_alloc, World.size_alloc] at h
    rw [← hW0]; exact h.old (grown_alloc _ _))
  have Z0 : Hid (ZB W0 (w.heap.size + 1 + 1 + 1) z0) := Lib.hid (by
    have h := ZB.new (((w.alloc (.cells #[.int .i64 a.cnt, .int .i64 a.nul, .int .i64 a.min.k, .int .i64 a.min.n, .string a.min.s, .int .i64 a.max.k, .int .i64 a.max.n, .string a.max.s] 33)).alloc (.cells #[.int .i64 b.cnt, .int .i64 b.nul, .int .i64 b.min.k, .int .i64 b.min.n, .string b.min.s, .int .i64 b.max.k, .int .i64 b.max.n, .string b.max.s] 33)).alloc (.cells #[.int .i64 zeroZ.cnt, .int .i64 zeroZ.nul, .int .i64 zeroZ.min.k, .int .i64 zeroZ.min.n, .string zeroZ.min.s, .int .i64 zeroZ.max.k, .int .i64 zeroZ.max.n, .string zeroZ.max.s] 33)) z0
    rw [World.size_alloc, World.size_alloc, World.size_alloc] at h
    rw [← hW0, hz0] at *; exact h)
  have HW0 := Lib.hid hW0
  have HZ0 := Lib.hid hz0
  clear hW0 hz0
  by_cases h : a.cnt = a.nul
  · have hq : (a.cnt == a.nul) = true := beq_iff_eq.2 h
    have HN := Lib.hid (fun W => (empty_any a W).mono fun e w' (h : _ ∧ _) => (show e = .returned (.bool true) ∧ W.grownBy w' none from ⟨by rw [h.1, hq], h.2⟩))
    have HE : Hid (Ending.returned (.agg #[.int .i64 z0.cnt, .int .i64 z0.nul, .int .i64 z0.min.k, .int .i64 z0.min.n, .string z0.min.s, .int .i64 z0.max.k, .int .i64 z0.max.n, .string z0.max.s]) = .returned (.agg #[.int .i64 (joinZ a b).cnt, .int .i64 (joinZ a b).nul, .int .i64 (joinZ a b).min.k, .int .i64 (joinZ a b).min.n, .string (joinZ a b).min.s, .int .i64 (joinZ a b).max.k, .int .i64 (joinZ a b).max.n, .string (joinZ a b).max.s])) := Lib.hid (by rw [join_none h, HZ0.out])
    clear hq h
    go_enter Tryz.func56, Tryz.ntmps56
    go_wp2_with fail
    rw [HW0.out]
    refine (HN.out _).mono ?_
    rintro e w1 ⟨rfl, hg⟩
    have A1 := Lib.hid (A0.out.old hg)
    have B1 := Lib.hid (B0.out.old hg)
    have R1 := Lib.hid (R0.out.old hg)
    have Z1 := Lib.hid (Z0.out.old hg)
    have G1 := Lib.hid (grown_then G0.out hg)
    clear hg
    obtain ⟨a0, a1, ⟨a2, a3, a4⟩, a5, a6, a7⟩ := A1.out.cells
    obtain ⟨b0, b1, ⟨b2, b3, b4⟩, b5, b6, b7⟩ := B1.out.cells
    obtain ⟨c0, c1, ⟨c2, c3, c4⟩, c5, c6, c7⟩ := Z1.out.cells
    dsimp only
    go_wp2_with (first
      | (with_reducible refine wpList_store_zone rfl (.tmp 4) (.tmp 23) rfl (w.heap.size + 1 + 1) rfl z0 rfl zeroZ R1.out ?_; intro w9 hz9 ht9)
      | fail)
    refine bodyPost_ret (run_results_zone rfl _ _ _ _ rfl hz9) rfl ⟨HE.out, grown_put G1.out ht9 (by omega)⟩
  · have hq : (a.cnt == a.nul) = false := beq_eq_false_iff_ne.2 h
    have HN := Lib.hid (fun W => (empty_any a W).mono fun e w' (h : _ ∧ _) => (show e = .returned (.bool false) ∧ W.grownBy w' none from ⟨by rw [h.1, hq], h.2⟩))
    by_cases k : b.cnt = b.nul
    · have hr : (b.cnt == b.nul) = true := beq_iff_eq.2 k
      have HM := Lib.hid (fun W => (empty_any b W).mono fun e w' (h : _ ∧ _) => (show e = .returned (.bool true) ∧ W.grownBy w' none from ⟨by rw [h.1, hr], h.2⟩))
      have HE : Hid (Ending.returned (.agg #[.int .i64 z0.cnt, .int .i64 z0.nul, .int .i64 a.min.k, .int .i64 a.min.n, .string a.min.s, .int .i64 a.max.k, .int .i64 a.max.n, .string a.max.s]) = .returned (.agg #[.int .i64 (joinZ a b).cnt, .int .i64 (joinZ a b).nul, .int .i64 (joinZ a b).min.k, .int .i64 (joinZ a b).min.n, .string (joinZ a b).min.s, .int .i64 (joinZ a b).max.k, .int .i64 (joinZ a b).max.n, .string (joinZ a b).max.s])) := Lib.hid (by rw [join_left h k, HZ0.out])
      clear hq h hr k
      go_enter Tryz.func56, Tryz.ntmps56
      go_wp2_with fail
      rw [HW0.out]
      refine (HN.out _).mono ?_
      rintro e w1 ⟨rfl, hg⟩
      have A1 := Lib.hid (A0.out.old hg)
      have B1 := Lib.hid (B0.out.old hg)
      have R1 := Lib.hid (R0.out.old hg)
      have Z1 := Lib.hid (Z0.out.old hg)
      have G1 := Lib.hid (grown_then G0.out hg)
      clear hg
      obtain ⟨a0, a1, ⟨a2, a3, a4⟩, a5, a6, a7⟩ := A1.out.cells
      obtain ⟨b0, b1, ⟨b2, b3, b4⟩, b5, b6, b7⟩ := B1.out.cells
      obtain ⟨c0, c1, ⟨c2, c3, c4⟩, c5, c6, c7⟩ := Z1.out.cells
      dsimp only
      go_wp2_with fail
      refine (HM.out _).mono ?_
      rintro e w2 ⟨rfl, hg⟩
      have A2 := Lib.hid (A1.out.old hg)
      have B2 := Lib.hid (B1.out.old hg)
      have R2 := Lib.hid (R1.out.old hg)
      have Z2 := Lib.hid (Z1.out.old hg)
      have G2 := Lib.hid (grown_then G1.out hg)
      clear hg
      clear a0 a1 a2 a3 a4 a5 a6 a7 b0 b1 b2 b3 b4 b5 b6 b7 c0 c1 c2 c3 c4 c5 c6 c7
      obtain ⟨a0, a1, ⟨a2, a3, a4⟩, a5, a6, a7⟩ := A2.out.cells
      obtain ⟨b0, b1, ⟨b2, b3, b4⟩, b5, b6, b7⟩ := B2.out.cells
      obtain ⟨c0, c1, ⟨c2, c3, c4⟩, c5, c6, c7⟩ := Z2.out.cells
      have y2 := Z2.out.froz 2
      have y3 := Z2.out.froz 3
      have y4 := Z2.out.froz 4
      dsimp only
      go_wp2_with fail
      obtain ⟨w3, hw3⟩ : ∃ w3, ((w2.setCell ⟨w.heap.size + 1 + 1 + 1, 2, none⟩ (.int .i64 a.min.k)).setCell ⟨w.heap.size + 1 + 1 + 1, 3, none⟩ (.int .i64 a.min.n)).setCell ⟨w.heap.size + 1 + 1 + 1, 4, none⟩ (.string a.min.s) = w3 := ⟨_, rfl⟩
      have t3 := turn_set3 w2 (w.heap.size + 1 + 1 + 1) 2 3 4 (.int .i64 a.min.k) (.int .i64 a.min.n) (.string a.min.s)
      have A3 := Lib.hid (ZB.not A2.out t3 (by omega))
      have B3 := Lib.hid (ZB.not B2.out t3 (by omega))
      have R3 := Lib.hid (ZB.not R2.out t3 (by omega))
      have G3 := Lib.hid (grown_put G2.out t3 (by omega))
      have Z3 := Lib.hid (Z2.out.setMin a.min)
      rw [hw3] at A3 B3 R3 G3 Z3
      rw [hw3]
      clear hw3 t3 y2 y3 y4
      clear a0 a1 a2 a3 a4 a5 a6 a7 b0 b1 b2 b3 b4 b5 b6 b7 c0 c1 c2 c3 c4 c5 c6 c7
      obtain ⟨a0, a1, ⟨a2, a3, a4⟩, a5, a6, a7⟩ := A3.out.cells
      obtain ⟨b0, b1, ⟨b2, b3, b4⟩, b5, b6, b7⟩ := B3.out.cells
      obtain ⟨c0, c1, ⟨c2, c3, c4⟩, c5, c6, c7⟩ := Z3.out.cells
      refine (HM.out _).mono ?_
      rintro e w4 ⟨rfl, hg⟩
      have A4 := Lib.hid (A3.out.old hg)
      have B4 := Lib.hid (B3.out.old hg)
      have R4 := Lib.hid (R3.out.old hg)
      have Z4 := Lib.hid (Z3.out.old hg)
      have G4 := Lib.hid (grown_then G3.out hg)
      clear hg
      clear a0 a1 a2 a3 a4 a5 a6 a7 b0 b1 b2 b3 b4 b5 b6 b7 c0 c1 c2 c3 c4 c5 c6 c7
      obtain ⟨a0, a1, ⟨a2, a3, a4⟩, a5, a6, a7⟩ := A4.out.cells
      obtain ⟨b0, b1, ⟨b2, b3, b4⟩, b5, b6, b7⟩ := B4.out.cells
      obtain ⟨c0, c1, ⟨c2, c3, c4⟩, c5, c6, c7⟩ := Z4.out.cells
      have y5 := Z4.out.froz 5
      have y6 := Z4.out.froz 6
      have y7 := Z4.out.froz 7
      dsimp only
      obtain ⟨w5, hw5⟩ : ∃ w5, ((w4.setCell ⟨w.heap.size + 1 + 1 + 1, 5, none⟩ (.int .i64 a.max.k)).setCell ⟨w.heap.size + 1 + 1 + 1, 6, none⟩ (.int .i64 a.max.n)).setCell ⟨w.heap.size + 1 + 1 + 1, 7, none⟩ (.string a.max.s) = w5 := ⟨_, rfl⟩
      have t5 := turn_set3 w4 (w.heap.size + 1 + 1 + 1) 5 6 7 (.int .i64 a.max.k) (.int .i64 a.max.n) (.string a.max.s)
      have A5 := Lib.hid (ZB.not A4.out t5 (by omega))
      have B5 := Lib.hid (ZB.not B4.out t5 (by omega))
      have R5 := Lib.hid (ZB.not R4.out t5 (by omega))
      have G5 := Lib.hid (grown_put G4.out t5 (by omega))
      have Z5 := Lib.hid (Z4.out.setMax a.max)
      rw [hw5] at A5 B5 R5 G5 Z5
      have HW := Lib.hid hw5
      clear hw5 t5
      go_upto_region 8 with (fail)
      rw [HW.out]
      clear y5 y6 y7
      clear a0 a1 a2 a3 a4 a5 a6 a7 b0 b1 b2 b3 b4 b5 b6 b7 c0 c1 c2 c3 c4 c5 c6 c7
      obtain ⟨a0, a1, ⟨a2, a3, a4⟩, a5, a6, a7⟩ := A5.out.cells
      obtain ⟨b0, b1, ⟨b2, b3, b4⟩, b5, b6, b7⟩ := B5.out.cells
      obtain ⟨c0, c1, ⟨c2, c3, c4⟩, c5, c6, c7⟩ := Z5.out.cells
      go_wp2_with (first
        | (with_reducible refine wpList_store_zone rfl (.tmp 4) (.tmp 50) rfl (w.heap.size + 1 + 1) rfl ⟨z0.cnt, z0.nul, a.min, a.max⟩ rfl zeroZ R5.out ?_; intro w9 hz9 ht9)
        | fail)
      refine bodyPost_ret (run_results_zone rfl _ _ _ _ rfl hz9) rfl ⟨HE.out, grown_put G5.out ht9 (by omega)⟩
    · have hr : (b.cnt == b.nul) = false := beq_eq_false_iff_ne.2 k
      have HM := Lib.hid (fun W => (empty_any b W).mono fun e w' (h : _ ∧ _) => (show e = .returned (.bool false) ∧ W.grownBy w' none from ⟨by rw [h.1, hr], h.2⟩))
      have HJ := Lib.hid (join_both h k)
      clear hq h hr k
      by_cases h1 : cmpC a.min b.min < 0
      · have e1 : Hid (minC a.min b.min = a.min) := Lib.hid (if_pos h1)
        by_cases h2 : 0 < cmpC a.max b.max
        · have e2 : Hid (maxC a.max b.max = a.max) := Lib.hid (if_pos h2)
          have HE : Hid (Ending.returned (.agg #[.int .i64 z0.cnt, .int .i64 z0.nul, .int .i64 a.min.k, .int .i64 a.min.n, .string a.min.s, .int .i64 a.max.k, .int .i64 a.max.n, .string a.max.s]) = .returned (.agg #[.int .i64 (joinZ a b).cnt, .int .i64 (joinZ a b).nul, .int .i64 (joinZ a b).min.k, .int .i64 (joinZ a b).min.n, .string (joinZ a b).min.s, .int .i64 (joinZ a b).max.k, .int .i64 (joinZ a b).max.n, .string (joinZ a b).max.s])) := Lib.hid (by rw [HJ.out, e1.out, e2.out, HZ0.out])
          clear e1 e2
          go_enter Tryz.func56, Tryz.ntmps56
          go_wp2_with fail
          rw [HW0.out]
          refine (HN.out _).mono ?_
          rintro e w1 ⟨rfl, hg⟩
          have A1 := Lib.hid (A0.out.old hg)
          have B1 := Lib.hid (B0.out.old hg)
          have R1 := Lib.hid (R0.out.old hg)
          have Z1 := Lib.hid (Z0.out.old hg)
          have G1 := Lib.hid (grown_then G0.out hg)
          clear hg
          obtain ⟨a0, a1, ⟨a2, a3, a4⟩, a5, a6, a7⟩ := A1.out.cells
          obtain ⟨b0, b1, ⟨b2, b3, b4⟩, b5, b6, b7⟩ := B1.out.cells
          obtain ⟨c0, c1, ⟨c2, c3, c4⟩, c5, c6, c7⟩ := Z1.out.cells
          dsimp only
          go_wp2_with fail
          refine (HM.out _).mono ?_
          rintro e w2 ⟨rfl, hg⟩
          have A2 := Lib.hid (A1.out.old hg)
          have B2 := Lib.hid (B1.out.old hg)
          have R2 := Lib.hid (R1.out.old hg)
          have Z2 := Lib.hid (Z1.out.old hg)
          have G2 := Lib.hid (grown_then G1.out hg)
          clear hg
          clear a0 a1 a2 a3 a4 a5 a6 a7 b0 b1 b2 b3 b4 b5 b6 b7 c0 c1 c2 c3 c4 c5 c6 c7
          obtain ⟨a0, a1, ⟨a2, a3, a4⟩, a5, a6, a7⟩ := A2.out.cells
          obtain ⟨b0, b1, ⟨b2, b3, b4⟩, b5, b6, b7⟩ := B2.out.cells
          obtain ⟨c0, c1, ⟨c2, c3, c4⟩, c5, c6, c7⟩ := Z2.out.cells
          dsimp only
          go_wp2_with fail
          refine (HC.out _).mono ?_
          rintro e w3 ⟨rfl, hg⟩
          have A3 := Lib.hid (A2.out.old hg)
          have B3 := Lib.hid (B2.out.old hg)
          have R3 := Lib.hid (R2.out.old hg)
          have Z3 := Lib.hid (Z2.out.old hg)
          have G3 := Lib.hid (grown_then G2.out hg)
          clear hg
          clear a0 a1 a2 a3 a4 a5 a6 a7 b0 b1 b2 b3 b4 b5 b6 b7 c0 c1 c2 c3 c4 c5 c6 c7
          obtain ⟨a0, a1, ⟨a2, a3, a4⟩, a5, a6, a7⟩ := A3.out.cells
          obtain ⟨b0, b1, ⟨b2, b3, b4⟩, b5, b6, b7⟩ := B3.out.cells
          obtain ⟨c0, c1, ⟨c2, c3, c4⟩, c5, c6, c7⟩ := Z3.out.cells
          have y2 := Z3.out.froz 2
          have y3 := Z3.out.froz 3
          have y4 := Z3.out.froz 4
          dsimp only
          go_wp2_with fail
          obtain ⟨w4, hw4⟩ : ∃ w4, ((w3.setCell ⟨w.heap.size + 1 + 1 + 1, 2, none⟩ (.int .i64 a.min.k)).setCell ⟨w.heap.size + 1 + 1 + 1, 3, none⟩ (.int .i64 a.min.n)).setCell ⟨w.heap.size + 1 + 1 + 1, 4, none⟩ (.string a.min.s) = w4 := ⟨_, rfl⟩
          have t4 := turn_set3 w3 (w.heap.size + 1 + 1 + 1) 2 3 4 (.int .i64 a.min.k) (.int .i64 a.min.n) (.string a.min.s)
          have A4 := Lib.hid (ZB.not A3.out t4 (by omega))
          have B4 := Lib.hid (ZB.not B3.out t4 (by omega))
          have R4 := Lib.hid (ZB.not R3.out t4 (by omega))
          have G4 := Lib.hid (grown_put G3.out t4 (by omega))
          have Z4 := Lib.hid (Z3.out.setMin a.min)
          rw [hw4] at A4 B4 R4 G4 Z4
          rw [hw4]
          clear hw4 t4 y2 y3 y4
          clear a0 a1 a2 a3 a4 a5 a6 a7 b0 b1 b2 b3 b4 b5 b6 b7 c0 c1 c2 c3 c4 c5 c6 c7
          obtain ⟨a0, a1, ⟨a2, a3, a4⟩, a5, a6, a7⟩ := A4.out.cells
          obtain ⟨b0, b1, ⟨b2, b3, b4⟩, b5, b6, b7⟩ := B4.out.cells
          obtain ⟨c0, c1, ⟨c2, c3, c4⟩, c5, c6, c7⟩ := Z4.out.cells
          refine (HM.out _).mono ?_
          rintro e w5 ⟨rfl, hg⟩
          have A5 := Lib.hid (A4.out.old hg)
          have B5 := Lib.hid (B4.out.old hg)
          have R5 := Lib.hid (R4.out.old hg)
          have Z5 := Lib.hid (Z4.out.old hg)
          have G5 := Lib.hid (grown_then G4.out hg)
          clear hg
          clear a0 a1 a2 a3 a4 a5 a6 a7 b0 b1 b2 b3 b4 b5 b6 b7 c0 c1 c2 c3 c4 c5 c6 c7
          obtain ⟨a0, a1, ⟨a2, a3, a4⟩, a5, a6, a7⟩ := A5.out.cells
          obtain ⟨b0, b1, ⟨b2, b3, b4⟩, b5, b6, b7⟩ := B5.out.cells
          obtain ⟨c0, c1, ⟨c2, c3, c4⟩, c5, c6, c7⟩ := Z5.out.cells
          dsimp only
          go_wp2_with fail
          refine (HD.out _).mono ?_
          rintro e w6 ⟨rfl, hg⟩
          have A6 := Lib.hid (A5.out.old hg)
          have B6 := Lib.hid (B5.out.old hg)
          have R6 := Lib.hid (R5.out.old hg)
          have Z6 := Lib.hid (Z5.out.old hg)
          have G6 := Lib.hid (grown_then G5.out hg)
          clear hg
          clear a0 a1 a2 a3 a4 a5 a6 a7 b0 b1 b2 b3 b4 b5 b6 b7 c0 c1 c2 c3 c4 c5 c6 c7
          obtain ⟨a0, a1, ⟨a2, a3, a4⟩, a5, a6, a7⟩ := A6.out.cells
          obtain ⟨b0, b1, ⟨b2, b3, b4⟩, b5, b6, b7⟩ := B6.out.cells
          obtain ⟨c0, c1, ⟨c2, c3, c4⟩, c5, c6, c7⟩ := Z6.out.cells
          have y5 := Z6.out.froz 5
          have y6 := Z6.out.froz 6
          have y7 := Z6.out.froz 7
          dsimp only
          obtain ⟨w7, hw7⟩ : ∃ w7, ((w6.setCell ⟨w.heap.size + 1 + 1 + 1, 5, none⟩ (.int .i64 a.max.k)).setCell ⟨w.heap.size + 1 + 1 + 1, 6, none⟩ (.int .i64 a.max.n)).setCell ⟨w.heap.size + 1 + 1 + 1, 7, none⟩ (.string a.max.s) = w7 := ⟨_, rfl⟩
          have t7 := turn_set3 w6 (w.heap.size + 1 + 1 + 1) 5 6 7 (.int .i64 a.max.k) (.int .i64 a.max.n) (.string a.max.s)
          have A7 := Lib.hid (ZB.not A6.out t7 (by omega))
          have B7 := Lib.hid (ZB.not B6.out t7 (by omega))
          have R7 := Lib.hid (ZB.not R6.out t7 (by omega))
          have G7 := Lib.hid (grown_put G6.out t7 (by omega))
          have Z7 := Lib.hid (Z6.out.setMax a.max)
          rw [hw7] at A7 B7 R7 G7 Z7
          have HW := Lib.hid hw7
          clear hw7 t7
          go_upto_region 8 with (fail)
          rw [HW.out]
          clear y5 y6 y7
          clear a0 a1 a2 a3 a4 a5 a6 a7 b0 b1 b2 b3 b4 b5 b6 b7 c0 c1 c2 c3 c4 c5 c6 c7
          obtain ⟨a0, a1, ⟨a2, a3, a4⟩, a5, a6, a7⟩ := A7.out.cells
          obtain ⟨b0, b1, ⟨b2, b3, b4⟩, b5, b6, b7⟩ := B7.out.cells
          obtain ⟨c0, c1, ⟨c2, c3, c4⟩, c5, c6, c7⟩ := Z7.out.cells
          go_wp2_with (first
            | (with_reducible refine wpList_store_zone rfl (.tmp 4) (.tmp 50) rfl (w.heap.size + 1 + 1) rfl ⟨z0.cnt, z0.nul, a.min, a.max⟩ rfl zeroZ R7.out ?_; intro w9 hz9 ht9)
            | fail)
          refine bodyPost_ret (run_results_zone rfl _ _ _ _ rfl hz9) rfl ⟨HE.out, grown_put G7.out ht9 (by omega)⟩
        · have e2 : Hid (maxC a.max b.max = b.max) := Lib.hid (if_neg h2)
          have HE : Hid (Ending.returned (.agg #[.int .i64 z0.cnt, .int .i64 z0.nul, .int .i64 a.min.k, .int .i64 a.min.n, .string a.min.s, .int .i64 z0.max.k, .int .i64 z0.max.n, .string z0.max.s]) = .returned (.agg #[.int .i64 (joinZ a b).cnt, .int .i64 (joinZ a b).nul, .int .i64 (joinZ a b).min.k, .int .i64 (joinZ a b).min.n, .string (joinZ a b).min.s, .int .i64 (joinZ a b).max.k, .int .i64 (joinZ a b).max.n, .string (joinZ a b).max.s])) := Lib.hid (by rw [HJ.out, e1.out, e2.out, HZ0.out])
          clear e1 e2
          go_enter Tryz.func56, Tryz.ntmps56
          go_wp2_with fail
          rw [HW0.out]
          refine (HN.out _).mono ?_
          rintro e w1 ⟨rfl, hg⟩
          have A1 := Lib.hid (A0.out.old hg)
          have B1 := Lib.hid (B0.out.old hg)
          have R1 := Lib.hid (R0.out.old hg)
          have Z1 := Lib.hid (Z0.out.old hg)
          have G1 := Lib.hid (grown_then G0.out hg)
          clear hg
          obtain ⟨a0, a1, ⟨a2, a3, a4⟩, a5, a6, a7⟩ := A1.out.cells
          obtain ⟨b0, b1, ⟨b2, b3, b4⟩, b5, b6, b7⟩ := B1.out.cells
          obtain ⟨c0, c1, ⟨c2, c3, c4⟩, c5, c6, c7⟩ := Z1.out.cells
          dsimp only
          go_wp2_with fail
          refine (HM.out _).mono ?_
          rintro e w2 ⟨rfl, hg⟩
          have A2 := Lib.hid (A1.out.old hg)
          have B2 := Lib.hid (B1.out.old hg)
          have R2 := Lib.hid (R1.out.old hg)
          have Z2 := Lib.hid (Z1.out.old hg)
          have G2 := Lib.hid (grown_then G1.out hg)
          clear hg
          clear a0 a1 a2 a3 a4 a5 a6 a7 b0 b1 b2 b3 b4 b5 b6 b7 c0 c1 c2 c3 c4 c5 c6 c7
          obtain ⟨a0, a1, ⟨a2, a3, a4⟩, a5, a6, a7⟩ := A2.out.cells
          obtain ⟨b0, b1, ⟨b2, b3, b4⟩, b5, b6, b7⟩ := B2.out.cells
          obtain ⟨c0, c1, ⟨c2, c3, c4⟩, c5, c6, c7⟩ := Z2.out.cells
          dsimp only
          go_wp2_with fail
          refine (HC.out _).mono ?_
          rintro e w3 ⟨rfl, hg⟩
          have A3 := Lib.hid (A2.out.old hg)
          have B3 := Lib.hid (B2.out.old hg)
          have R3 := Lib.hid (R2.out.old hg)
          have Z3 := Lib.hid (Z2.out.old hg)
          have G3 := Lib.hid (grown_then G2.out hg)
          clear hg
          clear a0 a1 a2 a3 a4 a5 a6 a7 b0 b1 b2 b3 b4 b5 b6 b7 c0 c1 c2 c3 c4 c5 c6 c7
          obtain ⟨a0, a1, ⟨a2, a3, a4⟩, a5, a6, a7⟩ := A3.out.cells
          obtain ⟨b0, b1, ⟨b2, b3, b4⟩, b5, b6, b7⟩ := B3.out.cells
          obtain ⟨c0, c1, ⟨c2, c3, c4⟩, c5, c6, c7⟩ := Z3.out.cells
          have y2 := Z3.out.froz 2
          have y3 := Z3.out.froz 3
          have y4 := Z3.out.froz 4
          dsimp only
          go_wp2_with fail
          obtain ⟨w4, hw4⟩ : ∃ w4, ((w3.setCell ⟨w.heap.size + 1 + 1 + 1, 2, none⟩ (.int .i64 a.min.k)).setCell ⟨w.heap.size + 1 + 1 + 1, 3, none⟩ (.int .i64 a.min.n)).setCell ⟨w.heap.size + 1 + 1 + 1, 4, none⟩ (.string a.min.s) = w4 := ⟨_, rfl⟩
          have t4 := turn_set3 w3 (w.heap.size + 1 + 1 + 1) 2 3 4 (.int .i64 a.min.k) (.int .i64 a.min.n) (.string a.min.s)
          have A4 := Lib.hid (ZB.not A3.out t4 (by omega))
          have B4 := Lib.hid (ZB.not B3.out t4 (by omega))
          have R4 := Lib.hid (ZB.not R3.out t4 (by omega))
          have G4 := Lib.hid (grown_put G3.out t4 (by omega))
          have Z4 := Lib.hid (Z3.out.setMin a.min)
          rw [hw4] at A4 B4 R4 G4 Z4
          rw [hw4]
          clear hw4 t4 y2 y3 y4
          clear a0 a1 a2 a3 a4 a5 a6 a7 b0 b1 b2 b3 b4 b5 b6 b7 c0 c1 c2 c3 c4 c5 c6 c7
          obtain ⟨a0, a1, ⟨a2, a3, a4⟩, a5, a6, a7⟩ := A4.out.cells
          obtain ⟨b0, b1, ⟨b2, b3, b4⟩, b5, b6, b7⟩ := B4.out.cells
          obtain ⟨c0, c1, ⟨c2, c3, c4⟩, c5, c6, c7⟩ := Z4.out.cells
          refine (HM.out _).mono ?_
          rintro e w5 ⟨rfl, hg⟩
          have A5 := Lib.hid (A4.out.old hg)
          have B5 := Lib.hid (B4.out.old hg)
          have R5 := Lib.hid (R4.out.old hg)
          have Z5 := Lib.hid (Z4.out.old hg)
          have G5 := Lib.hid (grown_then G4.out hg)
          clear hg
          clear a0 a1 a2 a3 a4 a5 a6 a7 b0 b1 b2 b3 b4 b5 b6 b7 c0 c1 c2 c3 c4 c5 c6 c7
          obtain ⟨a0, a1, ⟨a2, a3, a4⟩, a5, a6, a7⟩ := A5.out.cells
          obtain ⟨b0, b1, ⟨b2, b3, b4⟩, b5, b6, b7⟩ := B5.out.cells
          obtain ⟨c0, c1, ⟨c2, c3, c4⟩, c5, c6, c7⟩ := Z5.out.cells
          dsimp only
          go_wp2_with fail
          refine (HD.out _).mono ?_
          rintro e w6 ⟨rfl, hg⟩
          have A6 := Lib.hid (A5.out.old hg)
          have B6 := Lib.hid (B5.out.old hg)
          have R6 := Lib.hid (R5.out.old hg)
          have Z6 := Lib.hid (Z5.out.old hg)
          have G6 := Lib.hid (grown_then G5.out hg)
          clear hg
          clear a0 a1 a2 a3 a4 a5 a6 a7 b0 b1 b2 b3 b4 b5 b6 b7 c0 c1 c2 c3 c4 c5 c6 c7
          obtain ⟨a0, a1, ⟨a2, a3, a4⟩, a5, a6, a7⟩ := A6.out.cells
          obtain ⟨b0, b1, ⟨b2, b3, b4⟩, b5, b6, b7⟩ := B6.out.cells
          obtain ⟨c0, c1, ⟨c2, c3, c4⟩, c5, c6, c7⟩ := Z6.out.cells
          dsimp only
          go_wp2_with (first
            | (with_reducible refine wpList_store_zone rfl (.tmp 4) (.tmp 50) rfl (w.heap.size + 1 + 1) rfl ⟨z0.cnt, z0.nul, a.min, z0.max⟩ rfl zeroZ R6.out ?_; intro w9 hz9 ht9)
            | fail)
          refine bodyPost_ret (run_results_zone rfl _ _ _ _ rfl hz9) rfl ⟨HE.out, grown_put G6.out ht9 (by omega)⟩
      · have e1 : Hid (minC a.min b.min = b.min) := Lib.hid (if_neg h1)
        by_cases h2 : 0 < cmpC a.max b.max
        · have e2 : Hid (maxC a.max b.max = a.max) := Lib.hid (if_pos h2)
          have HE : Hid (Ending.returned (.agg #[.int .i64 z0.cnt, .int .i64 z0.nul, .int .i64 z0.min.k, .int .i64 z0.min.n, .string z0.min.s, .int .i64 a.max.k, .int .i64 a.max.n, .string a.max.s]) = .returned (.agg #[.int .i64 (joinZ a b).cnt, .int .i64 (joinZ a b).nul, .int .i64 (joinZ a b).min.k, .int .i64 (joinZ a b).min.n, .string (joinZ a b).min.s, .int .i64 (joinZ a b).max.k, .int .i64 (joinZ a b).max.n, .string (joinZ a b).max.s])) := Lib.hid (by rw [HJ.out, e1.out, e2.out, HZ0.out])
          clear e1 e2
          go_enter Tryz.func56, Tryz.ntmps56
          go_wp2_with fail
          rw [HW0.out]
          refine (HN.out _).mono ?_
          rintro e w1 ⟨rfl, hg⟩
          have A1 := Lib.hid (A0.out.old hg)
          have B1 := Lib.hid (B0.out.old hg)
          have R1 := Lib.hid (R0.out.old hg)
          have Z1 := Lib.hid (Z0.out.old hg)
          have G1 := Lib.hid (grown_then G0.out hg)
          clear hg
          obtain ⟨a0, a1, ⟨a2, a3, a4⟩, a5, a6, a7⟩ := A1.out.cells
          obtain ⟨b0, b1, ⟨b2, b3, b4⟩, b5, b6, b7⟩ := B1.out.cells
          obtain ⟨c0, c1, ⟨c2, c3, c4⟩, c5, c6, c7⟩ := Z1.out.cells
          dsimp only
          go_wp2_with fail
          refine (HM.out _).mono ?_
          rintro e w2 ⟨rfl, hg⟩
          have A2 := Lib.hid (A1.out.old hg)
          have B2 := Lib.hid (B1.out.old hg)
          have R2 := Lib.hid (R1.out.old hg)
          have Z2 := Lib.hid (Z1.out.old hg)
          have G2 := Lib.hid (grown_then G1.out hg)
          clear hg
          clear a0 a1 a2 a3 a4 a5 a6 a7 b0 b1 b2 b3 b4 b5 b6 b7 c0 c1 c2 c3 c4 c5 c6 c7
          obtain ⟨a0, a1, ⟨a2, a3, a4⟩, a5, a6, a7⟩ := A2.out.cells
          obtain ⟨b0, b1, ⟨b2, b3, b4⟩, b5, b6, b7⟩ := B2.out.cells
          obtain ⟨c0, c1, ⟨c2, c3, c4⟩, c5, c6, c7⟩ := Z2.out.cells
          dsimp only
          go_wp2_with fail
          refine (HC.out _).mono ?_
          rintro e w3 ⟨rfl, hg⟩
          have A3 := Lib.hid (A2.out.old hg)
          have B3 := Lib.hid (B2.out.old hg)
          have R3 := Lib.hid (R2.out.old hg)
          have Z3 := Lib.hid (Z2.out.old hg)
          have G3 := Lib.hid (grown_then G2.out hg)
          clear hg
          clear a0 a1 a2 a3 a4 a5 a6 a7 b0 b1 b2 b3 b4 b5 b6 b7 c0 c1 c2 c3 c4 c5 c6 c7
          obtain ⟨a0, a1, ⟨a2, a3, a4⟩, a5, a6, a7⟩ := A3.out.cells
          obtain ⟨b0, b1, ⟨b2, b3, b4⟩, b5, b6, b7⟩ := B3.out.cells
          obtain ⟨c0, c1, ⟨c2, c3, c4⟩, c5, c6, c7⟩ := Z3.out.cells
          dsimp only
          go_wp2_with fail
          refine (HM.out _).mono ?_
          rintro e w4 ⟨rfl, hg⟩
          have A4 := Lib.hid (A3.out.old hg)
          have B4 := Lib.hid (B3.out.old hg)
          have R4 := Lib.hid (R3.out.old hg)
          have Z4 := Lib.hid (Z3.out.old hg)
          have G4 := Lib.hid (grown_then G3.out hg)
          clear hg
          clear a0 a1 a2 a3 a4 a5 a6 a7 b0 b1 b2 b3 b4 b5 b6 b7 c0 c1 c2 c3 c4 c5 c6 c7
          obtain ⟨a0, a1, ⟨a2, a3, a4⟩, a5, a6, a7⟩ := A4.out.cells
          obtain ⟨b0, b1, ⟨b2, b3, b4⟩, b5, b6, b7⟩ := B4.out.cells
          obtain ⟨c0, c1, ⟨c2, c3, c4⟩, c5, c6, c7⟩ := Z4.out.cells
          dsimp only
          go_wp2_with fail
          refine (HD.out _).mono ?_
          rintro e w5 ⟨rfl, hg⟩
          have A5 := Lib.hid (A4.out.old hg)
          have B5 := Lib.hid (B4.out.old hg)
          have R5 := Lib.hid (R4.out.old hg)
          have Z5 := Lib.hid (Z4.out.old hg)
          have G5 := Lib.hid (grown_then G4.out hg)
          clear hg
          clear a0 a1 a2 a3 a4 a5 a6 a7 b0 b1 b2 b3 b4 b5 b6 b7 c0 c1 c2 c3 c4 c5 c6 c7
          obtain ⟨a0, a1, ⟨a2, a3, a4⟩, a5, a6, a7⟩ := A5.out.cells
          obtain ⟨b0, b1, ⟨b2, b3, b4⟩, b5, b6, b7⟩ := B5.out.cells
          obtain ⟨c0, c1, ⟨c2, c3, c4⟩, c5, c6, c7⟩ := Z5.out.cells
          have y5 := Z5.out.froz 5
          have y6 := Z5.out.froz 6
          have y7 := Z5.out.froz 7
          dsimp only
          obtain ⟨w6, hw6⟩ : ∃ w6, ((w5.setCell ⟨w.heap.size + 1 + 1 + 1, 5, none⟩ (.int .i64 a.max.k)).setCell ⟨w.heap.size + 1 + 1 + 1, 6, none⟩ (.int .i64 a.max.n)).setCell ⟨w.heap.size + 1 + 1 + 1, 7, none⟩ (.string a.max.s) = w6 := ⟨_, rfl⟩
          have t6 := turn_set3 w5 (w.heap.size + 1 + 1 + 1) 5 6 7 (.int .i64 a.max.k) (.int .i64 a.max.n) (.string a.max.s)
          have A6 := Lib.hid (ZB.not A5.out t6 (by omega))
          have B6 := Lib.hid (ZB.not B5.out t6 (by omega))
          have R6 := Lib.hid (ZB.not R5.out t6 (by omega))
          have G6 := Lib.hid (grown_put G5.out t6 (by omega))
          have Z6 := Lib.hid (Z5.out.setMax a.max)
          rw [hw6] at A6 B6 R6 G6 Z6
          have HW := Lib.hid hw6
          clear hw6 t6
          go_upto_region 8 with (fail)
          rw [HW.out]
          clear y5 y6 y7
          clear a0 a1 a2 a3 a4 a5 a6 a7 b0 b1 b2 b3 b4 b5 b6 b7 c0 c1 c2 c3 c4 c5 c6 c7
          obtain ⟨a0, a1, ⟨a2, a3, a4⟩, a5, a6, a7⟩ := A6.out.cells
          obtain ⟨b0, b1, ⟨b2, b3, b4⟩, b5, b6, b7⟩ := B6.out.cells
          obtain ⟨c0, c1, ⟨c2, c3, c4⟩, c5, c6, c7⟩ := Z6.out.cells
          go_wp2_with (first
            | (with_reducible refine wpList_store_zone rfl (.tmp 4) (.tmp 50) rfl (w.heap.size + 1 + 1) rfl ⟨z0.cnt, z0.nul, z0.min, a.max⟩ rfl zeroZ R6.out ?_; intro w9 hz9 ht9)
            | fail)
          refine bodyPost_ret (run_results_zone rfl _ _ _ _ rfl hz9) rfl ⟨HE.out, grown_put G6.out ht9 (by omega)⟩
        · have e2 : Hid (maxC a.max b.max = b.max) := Lib.hid (if_neg h2)
          have HE : Hid (Ending.returned (.agg #[.int .i64 z0.cnt, .int .i64 z0.nul, .int .i64 z0.min.k, .int .i64 z0.min.n, .string z0.min.s, .int .i64 z0.max.k, .int .i64 z0.max.n, .string z0.max.s]) = .returned (.agg #[.int .i64 (joinZ a b).cnt, .int .i64 (joinZ a b).nul, .int .i64 (joinZ a b).min.k, .int .i64 (joinZ a b).min.n, .string (joinZ a b).min.s, .int .i64 (joinZ a b).max.k, .int .i64 (joinZ a b).max.n, .string (joinZ a b).max.s])) := Lib.hid (by rw [HJ.out, e1.out, e2.out, HZ0.out])
          clear e1 e2
          go_enter Tryz.func56, Tryz.ntmps56
          go_wp2_with fail
          rw [HW0.out]
          refine (HN.out _).mono ?_
          rintro e w1 ⟨rfl, hg⟩
          have A1 := Lib.hid (A0.out.old hg)
          have B1 := Lib.hid (B0.out.old hg)
          have R1 := Lib.hid (R0.out.old hg)
          have Z1 := Lib.hid (Z0.out.old hg)
          have G1 := Lib.hid (grown_then G0.out hg)
          clear hg
          obtain ⟨a0, a1, ⟨a2, a3, a4⟩, a5, a6, a7⟩ := A1.out.cells
          obtain ⟨b0, b1, ⟨b2, b3, b4⟩, b5, b6, b7⟩ := B1.out.cells
          obtain ⟨c0, c1, ⟨c2, c3, c4⟩, c5, c6, c7⟩ := Z1.out.cells
          dsimp only
          go_wp2_with fail
          refine (HM.out _).mono ?_
          rintro e w2 ⟨rfl, hg⟩
          have A2 := Lib.hid (A1.out.old hg)
          have B2 := Lib.hid (B1.out.old hg)
          have R2 := Lib.hid (R1.out.old hg)
          have Z2 := Lib.hid (Z1.out.old hg)
          have G2 := Lib.hid (grown_then G1.out hg)
          clear hg
          clear a0 a1 a2 a3 a4 a5 a6 a7 b0 b1 b2 b3 b4 b5 b6 b7 c0 c1 c2 c3 c4 c5 c6 c7
          obtain ⟨a0, a1, ⟨a2, a3, a4⟩, a5, a6, a7⟩ := A2.out.cells
          obtain ⟨b0, b1, ⟨b2, b3, b4⟩, b5, b6, b7⟩ := B2.out.cells
          obtain ⟨c0, c1, ⟨c2, c3, c4⟩, c5, c6, c7⟩ := Z2.out.cells
          dsimp only
          go_wp2_with fail
          refine (HC.out _).mono ?_
          rintro e w3 ⟨rfl, hg⟩
          have A3 := Lib.hid (A2.out.old hg)
          have B3 := Lib.hid (B2.out.old hg)
          have R3 := Lib.hid (R2.out.old hg)
          have Z3 := Lib.hid (Z2.out.old hg)
          have G3 := Lib.hid (grown_then G2.out hg)
          clear hg
          clear a0 a1 a2 a3 a4 a5 a6 a7 b0 b1 b2 b3 b4 b5 b6 b7 c0 c1 c2 c3 c4 c5 c6 c7
          obtain ⟨a0, a1, ⟨a2, a3, a4⟩, a5, a6, a7⟩ := A3.out.cells
          obtain ⟨b0, b1, ⟨b2, b3, b4⟩, b5, b6, b7⟩ := B3.out.cells
          obtain ⟨c0, c1, ⟨c2, c3, c4⟩, c5, c6, c7⟩ := Z3.out.cells
          dsimp only
          go_wp2_with fail
          refine (HM.out _).mono ?_
          rintro e w4 ⟨rfl, hg⟩
          have A4 := Lib.hid (A3.out.old hg)
          have B4 := Lib.hid (B3.out.old hg)
          have R4 := Lib.hid (R3.out.old hg)
          have Z4 := Lib.hid (Z3.out.old hg)
          have G4 := Lib.hid (grown_then G3.out hg)
          clear hg
          clear a0 a1 a2 a3 a4 a5 a6 a7 b0 b1 b2 b3 b4 b5 b6 b7 c0 c1 c2 c3 c4 c5 c6 c7
          obtain ⟨a0, a1, ⟨a2, a3, a4⟩, a5, a6, a7⟩ := A4.out.cells
          obtain ⟨b0, b1, ⟨b2, b3, b4⟩, b5, b6, b7⟩ := B4.out.cells
          obtain ⟨c0, c1, ⟨c2, c3, c4⟩, c5, c6, c7⟩ := Z4.out.cells
          dsimp only
          go_wp2_with fail
          refine (HD.out _).mono ?_
          rintro e w5 ⟨rfl, hg⟩
          have A5 := Lib.hid (A4.out.old hg)
          have B5 := Lib.hid (B4.out.old hg)
          have R5 := Lib.hid (R4.out.old hg)
          have Z5 := Lib.hid (Z4.out.old hg)
          have G5 := Lib.hid (grown_then G4.out hg)
          clear hg
          clear a0 a1 a2 a3 a4 a5 a6 a7 b0 b1 b2 b3 b4 b5 b6 b7 c0 c1 c2 c3 c4 c5 c6 c7
          obtain ⟨a0, a1, ⟨a2, a3, a4⟩, a5, a6, a7⟩ := A5.out.cells
          obtain ⟨b0, b1, ⟨b2, b3, b4⟩, b5, b6, b7⟩ := B5.out.cells
          obtain ⟨c0, c1, ⟨c2, c3, c4⟩, c5, c6, c7⟩ := Z5.out.cells
          dsimp only
          go_wp2_with (first
            | (with_reducible refine wpList_store_zone rfl (.tmp 4) (.tmp 50) rfl (w.heap.size + 1 + 1) rfl ⟨z0.cnt, z0.nul, z0.min, z0.max⟩ rfl zeroZ R5.out ?_; intro w9 hz9 ht9)
            | fail)
          refine bodyPost_ret (run_results_zone rfl _ _ _ _ rfl hz9) rfl ⟨HE.out, grown_put G5.out ht9 (by omega)⟩
end Go.Proofs.YtljanfnhmhimiaaGreat.Zn

namespace Go.Proofs.YtljanfnhmhimiaaGreat.Zn
open Go.RowKit Bs Dv

def flatC : List Cel → List Value
  | [] => []
  | c :: l => .int .i64 c.k :: .int .i64 c.n :: .string c.s :: flatC l
theorem flatC_len : ∀ l : List Cel, (flatC l).length = l.length * 3
  | [] => rfl
  | c :: l => by simp only [flatC, List.length_cons, flatC_len l]; omega
theorem flatC_app : ∀ l m : List Cel, flatC (l ++ m) = flatC l ++ flatC m
  | [], _ => rfl
  | c :: l, m => by simp only [List.cons_append, flatC, flatC_app l m]
theorem flatC_at : ∀ (l : List Cel) (k : Nat) (_ : k < l.length), (flatC l)[k * 3]? = some (.int .i64 (l.getD k zeroC).k) ∧ (flatC l)[k * 3 + 1]? = some (.int .i64 (l.getD k zeroC).n) ∧ (flatC l)[k * 3 + 2]? = some (.string (l.getD k zeroC).s)
  | [], _, h => by cases h
  | c :: l, 0, _ => ⟨rfl, rfl, rfl⟩
  | c :: l, k + 1, h => by
    have ih := flatC_at l k (by simpa using h)
    rw [show (k + 1) * 3 = k * 3 + 1 + 1 + 1 from by omega, show k * 3 + 1 + 1 + 1 + 1 = k * 3 + 1 + 1 + 1 + 1 from rfl, show k * 3 + 1 + 1 + 1 + 2 = k * 3 + 2 + 1 + 1 + 1 from rfl]
    simpa only [flatC, List.getElem?_cons_succ, List.getD_cons_succ] using ih

/-- A slice of cells that reads as l. -/
structure CSeg (w : World) (a : Option Addr) (n c : Nat) (l : List Cel) : Prop where
  len : l.length = n
  le : n ≤ c
  cap : c ≤ maxLen
  nil_ : a = none → n = 0 ∧ c = 0
  at_ : ∀ ad, a = some ad → ∀ j u, (flatC l)[j]? = some u → w.cell? (ad.add j) = some u

theorem CSeg.nil (w : World) : CSeg w none 0 0 [] := ⟨rfl, Nat.le_refl _, by unfold maxLen; omega, fun _ => ⟨rfl, rfl⟩, fun _ h => by cases h⟩
theorem CSeg.old {w w' : World} {a : Option Addr} {n c : Nat} {l : List Cel} (h : CSeg w a n c l) (k : w.grownBy w' none) : CSeg w' a n c l :=
  ⟨h.len, h.le, h.cap, h.nil_, fun ad had j u hu => (grown_turn k).cell (h.at_ ad had j u hu) id⟩
theorem spot_none {w : World} {a : Addr} {v : Value} (h : w.cell? a = some v) : a.spot = none := by
  unfold World.cell? at h
  split at h
  · split at h
    · cases h
    · rename_i h2
      simpa using h2
  · cases h
/-- A slice of cells that holds some, with its address. -/
theorem CSeg.form {w : World} {a : Option Addr} {n c : Nat} {l : List Cel} (h : CSeg w a n c l) (hn : n ≠ 0) : ∃ B O, a = some ⟨B, O, none⟩ ∧ ∀ k, k < n → w.cell? ⟨B, O + k * 3, none⟩ = some (.int .i64 (l.getD k zeroC).k) ∧ w.cell? ⟨B, O + k * 3 + 1, none⟩ = some (.int .i64 (l.getD k zeroC).n) ∧ w.cell? ⟨B, O + k * 3 + 2, none⟩ = some (.string (l.getD k zeroC).s) := by
  cases a with
  | none => exact absurd (h.nil_ rfl).1 hn
  | some ad =>
    have hl := h.len
    have h0 := spot_none (h.at_ ad rfl (0 * 3) _ (flatC_at l 0 (by omega)).1)
    obtain ⟨B, O, sp⟩ := ad
    have : sp = none := by
      have h1 := h0
      unfold Addr.add at h1
      simpa using h1
    subst this
    refine ⟨B, O, rfl, fun k hk => ?_⟩
    obtain ⟨h1, h2, h3⟩ := flatC_at l k (by omega)
    have e1 := h.at_ _ rfl _ _ h1
    have e2 := h.at_ _ rfl _ _ h2
    have e3 := h.at_ _ rfl _ _ h3
    rw [Addr.add_lit] at e1 e2 e3
    exact ⟨e1, by rw [Nat.add_assoc]; exact e2, by rw [Nat.add_assoc]; exact e3⟩

theorem ZB.setAll {w : World} {g : Nat} {q : Zon} (h : ZB w g q) (z : Zon) : ZB ((((((((w.setCell ⟨g, 0, none⟩ (.int .i64 z.cnt)).setCell ⟨g, 1, none⟩ (.int .i64 z.nul)).setCell ⟨g, 2, none⟩ (.int .i64 z.min.k)).setCell ⟨g, 3, none⟩ (.int .i64 z.min.n)).setCell ⟨g, 4, none⟩ (.string z.min.s)).setCell ⟨g, 5, none⟩ (.int .i64 z.max.k)).setCell ⟨g, 6, none⟩ (.int .i64 z.max.n)).setCell ⟨g, 7, none⟩ (.string z.max.s)) g z := by
  obtain ⟨W1, e1⟩ : ∃ W', W' = w.setCell ⟨g, 0, none⟩ (.int .i64 z.cnt) := ⟨_, rfl⟩
  have h1 : W1.heap[g]? = some (.cells #[.int .i64 z.cnt, .int .i64 q.nul, .int .i64 q.min.k, .int .i64 q.min.n, .string q.min.s, .int .i64 q.max.k, .int .i64 q.max.n, .string q.max.s] 33 (0, 0)) := by rw [e1]; exact Go.heap_setCell_same w g 0 _ _ (.int .i64 z.cnt) h
  obtain ⟨W2, e2⟩ : ∃ W', W' = W1.setCell ⟨g, 1, none⟩ (.int .i64 z.nul) := ⟨_, rfl⟩
  have h2 : W2.heap[g]? = some (.cells #[.int .i64 z.cnt, .int .i64 z.nul, .int .i64 q.min.k, .int .i64 q.min.n, .string q.min.s, .int .i64 q.max.k, .int .i64 q.max.n, .string q.max.s] 33 (0, 0)) := by rw [e2]; exact Go.heap_setCell_same W1 g 1 _ _ (.int .i64 z.nul) h1
  obtain ⟨W3, e3⟩ : ∃ W', W' = W2.setCell ⟨g, 2, none⟩ (.int .i64 z.min.k) := ⟨_, rfl⟩
  have h3 : W3.heap[g]? = some (.cells #[.int .i64 z.cnt, .int .i64 z.nul, .int .i64 z.min.k, .int .i64 q.min.n, .string q.min.s, .int .i64 q.max.k, .int .i64 q.max.n, .string q.max.s] 33 (0, 0)) := by rw [e3]; exact Go.heap_setCell_same W2 g 2 _ _ (.int .i64 z.min.k) h2
  obtain ⟨W4, e4⟩ : ∃ W', W' = W3.setCell ⟨g, 3, none⟩ (.int .i64 z.min.n) := ⟨_, rfl⟩
  have h4 : W4.heap[g]? = some (.cells #[.int .i64 z.cnt, .int .i64 z.nul, .int .i64 z.min.k, .int .i64 z.min.n, .string q.min.s, .int .i64 q.max.k, .int .i64 q.max.n, .string q.max.s] 33 (0, 0)) := by rw [e4]; exact Go.heap_setCell_same W3 g 3 _ _ (.int .i64 z.min.n) h3
  obtain ⟨W5, e5⟩ : ∃ W', W' = W4.setCell ⟨g, 4, none⟩ (.string z.min.s) := ⟨_, rfl⟩
  have h5 : W5.heap[g]? = some (.cells #[.int .i64 z.cnt, .int .i64 z.nul, .int .i64 z.min.k, .int .i64 z.min.n, .string z.min.s, .int .i64 q.max.k, .int .i64 q.max.n, .string q.max.s] 33 (0, 0)) := by rw [e5]; exact Go.heap_setCell_same W4 g 4 _ _ (.string z.min.s) h4
  obtain ⟨W6, e6⟩ : ∃ W', W' = W5.setCell ⟨g, 5, none⟩ (.int .i64 z.max.k) := ⟨_, rfl⟩
  have h6 : W6.heap[g]? = some (.cells #[.int .i64 z.cnt, .int .i64 z.nul, .int .i64 z.min.k, .int .i64 z.min.n, .string z.min.s, .int .i64 z.max.k, .int .i64 q.max.n, .string q.max.s] 33 (0, 0)) := by rw [e6]; exact Go.heap_setCell_same W5 g 5 _ _ (.int .i64 z.max.k) h5
  obtain ⟨W7, e7⟩ : ∃ W', W' = W6.setCell ⟨g, 6, none⟩ (.int .i64 z.max.n) := ⟨_, rfl⟩
  have h7 : W7.heap[g]? = some (.cells #[.int .i64 z.cnt, .int .i64 z.nul, .int .i64 z.min.k, .int .i64 z.min.n, .string z.min.s, .int .i64 z.max.k, .int .i64 z.max.n, .string q.max.s] 33 (0, 0)) := by rw [e7]; exact Go.heap_setCell_same W6 g 6 _ _ (.int .i64 z.max.n) h6
  obtain ⟨W8, e8⟩ : ∃ W', W' = W7.setCell ⟨g, 7, none⟩ (.string z.max.s) := ⟨_, rfl⟩
  have h8 : W8.heap[g]? = some (.cells #[.int .i64 z.cnt, .int .i64 z.nul, .int .i64 z.min.k, .int .i64 z.min.n, .string z.min.s, .int .i64 z.max.k, .int .i64 z.max.n, .string z.max.s] 33 (0, 0)) := by rw [e8]; exact Go.heap_setCell_same W7 g 7 _ _ (.string z.max.s) h7
  rw [← e1, ← e2, ← e3, ← e4, ← e5, ← e6, ← e7, ← e8]
  exact h8
theorem turn_set8 (w : World) (g : Nat) (z : Zon) : Turn w ((((((((w.setCell ⟨g, 0, none⟩ (.int .i64 z.cnt)).setCell ⟨g, 1, none⟩ (.int .i64 z.nul)).setCell ⟨g, 2, none⟩ (.int .i64 z.min.k)).setCell ⟨g, 3, none⟩ (.int .i64 z.min.n)).setCell ⟨g, 4, none⟩ (.string z.min.s)).setCell ⟨g, 5, none⟩ (.int .i64 z.max.k)).setCell ⟨g, 6, none⟩ (.int .i64 z.max.n)).setCell ⟨g, 7, none⟩ (.string z.max.s)) (· = g) :=
  ((((((((Turn.setCell w _ _ (S := (· = g)) rfl).trans (Turn.setCell _ _ _ (S := (· = g)) rfl) (fun _ _ e => e)).trans (Turn.setCell _ _ _ (S := (· = g)) rfl) (fun _ _ e => e)).trans (Turn.setCell _ _ _ (S := (· = g)) rfl) (fun _ _ e => e)).trans (Turn.setCell _ _ _ (S := (· = g)) rfl) (fun _ _ e => e)).trans (Turn.setCell _ _ _ (S := (· = g)) rfl) (fun _ _ e => e)).trans (Turn.setCell _ _ _ (S := (· = g)) rfl) (fun _ _ e => e)).trans (Turn.setCell _ _ _ (S := (· = g)) rfl) (fun _ _ e => e))

theorem take_snoc (l : List Cel) (k : Nat) (h : k < l.length) : l.take (k + 1) = l.take k ++ [l.getD k zeroC] := by
  rw [List.take_succ_eq_append_getElem h]
  simp [List.getD, h]
theorem small_of (l : List Cel) (h : l.length ≤ 100000) : Small (ofZ l) := by
  have g := good_of l
  have c := of_cnt l
  have h1 := g.nul
  have h2 := g.le
  unfold Small
  omega
theorem small_one (c : Cel) : Small (oneZ c) := by
  unfold Small
  rw [one_cnt, one_nul]
  split <;> omega

set_option maxRecDepth 100000 in
set_option maxHeartbeats 4000000 in
theorem Of_any (a : Option Addr) (n c : Nat) (l : List Cel) (w : World) (hs : CSeg w a n c l) (hn : n ≤ 65536) : Calls Tryz.prog 32 #[.slice a n c] w fun e w' =>
    e = .returned (.agg #[.int .i64 (ofZ l).cnt, .int .i64 (ofZ l).nul, .int .i64 (ofZ l).min.k, .int .i64 (ofZ l).min.n, .string (ofZ l).min.s, .int .i64 (ofZ l).max.k, .int .i64 (ofZ l).max.n, .string (ofZ l).max.s]) ∧ w.grownBy w' none := by
  have HS := Lib.hid hs
  have HL := Lib.hid hs.len
  have R0 := Lib.hid (ZB.new w zeroZ)
  have Z0 : Hid (ZB ((w.alloc (.cells #[.int .i64 zeroZ.cnt, .int .i64 zeroZ.nul, .int .i64 zeroZ.min.k, .int .i64 zeroZ.min.n, .string zeroZ.min.s, .int .i64 zeroZ.max.k, .int .i64 zeroZ.max.n, .string zeroZ.max.s] 33)).alloc (.cells #[.int .i64 zeroZ.cnt, .int .i64 zeroZ.nul, .int .i64 zeroZ.min.k, .int .i64 zeroZ.min.n, .string zeroZ.min.s, .int .i64 zeroZ.max.k, .int .i64 zeroZ.max.n, .string zeroZ.max.s] 33)) (w.heap.size + 1) zeroZ) := Lib.hid (by
    have h := ZB.new (w.alloc (.cells #[.int .i64 zeroZ.cnt, .int .i64 zeroZ.nul, .int .i64 zeroZ.min.k, .int .i64 zeroZ.min.n, .string zeroZ.min.s, .int .i64 zeroZ.max.k, .int .i64 zeroZ.max.n, .string zeroZ.max.s] 33)) zeroZ
    rw [World.size_alloc] at h
    exact h)
  have G0 := Lib.hid (grown_then (grown_alloc w (.cells #[.int .i64 zeroZ.cnt, .int .i64 zeroZ.nul, .int .i64 zeroZ.min.k, .int .i64 zeroZ.min.n, .string zeroZ.min.s, .int .i64 zeroZ.max.k, .int .i64 zeroZ.max.n, .string zeroZ.max.s] 33)) (grown_alloc _ (.cells #[.int .i64 zeroZ.cnt, .int .i64 zeroZ.nul, .int .i64 zeroZ.min.k, .int .i64 zeroZ.min.n, .string zeroZ.min.s, .int .i64 zeroZ.max.k, .int .i64 zeroZ.max.n, .string zeroZ.max.s] 33)))
  have R1 := Lib.hid (R0.out.old (grown_alloc _ (.cells #[.int .i64 zeroZ.cnt, .int .i64 zeroZ.nul, .int .i64 zeroZ.min.k, .int .i64 zeroZ.min.n, .string zeroZ.min.s, .int .i64 zeroZ.max.k, .int .i64 zeroZ.max.n, .string zeroZ.max.s] 33)))
  clear hs R0
  go_enter Tryz.func32, Tryz.ntmps32
  go_wp2
  go_loopw [9] (fun iv wx => ∃ k : Nat, iv = .int .i64 k ∧ k ≤ n ∧ ZB wx (w.heap.size + 1) (ofZ (l.take k)) ∧ ZB wx w.heap.size zeroZ ∧ w.grownBy wx none) (fun iv _ => n - (intOf iv).toNat)
  case atStart => exact ⟨0, rfl, Nat.zero_le _, Z0.out, R1.out, G0.out⟩
  case round =>
    obtain ⟨k, rfl, hk, hz, hr, hg⟩ := hrel
    have HZ := Lib.hid hz
    have HR := Lib.hid hr
    have HG := Lib.hid hg
    clear hz hr hg
    by_cases hlt : k < n
    · obtain ⟨B, O, rfl, hcs⟩ := (HS.out.old HG.out).form (by omega)
      obtain ⟨c0, c1, c2⟩ := hcs k hlt
      clear hcs
      obtain ⟨x, hx⟩ : ∃ x, x = l.getD k zeroC := ⟨_, rfl⟩
      rw [← hx] at c0 c1 c2
      obtain ⟨z, hz⟩ : ∃ z, z = ofZ (l.take k) := ⟨_, rfl⟩
      obtain ⟨o, ho⟩ : ∃ o, o = oneZ x := ⟨_, rfl⟩
      obtain ⟨j, hj⟩ : ∃ j, j = joinZ z o := ⟨_, rfl⟩
      have HN := Lib.hid (fun W => one_any x W)
      have HJ := Lib.hid (fun W => Join_any z o W (by rw [hz]; exact small_of _ (by rw [List.length_take]; have := HL.out; omega)) (by rw [ho]; exact small_one x))
      have HT : Hid (j = ofZ (l.take (k + 1))) := Lib.hid (by rw [take_snoc l k (by have := HL.out; omega), ofZ_snoc, hj, hz, ho, hx])
      rw [← ho] at HN
      rw [← hj] at HJ
      rw [← hz] at HZ
      clear hx hz ho hj
      obtain ⟨z0, z1, ⟨z2, z3, z4⟩, z5, z6, z7⟩ := HZ.out.cells
      go_wp2_with fail
      obtain ⟨W1, hW1⟩ : ∃ W1, wr.alloc (.cells #[.int .i64 x.k, .int .i64 x.n, .string x.s] 24) = W1 := ⟨_, rfl⟩
      have G1 : Hid (w.grownBy W1 none) := Lib.hid (by rw [← hW1]; exact grown_then HG.out (grown_alloc _ _))
      have R1 : Hid (ZB W1 w.heap.size zeroZ) := Lib.hid (by rw [← hW1]; exact HR.out.old (grown_alloc _ _))
      have Z1 : Hid (ZB W1 (w.heap.size + 1) z) := Lib.hid (by rw [← hW1]; exact HZ.out.old (grown_alloc _ _))
      have X1 : Hid (CB W1 wr.heap.size x) := Lib.hid (by rw [← hW1]; exact CB.new wr x)
      rw [hW1]
      clear hW1 z0 z1 z2 z3 z4 z5 z6 z7 c0 c1 c2
      obtain ⟨z0, z1, ⟨z2, z3, z4⟩, z5, z6, z7⟩ := Z1.out.cells
      obtain ⟨c0, c1, c2⟩ := X1.out.cells
      go_region_with (first
        | (go_at_call 57
           (with_reducible refine (HN.out _).mono ?_)
           rintro e wa ⟨rfl, hga⟩
           have GA := Lib.hid (grown_then (grown_drew W1) hga)
           obtain ⟨a0, a1, ⟨a2, a3, a4⟩, a5, a6, a7⟩ := (Z1.out.old GA.out).cells
           clear hga)
        | (go_at_call 56
           (with_reducible refine (HJ.out _).mono ?_)
           rintro e wb ⟨rfl, hgb⟩
           have GB := Lib.hid (grown_then GA.out hgb)
           have ZB2 := Lib.hid (Z1.out.old GB.out)
           obtain ⟨b0, b1, ⟨b2, b3, b4⟩, b5, b6, b7⟩ := ZB2.out.cells
           have y0 := ZB2.out.froz 0
           have y1 := ZB2.out.froz 1
           have y2 := ZB2.out.froz 2
           have y3 := ZB2.out.froz 3
           have y4 := ZB2.out.froz 4
           have y5 := ZB2.out.froz 5
           have y6 := ZB2.out.froz 6
           have y7 := ZB2.out.froz 7
           clear hgb)
        | fail)
      all_goals
        obtain ⟨W9, hW9⟩ : ∃ W9, (((((((wb.setCell ⟨w.heap.size + 1, 0, none⟩ (.int .i64 j.cnt)).setCell ⟨w.heap.size + 1, 1, none⟩ (.int .i64 j.nul)).setCell ⟨w.heap.size + 1, 2, none⟩ (.int .i64 j.min.k)).setCell ⟨w.heap.size + 1, 3, none⟩ (.int .i64 j.min.n)).setCell ⟨w.heap.size + 1, 4, none⟩ (.string j.min.s)).setCell ⟨w.heap.size + 1, 5, none⟩ (.int .i64 j.max.k)).setCell ⟨w.heap.size + 1, 6, none⟩ (.int .i64 j.max.n)).setCell ⟨w.heap.size + 1, 7, none⟩ (.string j.max.s) = W9 := ⟨_, rfl⟩
        have t9 := turn_set8 wb (w.heap.size + 1) j
        have Z9 := ZB2.out.setAll j
        rw [hW9] at t9 Z9
        rw [hW9]
        clear hW9
        have R9 := ((R1.out.old GB.out)).not t9 (by omega)
        have G9 := grown_put (grown_then G1.out GB.out) t9 (by omega)
        have HF := Lib.hid (And.intro (show ZB W9 (w.heap.size + 1) (ofZ (l.take (k + 1))) from by rw [← HT.out]; exact Z9) (And.intro R9 G9))
        clear Z9 R9 G9 t9
        go_wp2
        go_roundw
        case rel => exact ⟨k + 1, by go_num, by omega, HF.out.1, HF.out.2.1, HF.out.2.2⟩
        case measure => simp [intOf]; omega
    · obtain rfl : k = n := by omega
      have HT : Hid (ofZ (l.take k) = ofZ l) := Lib.hid (by rw [List.take_of_length_le (by rw [HL.out]; exact Nat.le_refl _)])
      rw [HT.out] at HZ
      obtain ⟨z, hz⟩ : ∃ z, z = ofZ l := ⟨_, rfl⟩
      rw [← hz] at HZ
      have HE := Lib.hid hz
      clear hz HT hlt
      obtain ⟨z0, z1, ⟨z2, z3, z4⟩, z5, z6, z7⟩ := HZ.out.cells
      go_wp2_with (first
        | (with_reducible refine wpList_store_zone rfl (.tmp 2) (.tmp 18) rfl w.heap.size rfl z rfl zeroZ HR.out ?_; intro w9 hz9 ht9)
        | fail)
      refine bodyPost_ret (run_results_zone rfl _ _ _ _ rfl hz9) rfl ⟨by rw [HE.out], grown_put HG.out ht9 (Nat.le_refl _)⟩
end Go.Proofs.YtljanfnhmhimiaaGreat.Zn

namespace Go.Proofs.YtljanfnhmhimiaaGreat.Zr
open Go.RowKit Bs Dv Zn

theorem cells_gw {W : World} {B O k : Nat} {x : Cel} (h : W.cell? ⟨B, O + k * 3, none⟩ = some (.int .i64 x.k) ∧ W.cell? ⟨B, O + k * 3 + 1, none⟩ = some (.int .i64 x.n) ∧ W.cell? ⟨B, O + k * 3 + 2, none⟩ = some (.string x.s)) :
    (∀ q : Gw W, q.at_.cell? ⟨B, O + k * 3, none⟩ = some (.int .i64 x.k)) ∧ (∀ q : Gw W, q.at_.cell? ⟨B, O + k * 3 + 1, none⟩ = some (.int .i64 x.n)) ∧ ∀ q : Gw W, q.at_.cell? ⟨B, O + k * 3 + 2, none⟩ = some (.string x.s) :=
  ⟨fun q => (grown_turn q.grown).cell h.1 id, fun q => (grown_turn q.grown).cell h.2.1 id, fun q => (grown_turn q.grown).cell h.2.2 id⟩
theorem cells_at {W : World} {B O n c k : Nat} {l : List Cel} {x : Cel} (h : CSeg W (some ⟨B, O, none⟩) n c l) (hk : k < n) (hx : x = l.getD k zeroC) :
    W.cell? ⟨B, O + k * 3, none⟩ = some (.int .i64 x.k) ∧ W.cell? ⟨B, O + k * 3 + 1, none⟩ = some (.int .i64 x.n) ∧ W.cell? ⟨B, O + k * 3 + 2, none⟩ = some (.string x.s) := by
  obtain ⟨B', O', e, f⟩ := h.form (by omega)
  cases e
  rw [hx]
  exact f k hk
end Go.Proofs.YtljanfnhmhimiaaGreat.Zr

namespace Go.Proofs.YtljanfnhmhimiaaGreat.Zr
open Go.RowKit Bs Dv Zn

instance : DecidableEq Cel := fun a b => if h : eqC a b = true then isTrue (eqC_iff.1 h) else isFalse (fun e => h (eqC_iff.2 e))
def sameC (a b : List Cel) : Bool := decide (a = b)
theorem take_same {a b : List Cel} {k : Nat} (ha : k < a.length) (hb : k < b.length) (h : a.take k = b.take k) (hg : a.getD k zeroC = b.getD k zeroC) : a.take (k + 1) = b.take (k + 1) := by
  rw [take_snoc a k ha, take_snoc b k hb, h, hg]

set_option maxRecDepth 100000 in
set_option maxHeartbeats 2000000 in
theorem csame_any (a0 a1 : Option Addr) (n0 n1 c0 c1 : Nat) (l0 l1 : List Cel) (w : World) (h0 : CSeg w a0 n0 c0 l0) (h1 : CSeg w a1 n1 c1 l1) :
    Calls Tryz.prog 14 #[.slice a0 n0 c0, .slice a1 n1 c1] w fun e w' => e = .returned (.bool (sameC l0 l1)) ∧ w.grownBy w' none := by
  have hm := h0.cap
  have hle := h0.le
  have hm1 := h1.cap
  have hle1 := h1.le
  unfold maxLen at hm hm1
  have S0 := Lib.hid h0
  have S1 := Lib.hid h1
  have L0 := Lib.hid h0.len
  have L1 := Lib.hid h1.len
  clear h0 h1
  by_cases hn : n0 = n1
  · subst hn
    go_enter Tryz.func14, Tryz.ntmps14
    go_wp2
    go_loopw [5] (fun si wr => ∃ k : Nat, k ≤ n0 ∧ si = .int .i64 k ∧ w.grownBy wr none ∧ Hid (l0.take k = l1.take k)) (fun si _ => n0 - (intOf si).toNat)
    case atStart => exact ⟨0, Nat.zero_le _, rfl, grown_refl _, Lib.hid rfl⟩
    case round =>
      obtain ⟨k, hk, rfl, hg, HE⟩ := hrel
      have HG := Lib.hid hg
      clear hg
      by_cases hlt : k < n0
      · obtain ⟨B0, O0, rfl, f0⟩ := (S0.out.old HG.out).form (by omega)
        obtain ⟨B1, O1, rfl, f1⟩ := (S1.out.old HG.out).form (by omega)
        have F0 := f0 k hlt
        have F1 := f1 k hlt
        have hj0 : (0 : Int) ≤ (k : Int) := by omega
        have hjk : (k : Int) < (n0 : Int) := by omega
        clear f0 f1
        by_cases he : l0.getD k zeroC = l1.getD k zeroC
        · have HE2 := Lib.hid (take_same (by rw [L0.out]; exact hlt) (by rw [L1.out]; exact hlt) HE.out he)
          rw [← he] at F1
          clear he
          generalize l0.getD k zeroC = x at F0 F1
          have hn1 : ∀ W, (binOp .neq 24 (.agg #[.int .i64 x.k, .int .i64 x.n, .string x.s]) (.agg #[.int .i64 x.k, .int .i64 x.n, .string x.s])).run Tryz.prog W = .ok (.bool false) W := fun W => by
            have h := neq_cell x x W
            rwa [eqC_self] at h
          have XF0 := Lib.hid F0
          have XF1 := Lib.hid F1
          clear F0 F1
          obtain ⟨x0, x1, x2⟩ := cells_gw XF0.out
          obtain ⟨y0, y1, y2⟩ := cells_gw XF1.out
          go_wp2_with fail
          refine wp_region_grow (by kernel_rfl) ?_
          repeat (go_big_quiet_step (fail))
          refine wpQuiet_nil ?_
          rintro _ ⟨p, rfl⟩
          have GE := Lib.hid (grown_then HG.out p.grown)
          go_wp2
          go_roundw
          case rel => exact ⟨k + 1, by omega, by go_num, GE.out, HE2⟩
          case measure => simp [intOf]; omega
        · have HS : Hid (sameC l0 l1 = false) := Lib.hid (decide_eq_false fun e => he (by rw [e]))
          generalize l0.getD k zeroC = x at F0 he
          generalize l1.getD k zeroC = y at F1 he
          have hn1 : ∀ W, (binOp .neq 24 (.agg #[.int .i64 x.k, .int .i64 x.n, .string x.s]) (.agg #[.int .i64 y.k, .int .i64 y.n, .string y.s])).run Tryz.prog W = .ok (.bool true) W := fun W => by
            have h := neq_cell x y W
            rwa [show eqC x y = false from by
              cases e : eqC x y with
              | false => rfl
              | true => exact absurd (eqC_iff.1 e) he] at h
          have XF0 := Lib.hid F0
          have XF1 := Lib.hid F1
          clear F0 F1 he
          obtain ⟨x0, x1, x2⟩ := cells_gw XF0.out
          obtain ⟨y0, y1, y2⟩ := cells_gw XF1.out
          go_wp2_with fail
          refine wp_region_grow (by kernel_rfl) ?_
          repeat (go_big_quiet_step (fail))
          refine wpQuiet_nil ?_
          rintro _ ⟨p, rfl⟩
          have GE := Lib.hid (grown_then HG.out p.grown)
          go_wp2
          go_ret
          exact ⟨Bs.ret_bool HS.out.symm, GE.out⟩
      · obtain rfl : k = n0 := by omega
        have HS : Hid (sameC l0 l1 = true) := Lib.hid (decide_eq_true (by
          have h := HE.out
          rwa [List.take_of_length_le (by rw [L0.out]; exact Nat.le_refl _), List.take_of_length_le (by rw [L1.out]; exact Nat.le_refl _)] at h))
        clear hlt HE
        go_wp2
        go_ret
        exact ⟨Bs.ret_bool HS.out.symm, HG.out⟩
  · have HS : Hid (sameC l0 l1 = false) := Lib.hid (decide_eq_false fun e => hn (by rw [← L0.out, ← L1.out, e]))
    have q0 : ((n0 : Int) != (n1 : Int)) = true := bne_iff_ne.2 (by omega)
    clear hn
    go_enter Tryz.func14, Tryz.ntmps14
    go_wp2
    go_ret
    exact ⟨Bs.ret_bool HS.out.symm, grown_refl _⟩
end Go.Proofs.YtljanfnhmhimiaaGreat.Zr

namespace Go.Proofs.YtljanfnhmhimiaaGreat.Zn
open Go.RowKit Bs Dv

theorem flatC_take (l : List Cel) (m : Nat) : flatC (l.take m) = (flatC l).take (m * 3) := by
  induction l generalizing m with
  | nil => simp [flatC]
  | cons c l ih =>
    cases m with
    | zero => simp [flatC]
    | succ m =>
      rw [show (m + 1) * 3 = m * 3 + 1 + 1 + 1 from by omega]
      simp only [List.take_succ_cons, flatC, ih]
theorem CSeg.own {w : World} {base e g n c : Nat} {l : List Cel} (h : w.ownsRow base e 3 (.slice (some ⟨g, 0, none⟩) n c) n (flatC l)) : CSeg w (some ⟨g, 0, none⟩) n c l := by
  have hl : l.length = n := by have := h.1; rw [flatC_len] at this; omega
  refine ⟨hl, ?_, ?_, fun e => by (cases e), ?_⟩
  · rcases h.2 with ⟨e, _⟩ | ⟨g', cap, cur, e, _, _, h1, h2, _⟩
    · cases e
    · cases e; exact h1
  · rcases h.2 with ⟨e, _⟩ | ⟨g', cap, cur, e, _, _, h1, h2, _⟩
    · cases e
    · cases e; exact h2
  · intro ad had j u hu
    cases had
    exact h.cells rfl j u hu
theorem CSeg.take {w : World} {a : Option Addr} {n c m : Nat} {l : List Cel} (h : CSeg w a n c l) (hm : m ≤ n) : CSeg w a m c (l.take m) := by
  refine ⟨by rw [List.length_take, h.len]; omega, Nat.le_trans hm h.le, h.cap, fun e => ⟨by have := (h.nil_ e).1; omega, (h.nil_ e).2⟩, fun ad had j u hu => h.at_ ad had j u ?_⟩
  rw [flatC_take] at hu
  have hj : j < m * 3 := by
    have := (List.getElem?_eq_some_iff.1 hu).1
    rw [List.length_take] at this
    omega
  rwa [List.getElem?_take_of_lt hj] at hu
/-- A literal of cells. -/
theorem CSeg.lit (w : World) (l : List Cel) (hl : l.length ≤ 1000) : CSeg (w.alloc (.cells (flatC l).toArray 24)) (some ⟨w.heap.size, 0, none⟩) l.length l.length l := by
  refine ⟨rfl, Nat.le_refl _, by unfold maxLen; omega, (fun e => by cases e), fun ad had j u hu => ?_⟩
  cases had
  rw [Addr.add_lit, Nat.zero_add, cell_of_row _ _ _ _ _ _ (heap_alloc_new w _)]
  simpa using hu

theorem info_cellz : (Tryz.prog.info? 24).map (fun i => (i.zero, i.size, i.bytes)) = some (some (.agg #[.int .i64 0, .int .i64 0, .string ⟨#[]⟩]), 3, 32) := by kernel_rfl
theorem infoC_parts : ∃ i, Tryz.prog.info? 24 = some i ∧ i.zero = some (.agg #[.int .i64 0, .int .i64 0, .string ⟨#[]⟩]) ∧ i.size = 3 ∧ i.bytes = 32 := by
  have h := info_cellz
  cases hq : Tryz.prog.info? 24 with
  | none => rw [hq] at h; cases h
  | some i =>
    rw [hq] at h
    simp only [Option.map_some, Option.some.injEq, Prod.mk.injEq] at h
    exact ⟨i, rfl, h.1, h.2.1, h.2.2⟩

end Go.Proofs.YtljanfnhmhimiaaGreat.Zn

namespace Go.Proofs.YtljanfnhmhimiaaGreat.Zn
open Go.RowKit Bs Dv

def StrsOk (l : List Cel) : Prop := ∀ x ∈ l, x.s.size ≤ 140737488355328
theorem StrsOk.at {l : List Cel} (h : StrsOk l) (k : Nat) : (l.getD k zeroC).s.size ≤ 140737488355328 := by
  by_cases hk : k < l.length
  · rw [List.getD_eq_getElem?_getD, List.getElem?_eq_getElem hk]; exact h _ (List.getElem_mem hk)
  · rw [List.getD_eq_getElem?_getD, List.getElem?_eq_none (Nat.not_lt.1 hk)]; show (0 : Nat) ≤ _; omega

end Go.Proofs.YtljanfnhmhimiaaGreat.Zn

namespace Go.Proofs.YtljanfnhmhimiaaGreat.Zn
open Go.RowKit

def roomC (S : Nat) : Array Value := madeCells #[.int .i64 0, .int .i64 0, .string ⟨#[]⟩] (S * 3)
theorem roomC_size (S : Nat) : (roomC S).size = S * 3 := size_madeCells _ _
theorem roomC_list (S : Nat) : (roomC S).toList = flatC (List.replicate S zeroC) := by
  unfold roomC madeCells
  rw [Array.toList_map, Array.toList_range]
  induction S with
  | zero => rfl
  | succ S ih =>
    rw [show (S + 1) * 3 = S * 3 + 1 + 1 + 1 from by omega, List.range_succ, List.range_succ, List.range_succ, List.append_assoc, List.append_assoc, List.map_append, ih, List.replicate_succ', flatC_app]
    have h0 : S * 3 % 3 = 0 := by omega
    have h1 : (S * 3 + 1) % 3 = 1 := by omega
    have h2 : (S * 3 + 1 + 1) % 3 = 2 := by omega
    simp [flatC, zeroC, h0, h1, h2]
theorem make_cells (S : Nat) (hS : S ≤ 1000000) (W : World) : (Instr.makeSlice 26 (.int .i64 (S : Int)) (.int .i64 (S : Int))).run Tryz.prog W = .ok (.slice (some ⟨W.heap.size, 0, none⟩) S S) (W.alloc (.cells (roomC S) 24)) := by
  obtain ⟨i0, hi, hz0, hz1, hz2⟩ := infoC_parts
  have h := run_make (P := Tryz.prog) W 26 24 i0 (.agg #[.int .i64 0, .int .i64 0, .string ⟨#[]⟩]) Tryz.underlying26 hi hz0 .i64 .i64 (S : Int) (S : Int) (by omega) (by omega) (by rw [hz2]; omega) (by omega)
  rw [hz1, Int.toNat_natCast] at h
  exact h
theorem made_cells (S : Nat) (hS : S ≤ 1000000) (W : World) : (W.alloc (.cells (roomC S) 24)).ownsRow W.heap.size 24 3 (.slice (some ⟨W.heap.size, 0, none⟩) S S) S (flatC (List.replicate S zeroC)) := by
  exact ⟨by rw [flatC_len, List.length_replicate], .inr ⟨W.heap.size, S, roomC S, rfl, Nat.le_refl _, heap_alloc_new W _, Nat.le_refl _, by unfold maxLen; omega, roomC_size S, by rw [roomC_list]; exact List.take_of_length_le (by rw [flatC_len, List.length_replicate]; omega)⟩⟩
theorem seg_cells (S : Nat) (hS : S ≤ 1000000) (W : World) : CSeg (W.alloc (.cells (roomC S) 24)) (some ⟨W.heap.size, 0, none⟩) S S (List.replicate S zeroC) := CSeg.own (made_cells S hS W)
end Go.Proofs.YtljanfnhmhimiaaGreat.Zn

namespace Go.Proofs.YtljanfnhmhimiaaGreat.Sg
open Go.RowKit Bs Dv Zn

theorem flatC_set : ∀ (l : List Cel) (i : Nat) (x : Cel), flatC (l.set i x) = if i < l.length then (((flatC l).set (i * 3) (.int .i64 x.k)).set (i * 3 + 1) (.int .i64 x.n)).set (i * 3 + 2) (.string x.s) else flatC l
  | [], i, x => by rw [if_neg (by simp)]; rfl
  | c :: l, 0, x => by rw [if_pos (by simp)]; rfl
  | c :: l, i + 1, x => by
    have ih := flatC_set l i x
    rw [List.set_cons_succ, flatC, ih]
    by_cases h : i < l.length
    · rw [if_pos h, if_pos (by rw [List.length_cons]; omega), flatC, show (i + 1) * 3 = i * 3 + 1 + 1 + 1 from by omega]
      rfl
    · rw [if_neg h, if_neg (by rw [List.length_cons]; omega)]
      rfl
/-- an own row of cells, one of them written over -/
theorem row_set {w : World} {base g n c : Nat} {l : List Cel} (h : w.ownsRow base 24 3 (.slice (some ⟨g, 0, none⟩) n c) n (flatC l)) (i : Nat) (x : Cel) (hi : i < l.length) :
    (((w.setCell ⟨g, i * 3, none⟩ (.int .i64 x.k)).setCell ⟨g, i * 3 + 1, none⟩ (.int .i64 x.n)).setCell ⟨g, i * 3 + 2, none⟩ (.string x.s)).ownsRow base 24 3 (.slice (some ⟨g, 0, none⟩) n c) n (flatC (l.set i x)) ∧
    w.grownBy (((w.setCell ⟨g, i * 3, none⟩ (.int .i64 x.k)).setCell ⟨g, i * 3 + 1, none⟩ (.int .i64 x.n)).setCell ⟨g, i * 3 + 2, none⟩ (.string x.s)) (some g) := by
  obtain ⟨h1, g1⟩ := h.stored (i * 3) (.int .i64 x.k)
  obtain ⟨h2, g2⟩ := h1.stored (i * 3 + 1) (.int .i64 x.n)
  obtain ⟨h3, g3⟩ := h2.stored (i * 3 + 2) (.string x.s)
  refine ⟨by rw [flatC_set, if_pos hi]; exact h3, ⟨?_, ?_, ?_, ?_, ?_⟩⟩
  · exact g3.os.trans (g2.os.trans g1.os)
  · exact g3.tape.trans (g2.tape.trans g1.tape)
  · exact g3.output.trans (g2.output.trans g1.output)
  · exact Nat.le_trans g1.size (Nat.le_trans g2.size g3.size)
  · intro k hk hn
    rw [g3.block k (Nat.lt_of_lt_of_le hk (Nat.le_trans g1.size g2.size)) hn, g2.block k (Nat.lt_of_lt_of_le hk g1.size) hn, g1.block k hk hn]
theorem _root_.Go.Proofs.YtljanfnhmhimiaaGreat.Zn.CSeg.cells0 {w : World} {g n c : Nat} {l : List Cel} (h : CSeg w (some ⟨g, 0, none⟩) n c l) (k : Nat) (hk : k < n) :
    w.cell? ⟨g, k * 3, none⟩ = some (.int .i64 (l.getD k zeroC).k) ∧ w.cell? ⟨g, k * 3 + 1, none⟩ = some (.int .i64 (l.getD k zeroC).n) ∧ w.cell? ⟨g, k * 3 + 2, none⟩ = some (.string (l.getD k zeroC).s) := by
  obtain ⟨B, O, e, f⟩ := h.form (by omega)
  cases e
  have h1 := f k hk
  simpa using h1
end Go.Proofs.YtljanfnhmhimiaaGreat.Sg
