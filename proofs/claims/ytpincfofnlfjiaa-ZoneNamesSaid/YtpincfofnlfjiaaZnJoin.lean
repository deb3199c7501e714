/-
  Join: the zone of two columns.
-/
import Derived.Test.YtpincfofnlfjiaaZnSmall
import Derived.Deep.DeepCutAuto
namespace Go.Proofs.Ytpincfofnlfjiaa.Zn
open Go.RowKit Bs Dv

/-- numbers that may be added -/
def Small (z : Zon) : Prop := 0 ≤ z.cnt ∧ z.cnt ≤ 1000 ∧ 0 ≤ z.nul ∧ z.nul ≤ 1000

theorem ZB.froz {w : World} {g : Nat} {z : Zon} (h : ZB w g z) (j : Nat) : w.frozen? ⟨g, j, none⟩ = false := by
  unfold ZB at h
  simp [World.frozen?, h]
theorem ZB.setMin {w : World} {g : Nat} {z : Zon} (h : ZB w g z) (c : Cel) : ZB (((w.setCell ⟨g, 2, none⟩ (.int .i64 c.k)).setCell ⟨g, 3, none⟩ (.int .i64 c.n)).setCell ⟨g, 4, none⟩ (.string c.s)) g ⟨z.cnt, z.nul, c, z.max⟩ :=
  Go.heap_setCell_same _ g 4 _ _ (.string c.s) (Go.heap_setCell_same _ g 3 _ _ (.int .i64 c.n) (Go.heap_setCell_same w g 2 _ _ (.int .i64 c.k) h))
theorem ZB.setMax {w : World} {g : Nat} {z : Zon} (h : ZB w g z) (c : Cel) : ZB (((w.setCell ⟨g, 5, none⟩ (.int .i64 c.k)).setCell ⟨g, 6, none⟩ (.int .i64 c.n)).setCell ⟨g, 7, none⟩ (.string c.s)) g ⟨z.cnt, z.nul, z.min, c⟩ :=
  Go.heap_setCell_same _ g 7 _ _ (.string c.s) (Go.heap_setCell_same _ g 6 _ _ (.int .i64 c.n) (Go.heap_setCell_same w g 5 _ _ (.int .i64 c.k) h))
theorem ZB.not {w w' : World} {g k : Nat} {z : Zon} (h : ZB w g z) (t : Turn w w' (· = k)) (hne : g ≠ k) : ZB w' g z := block_turn h t hne
theorem turn_set3 (w : World) (g i j k : Nat) (x y z : Value) : Turn w (((w.setCell ⟨g, i, none⟩ x).setCell ⟨g, j, none⟩ y).setCell ⟨g, k, none⟩ z) (· = g) :=
  ((Turn.setCell w _ _ (S := (· = g)) rfl).trans (Turn.setCell _ _ _ (S := (· = g)) rfl) (fun _ _ e => e)).trans (Turn.setCell _ _ _ (S := (· = g)) rfl) (fun _ _ e => e)

set_option maxRecDepth 100000 in
set_option maxHeartbeats 4000000 in
theorem Join_any (a b : Zon) (w : World) (ha : Small a) (hb : Small b) : Calls Try.prog 18 #[.agg #[.int .i64 a.cnt, .int .i64 a.nul, .int .i64 a.min.k, .int .i64 a.min.n, .string a.min.s, .int .i64 a.max.k, .int .i64 a.max.n, .string a.max.s], .agg #[.int .i64 b.cnt, .int .i64 b.nul, .int .i64 b.min.k, .int .i64 b.min.n, .string b.min.s, .int .i64 b.max.k, .int .i64 b.max.n, .string b.max.s]] w fun e w' =>
    e = .returned (.agg #[.int .i64 (joinZ a b).cnt, .int .i64 (joinZ a b).nul, .int .i64 (joinZ a b).min.k, .int .i64 (joinZ a b).min.n, .string (joinZ a b).min.s, .int .i64 (joinZ a b).max.k, .int .i64 (joinZ a b).max.n, .string (joinZ a b).max.s]) ∧ w.grownBy w' none := by
  unfold Small at ha hb
  have s1 : IntKind.i64.wrap (a.cnt + b.cnt) = a.cnt + b.cnt := IntWalk.i64_in _ (by omega)
  have s2 : IntKind.i64.wrap (a.nul + b.nul) = a.nul + b.nul := IntWalk.i64_in _ (by omega)
  have hs3 : -9223372036854775808 ≤ a.cnt + b.cnt ∧ a.cnt + b.cnt ≤ 9223372036854775807 := by omega
  have hs4 : -9223372036854775808 ≤ a.nul + b.nul ∧ a.nul + b.nul ≤ 9223372036854775807 := by omega
  have HC := Lib.hid (fun W => Compare_any a.min b.min W)
  have HD := Lib.hid (fun W => Compare_any a.max b.max W)
  obtain ⟨z0, hz0⟩ : ∃ z0 : Zon, z0 = ⟨a.cnt + b.cnt, a.nul + b.nul, b.min, b.max⟩ := ⟨_, rfl⟩
  obtain ⟨W0, hW0⟩ : ∃ W0, (((w.alloc (.cells #[.int .i64 a.cnt, .int .i64 a.nul, .int .i64 a.min.k, .int .i64 a.min.n, .string a.min.s, .int .i64 a.max.k, .int .i64 a.max.n, .string a.max.s] 26)).alloc (.cells #[.int .i64 b.cnt, .int .i64 b.nul, .int .i64 b.min.k, .int .i64 b.min.n, .string b.min.s, .int .i64 b.max.k, .int .i64 b.max.n, .string b.max.s] 26)).alloc (.cells #[.int .i64 0, .int .i64 0, .int .i64 0, .int .i64 0, .string ⟨#[]⟩, .int .i64 0, .int .i64 0, .string ⟨#[]⟩] 26)).alloc (.cells #[.int .i64 (a.cnt + b.cnt), .int .i64 (a.nul + b.nul), .int .i64 b.min.k, .int .i64 b.min.n, .string b.min.s, .int .i64 b.max.k, .int .i64 b.max.n, .string b.max.s] 26) = W0 := ⟨_, rfl⟩
  have G0 : Hid (w.grownBy W0 none) := Lib.hid (by rw [← hW0]; exact grown_then (grown_then (grown_then (grown_alloc _ _) (grown_alloc _ _)) (grown_alloc _ _)) (grown_alloc _ _))
  have A0 : Hid (ZB W0 w.heap.size a) := Lib.hid (by rw [← hW0]; exact (((ZB.new w a).old (grown_alloc _ _)).old (grown_alloc _ _)).old (grown_alloc _ _))
  have B0 : Hid (ZB W0 (w.heap.size + 1) b) := Lib.hid (by
    have h := ZB.new (w.alloc (.cells #[.int .i64 a.cnt, .int .i64 a.nul, .int .i64 a.min.k, .int .i64 a.min.n, .string a.min.s, .int .i64 a.max.k, .int .i64 a.max.n, .string a.max.s] 26)) b
    rw [World.size_alloc] at h
    rw [← hW0]; exact (h.old (grown_alloc _ _)).old (grown_alloc _ _))
  have R0 : Hid (ZB W0 (w.heap.size + 1 + 1) zeroZ) := Lib.hid (by
    have h := ZB.new ((w.alloc (.cells #[.int .i64 a.cnt, .int .i64 a.nul, .int .i64 a.min.k, .int .i64 a.min.n, .string a.min.s, .int .i64 a.max.k, .int .i64 a.max.n, .string a.max.s] 26)).alloc (.cells #[.int .i64 b.cnt, .int .i64 b.nul, .int .i64 b.min.k, .int .i64 b.min.n, .string b.min.s, .int .i64 b.max.k, .int .i64 b.max.n, .string b.max.s] 26)) zeroZ
    rw [World.size_alloc, World.size_alloc] at h
    rw [← hW0]; exact h.old (grown_alloc _ _))
  have Z0 : Hid (ZB W0 (w.heap.size + 1 + 1 + 1) z0) := Lib.hid (by
    have h := ZB.new (((w.alloc (.cells #[.int .i64 a.cnt, .int .i64 a.nul, .int .i64 a.min.k, .int .i64 a.min.n, .string a.min.s, .int .i64 a.max.k, .int .i64 a.max.n, .string a.max.s] 26)).alloc (.cells #[.int .i64 b.cnt, .int .i64 b.nul, .int .i64 b.min.k, .int .i64 b.min.n, .string b.min.s, .int .i64 b.max.k, .int .i64 b.max.n, .string b.max.s] 26)).alloc (.cells #[.int .i64 zeroZ.cnt, .int .i64 zeroZ.nul, .int .i64 zeroZ.min.k, .int .i64 zeroZ.min.n, .string zeroZ.min.s, .int .i64 zeroZ.max.k, .int .i64 zeroZ.max.n, .string zeroZ.max.s] 26)) z0
    rw [World.size_alloc, World.size_alloc, World.size_alloc] at h
    rw [← hW0, hz0] at *; exact h)
  have HW0 := Lib.hid hW0
  have HZ0 := Lib.hid hz0
  clear hW0 hz0
  by_cases h : a.cnt = a.nul
  · have hq : (a.cnt == a.nul) = true := beq_iff_eq.2 h
    have HN := Lib.hid (fun W => (empty_any a W).mono fun e w' (h : _ ∧ _) => (show e = .returned (.bool true) ∧ W.grownBy w' none from ⟨by rw [h.1, hq], h.2⟩))
    have HE : Hid (Ending.returned (.agg #[.int .i64 z0.cnt, .int .i64 z0.nul, .int .i64 z0.min.k, .int .i64 z0.min.n, .string z0.min.s, .int .i64 z0.max.k, .int .i64 z0.max.n, .string z0.max.s]) = .returned (.agg #[.int .i64 (joinZ a b).cnt, .int .i64 (joinZ a b).nul, .int .i64 (joinZ a b).min.k, .int .i64 (joinZ a b).min.n, .string (joinZ a b).min.s, .int .i64 (joinZ a b).max.k, .int .i64 (joinZ a b).max.n, .string (joinZ a b).max.s])) := Lib.hid (by rw [join_none h, HZ0.out])
    clear hq h
    go_enter Try.func18, Try.ntmps18
    go_wp2_with fail
    rw [HW0.out]
    refine (HN.out _).mono ?_
    rintro e w1 ⟨rfl, hg⟩
    have A1 := Lib.hid (A0.out.old hg)
    have B1 := Lib.hid (B0.out.old hg)
    have R1 := Lib.hid (R0.out.old hg)
    have Z1 := Lib.hid (Z0.out.old hg)
    have G1 := Lib.hid (grown_then G0.out hg)
    clear hg
    obtain ⟨a0, a1, ⟨a2, a3, a4⟩, a5, a6, a7⟩ := A1.out.cells
    obtain ⟨b0, b1, ⟨b2, b3, b4⟩, b5, b6, b7⟩ := B1.out.cells
    obtain ⟨c0, c1, ⟨c2, c3, c4⟩, c5, c6, c7⟩ := Z1.out.cells
    dsimp only
    go_wp2_with (first
      | (with_reducible refine wpList_store_zone rfl (.tmp 4) (.tmp 23) rfl (w.heap.size + 1 + 1) rfl z0 rfl zeroZ R1.out ?_; intro w9 hz9 ht9)
      | fail)
    refine bodyPost_ret (run_results_zone rfl _ _ _ _ rfl hz9) rfl ⟨HE.out, grown_put G1.out ht9 (by omega)⟩
  · have hq : (a.cnt == a.nul) = false := beq_eq_false_iff_ne.2 h
    have HN := Lib.hid (fun W => (empty_any a W).mono fun e w' (h : _ ∧ _) => (show e = .returned (.bool false) ∧ W.grownBy w' none from ⟨by rw [h.1, hq], h.2⟩))
    by_cases k : b.cnt = b.nul
    · have hr : (b.cnt == b.nul) = true := beq_iff_eq.2 k
      have HM := Lib.hid (fun W => (empty_any b W).mono fun e w' (h : _ ∧ _) => (show e = .returned (.bool true) ∧ W.grownBy w' none from ⟨by rw [h.1, hr], h.2⟩))
      have HE : Hid (Ending.returned (.agg #[.int .i64 z0.cnt, .int .i64 z0.nul, .int .i64 a.min.k, .int .i64 a.min.n, .string a.min.s, .int .i64 a.max.k, .int .i64 a.max.n, .string a.max.s]) = .returned (.agg #[.int .i64 (joinZ a b).cnt, .int .i64 (joinZ a b).nul, .int .i64 (joinZ a b).min.k, .int .i64 (joinZ a b).min.n, .string (joinZ a b).min.s, .int .i64 (joinZ a b).max.k, .int .i64 (joinZ a b).max.n, .string (joinZ a b).max.s])) := Lib.hid (by rw [join_left h k, HZ0.out])
      clear hq h hr k
      go_enter Try.func18, Try.ntmps18
      go_wp2_with fail
      rw [HW0.out]
      refine (HN.out _).mono ?_
      rintro e w1 ⟨rfl, hg⟩
      have A1 := Lib.hid (A0.out.old hg)
      have B1 := Lib.hid (B0.out.old hg)
      have R1 := Lib.hid (R0.out.old hg)
      have Z1 := Lib.hid (Z0.out.old hg)
      have G1 := Lib.hid (grown_then G0.out hg)
      clear hg
      obtain ⟨a0, a1, ⟨a2, a3, a4⟩, a5, a6, a7⟩ := A1.out.cells
      obtain ⟨b0, b1, ⟨b2, b3, b4⟩, b5, b6, b7⟩ := B1.out.cells
      obtain ⟨c0, c1, ⟨c2, c3, c4⟩, c5, c6, c7⟩ := Z1.out.cells
      dsimp only
      go_wp2_with fail
      refine (HM.out _).mono ?_
      rintro e w2 ⟨rfl, hg⟩
      have A2 := Lib.hid (A1.out.old hg)
      have B2 := Lib.hid (B1.out.old hg)
      have R2 := Lib.hid (R1.out.old hg)
      have Z2 := Lib.hid (Z1.out.old hg)
      have G2 := Lib.hid (grown_then G1.out hg)
      clear hg
      clear a0 a1 a2 a3 a4 a5 a6 a7 b0 b1 b2 b3 b4 b5 b6 b7 c0 c1 c2 c3 c4 c5 c6 c7
      obtain ⟨a0, a1, ⟨a2, a3, a4⟩, a5, a6, a7⟩ := A2.out.cells
      obtain ⟨b0, b1, ⟨b2, b3, b4⟩, b5, b6, b7⟩ := B2.out.cells
      obtain ⟨c0, c1, ⟨c2, c3, c4⟩, c5, c6, c7⟩ := Z2.out.cells
      have y2 := Z2.out.froz 2
      have y3 := Z2.out.froz 3
      have y4 := Z2.out.froz 4
      dsimp only
      go_wp2_with fail
      obtain ⟨w3, hw3⟩ : ∃ w3, ((w2.setCell ⟨w.heap.size + 1 + 1 + 1, 2, none⟩ (.int .i64 a.min.k)).setCell ⟨w.heap.size + 1 + 1 + 1, 3, none⟩ (.int .i64 a.min.n)).setCell ⟨w.heap.size + 1 + 1 + 1, 4, none⟩ (.string a.min.s) = w3 := ⟨_, rfl⟩
      have t3 := turn_set3 w2 (w.heap.size + 1 + 1 + 1) 2 3 4 (.int .i64 a.min.k) (.int .i64 a.min.n) (.string a.min.s)
      have A3 := Lib.hid (ZB.not A2.out t3 (by omega))
      have B3 := Lib.hid (ZB.not B2.out t3 (by omega))
      have R3 := Lib.hid (ZB.not R2.out t3 (by omega))
      have G3 := Lib.hid (grown_put G2.out t3 (by omega))
      have Z3 := Lib.hid (Z2.out.setMin a.min)
      rw [hw3] at A3 B3 R3 G3 Z3
      rw [hw3]
      clear hw3 t3 y2 y3 y4
      clear a0 a1 a2 a3 a4 a5 a6 a7 b0 b1 b2 b3 b4 b5 b6 b7 c0 c1 c2 c3 c4 c5 c6 c7
      obtain ⟨a0, a1, ⟨a2, a3, a4⟩, a5, a6, a7⟩ := A3.out.cells
      obtain ⟨b0, b1, ⟨b2, b3, b4⟩, b5, b6, b7⟩ := B3.out.cells
      obtain ⟨c0, c1, ⟨c2, c3, c4⟩, c5, c6, c7⟩ := Z3.out.cells
      refine (HM.out _).mono ?_
      rintro e w4 ⟨rfl, hg⟩
      have A4 := Lib.hid (A3.out.old hg)
      have B4 := Lib.hid (B3.out.old hg)
      have R4 := Lib.hid (R3.out.old hg)
      have Z4 := Lib.hid (Z3.out.old hg)
      have G4 := Lib.hid (grown_then G3.out hg)
      clear hg
      clear a0 a1 a2 a3 a4 a5 a6 a7 b0 b1 b2 b3 b4 b5 b6 b7 c0 c1 c2 c3 c4 c5 c6 c7
      obtain ⟨a0, a1, ⟨a2, a3, a4⟩, a5, a6, a7⟩ := A4.out.cells
      obtain ⟨b0, b1, ⟨b2, b3, b4⟩, b5, b6, b7⟩ := B4.out.cells
      obtain ⟨c0, c1, ⟨c2, c3, c4⟩, c5, c6, c7⟩ := Z4.out.cells
      have y5 := Z4.out.froz 5
      have y6 := Z4.out.froz 6
      have y7 := Z4.out.froz 7
      dsimp only
      obtain ⟨w5, hw5⟩ : ∃ w5, ((w4.setCell ⟨w.heap.size + 1 + 1 + 1, 5, none⟩ (.int .i64 a.max.k)).setCell ⟨w.heap.size + 1 + 1 + 1, 6, none⟩ (.int .i64 a.max.n)).setCell ⟨w.heap.size + 1 + 1 + 1, 7, none⟩ (.string a.max.s) = w5 := ⟨_, rfl⟩
      have t5 := turn_set3 w4 (w.heap.size + 1 + 1 + 1) 5 6 7 (.int .i64 a.max.k) (.int .i64 a.max.n) (.string a.max.s)
      have A5 := Lib.hid (ZB.not A4.out t5 (by omega))
      have B5 := Lib.hid (ZB.not B4.out t5 (by omega))
      have R5 := Lib.hid (ZB.not R4.out t5 (by omega))
      have G5 := Lib.hid (grown_put G4.out t5 (by omega))
      have Z5 := Lib.hid (Z4.out.setMax a.max)
      rw [hw5] at A5 B5 R5 G5 Z5
      have HW := Lib.hid hw5
      clear hw5 t5
      go_upto_region 8 with (fail)
      rw [HW.out]
      clear y5 y6 y7
      clear a0 a1 a2 a3 a4 a5 a6 a7 b0 b1 b2 b3 b4 b5 b6 b7 c0 c1 c2 c3 c4 c5 c6 c7
      obtain ⟨a0, a1, ⟨a2, a3, a4⟩, a5, a6, a7⟩ := A5.out.cells
      obtain ⟨b0, b1, ⟨b2, b3, b4⟩, b5, b6, b7⟩ := B5.out.cells
      obtain ⟨c0, c1, ⟨c2, c3, c4⟩, c5, c6, c7⟩ := Z5.out.cells
      go_wp2_with (first
        | (with_reducible refine wpList_store_zone rfl (.tmp 4) (.tmp 50) rfl (w.heap.size + 1 + 1) rfl ⟨z0.cnt, z0.nul, a.min, a.max⟩ rfl zeroZ R5.out ?_; intro w9 hz9 ht9)
        | fail)
      refine bodyPost_ret (run_results_zone rfl _ _ _ _ rfl hz9) rfl ⟨HE.out, grown_put G5.out ht9 (by omega)⟩
    · have hr : (b.cnt == b.nul) = false := beq_eq_false_iff_ne.2 k
      have HM := Lib.hid (fun W => (empty_any b W).mono fun e w' (h : _ ∧ _) => (show e = .returned (.bool false) ∧ W.grownBy w' none from ⟨by rw [h.1, hr], h.2⟩))
      have HJ := Lib.hid (join_both h k)
      clear hq h hr k
      by_cases h1 : cmpC a.min b.min < 0
      · have e1 : Hid (minC a.min b.min = a.min) := Lib.hid (if_pos h1)
        by_cases h2 : 0 < cmpC a.max b.max
        · have e2 : Hid (maxC a.max b.max = a.max) := Lib.hid (if_pos h2)
          have HE : Hid (Ending.returned (.agg #[.int .i64 z0.cnt, .int .i64 z0.nul, .int .i64 a.min.k, .int .i64 a.min.n, .string a.min.s, .int .i64 a.max.k, .int .i64 a.max.n, .string a.max.s]) = .returned (.agg #[.int .i64 (joinZ a b).cnt, .int .i64 (joinZ a b).nul, .int .i64 (joinZ a b).min.k, .int .i64 (joinZ a b).min.n, .string (joinZ a b).min.s, .int .i64 (joinZ a b).max.k, .int .i64 (joinZ a b).max.n, .string (joinZ a b).max.s])) := Lib.hid (by rw [HJ.out, e1.out, e2.out, HZ0.out])
          clear e1 e2
          go_enter Try.func18, Try.ntmps18
          go_wp2_with fail
          rw [HW0.out]
          refine (HN.out _).mono ?_
          rintro e w1 ⟨rfl, hg⟩
          have A1 := Lib.hid (A0.out.old hg)
          have B1 := Lib.hid (B0.out.old hg)
          have R1 := Lib.hid (R0.out.old hg)
          have Z1 := Lib.hid (Z0.out.old hg)
          have G1 := Lib.hid (grown_then G0.out hg)
          clear hg
          obtain ⟨a0, a1, ⟨a2, a3, a4⟩, a5, a6, a7⟩ := A1.out.cells
          obtain ⟨b0, b1, ⟨b2, b3, b4⟩, b5, b6, b7⟩ := B1.out.cells
          obtain ⟨c0, c1, ⟨c2, c3, c4⟩, c5, c6, c7⟩ := Z1.out.cells
          dsimp only
          go_wp2_with fail
          refine (HM.out _).mono ?_
          rintro e w2 ⟨rfl, hg⟩
          have A2 := Lib.hid (A1.out.old hg)
          have B2 := Lib.hid (B1.out.old hg)
          have R2 := Lib.hid (R1.out.old hg)
          have Z2 := Lib.hid (Z1.out.old hg)
          have G2 := Lib.hid (grown_then G1.out hg)
          clear hg
          clear a0 a1 a2 a3 a4 a5 a6 a7 b0 b1 b2 b3 b4 b5 b6 b7 c0 c1 c2 c3 c4 c5 c6 c7
          obtain ⟨a0, a1, ⟨a2, a3, a4⟩, a5, a6, a7⟩ := A2.out.cells
          obtain ⟨b0, b1, ⟨b2, b3, b4⟩, b5, b6, b7⟩ := B2.out.cells
          obtain ⟨c0, c1, ⟨c2, c3, c4⟩, c5, c6, c7⟩ := Z2.out.cells
          dsimp only
          go_wp2_with fail
          refine (HC.out _).mono ?_
          rintro e w3 ⟨rfl, hg⟩
          have A3 := Lib.hid (A2.out.old hg)
          have B3 := Lib.hid (B2.out.old hg)
          have R3 := Lib.hid (R2.out.old hg)
          have Z3 := Lib.hid (Z2.out.old hg)
          have G3 := Lib.hid (grown_then G2.out hg)
          clear hg
          clear a0 a1 a2 a3 a4 a5 a6 a7 b0 b1 b2 b3 b4 b5 b6 b7 c0 c1 c2 c3 c4 c5 c6 c7
          obtain ⟨a0, a1, ⟨a2, a3, a4⟩, a5, a6, a7⟩ := A3.out.cells
          obtain ⟨b0, b1, ⟨b2, b3, b4⟩, b5, b6, b7⟩ := B3.out.cells
          obtain ⟨c0, c1, ⟨c2, c3, c4⟩, c5, c6, c7⟩ := Z3.out.cells
          have y2 := Z3.out.froz 2
          have y3 := Z3.out.froz 3
          have y4 := Z3.out.froz 4
          dsimp only
          go_wp2_with fail
          obtain ⟨w4, hw4⟩ : ∃ w4, ((w3.setCell ⟨w.heap.size + 1 + 1 + 1, 2, none⟩ (.int .i64 a.min.k)).setCell ⟨w.heap.size + 1 + 1 + 1, 3, none⟩ (.int .i64 a.min.n)).setCell ⟨w.heap.size + 1 + 1 + 1, 4, none⟩ (.string a.min.s) = w4 := ⟨_, rfl⟩
          have t4 := turn_set3 w3 (w.heap.size + 1 + 1 + 1) 2 3 4 (.int .i64 a.min.k) (.int .i64 a.min.n) (.string a.min.s)
          have A4 := Lib.hid (ZB.not A3.out t4 (by omega))
          have B4 := Lib.hid (ZB.not B3.out t4 (by omega))
          have R4 := Lib.hid (ZB.not R3.out t4 (by omega))
          have G4 := Lib.hid (grown_put G3.out t4 (by omega))
          have Z4 := Lib.hid (Z3.out.setMin a.min)
          rw [hw4] at A4 B4 R4 G4 Z4
          rw [hw4]
          clear hw4 t4 y2 y3 y4
          clear a0 a1 a2 a3 a4 a5 a6 a7 b0 b1 b2 b3 b4 b5 b6 b7 c0 c1 c2 c3 c4 c5 c6 c7
          obtain ⟨a0, a1, ⟨a2, a3, a4⟩, a5, a6, a7⟩ := A4.out.cells
          obtain ⟨b0, b1, ⟨b2, b3, b4⟩, b5, b6, b7⟩ := B4.out.cells
          obtain ⟨c0, c1, ⟨c2, c3, c4⟩, c5, c6, c7⟩ := Z4.out.cells
          refine (HM.out _).mono ?_
          rintro e w5 ⟨rfl, hg⟩
          have A5 := Lib.hid (A4.out.old hg)
          have B5 := Lib.hid (B4.out.old hg)
          have R5 := Lib.hid (R4.out.old hg)
          have Z5 := Lib.hid (Z4.out.old hg)
          have G5 := Lib.hid (grown_then G4.out hg)
          clear hg
          clear a0 a1 a2 a3 a4 a5 a6 a7 b0 b1 b2 b3 b4 b5 b6 b7 c0 c1 c2 c3 c4 c5 c6 c7
          obtain ⟨a0, a1, ⟨a2, a3, a4⟩, a5, a6, a7⟩ := A5.out.cells
          obtain ⟨b0, b1, ⟨b2, b3, b4⟩, b5, b6, b7⟩ := B5.out.cells
          obtain ⟨c0, c1, ⟨c2, c3, c4⟩, c5, c6, c7⟩ := Z5.out.cells
          dsimp only
          go_wp2_with fail
          refine (HD.out _).mono ?_
          rintro e w6 ⟨rfl, hg⟩
          have A6 := Lib.hid (A5.out.old hg)
          have B6 := Lib.hid (B5.out.old hg)
          have R6 := Lib.hid (R5.out.old hg)
          have Z6 := Lib.hid (Z5.out.old hg)
          have G6 := Lib.hid (grown_then G5.out hg)
          clear hg
          clear a0 a1 a2 a3 a4 a5 a6 a7 b0 b1 b2 b3 b4 b5 b6 b7 c0 c1 c2 c3 c4 c5 c6 c7
          obtain ⟨a0, a1, ⟨a2, a3, a4⟩, a5, a6, a7⟩ := A6.out.cells
          obtain ⟨b0, b1, ⟨b2, b3, b4⟩, b5, b6, b7⟩ := B6.out.cells
          obtain ⟨c0, c1, ⟨c2, c3, c4⟩, c5, c6, c7⟩ := Z6.out.cells
          have y5 := Z6.out.froz 5
          have y6 := Z6.out.froz 6
          have y7 := Z6.out.froz 7
          dsimp only
          obtain ⟨w7, hw7⟩ : ∃ w7, ((w6.setCell ⟨w.heap.size + 1 + 1 + 1, 5, none⟩ (.int .i64 a.max.k)).setCell ⟨w.heap.size + 1 + 1 + 1, 6, none⟩ (.int .i64 a.max.n)).setCell ⟨w.heap.size + 1 + 1 + 1, 7, none⟩ (.string a.max.s) = w7 := ⟨_, rfl⟩
          have t7 := turn_set3 w6 (w.heap.size + 1 + 1 + 1) 5 6 7 (.int .i64 a.max.k) (.int .i64 a.max.n) (.string a.max.s)
          have A7 := Lib.hid (ZB.not A6.out t7 (by omega))
          have B7 := Lib.hid (ZB.not B6.out t7 (by omega))
          have R7 := Lib.hid (ZB.not R6.out t7 (by omega))
          have G7 := Lib.hid (grown_put G6.out t7 (by omega))
          have Z7 := Lib.hid (Z6.out.setMax a.max)
          rw [hw7] at A7 B7 R7 G7 Z7
          have HW := Lib.hid hw7
          clear hw7 t7
          go_upto_region 8 with (fail)
          rw [HW.out]
          clear y5 y6 y7
          clear a0 a1 a2 a3 a4 a5 a6 a7 b0 b1 b2 b3 b4 b5 b6 b7 c0 c1 c2 c3 c4 c5 c6 c7
          obtain ⟨a0, a1, ⟨a2, a3, a4⟩, a5, a6, a7⟩ := A7.out.cells
          obtain ⟨b0, b1, ⟨b2, b3, b4⟩, b5, b6, b7⟩ := B7.out.cells
          obtain ⟨c0, c1, ⟨c2, c3, c4⟩, c5, c6, c7⟩ := Z7.out.cells
          go_wp2_with (first
            | (with_reducible refine wpList_store_zone rfl (.tmp 4) (.tmp 50) rfl (w.heap.size + 1 + 1) rfl ⟨z0.cnt, z0.nul, a.min, a.max⟩ rfl zeroZ R7.out ?_; intro w9 hz9 ht9)
            | fail)
          refine bodyPost_ret (run_results_zone rfl _ _ _ _ rfl hz9) rfl ⟨HE.out, grown_put G7.out ht9 (by omega)⟩
        · have e2 : Hid (maxC a.max b.max = b.max) := Lib.hid (if_neg h2)
          have HE : Hid (Ending.returned (.agg #[.int .i64 z0.cnt, .int .i64 z0.nul, .int .i64 a.min.k, .int .i64 a.min.n, .string a.min.s, .int .i64 z0.max.k, .int .i64 z0.max.n, .string z0.max.s]) = .returned (.agg #[.int .i64 (joinZ a b).cnt, .int .i64 (joinZ a b).nul, .int .i64 (joinZ a b).min.k, .int .i64 (joinZ a b).min.n, .string (joinZ a b).min.s, .int .i64 (joinZ a b).max.k, .int .i64 (joinZ a b).max.n, .string (joinZ a b).max.s])) := Lib.hid (by rw [HJ.out, e1.out, e2.out, HZ0.out])
          clear e1 e2
          go_enter Try.func18, Try.ntmps18
          go_wp2_with fail
          rw [HW0.out]
          refine (HN.out _).mono ?_
          rintro e w1 ⟨rfl, hg⟩
          have A1 := Lib.hid (A0.out.old hg)
          have B1 := Lib.hid (B0.out.old hg)
          have R1 := Lib.hid (R0.out.old hg)
          have Z1 := Lib.hid (Z0.out.old hg)
          have G1 := Lib.hid (grown_then G0.out hg)
          clear hg
          obtain ⟨a0, a1, ⟨a2, a3, a4⟩, a5, a6, a7⟩ := A1.out.cells
          obtain ⟨b0, b1, ⟨b2, b3, b4⟩, b5, b6, b7⟩ := B1.out.cells
          obtain ⟨c0, c1, ⟨c2, c3, c4⟩, c5, c6, c7⟩ := Z1.out.cells
          dsimp only
          go_wp2_with fail
          refine (HM.out _).mono ?_
          rintro e w2 ⟨rfl, hg⟩
          have A2 := Lib.hid (A1.out.old hg)
          have B2 := Lib.hid (B1.out.old hg)
          have R2 := Lib.hid (R1.out.old hg)
          have Z2 := Lib.hid (Z1.out.old hg)
          have G2 := Lib.hid (grown_then G1.out hg)
          clear hg
          clear a0 a1 a2 a3 a4 a5 a6 a7 b0 b1 b2 b3 b4 b5 b6 b7 c0 c1 c2 c3 c4 c5 c6 c7
          obtain ⟨a0, a1, ⟨a2, a3, a4⟩, a5, a6, a7⟩ := A2.out.cells
          obtain ⟨b0, b1, ⟨b2, b3, b4⟩, b5, b6, b7⟩ := B2.out.cells
          obtain ⟨c0, c1, ⟨c2, c3, c4⟩, c5, c6, c7⟩ := Z2.out.cells
          dsimp only
          go_wp2_with fail
          refine (HC.out _).mono ?_
          rintro e w3 ⟨rfl, hg⟩
          have A3 := Lib.hid (A2.out.old hg)
          have B3 := Lib.hid (B2.out.old hg)
          have R3 := Lib.hid (R2.out.old hg)
          have Z3 := Lib.hid (Z2.out.old hg)
          have G3 := Lib.hid (grown_then G2.out hg)
          clear hg
          clear a0 a1 a2 a3 a4 a5 a6 a7 b0 b1 b2 b3 b4 b5 b6 b7 c0 c1 c2 c3 c4 c5 c6 c7
          obtain ⟨a0, a1, ⟨a2, a3, a4⟩, a5, a6, a7⟩ := A3.out.cells
          obtain ⟨b0, b1, ⟨b2, b3, b4⟩, b5, b6, b7⟩ := B3.out.cells
          obtain ⟨c0, c1, ⟨c2, c3, c4⟩, c5, c6, c7⟩ := Z3.out.cells
          have y2 := Z3.out.froz 2
          have y3 := Z3.out.froz 3
          have y4 := Z3.out.froz 4
          dsimp only
          go_wp2_with fail
          obtain ⟨w4, hw4⟩ : ∃ w4, ((w3.setCell ⟨w.heap.size + 1 + 1 + 1, 2, none⟩ (.int .i64 a.min.k)).setCell ⟨w.heap.size + 1 + 1 + 1, 3, none⟩ (.int .i64 a.min.n)).setCell ⟨w.heap.size + 1 + 1 + 1, 4, none⟩ (.string a.min.s) = w4 := ⟨_, rfl⟩
          have t4 := turn_set3 w3 (w.heap.size + 1 + 1 + 1) 2 3 4 (.int .i64 a.min.k) (.int .i64 a.min.n) (.string a.min.s)
          have A4 := Lib.hid (ZB.not A3.out t4 (by omega))
          have B4 := Lib.hid (ZB.not B3.out t4 (by omega))
          have R4 := Lib.hid (ZB.not R3.out t4 (by omega))
          have G4 := Lib.hid (grown_put G3.out t4 (by omega))
          have Z4 := Lib.hid (Z3.out.setMin a.min)
          rw [hw4] at A4 B4 R4 G4 Z4
          rw [hw4]
          clear hw4 t4 y2 y3 y4
          clear a0 a1 a2 a3 a4 a5 a6 a7 b0 b1 b2 b3 b4 b5 b6 b7 c0 c1 c2 c3 c4 c5 c6 c7
          obtain ⟨a0, a1, ⟨a2, a3, a4⟩, a5, a6, a7⟩ := A4.out.cells
          obtain ⟨b0, b1, ⟨b2, b3, b4⟩, b5, b6, b7⟩ := B4.out.cells
          obtain ⟨c0, c1, ⟨c2, c3, c4⟩, c5, c6, c7⟩ := Z4.out.cells
          refine (HM.out _).mono ?_
          rintro e w5 ⟨rfl, hg⟩
          have A5 := Lib.hid (A4.out.old hg)
          have B5 := Lib.hid (B4.out.old hg)
          have R5 := Lib.hid (R4.out.old hg)
          have Z5 := Lib.hid (Z4.out.old hg)
          have G5 := Lib.hid (grown_then G4.out hg)
          clear hg
          clear a0 a1 a2 a3 a4 a5 a6 a7 b0 b1 b2 b3 b4 b5 b6 b7 c0 c1 c2 c3 c4 c5 c6 c7
          obtain ⟨a0, a1, ⟨a2, a3, a4⟩, a5, a6, a7⟩ := A5.out.cells
          obtain ⟨b0, b1, ⟨b2, b3, b4⟩, b5, b6, b7⟩ := B5.out.cells
          obtain ⟨c0, c1, ⟨c2, c3, c4⟩, c5, c6, c7⟩ := Z5.out.cells
          dsimp only
          go_wp2_with fail
          refine (HD.out _).mono ?_
          rintro e w6 ⟨rfl, hg⟩
          have A6 := Lib.hid (A5.out.old hg)
          have B6 := Lib.hid (B5.out.old hg)
          have R6 := Lib.hid (R5.out.old hg)
          have Z6 := Lib.hid (Z5.out.old hg)
          have G6 := Lib.hid (grown_then G5.out hg)
          clear hg
          clear a0 a1 a2 a3 a4 a5 a6 a7 b0 b1 b2 b3 b4 b5 b6 b7 c0 c1 c2 c3 c4 c5 c6 c7
          obtain ⟨a0, a1, ⟨a2, a3, a4⟩, a5, a6, a7⟩ := A6.out.cells
          obtain ⟨b0, b1, ⟨b2, b3, b4⟩, b5, b6, b7⟩ := B6.out.cells
          obtain ⟨c0, c1, ⟨c2, c3, c4⟩, c5, c6, c7⟩ := Z6.out.cells
          dsimp only
          go_wp2_with (first
            | (with_reducible refine wpList_store_zone rfl (.tmp 4) (.tmp 50) rfl (w.heap.size + 1 + 1) rfl ⟨z0.cnt, z0.nul, a.min, z0.max⟩ rfl zeroZ R6.out ?_; intro w9 hz9 ht9)
            | fail)
          refine bodyPost_ret (run_results_zone rfl _ _ _ _ rfl hz9) rfl ⟨HE.out, grown_put G6.out ht9 (by omega)⟩
      · have e1 : Hid (minC a.min b.min = b.min) := Lib.hid (if_neg h1)
        by_cases h2 : 0 < cmpC a.max b.max
        · have e2 : Hid (maxC a.max b.max = a.max) := Lib.hid (if_pos h2)
          have HE : Hid (Ending.returned (.agg #[.int .i64 z0.cnt, .int .i64 z0.nul, .int .i64 z0.min.k, .int .i64 z0.min.n, .string z0.min.s, .int .i64 a.max.k, .int .i64 a.max.n, .string a.max.s]) = .returned (.agg #[.int .i64 (joinZ a b).cnt, .int .i64 (joinZ a b).nul, .int .i64 (joinZ a b).min.k, .int .i64 (joinZ a b).min.n, .string (joinZ a b).min.s, .int .i64 (joinZ a b).max.k, .int .i64 (joinZ a b).max.n, .string (joinZ a b).max.s])) := Lib.hid (by rw [HJ.out, e1.out, e2.out, HZ0.out])
          clear e1 e2
          go_enter Try.func18, Try.ntmps18
          go_wp2_with fail
          rw [HW0.out]
          refine (HN.out _).mono ?_
          rintro e w1 ⟨rfl, hg⟩
          have A1 := Lib.hid (A0.out.old hg)
          have B1 := Lib.hid (B0.out.old hg)
          have R1 := Lib.hid (R0.out.old hg)
          have Z1 := Lib.hid (Z0.out.old hg)
          have G1 := Lib.hid (grown_then G0.out hg)
          clear hg
          obtain ⟨a0, a1, ⟨a2, a3, a4⟩, a5, a6, a7⟩ := A1.out.cells
          obtain ⟨b0, b1, ⟨b2, b3, b4⟩, b5, b6, b7⟩ := B1.out.cells
          obtain ⟨c0, c1, ⟨c2, c3, c4⟩, c5, c6, c7⟩ := Z1.out.cells
          dsimp only
          go_wp2_with fail
          refine (HM.out _).mono ?_
          rintro e w2 ⟨rfl, hg⟩
          have A2 := Lib.hid (A1.out.old hg)
          have B2 := Lib.hid (B1.out.old hg)
          have R2 := Lib.hid (R1.out.old hg)
          have Z2 := Lib.hid (Z1.out.old hg)
          have G2 := Lib.hid (grown_then G1.out hg)
          clear hg
          clear a0 a1 a2 a3 a4 a5 a6 a7 b0 b1 b2 b3 b4 b5 b6 b7 c0 c1 c2 c3 c4 c5 c6 c7
          obtain ⟨a0, a1, ⟨a2, a3, a4⟩, a5, a6, a7⟩ := A2.out.cells
          obtain ⟨b0, b1, ⟨b2, b3, b4⟩, b5, b6, b7⟩ := B2.out.cells
          obtain ⟨c0, c1, ⟨c2, c3, c4⟩, c5, c6, c7⟩ := Z2.out.cells
          dsimp only
          go_wp2_with fail
          refine (HC.out _).mono ?_
          rintro e w3 ⟨rfl, hg⟩
          have A3 := Lib.hid (A2.out.old hg)
          have B3 := Lib.hid (B2.out.old hg)
          have R3 := Lib.hid (R2.out.old hg)
          have Z3 := Lib.hid (Z2.out.old hg)
          have G3 := Lib.hid (grown_then G2.out hg)
          clear hg
          clear a0 a1 a2 a3 a4 a5 a6 a7 b0 b1 b2 b3 b4 b5 b6 b7 c0 c1 c2 c3 c4 c5 c6 c7
          obtain ⟨a0, a1, ⟨a2, a3, a4⟩, a5, a6, a7⟩ := A3.out.cells
          obtain ⟨b0, b1, ⟨b2, b3, b4⟩, b5, b6, b7⟩ := B3.out.cells
          obtain ⟨c0, c1, ⟨c2, c3, c4⟩, c5, c6, c7⟩ := Z3.out.cells
          dsimp only
          go_wp2_with fail
          refine (HM.out _).mono ?_
          rintro e w4 ⟨rfl, hg⟩
          have A4 := Lib.hid (A3.out.old hg)
          have B4 := Lib.hid (B3.out.old hg)
          have R4 := Lib.hid (R3.out.old hg)
          have Z4 := Lib.hid (Z3.out.old hg)
          have G4 := Lib.hid (grown_then G3.out hg)
          clear hg
          clear a0 a1 a2 a3 a4 a5 a6 a7 b0 b1 b2 b3 b4 b5 b6 b7 c0 c1 c2 c3 c4 c5 c6 c7
          obtain ⟨a0, a1, ⟨a2, a3, a4⟩, a5, a6, a7⟩ := A4.out.cells
          obtain ⟨b0, b1, ⟨b2, b3, b4⟩, b5, b6, b7⟩ := B4.out.cells
          obtain ⟨c0, c1, ⟨c2, c3, c4⟩, c5, c6, c7⟩ := Z4.out.cells
          dsimp only
          go_wp2_with fail
          refine (HD.out _).mono ?_
          rintro e w5 ⟨rfl, hg⟩
          have A5 := Lib.hid (A4.out.old hg)
          have B5 := Lib.hid (B4.out.old hg)
          have R5 := Lib.hid (R4.out.old hg)
          have Z5 := Lib.hid (Z4.out.old hg)
          have G5 := Lib.hid (grown_then G4.out hg)
          clear hg
          clear a0 a1 a2 a3 a4 a5 a6 a7 b0 b1 b2 b3 b4 b5 b6 b7 c0 c1 c2 c3 c4 c5 c6 c7
          obtain ⟨a0, a1, ⟨a2, a3, a4⟩, a5, a6, a7⟩ := A5.out.cells
          obtain ⟨b0, b1, ⟨b2, b3, b4⟩, b5, b6, b7⟩ := B5.out.cells
          obtain ⟨c0, c1, ⟨c2, c3, c4⟩, c5, c6, c7⟩ := Z5.out.cells
          have y5 := Z5.out.froz 5
          have y6 := Z5.out.froz 6
          have y7 := Z5.out.froz 7
          dsimp only
          obtain ⟨w6, hw6⟩ : ∃ w6, ((w5.setCell ⟨w.heap.size + 1 + 1 + 1, 5, none⟩ (.int .i64 a.max.k)).setCell ⟨w.heap.size + 1 + 1 + 1, 6, none⟩ (.int .i64 a.max.n)).setCell ⟨w.heap.size + 1 + 1 + 1, 7, none⟩ (.string a.max.s) = w6 := ⟨_, rfl⟩
          have t6 := turn_set3 w5 (w.heap.size + 1 + 1 + 1) 5 6 7 (.int .i64 a.max.k) (.int .i64 a.max.n) (.string a.max.s)
          have A6 := Lib.hid (ZB.not A5.out t6 (by omega))
          have B6 := Lib.hid (ZB.not B5.out t6 (by omega))
          have R6 := Lib.hid (ZB.not R5.out t6 (by omega))
          have G6 := Lib.hid (grown_put G5.out t6 (by omega))
          have Z6 := Lib.hid (Z5.out.setMax a.max)
          rw [hw6] at A6 B6 R6 G6 Z6
          have HW := Lib.hid hw6
          clear hw6 t6
          go_upto_region 8 with (fail)
          rw [HW.out]
          clear y5 y6 y7
          clear a0 a1 a2 a3 a4 a5 a6 a7 b0 b1 b2 b3 b4 b5 b6 b7 c0 c1 c2 c3 c4 c5 c6 c7
          obtain ⟨a0, a1, ⟨a2, a3, a4⟩, a5, a6, a7⟩ := A6.out.cells
          obtain ⟨b0, b1, ⟨b2, b3, b4⟩, b5, b6, b7⟩ := B6.out.cells
          obtain ⟨c0, c1, ⟨c2, c3, c4⟩, c5, c6, c7⟩ := Z6.out.cells
          go_wp2_with (first
            | (with_reducible refine wpList_store_zone rfl (.tmp 4) (.tmp 50) rfl (w.heap.size + 1 + 1) rfl ⟨z0.cnt, z0.nul, z0.min, a.max⟩ rfl zeroZ R6.out ?_; intro w9 hz9 ht9)
            | fail)
          refine bodyPost_ret (run_results_zone rfl _ _ _ _ rfl hz9) rfl ⟨HE.out, grown_put G6.out ht9 (by omega)⟩
        · have e2 : Hid (maxC a.max b.max = b.max) := Lib.hid (if_neg h2)
          have HE : Hid (Ending.returned (.agg #[.int .i64 z0.cnt, .int .i64 z0.nul, .int .i64 z0.min.k, .int .i64 z0.min.n, .string z0.min.s, .int .i64 z0.max.k, .int .i64 z0.max.n, .string z0.max.s]) = .returned (.agg #[.int .i64 (joinZ a b).cnt, .int .i64 (joinZ a b).nul, .int .i64 (joinZ a b).min.k, .int .i64 (joinZ a b).min.n, .string (joinZ a b).min.s, .int .i64 (joinZ a b).max.k, .int .i64 (joinZ a b).max.n, .string (joinZ a b).max.s])) := Lib.hid (by rw [HJ.out, e1.out, e2.out, HZ0.out])
          clear e1 e2
          go_enter Try.func18, Try.ntmps18
          go_wp2_with fail
          rw [HW0.out]
          refine (HN.out _).mono ?_
          rintro e w1 ⟨rfl, hg⟩
          have A1 := Lib.hid (A0.out.old hg)
          have B1 := Lib.hid (B0.out.old hg)
          have R1 := Lib.hid (R0.out.old hg)
          have Z1 := Lib.hid (Z0.out.old hg)
          have G1 := Lib.hid (grown_then G0.out hg)
          clear hg
          obtain ⟨a0, a1, ⟨a2, a3, a4⟩, a5, a6, a7⟩ := A1.out.cells
          obtain ⟨b0, b1, ⟨b2, b3, b4⟩, b5, b6, b7⟩ := B1.out.cells
          obtain ⟨c0, c1, ⟨c2, c3, c4⟩, c5, c6, c7⟩ := Z1.out.cells
          dsimp only
          go_wp2_with fail
          refine (HM.out _).mono ?_
          rintro e w2 ⟨rfl, hg⟩
          have A2 := Lib.hid (A1.out.old hg)
          have B2 := Lib.hid (B1.out.old hg)
          have R2 := Lib.hid (R1.out.old hg)
          have Z2 := Lib.hid (Z1.out.old hg)
          have G2 := Lib.hid (grown_then G1.out hg)
          clear hg
          clear a0 a1 a2 a3 a4 a5 a6 a7 b0 b1 b2 b3 b4 b5 b6 b7 c0 c1 c2 c3 c4 c5 c6 c7
          obtain ⟨a0, a1, ⟨a2, a3, a4⟩, a5, a6, a7⟩ := A2.out.cells
          obtain ⟨b0, b1, ⟨b2, b3, b4⟩, b5, b6, b7⟩ := B2.out.cells
          obtain ⟨c0, c1, ⟨c2, c3, c4⟩, c5, c6, c7⟩ := Z2.out.cells
          dsimp only
          go_wp2_with fail
          refine (HC.out _).mono ?_
          rintro e w3 ⟨rfl, hg⟩
          have A3 := Lib.hid (A2.out.old hg)
          have B3 := Lib.hid (B2.out.old hg)
          have R3 := Lib.hid (R2.out.old hg)
          have Z3 := Lib.hid (Z2.out.old hg)
          have G3 := Lib.hid (grown_then G2.out hg)
          clear hg
          clear a0 a1 a2 a3 a4 a5 a6 a7 b0 b1 b2 b3 b4 b5 b6 b7 c0 c1 c2 c3 c4 c5 c6 c7
          obtain ⟨a0, a1, ⟨a2, a3, a4⟩, a5, a6, a7⟩ := A3.out.cells
          obtain ⟨b0, b1, ⟨b2, b3, b4⟩, b5, b6, b7⟩ := B3.out.cells
          obtain ⟨c0, c1, ⟨c2, c3, c4⟩, c5, c6, c7⟩ := Z3.out.cells
          dsimp only
          go_wp2_with fail
          refine (HM.out _).mono ?_
          rintro e w4 ⟨rfl, hg⟩
          have A4 := Lib.hid (A3.out.old hg)
          have B4 := Lib.hid (B3.out.old hg)
          have R4 := Lib.hid (R3.out.old hg)
          have Z4 := Lib.hid (Z3.out.old hg)
          have G4 := Lib.hid (grown_then G3.out hg)
          clear hg
          clear a0 a1 a2 a3 a4 a5 a6 a7 b0 b1 b2 b3 b4 b5 b6 b7 c0 c1 c2 c3 c4 c5 c6 c7
          obtain ⟨a0, a1, ⟨a2, a3, a4⟩, a5, a6, a7⟩ := A4.out.cells
          obtain ⟨b0, b1, ⟨b2, b3, b4⟩, b5, b6, b7⟩ := B4.out.cells
          obtain ⟨c0, c1, ⟨c2, c3, c4⟩, c5, c6, c7⟩ := Z4.out.cells
          dsimp only
          go_wp2_with fail
          refine (HD.out _).mono ?_
          rintro e w5 ⟨rfl, hg⟩
          have A5 := Lib.hid (A4.out.old hg)
          have B5 := Lib.hid (B4.out.old hg)
          have R5 := Lib.hid (R4.out.old hg)
          have Z5 := Lib.hid (Z4.out.old hg)
          have G5 := Lib.hid (grown_then G4.out hg)
          clear hg
          clear a0 a1 a2 a3 a4 a5 a6 a7 b0 b1 b2 b3 b4 b5 b6 b7 c0 c1 c2 c3 c4 c5 c6 c7
          obtain ⟨a0, a1, ⟨a2, a3, a4⟩, a5, a6, a7⟩ := A5.out.cells
          obtain ⟨b0, b1, ⟨b2, b3, b4⟩, b5, b6, b7⟩ := B5.out.cells
          obtain ⟨c0, c1, ⟨c2, c3, c4⟩, c5, c6, c7⟩ := Z5.out.cells
          dsimp only
          go_wp2_with (first
            | (with_reducible refine wpList_store_zone rfl (.tmp 4) (.tmp 50) rfl (w.heap.size + 1 + 1) rfl ⟨z0.cnt, z0.nul, z0.min, z0.max⟩ rfl zeroZ R5.out ?_; intro w9 hz9 ht9)
            | fail)
          refine bodyPost_ret (run_results_zone rfl _ _ _ _ rfl hz9) rfl ⟨HE.out, grown_put G5.out ht9 (by omega)⟩
end Go.Proofs.Ytpincfofnlfjiaa.Zn
