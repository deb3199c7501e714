/-
  May: may a column with that zone have such a cell?
-/
import Derived.Test.YtpincfofnlfjiaaZnIs
namespace Go.Proofs.Ytpincfofnlfjiaa.Zn
open Go.RowKit Bs Dv

theorem may_no {z : Zon} {op : Int} {c : Cel} (h : c.k = 0 ∨ z.cnt = z.nul ∨ c.k ≠ z.min.k) : mayB z op c = false := by
  rw [← Bool.not_eq_true, mayB_iff]
  rintro ⟨⟨h1, h2, h3⟩, _⟩
  rcases h with h | h | h
  · exact h1 h
  · exact h2 h
  · exact h h3
theorem may_yes {z : Zon} {op : Int} {c : Cel} (h1 : c.k ≠ 0) (h2 : z.cnt ≠ z.nul) (h3 : c.k = z.min.k) : mayB z op c = mayOp z op c := by
  unfold mayB
  rw [decide_eq_true ⟨h1, h2, h3⟩, Bool.true_and]

set_option maxRecDepth 100000 in
set_option maxHeartbeats 4000000 in
theorem May_any (z : Zon) (op : Int) (c : Cel) (w : World) : Calls Try.prog 16 #[.agg #[.int .i64 z.cnt, .int .i64 z.nul, .int .i64 z.min.k, .int .i64 z.min.n, .string z.min.s, .int .i64 z.max.k, .int .i64 z.max.n, .string z.max.s], .int .i64 op, .agg #[.int .i64 c.k, .int .i64 c.n, .string c.s]] w fun e w' =>
    e = .returned (.bool (mayB z op c)) ∧ w.grownBy w' none := by
  obtain ⟨W0, hW0⟩ : ∃ W0, (w.alloc (.cells #[.int .i64 z.cnt, .int .i64 z.nul, .int .i64 z.min.k, .int .i64 z.min.n, .string z.min.s, .int .i64 z.max.k, .int .i64 z.max.n, .string z.max.s] 26)).alloc (.cells #[.int .i64 c.k, .int .i64 c.n, .string c.s] 24) = W0 := ⟨_, rfl⟩
  have G0 : Hid (w.grownBy W0 none) := Lib.hid (by rw [← hW0]; exact grown_then (grown_alloc _ _) (grown_alloc _ _))
  have Z0 : Hid (ZB W0 w.heap.size z) := Lib.hid (by rw [← hW0]; exact (ZB.new w z).old (grown_alloc _ _))
  have C0 : Hid (CB W0 (w.heap.size + 1) c) := Lib.hid (by
    have h := CB.new (w.alloc (.cells #[.int .i64 z.cnt, .int .i64 z.nul, .int .i64 z.min.k, .int .i64 z.min.n, .string z.min.s, .int .i64 z.max.k, .int .i64 z.max.n, .string z.max.s] 26)) c
    rw [World.size_alloc] at h
    rw [← hW0]; exact h)
  have HW0 := Lib.hid hW0
  clear hW0
  by_cases h1 : c.k = 0
  · have q1 : (c.k == 0) = true := beq_iff_eq.2 h1
    have HN := Lib.hid (fun W => (null_any c W).mono fun e w' (h : _ ∧ _) => (show e = .returned (.bool true) ∧ W.grownBy w' none from ⟨by rw [h.1, q1], h.2⟩))
    have HE := Lib.hid (may_no (z := z) (op := op) (c := c) (.inl h1))
    rw [HE.out]
    clear h1 q1 HE
    go_enter Try.func16, Try.ntmps16
    go_wp2_with fail
    rw [HW0.out]
    refine (HN.out _).mono ?_
    rintro e w1 ⟨rfl, hg⟩
    have Z1 := Lib.hid (Z0.out.old hg)
    have C1 := Lib.hid (C0.out.old hg)
    have G1 := Lib.hid (grown_then G0.out hg)
    clear hg
    obtain ⟨z0, z1, ⟨z2, z3, z4⟩, z5, z6, z7⟩ := Z1.out.cells
    obtain ⟨c0, c1, c2⟩ := C1.out.cells
    dsimp only
    go_wp2
    go_ret
    exact ⟨rfl, G1.out⟩
  · have q1 : (c.k == 0) = false := beq_eq_false_iff_ne.2 h1
    have HN := Lib.hid (fun W => (null_any c W).mono fun e w' (h : _ ∧ _) => (show e = .returned (.bool false) ∧ W.grownBy w' none from ⟨by rw [h.1, q1], h.2⟩))
    clear q1
    by_cases h2 : z.cnt = z.nul
    · have q2 : (z.cnt == z.nul) = true := beq_iff_eq.2 h2
      have HM := Lib.hid (fun W => (empty_any z W).mono fun e w' (h : _ ∧ _) => (show e = .returned (.bool true) ∧ W.grownBy w' none from ⟨by rw [h.1, q2], h.2⟩))
      have HE := Lib.hid (may_no (z := z) (op := op) (c := c) (.inr (.inl h2)))
      rw [HE.out]
      clear h1 h2 q2 HE
      go_enter Try.func16, Try.ntmps16
      go_wp2_with fail
      rw [HW0.out]
      refine (HN.out _).mono ?_
      rintro e w1 ⟨rfl, hg⟩
      have Z1 := Lib.hid (Z0.out.old hg)
      have C1 := Lib.hid (C0.out.old hg)
      have G1 := Lib.hid (grown_then G0.out hg)
      clear hg
      obtain ⟨z0, z1, ⟨z2, z3, z4⟩, z5, z6, z7⟩ := Z1.out.cells
      obtain ⟨c0, c1, c2⟩ := C1.out.cells
      dsimp only
      go_wp2_with fail
      refine (HM.out _).mono ?_
      rintro e w2 ⟨rfl, hg⟩
      have Z2 := Lib.hid (Z1.out.old hg)
      have C2 := Lib.hid (C1.out.old hg)
      have G2 := Lib.hid (grown_then G1.out hg)
      clear hg
      clear z0 z1 z2 z3 z4 z5 z6 z7 c0 c1 c2
      obtain ⟨z0, z1, ⟨z2, z3, z4⟩, z5, z6, z7⟩ := Z2.out.cells
      obtain ⟨c0, c1, c2⟩ := C2.out.cells
      dsimp only
      go_wp2
      go_ret
      exact ⟨rfl, G2.out⟩
    · have q2 : (z.cnt == z.nul) = false := beq_eq_false_iff_ne.2 h2
      have HM := Lib.hid (fun W => (empty_any z W).mono fun e w' (h : _ ∧ _) => (show e = .returned (.bool false) ∧ W.grownBy w' none from ⟨by rw [h.1, q2], h.2⟩))
      clear q2
      by_cases h3 : c.k = z.min.k
      · have q3 : (c.k != z.min.k) = false := by rw [h3]; exact bne_self_eq_false _
        have HY := Lib.hid (may_yes (op := op) h1 h2 h3)
        rw [HY.out]
        clear h1 h2 h3 HY
        have hop : op = 1 ∨ op = 2 ∨ (op = 3 ∨ op = 4) ∨ (op = 5 ∨ op = 6) ∨ (op ≠ 1 ∧ op ≠ 2 ∧ op ≠ 3 ∧ op ≠ 4 ∧ op ≠ 5 ∧ op ≠ 6) := by omega
        rcases hop with rfl | rfl | ho | ho | ⟨o1, o2, o3, o4, o5, o6⟩
        · obtain ⟨x, hx⟩ : ∃ x, x = cmpC z.min c := ⟨_, rfl⟩
          obtain ⟨y, hy⟩ : ∃ y, y = cmpC c z.max := ⟨_, rfl⟩
          have HX := Lib.hid (fun W => Compare_any z.min c W)
          have HV := Lib.hid (fun W => Compare_any c z.max W)
          rw [← hx] at HX
          rw [← hy] at HV
          have HE : Hid (mayOp z 1 c = (decide (x ≤ 0) && decide (y ≤ 0))) := Lib.hid (by rw [hx, hy]; rfl)
          rw [HE.out]
          clear hx hy HE
          by_cases hx : x ≤ 0
          · have HE : Hid ((decide (x ≤ 0) && decide (y ≤ 0)) = decide (y ≤ 0)) := Lib.hid (by rw [decide_eq_true hx, Bool.true_and])
            rw [HE.out]
            clear HE
            go_enter Try.func16, Try.ntmps16
            go_wp2_with fail
            rw [HW0.out]
            refine (HN.out _).mono ?_
            rintro e w1 ⟨rfl, hg⟩
            have Z1 := Lib.hid (Z0.out.old hg)
            have C1 := Lib.hid (C0.out.old hg)
            have G1 := Lib.hid (grown_then G0.out hg)
            clear hg
            obtain ⟨z0, z1, ⟨z2, z3, z4⟩, z5, z6, z7⟩ := Z1.out.cells
            obtain ⟨c0, c1, c2⟩ := C1.out.cells
            dsimp only
            go_wp2_with fail
            refine (HM.out _).mono ?_
            rintro e w2 ⟨rfl, hg⟩
            have Z2 := Lib.hid (Z1.out.old hg)
            have C2 := Lib.hid (C1.out.old hg)
            have G2 := Lib.hid (grown_then G1.out hg)
            clear hg
            clear z0 z1 z2 z3 z4 z5 z6 z7 c0 c1 c2
            obtain ⟨z0, z1, ⟨z2, z3, z4⟩, z5, z6, z7⟩ := Z2.out.cells
            obtain ⟨c0, c1, c2⟩ := C2.out.cells
            dsimp only
            go_wp2_with fail
            refine (HX.out _).mono ?_
            rintro e w3 ⟨rfl, hg⟩
            have Z3 := Lib.hid (Z2.out.old hg)
            have C3 := Lib.hid (C2.out.old hg)
            have G3 := Lib.hid (grown_then G2.out hg)
            clear hg
            clear z0 z1 z2 z3 z4 z5 z6 z7 c0 c1 c2
            obtain ⟨z0, z1, ⟨z2, z3, z4⟩, z5, z6, z7⟩ := Z3.out.cells
            obtain ⟨c0, c1, c2⟩ := C3.out.cells
            dsimp only
            go_wp2_with fail
            refine (HV.out _).mono ?_
            rintro e w4 ⟨rfl, hg⟩
            have Z4 := Lib.hid (Z3.out.old hg)
            have C4 := Lib.hid (C3.out.old hg)
            have G4 := Lib.hid (grown_then G3.out hg)
            clear hg
            clear z0 z1 z2 z3 z4 z5 z6 z7 c0 c1 c2
            obtain ⟨z0, z1, ⟨z2, z3, z4⟩, z5, z6, z7⟩ := Z4.out.cells
            obtain ⟨c0, c1, c2⟩ := C4.out.cells
            dsimp only
            go_wp2
            go_ret
            exact ⟨rfl, G4.out⟩
          · have HE : Hid ((decide (x ≤ 0) && decide (y ≤ 0)) = false) := Lib.hid (by rw [decide_eq_false hx, Bool.false_and])
            rw [HE.out]
            clear HE
            go_enter Try.func16, Try.ntmps16
            go_wp2_with fail
            rw [HW0.out]
            refine (HN.out _).mono ?_
            rintro e w1 ⟨rfl, hg⟩
            have Z1 := Lib.hid (Z0.out.old hg)
            have C1 := Lib.hid (C0.out.old hg)
            have G1 := Lib.hid (grown_then G0.out hg)
            clear hg
            obtain ⟨z0, z1, ⟨z2, z3, z4⟩, z5, z6, z7⟩ := Z1.out.cells
            obtain ⟨c0, c1, c2⟩ := C1.out.cells
            dsimp only
            go_wp2_with fail
            refine (HM.out _).mono ?_
            rintro e w2 ⟨rfl, hg⟩
            have Z2 := Lib.hid (Z1.out.old hg)
            have C2 := Lib.hid (C1.out.old hg)
            have G2 := Lib.hid (grown_then G1.out hg)
            clear hg
            clear z0 z1 z2 z3 z4 z5 z6 z7 c0 c1 c2
            obtain ⟨z0, z1, ⟨z2, z3, z4⟩, z5, z6, z7⟩ := Z2.out.cells
            obtain ⟨c0, c1, c2⟩ := C2.out.cells
            dsimp only
            go_wp2_with fail
            refine (HX.out _).mono ?_
            rintro e w3 ⟨rfl, hg⟩
            have Z3 := Lib.hid (Z2.out.old hg)
            have C3 := Lib.hid (C2.out.old hg)
            have G3 := Lib.hid (grown_then G2.out hg)
            clear hg
            clear z0 z1 z2 z3 z4 z5 z6 z7 c0 c1 c2
            obtain ⟨z0, z1, ⟨z2, z3, z4⟩, z5, z6, z7⟩ := Z3.out.cells
            obtain ⟨c0, c1, c2⟩ := C3.out.cells
            dsimp only
            go_wp2
            go_ret
            exact ⟨rfl, G3.out⟩
        · have n1 := fun W => neq_cell z.min c W
          have n2 := fun W => neq_cell z.max c W
          have HE : Hid (mayOp z 2 c = (!eqC z.min c || !eqC z.max c)) := Lib.hid rfl
          rw [HE.out]
          clear HE
          generalize eqC z.min c = r1 at n1 ⊢
          generalize eqC z.max c = r2 at n2 ⊢
          have N1 := Lib.hid n1
          have N2 := Lib.hid n2
          clear n1 n2
          cases r1
          · have n1 := N1.out
            simp only [Bool.not_false] at n1
            clear N1 N2
            have HE : Hid ((!false || !r2) = true) := Lib.hid rfl
            rw [HE.out]
            clear HE
            go_enter Try.func16, Try.ntmps16
            go_wp2_with fail
            rw [HW0.out]
            refine (HN.out _).mono ?_
            rintro e w1 ⟨rfl, hg⟩
            have Z1 := Lib.hid (Z0.out.old hg)
            have C1 := Lib.hid (C0.out.old hg)
            have G1 := Lib.hid (grown_then G0.out hg)
            clear hg
            obtain ⟨z0, z1, ⟨z2, z3, z4⟩, z5, z6, z7⟩ := Z1.out.cells
            obtain ⟨c0, c1, c2⟩ := C1.out.cells
            dsimp only
            go_wp2_with fail
            refine (HM.out _).mono ?_
            rintro e w2 ⟨rfl, hg⟩
            have Z2 := Lib.hid (Z1.out.old hg)
            have C2 := Lib.hid (C1.out.old hg)
            have G2 := Lib.hid (grown_then G1.out hg)
            clear hg
            clear z0 z1 z2 z3 z4 z5 z6 z7 c0 c1 c2
            obtain ⟨z0, z1, ⟨z2, z3, z4⟩, z5, z6, z7⟩ := Z2.out.cells
            obtain ⟨c0, c1, c2⟩ := C2.out.cells
            dsimp only
            go_wp2
            go_ret
            exact ⟨rfl, G2.out⟩
          · have n1 := N1.out
            have n2 := N2.out
            simp only [Bool.not_true] at n1
            clear N1 N2
            have HE : Hid ((!true || !r2) = !r2) := Lib.hid rfl
            rw [HE.out]
            clear HE
            go_enter Try.func16, Try.ntmps16
            go_wp2_with fail
            rw [HW0.out]
            refine (HN.out _).mono ?_
            rintro e w1 ⟨rfl, hg⟩
            have Z1 := Lib.hid (Z0.out.old hg)
            have C1 := Lib.hid (C0.out.old hg)
            have G1 := Lib.hid (grown_then G0.out hg)
            clear hg
            obtain ⟨z0, z1, ⟨z2, z3, z4⟩, z5, z6, z7⟩ := Z1.out.cells
            obtain ⟨c0, c1, c2⟩ := C1.out.cells
            dsimp only
            go_wp2_with fail
            refine (HM.out _).mono ?_
            rintro e w2 ⟨rfl, hg⟩
            have Z2 := Lib.hid (Z1.out.old hg)
            have C2 := Lib.hid (C1.out.old hg)
            have G2 := Lib.hid (grown_then G1.out hg)
            clear hg
            clear z0 z1 z2 z3 z4 z5 z6 z7 c0 c1 c2
            obtain ⟨z0, z1, ⟨z2, z3, z4⟩, z5, z6, z7⟩ := Z2.out.cells
            obtain ⟨c0, c1, c2⟩ := C2.out.cells
            dsimp only
            go_wp2
            go_ret
            exact ⟨rfl, G2.out⟩
        · have HX := Lib.hid (fun W => Is_any op z.min c W)
          have HE : Hid (mayOp z op c = isB op z.min c) := Lib.hid (by unfold mayOp; rw [if_neg (by omega), if_neg (by omega), if_pos ho])
          rw [HE.out]
          clear HE
          generalize isB op z.min c = r at HX ⊢
          rcases ho with rfl | rfl
          all_goals
            go_enter Try.func16, Try.ntmps16
            go_wp2_with fail
            rw [HW0.out]
            refine (HN.out _).mono ?_
            rintro e w1 ⟨rfl, hg⟩
            have Z1 := Lib.hid (Z0.out.old hg)
            have C1 := Lib.hid (C0.out.old hg)
            have G1 := Lib.hid (grown_then G0.out hg)
            clear hg
            obtain ⟨z0, z1, ⟨z2, z3, z4⟩, z5, z6, z7⟩ := Z1.out.cells
            obtain ⟨c0, c1, c2⟩ := C1.out.cells
            dsimp only
            go_wp2_with fail
            refine (HM.out _).mono ?_
            rintro e w2 ⟨rfl, hg⟩
            have Z2 := Lib.hid (Z1.out.old hg)
            have C2 := Lib.hid (C1.out.old hg)
            have G2 := Lib.hid (grown_then G1.out hg)
            clear hg
            clear z0 z1 z2 z3 z4 z5 z6 z7 c0 c1 c2
            obtain ⟨z0, z1, ⟨z2, z3, z4⟩, z5, z6, z7⟩ := Z2.out.cells
            obtain ⟨c0, c1, c2⟩ := C2.out.cells
            dsimp only
            go_wp2_with fail
            refine (HX.out _).mono ?_
            rintro e w3 ⟨rfl, hg⟩
            have Z3 := Lib.hid (Z2.out.old hg)
            have C3 := Lib.hid (C2.out.old hg)
            have G3 := Lib.hid (grown_then G2.out hg)
            clear hg
            clear z0 z1 z2 z3 z4 z5 z6 z7 c0 c1 c2
            obtain ⟨z0, z1, ⟨z2, z3, z4⟩, z5, z6, z7⟩ := Z3.out.cells
            obtain ⟨c0, c1, c2⟩ := C3.out.cells
            dsimp only
            go_wp2
            go_ret
            exact ⟨rfl, G3.out⟩
        · have HX := Lib.hid (fun W => Is_any op z.max c W)
          have HE : Hid (mayOp z op c = isB op z.max c) := Lib.hid (by unfold mayOp; rw [if_neg (by omega), if_neg (by omega), if_neg (by omega), if_pos ho])
          rw [HE.out]
          clear HE
          generalize isB op z.max c = r at HX ⊢
          rcases ho with rfl | rfl
          all_goals
            go_enter Try.func16, Try.ntmps16
            go_wp2_with fail
            rw [HW0.out]
            refine (HN.out _).mono ?_
            rintro e w1 ⟨rfl, hg⟩
            have Z1 := Lib.hid (Z0.out.old hg)
            have C1 := Lib.hid (C0.out.old hg)
            have G1 := Lib.hid (grown_then G0.out hg)
            clear hg
            obtain ⟨z0, z1, ⟨z2, z3, z4⟩, z5, z6, z7⟩ := Z1.out.cells
            obtain ⟨c0, c1, c2⟩ := C1.out.cells
            dsimp only
            go_wp2_with fail
            refine (HM.out _).mono ?_
            rintro e w2 ⟨rfl, hg⟩
            have Z2 := Lib.hid (Z1.out.old hg)
            have C2 := Lib.hid (C1.out.old hg)
            have G2 := Lib.hid (grown_then G1.out hg)
            clear hg
            clear z0 z1 z2 z3 z4 z5 z6 z7 c0 c1 c2
            obtain ⟨z0, z1, ⟨z2, z3, z4⟩, z5, z6, z7⟩ := Z2.out.cells
            obtain ⟨c0, c1, c2⟩ := C2.out.cells
            dsimp only
            go_wp2_with fail
            refine (HX.out _).mono ?_
            rintro e w3 ⟨rfl, hg⟩
            have Z3 := Lib.hid (Z2.out.old hg)
            have C3 := Lib.hid (C2.out.old hg)
            have G3 := Lib.hid (grown_then G2.out hg)
            clear hg
            clear z0 z1 z2 z3 z4 z5 z6 z7 c0 c1 c2
            obtain ⟨z0, z1, ⟨z2, z3, z4⟩, z5, z6, z7⟩ := Z3.out.cells
            obtain ⟨c0, c1, c2⟩ := C3.out.cells
            dsimp only
            go_wp2
            go_ret
            exact ⟨rfl, G3.out⟩
        · have HE : Hid (mayOp z op c = false) := Lib.hid (by unfold mayOp; rw [if_neg o1, if_neg o2, if_neg (by omega), if_neg (by omega)])
          rw [HE.out]
          have p1 : (op == 1) = false := beq_eq_false_iff_ne.2 o1
          have p2 : (op == 2) = false := beq_eq_false_iff_ne.2 o2
          have p3 : (op == 3) = false := beq_eq_false_iff_ne.2 o3
          have p4 : (op == 4) = false := beq_eq_false_iff_ne.2 o4
          have p5 : (op == 5) = false := beq_eq_false_iff_ne.2 o5
          have p6 : (op == 6) = false := beq_eq_false_iff_ne.2 o6
          clear HE o1 o2 o3 o4 o5 o6
          go_enter Try.func16, Try.ntmps16
          go_wp2_with fail
          rw [HW0.out]
          refine (HN.out _).mono ?_
          rintro e w1 ⟨rfl, hg⟩
          have Z1 := Lib.hid (Z0.out.old hg)
          have C1 := Lib.hid (C0.out.old hg)
          have G1 := Lib.hid (grown_then G0.out hg)
          clear hg
          obtain ⟨z0, z1, ⟨z2, z3, z4⟩, z5, z6, z7⟩ := Z1.out.cells
          obtain ⟨c0, c1, c2⟩ := C1.out.cells
          dsimp only
          go_wp2_with fail
          refine (HM.out _).mono ?_
          rintro e w2 ⟨rfl, hg⟩
          have Z2 := Lib.hid (Z1.out.old hg)
          have C2 := Lib.hid (C1.out.old hg)
          have G2 := Lib.hid (grown_then G1.out hg)
          clear hg
          clear z0 z1 z2 z3 z4 z5 z6 z7 c0 c1 c2
          obtain ⟨z0, z1, ⟨z2, z3, z4⟩, z5, z6, z7⟩ := Z2.out.cells
          obtain ⟨c0, c1, c2⟩ := C2.out.cells
          dsimp only
          go_wp2
          go_ret
          exact ⟨rfl, G2.out⟩
      · have q3 : (c.k != z.min.k) = true := bne_iff_ne.2 h3
        have HE := Lib.hid (may_no (z := z) (op := op) (c := c) (.inr (.inr h3)))
        rw [HE.out]
        clear h1 h2 h3 HE
        go_enter Try.func16, Try.ntmps16
        go_wp2_with fail
        rw [HW0.out]
        refine (HN.out _).mono ?_
        rintro e w1 ⟨rfl, hg⟩
        have Z1 := Lib.hid (Z0.out.old hg)
        have C1 := Lib.hid (C0.out.old hg)
        have G1 := Lib.hid (grown_then G0.out hg)
        clear hg
        obtain ⟨z0, z1, ⟨z2, z3, z4⟩, z5, z6, z7⟩ := Z1.out.cells
        obtain ⟨c0, c1, c2⟩ := C1.out.cells
        dsimp only
        go_wp2_with fail
        refine (HM.out _).mono ?_
        rintro e w2 ⟨rfl, hg⟩
        have Z2 := Lib.hid (Z1.out.old hg)
        have C2 := Lib.hid (C1.out.old hg)
        have G2 := Lib.hid (grown_then G1.out hg)
        clear hg
        clear z0 z1 z2 z3 z4 z5 z6 z7 c0 c1 c2
        obtain ⟨z0, z1, ⟨z2, z3, z4⟩, z5, z6, z7⟩ := Z2.out.cells
        obtain ⟨c0, c1, c2⟩ := C2.out.cells
        dsimp only
        go_wp2
        go_ret
        exact ⟨rfl, G2.out⟩
end Go.Proofs.Ytpincfofnlfjiaa.Zn
