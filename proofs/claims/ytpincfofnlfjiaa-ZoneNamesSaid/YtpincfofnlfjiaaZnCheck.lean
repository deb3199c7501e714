/-
  bounded and Check: may a zone be?
-/
import Derived.Test.YtpincfofnlfjiaaZnExact
import Derived.LoopTactic
namespace Go.Proofs.Ytpincfofnlfjiaa.Zn
open Go.RowKit Bs Dv

theorem two0 (a b : Cel) (W : World) : (Instr.index 59 (.agg #[.int .i64 a.k, .int .i64 a.n, .string a.s, .int .i64 b.k, .int .i64 b.n, .string b.s]) (.int .i64 0)).run Try.prog W = .ok (.agg #[.int .i64 a.k, .int .i64 a.n, .string a.s]) W := by kernel_rfl
theorem two1 (a b : Cel) (W : World) : (Instr.index 59 (.agg #[.int .i64 a.k, .int .i64 a.n, .string a.s, .int .i64 b.k, .int .i64 b.n, .string b.s]) (.int .i64 1)).run Try.prog W = .ok (.agg #[.int .i64 b.k, .int .i64 b.n, .string b.s]) W := by kernel_rfl

set_option maxRecDepth 100000 in
set_option maxHeartbeats 4000000 in
theorem bounded_any (z : Zon) (kind : Int) (w : World) : Calls Try.prog 28 #[.agg #[.int .i64 z.cnt, .int .i64 z.nul, .int .i64 z.min.k, .int .i64 z.min.n, .string z.min.s, .int .i64 z.max.k, .int .i64 z.max.n, .string z.max.s], .int .i64 kind] w fun e w' =>
    e = .returned (.bool (boundB z kind)) ∧ w.grownBy w' none := by
  have Z0 := Lib.hid (ZB.new w z)
  have G0 := Lib.hid (grown_alloc w (.cells #[.int .i64 z.cnt, .int .i64 z.nul, .int .i64 z.min.k, .int .i64 z.min.n, .string z.min.s, .int .i64 z.max.k, .int .i64 z.max.n, .string z.max.s] 26))
  have i0 := two0 z.min z.max
  have i1 := two1 z.min z.max
  have HC := Lib.hid (fun W => Cell_any z.min W)
  have HD := Lib.hid (fun W => Cell_any z.max W)
  have HK := Lib.hid (fun W => Compare_any z.min z.max W)
  obtain ⟨b, hb⟩ : ∃ b, b = boundB z kind := ⟨_, rfl⟩
  have hb2 := hb
  unfold boundB at hb
  rw [← hb2]
  clear hb2
  obtain ⟨x, hx⟩ : ∃ x, x = cellE z.min := ⟨_, rfl⟩
  obtain ⟨y, hy⟩ : ∃ y, y = cellE z.max := ⟨_, rfl⟩
  obtain ⟨o, ho⟩ : ∃ o, o = cmpC z.min z.max := ⟨_, rfl⟩
  rw [← hx] at HC hb
  rw [← hy] at HD hb
  rw [← ho] at HK hb
  clear hx hy ho
  by_cases h1 : z.min.k = kind
  · have q1 : (z.min.k != kind) = false := by rw [h1]; exact bne_self_eq_false _
    by_cases h2 : x = 0
    · have q2 : (x != 0) = false := by rw [h2]; rfl
      by_cases h3 : z.max.k = kind
      · have q3 : (z.max.k != kind) = false := by rw [h3]; exact bne_self_eq_false _
        by_cases h4 : y = 0
        · have q4 : (y != 0) = false := by rw [h4]; rfl
          have hb3 : b = decide (o ≤ 0) := by rw [hb]; exact decide_eq_decide.2 ⟨fun h => h.2.2, fun h => ⟨⟨h1, h2⟩, ⟨h3, h4⟩, h⟩⟩
          rw [hb3]
          clear h1 h2 h3 h4 hb hb3
          go_enter Try.func28, Try.ntmps28
          go_wp2
          refine wp_loop_rounds 3 ?_
          rw [rounds_succ]
          go_wp2_with fail
          refine (HC.out _).mono ?_
          rintro e w1 ⟨rfl, hg⟩
          have G1 := Lib.hid (grown_then (grown_then G0.out (grown_alloc _ _)) hg)
          have Z1 := Lib.hid ((Z0.out.old (grown_alloc _ _)).old hg)
          clear hg
          dsimp only
          go_wp2_with fail
          rw [rounds_succ]
          go_wp2_with fail
          refine (HD.out _).mono ?_
          rintro e w2 ⟨rfl, hg⟩
          have G2 := Lib.hid (grown_then (grown_then G1.out (grown_alloc _ _)) hg)
          have Z2 := Lib.hid ((Z1.out.old (grown_alloc _ _)).old hg)
          clear hg
          dsimp only
          obtain ⟨z0, z1, ⟨z2, z3, z4⟩, z5, z6, z7⟩ := Z2.out.cells
          go_wp2_with fail
          rw [rounds_succ]
          go_wp2_with fail
          refine (HK.out _).mono ?_
          rintro e w3 ⟨rfl, hg⟩
          have G3 := Lib.hid (grown_then G2.out hg)
          clear hg
          dsimp only
          go_wp2
          go_ret
          exact ⟨rfl, G3.out⟩
        · have q4 : (y != 0) = true := bne_iff_ne.2 h4
          have hb3 : b = false := by rw [hb]; exact decide_eq_false fun h => h4 h.2.1.2
          rw [hb3]
          clear h1 h2 h3 h4 hb hb3
          go_enter Try.func28, Try.ntmps28
          go_wp2
          refine wp_loop_rounds 3 ?_
          rw [rounds_succ]
          go_wp2_with fail
          refine (HC.out _).mono ?_
          rintro e w1 ⟨rfl, hg⟩
          have G1 := Lib.hid (grown_then (grown_then G0.out (grown_alloc _ _)) hg)
          have Z1 := Lib.hid ((Z0.out.old (grown_alloc _ _)).old hg)
          clear hg
          dsimp only
          go_wp2_with fail
          rw [rounds_succ]
          go_wp2_with fail
          refine (HD.out _).mono ?_
          rintro e w2 ⟨rfl, hg⟩
          have G2 := Lib.hid (grown_then (grown_then G1.out (grown_alloc _ _)) hg)
          have Z2 := Lib.hid ((Z1.out.old (grown_alloc _ _)).old hg)
          clear hg
          dsimp only
          go_wp2
          go_ret
          exact ⟨rfl, G2.out⟩
      · have q3 : (z.max.k != kind) = true := bne_iff_ne.2 h3
        have hb3 : b = false := by rw [hb]; exact decide_eq_false fun h => h3 h.2.1.1
        rw [hb3]
        clear h1 h2 h3 hb hb3
        go_enter Try.func28, Try.ntmps28
        go_wp2
        refine wp_loop_rounds 3 ?_
        rw [rounds_succ]
        go_wp2_with fail
        refine (HC.out _).mono ?_
        rintro e w1 ⟨rfl, hg⟩
        have G1 := Lib.hid (grown_then (grown_then G0.out (grown_alloc _ _)) hg)
        have Z1 := Lib.hid ((Z0.out.old (grown_alloc _ _)).old hg)
        clear hg
        dsimp only
        go_wp2_with fail
        rw [rounds_succ]
        go_wp2
        go_ret
        exact ⟨rfl, grown_then G1.out (grown_alloc _ _)⟩
    · have q2 : (x != 0) = true := bne_iff_ne.2 h2
      have hb3 : b = false := by rw [hb]; exact decide_eq_false fun h => h2 h.1.2
      rw [hb3]
      clear h1 h2 hb hb3
      go_enter Try.func28, Try.ntmps28
      go_wp2
      refine wp_loop_rounds 3 ?_
      rw [rounds_succ]
      go_wp2_with fail
      refine (HC.out _).mono ?_
      rintro e w1 ⟨rfl, hg⟩
      have G1 := Lib.hid (grown_then (grown_then G0.out (grown_alloc _ _)) hg)
      have Z1 := Lib.hid ((Z0.out.old (grown_alloc _ _)).old hg)
      clear hg
      dsimp only
      go_wp2
      go_ret
      exact ⟨rfl, G1.out⟩
  · have q1 : (z.min.k != kind) = true := bne_iff_ne.2 h1
    have hb3 : b = false := by rw [hb]; exact decide_eq_false fun h => h1 h.1.1
    rw [hb3]
    clear h1 hb hb3
    go_enter Try.func28, Try.ntmps28
    go_wp2
    refine wp_loop_rounds 3 ?_
    rw [rounds_succ]
    go_wp2
    go_ret
    exact ⟨rfl, grown_then G0.out (grown_alloc _ _)⟩

set_option maxRecDepth 100000 in
set_option maxHeartbeats 4000000 in
theorem Check_any (z : Zon) (kind : Int) (w : World) : Calls Try.prog 17 #[.agg #[.int .i64 z.cnt, .int .i64 z.nul, .int .i64 z.min.k, .int .i64 z.min.n, .string z.min.s, .int .i64 z.max.k, .int .i64 z.max.n, .string z.max.s], .int .i64 kind] w fun e w' =>
    e = .returned (.int .i64 (checkE z kind)) ∧ w.grownBy w' none := by
  have Z0 := Lib.hid (ZB.new w z)
  have G0 := Lib.hid (grown_alloc w (.cells #[.int .i64 z.cnt, .int .i64 z.nul, .int .i64 z.min.k, .int .i64 z.min.n, .string z.min.s, .int .i64 z.max.k, .int .i64 z.max.n, .string z.max.s] 26))
  obtain ⟨r, hr⟩ : ∃ r, r = checkE z kind := ⟨_, rfl⟩
  have HR := Lib.hid hr
  rw [← hr]
  clear hr
  by_cases hk : kind ≠ 1 ∧ kind ≠ 2 ∧ kind ≠ 3
  · have q1 : (kind != 1) = true := bne_iff_ne.2 hk.1
    have q2 : (kind != 2) = true := bne_iff_ne.2 hk.2.1
    have q3 : (kind != 3) = true := bne_iff_ne.2 hk.2.2
    have hr : r = 2 := by rw [HR.out]; unfold checkE; rw [if_pos hk]
    rw [hr]
    clear hr hk HR
    go_enter Try.func17, Try.ntmps17
    go_wp2
    go_ret
    exact ⟨rfl, G0.out⟩
  · have HB := Lib.hid (fun W => bounded_any z kind W)
    have hk' : kind = 1 ∨ kind = 2 ∨ kind = 3 := by omega
    by_cases h0 : z.nul < 0
    · have hr : r = 2 := by rw [HR.out]; unfold checkE; rw [if_neg hk, if_pos (.inl h0)]
      rw [hr]
      clear hr hk HR HB
      rcases hk' with rfl | rfl | rfl
      all_goals
        go_enter Try.func17, Try.ntmps17
        go_wp2
        go_ret
        exact ⟨rfl, G0.out⟩
    · by_cases h1 : z.cnt < z.nul
      · have hr : r = 2 := by rw [HR.out]; unfold checkE; rw [if_neg hk, if_pos (.inr h1)]
        rw [hr]
        clear hr hk HR HB
        rcases hk' with rfl | rfl | rfl
        all_goals
          go_enter Try.func17, Try.ntmps17
          go_wp2
          go_ret
          exact ⟨rfl, G0.out⟩
      · have hn : ¬ (z.nul < 0 ∨ z.cnt < z.nul) := by omega
        by_cases h2 : z.cnt = z.nul
        · have q4 : (z.cnt == z.nul) = true := beq_iff_eq.2 h2
          have HM := Lib.hid (fun W => (empty_any z W).mono fun e w' (h : _ ∧ _) => (show e = .returned (.bool true) ∧ W.grownBy w' none from ⟨by rw [h.1, q4], h.2⟩))
          have n1 := fun W => neq_cell z.min ⟨0, 0, ⟨#[]⟩⟩ W
          have n2 := fun W => neq_cell z.max ⟨0, 0, ⟨#[]⟩⟩ W
          cases e1 : eqC z.min ⟨0, 0, ⟨#[]⟩⟩
          · have hr : r = 2 := by rw [HR.out]; unfold checkE; rw [if_neg hk, if_neg hn, if_pos ⟨h2, .inl e1⟩]
            rw [hr]
            simp only [e1, Bool.not_false] at n1
            clear hr hk HR HB hn h2 q4 e1 n2
            rcases hk' with rfl | rfl | rfl
            all_goals
              go_enter Try.func17, Try.ntmps17
              go_wp2_with fail
              refine (HM.out _).mono ?_
              rintro e w1 ⟨rfl, hg⟩
              have G1 := Lib.hid (grown_then G0.out hg)
              have Z1 := Lib.hid (Z0.out.old hg)
              clear hg
              obtain ⟨z0, z1, ⟨z2, z3, z4⟩, z5, z6, z7⟩ := Z1.out.cells
              dsimp only
              go_wp2
              go_ret
              exact ⟨rfl, G1.out⟩
          · simp only [e1, Bool.not_true] at n1
            cases e2 : eqC z.max ⟨0, 0, ⟨#[]⟩⟩
            · have hr : r = 2 := by rw [HR.out]; unfold checkE; rw [if_neg hk, if_neg hn, if_pos ⟨h2, .inr e2⟩]
              rw [hr]
              simp only [e2, Bool.not_false] at n2
              clear hr hk HR HB hn h2 q4 e1 e2
              rcases hk' with rfl | rfl | rfl
              all_goals
                go_enter Try.func17, Try.ntmps17
                go_wp2_with fail
                refine (HM.out _).mono ?_
                rintro e w1 ⟨rfl, hg⟩
                have G1 := Lib.hid (grown_then G0.out hg)
                have Z1 := Lib.hid (Z0.out.old hg)
                clear hg
                obtain ⟨z0, z1, ⟨z2, z3, z4⟩, z5, z6, z7⟩ := Z1.out.cells
                dsimp only
                go_wp2
                go_ret
                exact ⟨rfl, G1.out⟩
            · have hr : r = 0 := by
                rw [HR.out]
                unfold checkE
                rw [if_neg hk, if_neg hn, if_neg, if_neg]
                · exact fun h => h.1 h2
                · rintro ⟨_, h | h⟩
                  · have h : eqC z.min ⟨0, 0, ⟨#[]⟩⟩ = false := h
                    rw [e1] at h; cases h
                  · have h : eqC z.max ⟨0, 0, ⟨#[]⟩⟩ = false := h
                    rw [e2] at h; cases h
              rw [hr]
              simp only [e2, Bool.not_true] at n2
              clear hr hk HR HB hn h2 q4 e1 e2
              rcases hk' with rfl | rfl | rfl
              all_goals
                go_enter Try.func17, Try.ntmps17
                go_wp2_with fail
                refine (HM.out _).mono ?_
                rintro e w1 ⟨rfl, hg⟩
                have G1 := Lib.hid (grown_then G0.out hg)
                have Z1 := Lib.hid (Z0.out.old hg)
                clear hg
                obtain ⟨z0, z1, ⟨z2, z3, z4⟩, z5, z6, z7⟩ := Z1.out.cells
                dsimp only
                go_wp2_with fail
                refine (HM.out _).mono ?_
                rintro e w2 ⟨rfl, hg⟩
                have G2 := Lib.hid (grown_then G1.out hg)
                have Z2 := Lib.hid (Z1.out.old hg)
                clear hg
                obtain ⟨z0, z1, ⟨z2, z3, z4⟩, z5, z6, z7⟩ := Z2.out.cells
                dsimp only
                go_wp2
                go_ret
                exact ⟨rfl, G2.out⟩
        · have q4 : (z.cnt == z.nul) = false := beq_eq_false_iff_ne.2 h2
          have HM := Lib.hid (fun W => (empty_any z W).mono fun e w' (h : _ ∧ _) => (show e = .returned (.bool false) ∧ W.grownBy w' none from ⟨by rw [h.1, q4], h.2⟩))
          cases e1 : boundB z kind
          · have hr : r = 2 := by rw [HR.out]; unfold checkE; rw [if_neg hk, if_neg hn, if_neg (fun h => h2 h.1), if_pos ⟨h2, e1⟩]
            rw [hr]
            rw [e1] at HB
            clear hr hk HR hn h2 q4 e1
            rcases hk' with rfl | rfl | rfl
            all_goals
              go_enter Try.func17, Try.ntmps17
              go_wp2_with fail
              refine (HM.out _).mono ?_
              rintro e w1 ⟨rfl, hg⟩
              have G1 := Lib.hid (grown_then G0.out hg)
              have Z1 := Lib.hid (Z0.out.old hg)
              clear hg
              obtain ⟨z0, z1, ⟨z2, z3, z4⟩, z5, z6, z7⟩ := Z1.out.cells
              dsimp only
              go_wp2_with fail
              refine (HM.out _).mono ?_
              rintro e w2 ⟨rfl, hg⟩
              have G2 := Lib.hid (grown_then G1.out hg)
              have Z2 := Lib.hid (Z1.out.old hg)
              clear hg
              obtain ⟨z0, z1, ⟨z2, z3, z4⟩, z5, z6, z7⟩ := Z2.out.cells
              dsimp only
              go_wp2_with fail
              refine (HB.out _).mono ?_
              rintro e w3 ⟨rfl, hg⟩
              have G3 := Lib.hid (grown_then G2.out hg)
              have Z3 := Lib.hid (Z2.out.old hg)
              clear hg
              obtain ⟨z0, z1, ⟨z2, z3, z4⟩, z5, z6, z7⟩ := Z3.out.cells
              dsimp only
              go_wp2
              go_ret
              exact ⟨rfl, G3.out⟩
          · have hr : r = 0 := by rw [HR.out]; unfold checkE; rw [if_neg hk, if_neg hn, if_neg (fun h => h2 h.1), if_neg (fun h => by rw [e1] at h; cases h.2)]
            rw [hr]
            rw [e1] at HB
            clear hr hk HR hn h2 q4 e1
            rcases hk' with rfl | rfl | rfl
            all_goals
              go_enter Try.func17, Try.ntmps17
              go_wp2_with fail
              refine (HM.out _).mono ?_
              rintro e w1 ⟨rfl, hg⟩
              have G1 := Lib.hid (grown_then G0.out hg)
              have Z1 := Lib.hid (Z0.out.old hg)
              clear hg
              obtain ⟨z0, z1, ⟨z2, z3, z4⟩, z5, z6, z7⟩ := Z1.out.cells
              dsimp only
              go_wp2_with fail
              refine (HM.out _).mono ?_
              rintro e w2 ⟨rfl, hg⟩
              have G2 := Lib.hid (grown_then G1.out hg)
              have Z2 := Lib.hid (Z1.out.old hg)
              clear hg
              obtain ⟨z0, z1, ⟨z2, z3, z4⟩, z5, z6, z7⟩ := Z2.out.cells
              dsimp only
              go_wp2_with fail
              refine (HB.out _).mono ?_
              rintro e w3 ⟨rfl, hg⟩
              have G3 := Lib.hid (grown_then G2.out hg)
              have Z3 := Lib.hid (Z2.out.old hg)
              clear hg
              obtain ⟨z0, z1, ⟨z2, z3, z4⟩, z5, z6, z7⟩ := Z3.out.cells
              dsimp only
              go_wp2
              go_ret
              exact ⟨rfl, G3.out⟩
end Go.Proofs.Ytpincfofnlfjiaa.Zn
