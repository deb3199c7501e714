/-
  Is: is a cell so to another one?
-/
import Derived.Test.YtpincfofnlfjiaaZnSmall
import Derived.Deep.RegionHeld3
namespace Go.Proofs.Ytpincfofnlfjiaa.Zn
open Go.RowKit Bs Dv

theorem isB_null {op : Int} {a b : Cel} (h : a.k = 0) : isB op a b = false := by
  rw [← Bool.not_eq_true, isB_iff]
  exact fun e => e.1 h
theorem isB_kind {op : Int} {a b : Cel} (h : a.k ≠ b.k) : isB op a b = false := by
  rw [← Bool.not_eq_true, isB_iff]
  exact fun e => h e.2.1
theorem isB_op {op : Int} {a b : Cel} (h : op < 1 ∨ 6 < op) : isB op a b = false := by
  rw [← Bool.not_eq_true, isB_iff]
  exact fun e => by rw [opB_out h] at e; cases e.2.2
theorem isB_yes {op : Int} {a b : Cel} (h : a.k ≠ 0) (k : a.k = b.k) : isB op a b = opB op (cmpC a b) := by
  unfold isB
  rw [decide_eq_true ⟨h, k⟩, Bool.true_and]

theorem idx1 (W : World) : (Instr.index 51 (.agg opsV) (.int .i64 1)).run Try.prog W = .ok (.func (.func 34) #[] #[]) W := by kernel_rfl
theorem idx2 (W : World) : (Instr.index 51 (.agg opsV) (.int .i64 2)).run Try.prog W = .ok (.func (.func 35) #[] #[]) W := by kernel_rfl
theorem idx3 (W : World) : (Instr.index 51 (.agg opsV) (.int .i64 3)).run Try.prog W = .ok (.func (.func 36) #[] #[]) W := by kernel_rfl
theorem idx4 (W : World) : (Instr.index 51 (.agg opsV) (.int .i64 4)).run Try.prog W = .ok (.func (.func 37) #[] #[]) W := by kernel_rfl
theorem idx5 (W : World) : (Instr.index 51 (.agg opsV) (.int .i64 5)).run Try.prog W = .ok (.func (.func 38) #[] #[]) W := by kernel_rfl
theorem idx6 (W : World) : (Instr.index 51 (.agg opsV) (.int .i64 6)).run Try.prog W = .ok (.func (.func 39) #[] #[]) W := by kernel_rfl

set_option maxRecDepth 100000 in
set_option maxHeartbeats 2000000 in
theorem Is_any (op : Int) (a b : Cel) (w : World) : Calls Try.prog 15 #[.int .i64 op, .agg #[.int .i64 a.k, .int .i64 a.n, .string a.s], .agg #[.int .i64 b.k, .int .i64 b.n, .string b.s]] w fun e w' => e = .returned (.bool (isB op a b)) ∧ w.grownBy w' none := by
  obtain ⟨W0, hW0⟩ : ∃ W0, (w.alloc (.cells #[.int .i64 a.k, .int .i64 a.n, .string a.s] 24)).alloc (.cells #[.int .i64 b.k, .int .i64 b.n, .string b.s] 24) = W0 := ⟨_, rfl⟩
  have HG : Hid (w.grownBy W0 none) := Lib.hid (by rw [← hW0]; exact grown_then (grown_alloc _ _) (grown_alloc _ _))
  have QA : Hid (CB W0 w.heap.size a) := Lib.hid (by rw [← hW0]; exact (CB.new w a).old (grown_alloc _ _))
  have QB : Hid (CB W0 (w.heap.size + 1) b) := Lib.hid (by rw [← hW0]; have := CB.new (w.alloc (.cells #[.int .i64 a.k, .int .i64 a.n, .string a.s] 24)) b; simpa using this)
  have HW0 := Lib.hid hW0
  clear hW0
  by_cases h0 : a.k = 0
  · have hb : (a.k == 0) = true := beq_iff_eq.2 h0
    have HN := Lib.hid (fun W => (null_any a W).mono fun e w' (h : _ ∧ _) => (show e = .returned (.bool true) ∧ W.grownBy w' none from ⟨by rw [h.1, hb], h.2⟩))
    have HE := Lib.hid (isB_null (op := op) (b := b) h0)
    clear h0 hb
    rw [HE.out]
    go_enter Try.func15, Try.ntmps15
    go_wp2_with fail
    rw [HW0.out]
    refine (HN.out _).mono ?_
    rintro e w1 ⟨rfl, hg⟩
    have G1 := Lib.hid (grown_then HG.out hg)
    clear hg
    dsimp only
    go_wp2
    go_ret
    exact ⟨rfl, G1.out⟩
  · have hb : (a.k == 0) = false := beq_eq_false_iff_ne.2 h0
    have HN := Lib.hid (fun W => (null_any a W).mono fun e w' (h : _ ∧ _) => (show e = .returned (.bool false) ∧ W.grownBy w' none from ⟨by rw [h.1, hb], h.2⟩))
    by_cases hk : a.k = b.k
    · have hk2 : (a.k != b.k) = false := by rw [hk]; exact bne_self_eq_false _
      have HE := Lib.hid (isB_yes (op := op) h0 hk)
      rw [HE.out]
      clear h0 hb hk
      have hop : op < 1 ∨ (1 ≤ op ∧ 6 < op) ∨ op = 1 ∨ op = 2 ∨ op = 3 ∨ op = 4 ∨ op = 5 ∨ op = 6 := by omega
      rcases hop with h1 | ⟨h1, h2⟩ | h1
      · have HO := Lib.hid (opB_out (o := cmpC a b) (.inl h1))
        rw [HO.out]
        go_enter Try.func15, Try.ntmps15
        go_wp2_with fail
        rw [HW0.out]
        refine (HN.out _).mono ?_
        rintro e w1 ⟨rfl, hg⟩
        have G1 := Lib.hid (grown_then HG.out hg)
        obtain ⟨a0, a1, a2⟩ := (QA.out.old hg).cells
        obtain ⟨b0, b1, b2⟩ := (QB.out.old hg).cells
        clear hg
        dsimp only
        go_wp2
        go_ret
        exact ⟨rfl, G1.out⟩
      · have HO := Lib.hid (opB_out (o := cmpC a b) (.inr h2))
        rw [HO.out]
        go_enter Try.func15, Try.ntmps15
        go_wp2_with fail
        rw [HW0.out]
        refine (HN.out _).mono ?_
        rintro e w1 ⟨rfl, hg⟩
        have G1 := Lib.hid (grown_then HG.out hg)
        obtain ⟨a0, a1, a2⟩ := (QA.out.old hg).cells
        obtain ⟨b0, b1, b2⟩ := (QB.out.old hg).cells
        clear hg
        dsimp only
        go_wp2
        go_ret
        exact ⟨rfl, G1.out⟩
      · have HK := Lib.hid (fun W => compare_any a b W)
        have HC := Lib.hid (fun W => comparisons_any W)
        unfold opsV at HC
        have i1 := idx1
        have i2 := idx2
        have i3 := idx3
        have i4 := idx4
        have i5 := idx5
        have i6 := idx6
        unfold opsV at i1 i2 i3 i4 i5 i6
        rcases h1 with rfl | rfl | rfl | rfl | rfl | rfl
        all_goals
          go_enter Try.func15, Try.ntmps15
          go_wp2_with fail
          rw [HW0.out]
          refine (HN.out _).mono ?_
          rintro e w1 ⟨rfl, hg⟩
          have G1 := Lib.hid (grown_then HG.out hg)
          have A1 := Lib.hid (QA.out.old hg)
          have B1 := Lib.hid (QB.out.old hg)
          obtain ⟨a0, a1, a2⟩ := A1.out.cells
          obtain ⟨b0, b1, b2⟩ := B1.out.cells
          clear hg
          dsimp only
          go_wp2_with fail
          go_region_held3 (fun w' => w'.cell? ⟨w.heap.size, 0, none⟩ = some (.int .i64 a.k) ∧ w'.cell? ⟨w.heap.size, 1, none⟩ = some (.int .i64 a.n) ∧ w'.cell? ⟨w.heap.size, 2, none⟩ = some (.string a.s) ∧ w'.cell? ⟨w.heap.size + 1, 0, none⟩ = some (.int .i64 b.k) ∧ w'.cell? ⟨w.heap.size + 1, 1, none⟩ = some (.int .i64 b.n) ∧ w'.cell? ⟨w.heap.size + 1, 2, none⟩ = some (.string b.s)) (go_keep)
            (first
              | (go_at_call 26
                 (with_reducible refine (HC.out _).mono ?_)
                 rintro e wc ⟨rfl, hgc⟩
                 have GC := Lib.hid (grown_then (grown_drew w1) hgc)
                 obtain ⟨f0, f1, f2⟩ := (A1.out.old GC.out).cells
                 obtain ⟨f3, f4, f5⟩ := (B1.out.old GC.out).cells
                 clear hgc)
              | (go_at_call 24
                 (with_reducible refine (HK.out _).mono ?_)
                 rintro e wd ⟨rfl, hgd⟩
                 have GD := Lib.hid (grown_then GC.out hgd)
                 obtain ⟨g0, g1, g2⟩ := (A1.out.old GD.out).cells
                 obtain ⟨g3, g4, g5⟩ := (B1.out.old GD.out).cells
                 clear hgd)
              | (go_at_call 34; (with_reducible refine (equal_any _ _).mono ?_); rintro e w' ⟨rfl, rfl⟩)
              | (go_at_call 35; (with_reducible refine (different_any _ _).mono ?_); rintro e w' ⟨rfl, rfl⟩)
              | (go_at_call 36; (with_reducible refine (less_any _ _).mono ?_); rintro e w' ⟨rfl, rfl⟩)
              | (go_at_call 37; (with_reducible refine (notMore_any _ _).mono ?_); rintro e w' ⟨rfl, rfl⟩)
              | (go_at_call 38; (with_reducible refine (more_any _ _).mono ?_); rintro e w' ⟨rfl, rfl⟩)
              | (go_at_call 39; (with_reducible refine (notLess_any _ _).mono ?_); rintro e w' ⟨rfl, rfl⟩)
              | fail)
          all_goals
            have GE := Lib.hid (grown_then G1.out GD.out)
            go_wp2
            go_ret
            exact ⟨rfl, GE.out⟩
    · have hk2 : (a.k != b.k) = true := bne_iff_ne.2 hk
      have HE := Lib.hid (isB_kind (op := op) hk)
      rw [HE.out]
      clear h0 hb hk
      go_enter Try.func15, Try.ntmps15
      go_wp2_with fail
      rw [HW0.out]
      refine (HN.out _).mono ?_
      rintro e w1 ⟨rfl, hg⟩
      have G1 := Lib.hid (grown_then HG.out hg)
      obtain ⟨a0, a1, a2⟩ := (QA.out.old hg).cells
      obtain ⟨b0, b1, b2⟩ := (QB.out.old hg).cells
      clear hg
      dsimp only
      go_wp2
      go_ret
      exact ⟨rfl, G1.out⟩
end Go.Proofs.Ytpincfofnlfjiaa.Zn
