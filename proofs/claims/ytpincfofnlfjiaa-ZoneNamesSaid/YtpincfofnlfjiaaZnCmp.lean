/-
  Cells compared: cmp.Compare, strings.Compare, cmp.Or, compare, Compare.
-/
import Derived.Test.YtpincfofnlfjiaaZnEq
import Derived.StillTailTactics
namespace Go.Proofs.Ytpincfofnlfjiaa.Zn
open Go.RowKit Bs Dv

theorem nanI_any (x : Int) (w : World) : Calls Try.prog 40 #[.int .i64 x] w fun e w' => e = .returned (.bool false) ∧ w = w' := by
  go_enter Try.func40, Try.ntmps40
  go_wp2
  go_ret
  exact ⟨rfl, rfl⟩
theorem nanJ_any (x : Int) (w : World) : Calls Try.prog 41 #[.int .i64 x] w fun e w' => e = .returned (.bool false) ∧ w = w' := by
  go_enter Try.func41, Try.ntmps41
  go_wp2
  go_ret
  exact ⟨rfl, rfl⟩
theorem cmpI_lt {x y : Int} (h : x < y) : cmpI x y = -1 := if_pos h
theorem cmpI_gt {x y : Int} (h : y < x) : cmpI x y = 1 := by unfold cmpI; rw [if_neg (by omega), if_pos h]
theorem cmpI_eq (x : Int) : cmpI x x = 0 := cmpI_tot.self x
theorem cmpIa_any (x y : Int) (w : World) : Calls Try.prog 31 #[.int .i64 x, .int .i64 y] w fun e w' => e = .returned (.int .i64 (cmpI x y)) ∧ w = w' := by
  rcases Int.lt_trichotomy x y with h | h | h
  · go_enter Try.func31, Try.ntmps31
    go_wp2_with (go_at_call 40; refine (nanI_any _ _).mono ?_; rintro e w' ⟨rfl, rfl⟩)
    go_ret
    exact ⟨ret_int (cmpI_lt h).symm, rfl⟩
  · subst h
    go_enter Try.func31, Try.ntmps31
    go_wp2_with (go_at_call 40; refine (nanI_any _ _).mono ?_; rintro e w' ⟨rfl, rfl⟩)
    go_ret
    exact ⟨ret_int (cmpI_eq x).symm, rfl⟩
  · have h2 : ¬ x < y := by omega
    go_enter Try.func31, Try.ntmps31
    go_wp2_with (go_at_call 40; refine (nanI_any _ _).mono ?_; rintro e w' ⟨rfl, rfl⟩)
    go_ret
    exact ⟨ret_int (cmpI_gt h).symm, rfl⟩
theorem cmpJ_any (x y : Int) (w : World) : Calls Try.prog 32 #[.int .i64 x, .int .i64 y] w fun e w' => e = .returned (.int .i64 (cmpI x y)) ∧ w = w' := by
  rcases Int.lt_trichotomy x y with h | h | h
  · go_enter Try.func32, Try.ntmps32
    go_wp2_with (go_at_call 41; refine (nanJ_any _ _).mono ?_; rintro e w' ⟨rfl, rfl⟩)
    go_ret
    exact ⟨ret_int (cmpI_lt h).symm, rfl⟩
  · subst h
    go_enter Try.func32, Try.ntmps32
    go_wp2_with (go_at_call 41; refine (nanJ_any _ _).mono ?_; rintro e w' ⟨rfl, rfl⟩)
    go_ret
    exact ⟨ret_int (cmpI_eq x).symm, rfl⟩
  · have h2 : ¬ x < y := by omega
    go_enter Try.func32, Try.ntmps32
    go_wp2_with (go_at_call 41; refine (nanJ_any _ _).mono ?_; rintro e w' ⟨rfl, rfl⟩)
    go_ret
    exact ⟨ret_int (cmpI_gt h).symm, rfl⟩

theorem cmpStr_any (s t : ByteArray) (w : World) : Calls Try.prog 42 #[.string s, .string t] w fun e w' => e = .returned (.int .i64 (cmpS s t)) ∧ w = w' := by
  go_enter Try.func42, Try.ntmps42
  go_wp2
  rw [run_callFunc_extern Try.func43 (by kernel_rfl) (by kernel_rfl) (by kernel_rfl) (e := Extern.BytealgCompare.compare) (by kernel_rfl), Lib.run_compareString]
  simp only [Result.andThen]
  rw [Oper.upon_value]
  go_wp2
  go_ret
  exact ⟨rfl, rfl⟩
theorem cmpS_any (s t : ByteArray) (w : World) : Calls Try.prog 33 #[.string s, .string t] w fun e w' => e = .returned (.int .i64 (cmpS s t)) ∧ w = w' := by
  go_enter Try.func33, Try.ntmps33
  go_wp2_with (go_at_call 42; refine (cmpStr_any _ _ _).mono ?_; rintro e w' ⟨rfl, rfl⟩)
  go_ret
  exact ⟨rfl, rfl⟩

/-- cmp.Or over three numbers. -/
theorem orI1 {x : Int} (h : x ≠ 0) (y z : Int) : orI x y z = x := if_pos h
theorem orI2 {y : Int} (h : y ≠ 0) (z : Int) : orI 0 y z = y := by unfold orI; rw [if_neg (by simp), if_pos h]
theorem orI3 (z : Int) : orI 0 0 z = z := by unfold orI; rw [if_neg (by simp), if_neg (by simp)]
set_option maxHeartbeats 1000000 in
theorem or_any (b : Nat) (x y z : Int) (w : World) (h0 : w.cell? ⟨b, 0, none⟩ = some (.int .i64 x)) (h1 : w.cell? ⟨b, 1, none⟩ = some (.int .i64 y)) (h2 : w.cell? ⟨b, 2, none⟩ = some (.int .i64 z)) :
    Calls Try.prog 30 #[.slice (some ⟨b, 0, none⟩) 3 3] w fun e w' => e = .returned (.int .i64 (orI x y z)) ∧ w = w' := by
  have H := Lib.hid (show ∀ k, k < 3 → w.cell? ⟨b, k, none⟩ = some (.int .i64 (if k = 0 then x else if k = 1 then y else z)) from fun k hk => by
    have : k = 0 ∨ k = 1 ∨ k = 2 := by omega
    rcases this with rfl | rfl | rfl
    · exact h0
    · exact h1
    · exact h2)
  clear h0 h1 h2
  go_enter Try.func30, Try.ntmps30
  go_wp2
  go_loop [8] (fun iv => ∃ k : Nat, iv = .int .i64 k ∧ k ≤ 3 ∧ Hid (orI x y z = (if k = 0 then orI x y z else if k = 1 then orI 0 y z else if k = 2 then orI 0 0 z else 0))) (fun iv => 3 - (intOf iv).toNat)
  case atStart => exact ⟨0, rfl, by omega, Lib.hid rfl⟩
  case round =>
    obtain ⟨k, rfl, hk, HO⟩ := hrel
    by_cases hlt : k < 3
    · have hc := H.out k hlt
      obtain ⟨v, hv⟩ : ∃ v, v = (if k = 0 then x else if k = 1 then y else z) := ⟨_, rfl⟩
      rw [← hv] at hc
      have HV := Lib.hid hv
      clear hv
      by_cases h0 : v = 0
      · subst h0
        have HN : Hid (orI x y z = (if k + 1 = 0 then orI x y z else if k + 1 = 1 then orI 0 y z else if k + 1 = 2 then orI 0 0 z else 0)) := Lib.hid (by
          have h1 := HO.out
          have h2 := HV.out
          have : k = 0 ∨ k = 1 ∨ k = 2 := by omega
          rcases this with rfl | rfl | rfl
          · simp at h2; subst h2; rfl
          · simp at h1 h2; subst h2; rw [h1]; rfl
          · simp at h1 h2; subst h2; rw [h1]; rfl)
        clear HO HV H
        go_wp2
        go_round
        case rel => exact ⟨k + 1, by go_num, by omega, HN⟩
        case measure => simp [intOf]; omega
      · have HN : Hid (orI x y z = v) := Lib.hid (by
          have h1 := HO.out
          have h2 := HV.out
          have : k = 0 ∨ k = 1 ∨ k = 2 := by omega
          rcases this with rfl | rfl | rfl
          · simp at h2; subst h2; exact orI1 h0 _ _
          · simp at h1 h2; subst h2; rw [h1]; exact orI2 h0 _
          · simp at h1 h2; subst h2; rw [h1]; exact orI3 _)
        clear HO HV H
        go_wp2
        go_ret
        exact ⟨ret_int HN.out.symm, rfl⟩
    · obtain rfl : k = 3 := by omega
      have HN : Hid (orI x y z = 0) := Lib.hid (by have h1 := HO.out; simpa using h1)
      clear HO H
      go_wp2
      go_ret
      exact ⟨ret_int HN.out.symm, rfl⟩

set_option maxRecDepth 100000 in
set_option maxHeartbeats 1000000 in
theorem compare_any (a b : Cel) (w : World) : Calls Try.prog 24 #[.agg #[.int .i64 a.k, .int .i64 a.n, .string a.s], .agg #[.int .i64 b.k, .int .i64 b.n, .string b.s]] w fun e w' => e = .returned (.int .i64 (cmpC a b)) ∧ w.grownBy w' none := by
  have HK1 := Lib.hid (fun W => (cmpIa_any a.k b.k W).mono fun e w' (h : _ ∧ _) => (show e = .returned (.int .i64 (cmpI a.k b.k)) ∧ w' = W from ⟨h.1, h.2.symm⟩))
  have HK2 := Lib.hid (fun W => (cmpJ_any a.n b.n W).mono fun e w' (h : _ ∧ _) => (show e = .returned (.int .i64 (cmpI a.n b.n)) ∧ w' = W from ⟨h.1, h.2.symm⟩))
  have HK3 := Lib.hid (fun W => (cmpS_any a.s b.s W).mono fun e w' (h : _ ∧ _) => (show e = .returned (.int .i64 (cmpS a.s b.s)) ∧ w' = W from ⟨h.1, h.2.symm⟩))
  go_enter Try.func24, Try.ntmps24
  go_wp2
  refine wp_region_still_tail 15 (by kernel_rfl) (by kernel_rfl) ?_
  change wpStill _ _ (World.drew _) _ _ _
  simp only [List.take_succ_cons, List.take_zero, List.drop_succ_cons, List.drop_zero]
  obtain ⟨W1, hW1⟩ : ∃ W1, World.drew ((w.alloc (.cells #[.int .i64 a.k, .int .i64 a.n, .string a.s] 24)).alloc (.cells #[.int .i64 b.k, .int .i64 b.n, .string b.s] 24)) = W1 := ⟨_, rfl⟩
  have HG : Hid (w.grownBy W1 none) := Lib.hid (by rw [← hW1]; exact grown_then (grown_then (grown_alloc _ _) (grown_alloc _ _)) (grown_drew _))
  have qa : CB W1 w.heap.size a := by rw [← hW1]; exact (CB.new w a).old (grown_then (grown_alloc _ _) (grown_drew _))
  have qb : CB W1 (w.heap.size + 1) b := by rw [← hW1]; exact (show CB _ (w.heap.size + 1) b from by have := CB.new (w.alloc (.cells #[.int .i64 a.k, .int .i64 a.n, .string a.s] 24)) b; simpa using this).old (grown_drew _)
  have HW := Lib.hid hW1
  rw [hW1]
  clear hW1
  obtain ⟨a0, a1, a2⟩ := qa.cells
  obtain ⟨b0, b1, b2⟩ := qb.cells
  clear qa qb
  still_step
  still_step
  still_step
  still_step
  still_call (HK1.out _)
  still_step
  still_step
  still_step
  still_step
  still_call (HK2.out _)
  still_step
  still_step
  still_step
  still_step
  still_call (HK3.out _)
  refine wpStill_nil ?_
  change wpList _ _ _ _ _ (World.drew _)
  rw [HW.out]
  clear HW
  go_wp2_with fail
  obtain ⟨W2, hW2⟩ : ∃ W2, W1.alloc (.cells #[.int .i64 (cmpI a.k b.k), .int .i64 (cmpI a.n b.n), .int .i64 (cmpS a.s b.s)] 3) = W2 := ⟨_, rfl⟩
  have q := heap_alloc_new W1 (.cells #[.int .i64 (cmpI a.k b.k), .int .i64 (cmpI a.n b.n), .int .i64 (cmpS a.s b.s)] 3)
  rw [hW2] at q ⊢
  have HG2 : Hid (w.grownBy W2 none) := Lib.hid (by rw [← hW2]; exact grown_then HG.out (grown_alloc _ _))
  clear hW2
  refine (or_any _ _ _ _ _ (by rw [cell_of_row W2 _ _ _ _ _ q]; rfl) (by rw [cell_of_row W2 _ _ _ _ _ q]; rfl) (by rw [cell_of_row W2 _ _ _ _ _ q]; rfl)).mono ?_
  rintro e w' ⟨rfl, rfl⟩
  clear q
  dsimp only
  go_wp2
  go_ret
  exact ⟨rfl, HG2.out⟩

set_option maxHeartbeats 1000000 in
theorem Compare_any (a b : Cel) (w : World) : Calls Try.prog 14 #[.agg #[.int .i64 a.k, .int .i64 a.n, .string a.s], .agg #[.int .i64 b.k, .int .i64 b.n, .string b.s]] w fun e w' => e = .returned (.int .i64 (cmpC a b)) ∧ w.grownBy w' none := by
  have HG := Lib.hid (grown_then (grown_alloc w (.cells #[.int .i64 a.k, .int .i64 a.n, .string a.s] 24)) (grown_alloc _ (.cells #[.int .i64 b.k, .int .i64 b.n, .string b.s] 24)))
  go_enter Try.func14, Try.ntmps14
  go_wp2_with fail
  refine (compare_any a b _).mono ?_
  rintro e w' ⟨rfl, hg⟩
  have HG2 := Lib.hid (grown_then HG.out hg)
  clear hg HG
  dsimp only
  go_wp2
  go_ret
  exact ⟨rfl, HG2.out⟩
end Go.Proofs.Ytpincfofnlfjiaa.Zn
