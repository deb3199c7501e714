/-
  canPack, Size, unused, Width; the document's may, Size, bits, Width.
-/
import Derived.Test.YtpcilohiokpmnaaLen64
import Derived.Test.YtpcilohiokpmnaaBase
namespace Go.Proofs.Ytpcilohiokpmnaa.Pk
open Go.RowKit Bs

theorem can_any (n v : Int) (w : World) : Calls Try.prog 47 #[.int .i64 n, .int .i64 v] w fun e w' => e = .returned (.bool (canB n v)) ∧ w = w' := by
  have hc := canB_iff n v
  generalize canB n v = c at hc ⊢
  by_cases h1 : 0 ≤ n
  · by_cases h2 : n ≤ 65536
    · by_cases h3 : 0 ≤ v
      · by_cases h4 : v ≤ 64
        · obtain rfl : c = true := hc.2 ⟨h1, h2, h3, h4⟩
          clear hc
          go_enter Try.func47, Try.ntmps47
          go_wp2
          go_ret
          exact ⟨rfl, rfl⟩
        · obtain rfl : c = false := by cases c; rfl; exact absurd (hc.1 rfl).2.2.2 h4
          clear hc
          go_enter Try.func47, Try.ntmps47
          go_wp2
          go_ret
          exact ⟨rfl, rfl⟩
      · obtain rfl : c = false := by cases c; rfl; exact absurd (hc.1 rfl).2.2.1 h3
        clear hc
        go_enter Try.func47, Try.ntmps47
        go_wp2
        go_ret
        exact ⟨rfl, rfl⟩
    · obtain rfl : c = false := by cases c; rfl; exact absurd (hc.1 rfl).2.1 h2
      clear hc
      go_enter Try.func47, Try.ntmps47
      go_wp2
      go_ret
      exact ⟨rfl, rfl⟩
  · obtain rfl : c = false := by cases c; rfl; exact absurd (hc.1 rfl).1 h1
    clear hc
    go_enter Try.func47, Try.ntmps47
    go_wp2
    go_ret
    exact ⟨rfl, rfl⟩

theorem may_any (n v : Int) (w : World) : Calls Try.prog 59 #[.int .i64 n, .int .i64 v] w fun e w' => e = .returned (.bool (canB n v)) ∧ w = w' := by
  have hc := canB_iff n v
  generalize canB n v = c at hc ⊢
  by_cases h1 : 0 ≤ n
  · by_cases h2 : n ≤ 65536
    · by_cases h3 : 0 ≤ v
      · by_cases h4 : v ≤ 64
        · obtain rfl : c = true := hc.2 ⟨h1, h2, h3, h4⟩
          clear hc
          go_enter Try.func59, Try.ntmps59
          go_wp2
          go_ret
          exact ⟨rfl, rfl⟩
        · obtain rfl : c = false := by cases c; rfl; exact absurd (hc.1 rfl).2.2.2 h4
          clear hc
          go_enter Try.func59, Try.ntmps59
          go_wp2
          go_ret
          exact ⟨rfl, rfl⟩
      · obtain rfl : c = false := by cases c; rfl; exact absurd (hc.1 rfl).2.2.1 h3
        clear hc
        go_enter Try.func59, Try.ntmps59
        go_wp2
        go_ret
        exact ⟨rfl, rfl⟩
    · obtain rfl : c = false := by cases c; rfl; exact absurd (hc.1 rfl).2.1 h2
      clear hc
      go_enter Try.func59, Try.ntmps59
      go_wp2
      go_ret
      exact ⟨rfl, rfl⟩
  · obtain rfl : c = false := by cases c; rfl; exact absurd (hc.1 rfl).1 h1
    clear hc
    go_enter Try.func59, Try.ntmps59
    go_wp2
    go_ret
    exact ⟨rfl, rfl⟩

theorem sizeF_no {n v : Int} (h : canB n v = false) : sizeF n v = 0 := by unfold sizeF; rw [h]; rfl
theorem mul_le {n v : Int} (h : 0 ≤ n ∧ n ≤ 65536 ∧ 0 ≤ v ∧ v ≤ 64) : 0 ≤ n * v ∧ n * v ≤ 4194304 := by
  obtain ⟨a, rfl⟩ := Int.eq_ofNat_of_zero_le h.1
  obtain ⟨b, rfl⟩ := Int.eq_ofNat_of_zero_le h.2.2.1
  have := Nat.mul_le_mul (show a ≤ 65536 by omega) (show b ≤ 64 by omega)
  have e : (a : Int) * (b : Int) = ((a * b : Nat) : Int) := by simp
  omega
theorem sizeF_yes {n v : Int} (h : canB n v = true) : sizeF n v = (n * v + 7) / 8 := by
  unfold sizeF; rw [if_pos h]
  have h' := (canB_iff n v).1 h
  obtain ⟨a, rfl⟩ := Int.eq_ofNat_of_zero_le h'.1
  obtain ⟨b, rfl⟩ := Int.eq_ofNat_of_zero_le h'.2.2.1
  unfold sizeN
  simp
theorem sizeF_bd (n v : Int) : 0 ≤ sizeF n v ∧ sizeF n v ≤ 524288 := by
  cases h : canB n v with
  | true => rw [sizeF_yes h]; have := mul_le ((canB_iff n v).1 h); omega
  | false => rw [sizeF_no h]; omega

theorem size_any (n v : Int) (w : World) : Calls Try.prog 49 #[.int .i64 n, .int .i64 v] w fun e w' => e = .returned (.int .i64 (sizeF n v)) ∧ w = w' := by
  cases h : canB n v with
  | false =>
    rw [sizeF_no h]
    have hb : ∀ w, Calls Try.prog 47 #[.int .i64 n, .int .i64 v] w fun e w' => e = .returned (.bool false) ∧ w = w' := fun w => by have := can_any n v w; rwa [h] at this
    have HB := Lib.hid hb
    clear h hb
    go_enter Try.func49, Try.ntmps49
    go_wp2_with (go_at_call 47; refine (HB.out _).mono ?_; rintro e w' ⟨rfl, rfl⟩)
    go_ret
    exact ⟨rfl, rfl⟩
  | true =>
    have hm := mul_le ((canB_iff n v).1 h)
    have HS := Lib.hid (sizeF_yes h)
    have hb : ∀ w, Calls Try.prog 47 #[.int .i64 n, .int .i64 v] w fun e w' => e = .returned (.bool true) ∧ w = w' := fun w => by have := can_any n v w; rwa [h] at this
    have HB := Lib.hid hb
    clear h hb
    generalize sizeF n v = s at HS ⊢
    obtain ⟨m, hmm⟩ : ∃ m, n * v = m := ⟨_, rfl⟩
    rw [hmm] at hm HS
    go_enter Try.func49, Try.ntmps49
    go_wp2_with (go_at_call 47; refine (HB.out _).mono ?_; rintro e w' ⟨rfl, rfl⟩)
    go_ret
    exact ⟨ret_int (by rw [HS.out]; omega), rfl⟩

theorem rsize_any (n v : Int) (w : World) : Calls Try.prog 41 #[.int .i64 n, .int .i64 v] w fun e w' => e = .returned (.int .i64 (sizeF n v)) ∧ w = w' := by
  cases h : canB n v with
  | false =>
    rw [sizeF_no h]
    have hb : ∀ w, Calls Try.prog 59 #[.int .i64 n, .int .i64 v] w fun e w' => e = .returned (.bool false) ∧ w = w' := fun w => by have := may_any n v w; rwa [h] at this
    have HB := Lib.hid hb
    clear h hb
    go_enter Try.func41, Try.ntmps41
    go_wp2_with (go_at_call 59; refine (HB.out _).mono ?_; rintro e w' ⟨rfl, rfl⟩)
    go_ret
    exact ⟨rfl, rfl⟩
  | true =>
    have hm := mul_le ((canB_iff n v).1 h)
    have HS := Lib.hid (sizeF_yes h)
    have hb : ∀ w, Calls Try.prog 59 #[.int .i64 n, .int .i64 v] w fun e w' => e = .returned (.bool true) ∧ w = w' := fun w => by have := may_any n v w; rwa [h] at this
    have HB := Lib.hid hb
    clear h hb
    generalize sizeF n v = s at HS ⊢
    obtain ⟨m, hmm⟩ : ∃ m, n * v = m := ⟨_, rfl⟩
    rw [hmm] at hm HS
    go_enter Try.func41, Try.ntmps41
    go_wp2_with (go_at_call 59; refine (HB.out _).mono ?_; rintro e w' ⟨rfl, rfl⟩)
    go_ret
    exact ⟨ret_int (by rw [HS.out]), rfl⟩

/-- the bits of the last byte that belong to no number -/
def unF (n v : Int) : Int := 8 * sizeF n v - n * v
theorem un_any (n v : Int) (w : World) (h : canB n v = true) : Calls Try.prog 51 #[.int .i64 n, .int .i64 v] w fun e w' => e = .returned (.int .i64 (unF n v)) ∧ w = w' := by
  have hm := mul_le ((canB_iff n v).1 h)
  have hs := sizeF_bd n v
  have HB : Hid (∀ w, Calls Try.prog 49 #[.int .i64 n, .int .i64 v] w fun e w' => e = .returned (.int .i64 (sizeF n v)) ∧ w = w') := Lib.hid (size_any n v)
  unfold unF
  generalize sizeF n v = s at hs HB ⊢
  obtain ⟨m, hmm⟩ : ∃ m, n * v = m := ⟨_, rfl⟩
  rw [hmm] at hm ⊢
  clear h
  go_enter Try.func51, Try.ntmps51
  go_wp2_with (go_at_call 49; refine (HB.out _).mono ?_; rintro e w' ⟨rfl, rfl⟩)
  go_ret
  exact ⟨ret_int (by omega), rfl⟩
theorem unF_bd {n v : Int} (h : canB n v = true) : 0 ≤ unF n v ∧ unF n v < 8 := by
  unfold unF; rw [sizeF_yes h]; omega
end Go.Proofs.Ytpcilohiokpmnaa.Pk
