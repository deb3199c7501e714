/-
  OctetLengths: a number of any length has a byte for each seven bits.
-/
import Derived.Test.YtjjkckocdenncaaOctKit
namespace Go.Proofs.Ytjjkckocdenncaa.Oct
open Go.RowKit

theorem varB_mono (k : Nat) : ∀ (x y : Int), 0 ≤ x → x ≤ y → (varB k x).length ≤ (varB k y).length := by
  induction k with
  | zero => intro x y _ _; simp [varB]
  | succ k ih =>
    intro x y h0 h
    simp only [varB]
    by_cases hx : x < 128
    · rw [if_pos hx]
      split <;> simp
    · rw [if_neg hx, if_neg (by omega)]
      simp only [List.length_cons]
      exact Nat.succ_le_succ (ih _ _ (by omega) (by omega))

theorem len_of_bits (v : Int) (m : Nat) (h0 : 0 ≤ v) (h : HasBits v m) : ((if m = 0 then 1 else (m + 6) / 7 : Nat) : Int) = ((varB 9 v).length : Int) := by
  obtain ⟨b0, b1, b2, b3⟩ := h
  rw [Int.toNat_natCast] at b2 b3
  by_cases hm : m = 0
  · subst hm
    have : v = 0 := by simp at b2; omega
    subst this
    rfl
  · rw [if_neg hm]
    have b4 := b3 (by omega)
    rw [varB_len 9 v ((m + 6) / 7) h0 (by omega) (by omega)]
    · have e : (128 : Int) ^ ((m + 6) / 7) = 2 ^ (7 * ((m + 6) / 7)) := by rw [Int.pow_mul]; rfl
      rw [e]
      have : (2 : Int) ^ m ≤ 2 ^ (7 * ((m + 6) / 7)) := by exact_mod_cast Nat.pow_le_pow_right (by decide : 0 < 2) (by omega : m ≤ 7 * ((m + 6) / 7))
      omega
    · intro h2
      have e : (128 : Int) ^ ((m + 6) / 7 - 1) = 2 ^ (7 * ((m + 6) / 7 - 1)) := by rw [Int.pow_mul]; rfl
      rw [e]
      have h3 : (2 : Int) ^ (7 * ((m + 6) / 7 - 1)) ≤ 2 ^ (m - 1) := by exact_mod_cast Nat.pow_le_pow_right (by decide : 0 < 2) (by omega : 7 * ((m + 6) / 7 - 1) ≤ m - 1)
      omega

theorem bl_zero (f : Nat) : bl f 0 = 0 := by cases f <;> simp [bl]

/-- The loop that counts bits: behind k rounds v is left. -/
def CInv (x : Int) (k : Nat) (v : Int) : Prop := k ≤ 64 ∧ 0 ≤ v ∧ v < 2 ^ (64 - k) ∧ bl (64 - k) v.toNat + k = bl 64 x.toNat
theorem CInv.start (x : Int) (h0 : 0 ≤ x) (h1 : x < 18446744073709551616) : CInv x 0 x := ⟨by decide, h0, h1, rfl⟩
theorem CInv.bd {x : Int} {k : Nat} {v : Int} (h : CInv x k v) : v < 18446744073709551616 := by
  have : (2 : Int) ^ (64 - k) ≤ 2 ^ 64 := by
    have h5 : ((2 ^ (64 - k) : Nat) : Int) ≤ ((2 ^ 64 : Nat) : Int) := Int.ofNat_le.2 (Nat.pow_le_pow_right (by decide) (by omega))
    rw [Int.natCast_pow, Int.natCast_pow] at h5
    exact h5
  exact Int.lt_of_lt_of_le h.2.2.1 this
theorem CInv.step {x : Int} {k : Nat} {v : Int} (h : CInv x k v) (hv : 0 < v) : k + 1 ≤ 64 ∧ CInv x (k + 1) (v / 2) := by
  obtain ⟨h1, h2, h3, h4⟩ := h
  have hk : k ≠ 64 := by
    intro e
    subst e
    simp at h3
    omega
  have e : 64 - k = (64 - (k + 1)) + 1 := by omega
  refine ⟨by omega, by omega, by omega, ?_, ?_⟩
  · rw [e, Int.pow_succ] at h3
    exact Int.ediv_lt_of_lt_mul (by decide) h3
  · generalize bl 64 x.toNat = B at h4 ⊢
    rw [e, bl, if_neg (by omega)] at h4
    have : (v / 2).toNat = v.toNat / 2 := by omega
    rw [this]
    omega
theorem CInv.last {x : Int} {k : Nat} (h : CInv x k 0) (h0 : 0 ≤ x) (h1 : x < 18446744073709551616) : HasBits x k := by
  have e := h.2.2.2
  simp only [Int.toNat_zero, bl_zero, Nat.zero_add] at e
  have hb := bl_spec 64 x.toNat (by omega)
  rw [← e] at hb
  obtain ⟨c1, c2, c3⟩ := hb
  have hx : ((x.toNat : Nat) : Int) = x := Int.toNat_of_nonneg h0
  refine ⟨by omega, by omega, ?_, fun hk => ?_⟩
  · rw [Int.toNat_natCast]
    have h5 : ((x.toNat : Nat) : Int) < ((2 ^ k : Nat) : Int) := Int.ofNat_lt.2 c1
    rw [Int.natCast_pow, hx] at h5
    exact h5
  · rw [Int.toNat_natCast]
    by_cases hz : x.toNat = 0
    · rw [hz, bl_zero] at e
      omega
    · have h5 : ((2 ^ (k - 1) : Nat) : Int) ≤ ((x.toNat : Nat) : Int) := Int.ofNat_le.2 (c2 (by omega)).2
      rw [Int.natCast_pow, hx] at h5
      exact h5

theorem ret_bool {b : Bool} (h : b = true) : Ending.returned (.bool b) = .returned (.bool true) := by rw [h]

set_option maxHeartbeats 4000000 in
theorem lengths_any (a b : Int) (w : World) (a0 : -9223372036854775808 ≤ a) (a1 : a ≤ 9223372036854775807) (b0 : -9223372036854775808 ≤ b) (b1 : b ≤ 9223372036854775807) :
    Calls Try.prog 6 #[.int .i64 a, .int .i64 b] w fun e w' => e = .returned (.bool true) ∧ w.grownBy w' none := by
  have xb := zig_bound a a0 a1
  have yb := zig_bound b b0 b1
  have HZA := Lib.hid (fun w => zig_any a w a0 a1)
  have HZB := Lib.hid (fun w => zig_any b w b0 b1)
  have HXA : Hid (∀ w, Calls Try.prog 16 #[.int .u64 (zig a)] w fun e w' => e = .returned (.int .i64 a) ∧ w = w') := Lib.hid (fun w => by have := zag_any (zig a) w xb.1 xb.2; rwa [zag_zig] at this)
  have HXB : Hid (∀ w, Calls Try.prog 16 #[.int .u64 (zig b)] w fun e w' => e = .returned (.int .i64 b) ∧ w = w') := Lib.hid (fun w => by have := zag_any (zig b) w yb.1 yb.2; rwa [zag_zig] at this)
  have HL := Lib.hid (fun h : zig a ≤ zig b => varB_mono 9 (zig a) (zig b) xb.1 h)
  have e1 : (zig a == zig b) = (a == b) := by unfold zig; split <;> split <;> (rw [Bool.eq_iff_iff]; simp; omega)
  have e2 : (zig a % 2 == 1) = decide (a < 0) := by unfold zig; split <;> (rw [Bool.eq_iff_iff]; simp; omega)
  have HE1 := Lib.hid e1
  have HE2 := Lib.hid e2
  clear e1 e2
  obtain ⟨x, hx⟩ : ∃ x, x = zig a := ⟨_, rfl⟩
  obtain ⟨y, hy⟩ : ∃ y, y = zig b := ⟨_, rfl⟩
  rw [← hx] at xb HZA HXA HL HE1 HE2
  rw [← hy] at yb HZB HXB HL HE1
  clear hx hy
  obtain ⟨x0, x1⟩ := xb
  obtain ⟨y0, y1⟩ := yb
  go_enter Try.func6, Try.ntmps6
  go_wp2_with fail
  refine (lives_any w).mono ?_
  rintro e w1 ⟨rfl, hg1⟩
  go_wp2_with fail
  refine (HZA.out _).mono ?_
  rintro e w' ⟨rfl, rfl⟩
  go_wp2_with fail
  refine (HZB.out _).mono ?_
  rintro e w' ⟨rfl, rfl⟩
  go_wp2_with fail
  refine (putVar_any none 0 0 [] x w1 (Seg.nil _) x0 x1 (by omega)).mono ?_
  rintro e w2 hn2
  obtain ⟨g2, q2, rfl, hn2⟩ := hn2.value
  go_wp2_with fail
  refine (putVar_any none 0 0 [] y w2 (Seg.nil _) y0 y1 (by omega)).mono ?_
  rintro e w3 hn3
  obtain ⟨g3, q3, rfl, hn3⟩ := hn3.value
  go_wp2_with fail
  have i2 := hn2.is
  have i3 := hn3.is
  have hg := grownBy_trans (grownBy_trans hg1 i2.2.2 (fun _ e => by cases e)) i3.2.2 (fun _ e => by cases e)
  have HG := Lib.hid hg
  have HQ2 := Lib.hid i2.1
  have HQ3 := Lib.hid i3.1
  have q2p : 1 ≤ q2 := by rw [i2.1]; exact varB_pos 9 x
  have q2b : q2 ≤ 10 := by rw [i2.1]; exact varB_le 9 x
  have q3p : 1 ≤ q3 := by rw [i3.1]; exact varB_pos 9 y
  have q3b : q3 ≤ 10 := by rw [i3.1]; exact varB_le 9 y
  clear i2 i3 hg hn2 hn3 hg1
  go_loop [9, 10] (fun sb sv => ∃ (k : Nat) (v : Int), k ≤ 64 ∧ 0 ≤ v ∧ v < 18446744073709551616 ∧ sb = .int .i64 k ∧ sv = .int .u64 v ∧ Hid (CInv x k v)) (fun sb _ => 64 - (intOf sb).toNat)
  case atStart => exact ⟨0, x, by decide, x0, x1, rfl, rfl, Lib.hid (CInv.start x x0 x1)⟩
  case round =>
    obtain ⟨k, v, hk, v0, v1, rfl, rfl, HI⟩ := hrel
    by_cases hv : 0 < v
    · obtain ⟨hk1, hst⟩ := HI.out.step hv
      have HS := Lib.hid hst
      have hbd := hst.bd
      clear hst
      go_wp2
      go_round
      case rel => exact ⟨k + 1, v / 2, hk1, by omega, hbd, by go_num, rfl, HS⟩
      case measure => simp [intOf]; omega
    · obtain rfl : v = 0 := by omega
      have hl := len_of_bits x k x0 (HI.out.last x0 x1)
      have HLen := Lib.hid hl
      clear hl
      have hs : (decide (a < 0) = true ∧ (x % 2 == 1) = true) ∨ (decide (a < 0) = false ∧ (x % 2 == 1) = false) := by
        have e := HE2.out
        by_cases ha : a < 0
        · rw [decide_eq_true ha] at e; exact .inl ⟨decide_eq_true ha, e⟩
        · rw [decide_eq_false ha] at e; exact .inr ⟨decide_eq_false ha, e⟩
      have hm : x ≤ y → decide ((q2 : Int) ≤ (q3 : Int)) = true ∧ Hid (q2 ≤ q3) := by
        intro hxy
        have e2 := HQ2.out
        have e3 := HQ3.out
        rw [List.nil_append] at e2 e3
        have := HL.out hxy
        exact ⟨decide_eq_true (by omega), Lib.hid (by omega)⟩
      have hab : ((x == y) = true ∧ (a == b) = true ∧ decide (y < x) = false ∧ decide ((q2 : Int) ≤ (q3 : Int)) = true ∧ Hid (q2 ≤ q3)) ∨ ((x == y) = false ∧ (a == b) = false ∧ decide (y < x) = false ∧ decide ((q2 : Int) ≤ (q3 : Int)) = true ∧ Hid (q2 ≤ q3)) ∨ ((x == y) = false ∧ (a == b) = false ∧ decide (y < x) = true) := by
        have e := HE1.out
        by_cases hxy : x = y
        · have h1 := beq_iff_eq.2 hxy
          exact .inl ⟨h1, e.symm.trans h1, decide_eq_false (by omega), hm (by omega)⟩
        · have h1 := beq_eq_false_iff_ne.2 hxy
          by_cases hlt : y < x
          · exact .inr (.inr ⟨h1, e.symm.trans h1, decide_eq_true hlt⟩)
          · exact .inr (.inl ⟨h1, e.symm.trans h1, decide_eq_false hlt, hm (by omega)⟩)
      have hkq : (k ≤ 7 ∧ q2 ≤ 1) ∨ (2 ≤ q2 ∧ 7 * q2 ≤ k + 6 ∧ k + 6 < 7 * q2 + 7) := by
        have e := HLen.out
        have e2 := HQ2.out
        rw [List.nil_append] at e2
        rw [← e2] at e
        by_cases hz : k = 0
        · rw [if_pos hz] at e; omega
        · rw [if_neg hz] at e; omega
      rcases hs with ⟨c1, c2⟩ | ⟨c1, c2⟩ <;> rcases hab with ⟨c3, c4, c5, c10, hq⟩ | ⟨c3, c4, c5, c10, hq⟩ | ⟨c3, c4, c5⟩ <;> rcases hkq with ⟨c7, c8⟩ | ⟨c7, c8, c9⟩
      all_goals
        clear hm
        go_wp2_with fail
        refine (HXA.out _).mono ?_
        rintro e w' ⟨rfl, rfl⟩
        go_wp2_with fail
        refine (HXB.out _).mono ?_
        rintro e w' ⟨rfl, rfl⟩
        go_wp2
      all_goals go_ret
      all_goals first
        | exact ⟨rfl, HG.out⟩
        | (exfalso; have := hq.out; omega)
end Go.Proofs.Ytjjkckocdenncaa.Oct
