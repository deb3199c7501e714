/-
  check: Get's error.
-/
import Derived.Test.YtpcilohiokpmnaaPkTake
namespace Go.Proofs.Ytpcilohiokpmnaa.Pk
open Go.RowKit Bs

theorem get_no_can {b : List Int} {n w : Int} (h : canB n w = false) : getR b n w = (2, []) := by unfold getR; rw [h]; rfl
theorem sizeF_N {n v : Nat} (h : canB n v = true) : sizeF n v = (sizeN n v : Int) := by unfold sizeF; rw [if_pos h]; rfl
theorem get_no_len {b : List Int} {n w : Nat} (h : canB n w = true) (hl : ¬ b.length = sizeN n w) : getR b n w = (4, []) := by
  unfold getR; rw [if_pos h, if_neg (fun k => hl (by simpa using k.1))]
theorem get_no_bits {b : List Int} {n w : Nat} (h : canB n w = true) (hl : ¬ packN 8 b / 2 ^ (n * w) = 0) : getR b n w = (4, []) := by
  unfold getR; rw [if_pos h, if_neg (fun k => hl (by simpa using k.2))]
theorem get_yes {b : List Int} {n w : Nat} (h : canB n w = true) (hl : b.length = sizeN n w) (hz : packN 8 b / 2 ^ (n * w) = 0) : getR b n w = (0, getL w (packN 8 b) n) := by
  unfold getR; rw [if_pos h, if_pos (by rw [Int.toNat_natCast, Int.toNat_natCast]; exact ⟨hl, hz⟩)]; simp

set_option maxHeartbeats 1000000 in
theorem check_any (a : Option Addr) (len c : Nat) (l : List Int) (n v : Int) (w : World) (hs : Seg w a len c l) (hb : Fit 8 l) :
    Calls Try.prog 70 #[.slice a len c, .int .i64 n, .int .i64 v] w fun e w' => e = .returned (.int .i64 (getR l n v).1) ∧ ∃ q, w' = w.drewN q := by
  have hm := hs.cap
  have hle := hs.le
  unfold maxLen at hm
  cases hc : canB n v with
  | false =>
    rw [get_no_can hc]
    have HB : Hid (∀ w, Calls Try.prog 47 #[.int .i64 n, .int .i64 v] w fun e w' => e = .returned (.bool false) ∧ w = w') := Lib.hid (fun w => by have := can_any n v w; rwa [hc] at this)
    clear hc hs hb
    go_enter Try.func70, Try.ntmps70
    go_wp2_with (go_at_call 47; refine (HB.out _).mono ?_; rintro e w' ⟨rfl, rfl⟩)
    go_ret
    exact ⟨rfl, 0, rfl⟩
  | true =>
    have hc' := (canB_iff n v).1 hc
    have HB : Hid (∀ w, Calls Try.prog 47 #[.int .i64 n, .int .i64 v] w fun e w' => e = .returned (.bool true) ∧ w = w') := Lib.hid (fun w => by have := can_any n v w; rwa [hc] at this)
    obtain ⟨n, rfl⟩ := Int.eq_ofNat_of_zero_le hc'.1
    obtain ⟨v, rfl⟩ := Int.eq_ofNat_of_zero_le hc'.2.2.1
    have HS : Hid (∀ w, Calls Try.prog 49 #[.int .i64 n, .int .i64 v] w fun e w' => e = .returned (.int .i64 (sizeN n v : Int)) ∧ w = w') := Lib.hid (fun w => by have := size_any n v w; rwa [sizeF_N hc] at this)
    by_cases hl : len = sizeN n v
    · have hsz := sizeF_bd n v
      rw [sizeF_N hc] at hsz
      have hu := unF_bd hc
      obtain ⟨u, hue⟩ := Int.eq_ofNat_of_zero_le hu.1
      have hue2 : unF n v = 8 * (sizeN n v : Int) - (n : Int) * (v : Int) := by unfold unF; rw [sizeF_N hc]
      have HU : Hid (∀ w, Calls Try.prog 51 #[.int .i64 n, .int .i64 v] w fun e w' => e = .returned (.int .i64 (u : Int)) ∧ w = w') := Lib.hid (fun w => by have := un_any n v w hc; rwa [hue] at this)
      have hmb := mul_le hc'
      obtain ⟨p, hp⟩ : ∃ p, n * v = p := ⟨_, rfl⟩
      have hpi : (n : Int) * (v : Int) = (p : Int) := by rw [← Int.natCast_mul, hp]
      rw [hpi] at hmb hue2
      have hpu : p + u = 8 * sizeN n v := by omega
      have HT : Hid (∀ w', Seg w' a len c l → Calls Try.prog 72 #[.slice a len c, .int .i64 p, .int .i64 u] w' fun e w2 => e = .returned (.int .u64 ((packN 8 l / 2 ^ p : Nat) : Int)) ∧ ∃ q, w2 = w'.drewN q) := Lib.hid (fun w' hs' => by
        have h := take_any a len c l p u w' hs' hb (by omega) (by omega) (by omega)
        have e : packN 8 l / 2 ^ p % 2 ^ u = packN 8 l / 2 ^ p := by
          refine Nat.mod_eq_of_lt ?_
          have h1 := packN_lt 8 l hb
          rw [hs.len, hl, Nat.mul_comm, ← hpu, Nat.pow_add] at h1
          exact Nat.div_lt_of_lt_mul h1
        rwa [e] at h)
      have HT2 := Lib.hid (HT.out w hs)
      have HR : Hid ((getR l n v).1 = if packN 8 l / 2 ^ p = 0 then 0 else 4) := Lib.hid (by
        split
        · rename_i hz; rw [get_yes hc (hs.len.trans hl) (by rw [hp]; exact hz)]
        · rename_i hz; rw [get_no_bits hc (by rw [hp]; exact hz)])
      generalize (getR l n v).1 = E at HR ⊢
      have hpk : packN 8 l / 2 ^ p < 18446744073709551616 := by
        have h1 := packN_lt 8 l hb
        rw [hs.len, hl, Nat.mul_comm, ← hpu, Nat.pow_add] at h1
        have h2 := Nat.div_lt_of_lt_mul h1
        have h3 : 2 ^ u ≤ 2 ^ 64 := Nat.pow_le_pow_right (by decide) (by omega)
        omega
      generalize packN 8 l / 2 ^ p = Z at HT2 HR hpk
      have e0 : ((len : Int) == ((sizeN n v : Nat) : Int)) = true := beq_iff_eq.2 (by omega)
      have e1 : ((len : Int) != ((sizeN n v : Nat) : Int)) = false := by simp; omega
      generalize sizeN n v = S at *
      clear hp hc hc' hs hb HT hue hue2 hu hpu hl
      by_cases hz : Z = 0
      · subst hz
        have HE : Hid (E = 0) := Lib.hid (by rw [HR.out]; rfl)
        go_enter Try.func70, Try.ntmps70
        go_wp2_with (first
          | (go_at_call 47; refine (HB.out _).mono ?_; rintro e w' ⟨rfl, rfl⟩)
          | (go_at_call 49; refine (HS.out _).mono ?_; rintro e w' ⟨rfl, rfl⟩)
          | (go_at_call 51; refine (HU.out _).mono ?_; rintro e w' ⟨rfl, rfl⟩)
          | (go_at_call 72; refine HT2.out.mono ?_; rintro e w' ⟨rfl, q, rfl⟩))
        go_ret
        exact ⟨ret_int (by rw [HE.out]), _, rfl⟩
      · have HE : Hid (E = 4) := Lib.hid (by rw [HR.out, if_neg hz])
        have f0 : ((Z : Int) == 0) = false := by simp; omega
        have f1 : ((Z : Int) != 0) = true := by simp; omega
        clear hz
        go_enter Try.func70, Try.ntmps70
        go_wp2_with (first
          | (go_at_call 47; refine (HB.out _).mono ?_; rintro e w' ⟨rfl, rfl⟩)
          | (go_at_call 49; refine (HS.out _).mono ?_; rintro e w' ⟨rfl, rfl⟩)
          | (go_at_call 51; refine (HU.out _).mono ?_; rintro e w' ⟨rfl, rfl⟩)
          | (go_at_call 72; refine HT2.out.mono ?_; rintro e w' ⟨rfl, q, rfl⟩))
        go_ret
        exact ⟨ret_int (by rw [HE.out]), _, rfl⟩
    · have e0 : ((len : Int) == ((sizeN n v : Nat) : Int)) = false := by simp; omega
      have e1 : ((len : Int) != ((sizeN n v : Nat) : Int)) = true := by simp; omega
      rw [get_no_len hc (by rw [hs.len]; exact hl)]
      generalize sizeN n v = S at *
      clear hc hc' hs hb hl
      go_enter Try.func70, Try.ntmps70
      go_wp2_with (first
        | (go_at_call 47; refine (HB.out _).mono ?_; rintro e w' ⟨rfl, rfl⟩)
        | (go_at_call 49; refine (HS.out _).mono ?_; rintro e w' ⟨rfl, rfl⟩))
      go_ret
      exact ⟨rfl, 0, rfl⟩
end Go.Proofs.Ytpcilohiokpmnaa.Pk
