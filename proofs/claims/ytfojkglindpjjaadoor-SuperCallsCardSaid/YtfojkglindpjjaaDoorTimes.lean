/-
  The statements' Times, on strings of one byte.
-/
import Derived.Test.YtfojkglindpjjaaDoorStr
import Derived.Laws.Concat
namespace Go.Proofs.YtfojkglindpjjaaDoor.Dv
open Go.RowKit Bs

theorem ret_str {a b : ByteArray} (h : a = b) : Ending.returned (.string a) = .returned (.string b) := by rw [h]

def rep (n : Nat) (x : Int) : List Int := List.replicate n x
theorem rep_add (a b : Nat) (x : Int) : rep a x ++ rep b x = rep (a + b) x := by simp [rep, List.replicate_append_replicate]
theorem rep_isB (n : Nat) (x : Int) (h : 0 ≤ x ∧ x < 256) : IsB (rep n x) := isB_rep n x h
theorem rep_len (n : Nat) (x : Int) : (rep n x).length = n := by simp [rep]
def strep (n : Nat) (x : Int) : ByteArray := strOfNums (rep n x)
theorem strep_add (a b : Nat) (x : Int) : strep a x ++ strep b x = strep (a + b) x := by unfold strep; rw [str_append, rep_add]
theorem strep_size (n : Nat) (x : Int) : (strep n x).size = n := by unfold strep; rw [strOfNums_size, rep_len]
theorem strep_zero (x : Int) : strep 0 x = ⟨#[]⟩ := rfl

theorem dbl (m c n N : Nat) (h : m + c * n = N) : m + (c + c) * (n / 2) + c * (n % 2) = N := by
  have h1 : c * n = c * (2 * (n / 2) + n % 2) := by rw [Nat.div_add_mod]
  rw [Nat.mul_add, ← Nat.mul_assoc, Nat.mul_comm c 2] at h1
  have h2 : (c + c) * (n / 2) = 2 * c * (n / 2) := by rw [← Nat.two_mul]
  omega

set_option maxRecDepth 100000 in
set_option maxHeartbeats 1000000 in
theorem times_any (x : Int) (N : Nat) (w : World) (hN : N ≤ 100000000) :
    Calls Tryd.prog 29 #[.string (strep 1 x), .int .i64 N] w fun e w' => e = .returned (.string (strep N x)) ∧ w = w' := by
  have z := strep_zero x
  have HZ := Lib.hid z
  clear z
  go_enter Tryd.func29, Tryd.ntmps29
  go_wp2
  rw [← HZ.out]
  go_loop [0, 1, 5] (fun sv nv ov => ∃ c n m : Nat, sv = .string (strep c x) ∧ nv = .int .i64 n ∧ ov = .string (strep m x) ∧ n ≤ N ∧ Hid (m + c * n = N)) (fun _ nv _ => (intOf nv).toNat)
  case atStart => exact ⟨1, N, 0, rfl, rfl, rfl, Nat.le_refl _, Lib.hid (by omega)⟩
  case round =>
    obtain ⟨c, n, m, rfl, rfl, rfl, hn, HI⟩ := hrel
    by_cases h0 : 0 < n
    · have HD := Lib.hid (dbl m c n N HI.out)
      have hc : c ≤ N := by
        have h1 := HI.out
        have h2 : c * 1 ≤ c * n := Nat.mul_le_mul_left _ h0
        omega
      have hm : m ≤ N := by have h1 := HI.out; omega
      have hb1 : ¬ 9223372036854775807 < (strep m x).size + (strep c x).size := by rw [strep_size, strep_size]; omega
      have hb2 : ¬ 9223372036854775807 < (strep c x).size + (strep c x).size := by rw [strep_size]; omega
      have E2 := Lib.hid (show (n : Int) / 2 = ((n / 2 : Nat) : Int) by omega)
      by_cases h1 : n % 2 = 1
      · have e1 : ((n : Int) % 2 == 1) = true := beq_iff_eq.2 (by omega)
        rw [h1] at HD
        clear h1
        go_wp2
        go_round
        case rel => exact ⟨c + c, n / 2, m + c, by rw [strep_add], by rw [E2.out], by rw [strep_add], by omega, Lib.hid (by have := HD.out; omega)⟩
        case measure => simp [intOf]; omega
      · have e1 : ((n : Int) % 2 == 1) = false := beq_eq_false_iff_ne.2 (by omega)
        rw [show n % 2 = 0 from by omega] at HD
        clear h1
        go_wp2
        go_round
        case rel => exact ⟨c + c, n / 2, m, by rw [strep_add], by rw [E2.out], rfl, by omega, Lib.hid (by have := HD.out; omega)⟩
        case measure => simp [intOf]; omega
    · obtain rfl : n = 0 := by omega
      have HE := Lib.hid (show m = N by have := HI.out; omega)
      clear h0
      go_wp2
      go_ret
      exact ⟨ret_str (by rw [HE.out]), rfl⟩

end Go.Proofs.YtfojkglindpjjaaDoor.Dv
