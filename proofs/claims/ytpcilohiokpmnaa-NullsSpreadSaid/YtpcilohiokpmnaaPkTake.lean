/-
  take: the number in some bits of a slice of bytes.
-/
import Derived.Test.YtpcilohiokpmnaaPkWidth
import Derived.Laws.ShiftsVarLaws
import Derived.Laws.Bits64
namespace Go.Proofs.Ytpcilohiokpmnaa.Pk
open Go.RowKit Bs

theorem byte_at (l : List Int) (hb : Fit 8 l) (j : Nat) (hj : j < l.length) : (l.getD j 0).toNat = packN 8 l / 2 ^ (j * 8) % 2 ^ 8 := by
  have h := getL_packN 8 l hb
  have h2 := getL_at 8 (packN 8 l) l.length j hj
  rw [h] at h2
  rw [h2, Int.toNat_natCast]
theorem mod_div_mod (X a r k : Nat) (h : r + k ≤ a) : X % 2 ^ a / 2 ^ r % 2 ^ k = X / 2 ^ r % 2 ^ k := by
  have e : 2 ^ a = 2 ^ r * 2 ^ (a - r) := by rw [← Nat.pow_add]; congr 1; omega
  rw [e, Nat.mod_mul_right_div_self, Nat.mod_mod_of_dvd]
  exact Nat.pow_dvd_pow 2 (by omega)
theorem part_at (l : List Int) (hb : Fit 8 l) (p k : Nat) (hk : p % 8 + k ≤ 8) (hj : p / 8 < l.length) : (l.getD (p / 8) 0).toNat / 2 ^ (p % 8) % 2 ^ k = packN 8 l / 2 ^ p % 2 ^ k := by
  rw [byte_at l hb _ hj, mod_div_mod _ _ _ _ hk, Nat.div_div_eq_div_mul, ← Nat.pow_add]
  congr 3
  omega
theorem acc_at (X g k : Nat) : X % 2 ^ g + X / 2 ^ g % 2 ^ k * 2 ^ g = X % 2 ^ (g + k) := by
  rw [Nat.pow_add, Nat.mod_mul, Nat.mul_comm]
theorem or_add (v p g : Nat) (h : v < 2 ^ g) : v ||| p * 2 ^ g = v + p * 2 ^ g := by
  rw [Nat.or_comm, Nat.mul_comm, ← Nat.two_pow_add_eq_or_of_lt h, Nat.add_comm]

theorem u64w (x : Nat) (h : x < 18446744073709551616) : IntKind.u64.wrap (x : Int) = (x : Int) := by rw [IntKind.wrap_u64]; omega
theorem mask64 (d : Nat) (h : d ≤ 63) : IntKind.u64.wrap (IntKind.u64.wrap (2 ^ d) - 1) = ((2 ^ d - 1 : Nat) : Int) := by
  have h1 : 2 ^ d < 2 ^ 64 := Nat.pow_lt_pow_right (by decide) (by omega)
  have h0 := two_pos d
  have e : (2 : Int) ^ d = ((2 ^ d : Nat) : Int) := by rw [Int.natCast_pow]; rfl
  rw [e, u64w _ h1, show ((2 ^ d : Nat) : Int) - 1 = ((2 ^ d - 1 : Nat) : Int) from by omega, u64w _ (by omega)]
theorem and_mask (y d : Nat) (hy : y < 18446744073709551616) (h : d ≤ 63) : bits .and .u64 (y : Int) (IntKind.u64.wrap (IntKind.u64.wrap (2 ^ d) - 1)) = ((y % 2 ^ d : Nat) : Int) := by
  have h1 : 2 ^ d < 2 ^ 64 := Nat.pow_lt_pow_right (by decide) (by omega)
  rw [mask64 d h, u64_and_nat y _ hy (by omega), Nat.and_two_pow_sub_one_eq_mod]
theorem div_cast (x : Int) (r : Nat) (h : 0 ≤ x) : x / 2 ^ r = ((x.toNat / 2 ^ r : Nat) : Int) := by
  obtain ⟨y, rfl⟩ := Int.eq_ofNat_of_zero_le h
  rw [Int.toNat_natCast, Int.natCast_ediv, Int.natCast_pow]; rfl
theorem mul_cast (y g : Nat) : (y : Int) * 2 ^ g = ((y * 2 ^ g : Nat) : Int) := by
  rw [Int.natCast_mul, Int.natCast_pow]; rfl
theorem shl_lt (y g k m : Nat) (hy : y < 2 ^ k) (h : g + k ≤ m) : y * 2 ^ g < 2 ^ m := by
  have h1 : y * 2 ^ g < 2 ^ k * 2 ^ g := Nat.mul_lt_mul_of_pos_right hy (two_pos g)
  rw [← Nat.pow_add] at h1
  exact Nat.lt_of_lt_of_le h1 (Nat.pow_le_pow_right (by decide) (by omega))
theorem take_val (v g d r Y : Nat) (x : Int) (hx : 0 ≤ x ∧ x < 256) (hY : x.toNat / 2 ^ r % 2 ^ d = Y) (hv : v < 2 ^ g) (hg : g + d ≤ 64) (hd : d ≤ 8) :
    bits .or .u64 (v : Int) (IntKind.u64.wrap (bits .and .u64 (x / 2 ^ r) (IntKind.u64.wrap (IntKind.u64.wrap (2 ^ d) - 1)) * 2 ^ g)) = ((v + Y * 2 ^ g : Nat) : Int) := by
  have hq : x.toNat / 2 ^ r ≤ x.toNat := Nat.div_le_self _ _
  rw [div_cast x r hx.1, and_mask _ d (by omega) (by omega), hY, mul_cast]
  have hYl : Y < 2 ^ d := by rw [← hY]; exact Nat.mod_lt _ (two_pos d)
  have h2 := shl_lt Y g d 64 hYl hg
  have h3 : v < 2 ^ 64 := Nat.lt_of_lt_of_le hv (Nat.pow_le_pow_right (by decide) (by omega))
  rw [u64w _ h2, u64_or_nat v _ h3 h2, or_add v Y g hv]

set_option maxHeartbeats 1000000 in
theorem take_any (a : Option Addr) (n c : Nat) (l : List Int) (at_ m : Nat) (w : World) (hs : Seg w a n c l) (hb : Fit 8 l) (hn : n ≤ 524288) (hm : m ≤ 64) (hl : at_ + m ≤ 8 * n) :
    Calls Try.prog 72 #[.slice a n c, .int .i64 at_, .int .i64 m] w fun e w' => e = .returned (.int .u64 ((packN 8 l / 2 ^ at_ % 2 ^ m : Nat) : Int)) ∧ ∃ q, w' = w.drewN q := by
  obtain ⟨N, hN⟩ : ∃ N, packN 8 l = N := ⟨_, rfl⟩
  by_cases hm0 : m = 0
  · subst hm0
    rw [Nat.pow_zero, Nat.mod_one]
    clear hs hN hb
    go_enter Try.func72, Try.ntmps72
    go_wp2
    refine wp_loop_rounds 1 ?_
    rw [rounds_succ]
    go_wp2
    go_ret
    exact ⟨rfl, 0, rfl⟩
  · obtain ⟨g, o, rfl, hc⟩ := hs.addr (by omega)
    have HC := Lib.hid hc
    have HLen := Lib.hid hs.len
    have HB := Lib.hid hb
    have HN := Lib.hid hN
    have hmp : 0 < m := by omega
    rw [hN]
    have hcap := hs.cap
    have hle := hs.le
    unfold maxLen at hcap
    clear hs hN hb hc hm0
    go_enter Try.func72, Try.ntmps72
    go_wp2
    go_loopw [7, 8] (fun sv si wr => ∃ got v q : Nat, got ≤ m ∧ si = .int .i64 got ∧ sv = .int .u64 v ∧ wr = w.drewN q ∧ Hid (v = N / 2 ^ at_ % 2 ^ got)) (fun _ si _ => m - (intOf si).toNat)
    case atStart => exact ⟨0, 0, 0, Nat.zero_le _, rfl, rfl, rfl, Lib.hid (by rw [Nat.pow_zero, Nat.mod_one])⟩
    case round =>
      obtain ⟨got, v, q, hg, rfl, rfl, rfl, HV⟩ := hrel
      by_cases hlt : got < m
      · obtain ⟨p, hp⟩ : ∃ p, at_ + got = p := ⟨_, rfl⟩
        obtain ⟨r, hr⟩ : ∃ r, p % 8 = r := ⟨_, rfl⟩
        obtain ⟨j, hj⟩ : ∃ j, p / 8 = j := ⟨_, rfl⟩
        obtain ⟨d, hd⟩ : ∃ d, m - got = d := ⟨_, rfl⟩
        obtain ⟨k, hk⟩ : ∃ k, min d (8 - r) = k := ⟨_, rfl⟩
        have hr8 : r < 8 := by omega
        have hjn : j < n := by omega
        have q0 := HC.out j hjn
        have HP := Lib.hid (part_at l HB.out p k (by omega) (by rw [HLen.out]; omega))
        rw [hj, hr, HN.out] at HP
        have hx : 0 ≤ l.getD j 0 ∧ l.getD j 0 < 256 := by
          rw [List.getD_eq_getElem?_getD, List.getElem?_eq_getElem (by rw [HLen.out]; exact hjn)]
          exact HB.out.isB _ (List.getElem_mem _)
        generalize l.getD j 0 = x at q0 hx HP
        have HPP := Lib.hid hp
        have hgk : got + k ≤ m := by omega
        have hk1 : 1 ≤ k := by omega
        have hk8 : k ≤ 8 := by omega
        have e1 : (at_ : Int) + (got : Int) = (p : Int) := by omega
        have e2 : (p : Int) % 8 = (r : Int) := by omega
        have e3 : (p : Int) / 8 = (j : Int) := by omega
        have e4 : (m : Int) - (got : Int) = (d : Int) := by omega
        have b1 : p ≤ 4194304 := by omega
        obtain ⟨s, hs⟩ : ∃ s, 8 - r = s := ⟨_, rfl⟩
        have e5 : (8 : Int) - (r : Int) = (s : Int) := by omega
        have b2 : s ≤ 8 := by omega
        have b3 : d ≤ 64 := by omega
        have hkk : min d s = k := by omega
        clear hp hr hj hd hk hs
        by_cases hds : d ≤ s
        · obtain rfl : d = k := by omega
          clear hkk
          have HVAL := Lib.hid (take_val v got d r _ x hx HP.out (by rw [HV.out]; exact Nat.mod_lt _ (two_pos got)) (by omega) (by omega))
          have HNEW : Hid (v + N / 2 ^ p % 2 ^ d * 2 ^ got = N / 2 ^ at_ % 2 ^ (got + d)) := Lib.hid (by rw [← acc_at, ← HV.out, Nat.div_div_eq_div_mul, ← Nat.pow_add, HPP.out])
          go_wp2
          go_quiet (fail)
          go_wp2
          go_roundw
          case rel => exact ⟨got + d, v + N / 2 ^ p % 2 ^ d * 2 ^ got, q + nq, hgk, by rw [Int.natCast_add], by rw [HVAL.out], rfl, HNEW⟩
          case measure => simp [intOf]; omega
        · obtain rfl : s = k := by omega
          clear hkk
          have HVAL := Lib.hid (take_val v got s r _ x hx HP.out (by rw [HV.out]; exact Nat.mod_lt _ (two_pos got)) (by omega) (by omega))
          have HNEW : Hid (v + N / 2 ^ p % 2 ^ s * 2 ^ got = N / 2 ^ at_ % 2 ^ (got + s)) := Lib.hid (by rw [← acc_at, ← HV.out, Nat.div_div_eq_div_mul, ← Nat.pow_add, HPP.out])
          go_wp2
          go_quiet (fail)
          go_wp2
          go_roundw
          case rel => exact ⟨got + s, v + N / 2 ^ p % 2 ^ s * 2 ^ got, q + nq, hgk, by rw [Int.natCast_add], by rw [HVAL.out], rfl, HNEW⟩
          case measure => simp [intOf]; omega
      · obtain rfl : got = m := by omega
        go_wp2
        go_ret
        exact ⟨ret_int (by rw [HV.out]), q, rfl⟩
end Go.Proofs.Ytpcilohiokpmnaa.Pk
