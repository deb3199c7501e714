/-
  How many bytes a varint has: math/bits.Len64, groups.
-/
import Derived.Test.YtpcilohiokpmnaaOctWalks
import Derived.Laws.BitsAllLaws
import Derived.Laws.Bits128
namespace Go.Proofs.Ytpcilohiokpmnaa.Oct
open Go.RowKit

/-- x has n bits -/
def HasBits (x : Int) (n : Int) : Prop := 0 ≤ n ∧ n ≤ 64 ∧ x < 2 ^ n.toNat ∧ (1 ≤ n → 2 ^ (n.toNat - 1) ≤ x)

def bl : Nat → Nat → Nat
  | 0, _ => 0
  | f + 1, k => if k = 0 then 0 else bl f (k / 2) + 1
theorem bl_spec (f : Nat) : ∀ k : Nat, k < 2 ^ f → k < 2 ^ bl f k ∧ (1 ≤ k → 1 ≤ bl f k ∧ 2 ^ (bl f k - 1) ≤ k) ∧ bl f k ≤ f := by
  induction f with
  | zero => intro k hk; simp at hk; subst hk; simp [bl]
  | succ f ih =>
    intro k hk
    simp only [bl]
    by_cases h : k = 0
    · rw [if_pos h]; subst h; simp
    · rw [if_neg h]
      have := ih (k / 2) (by rw [Nat.pow_succ] at hk; omega)
      obtain ⟨h1, h2, h3⟩ := this
      refine ⟨by rw [Nat.pow_succ]; omega, fun _ => ⟨by omega, ?_⟩, by omega⟩
      rw [Nat.add_sub_cancel]
      by_cases h4 : k / 2 = 0
      · have : bl f (k / 2) = 0 := by rw [h4]; cases f <;> simp [bl]
        rw [this]; simp; omega
      · obtain ⟨h5, h6⟩ := h2 (by omega)
        rw [show bl f (k / 2) = (bl f (k / 2) - 1) + 1 from by omega, Nat.pow_succ]
        omega
def tabB (t : ByteArray) : Bool := t.size == 256 && (List.range 256).all fun k => (t.data.toList.getD k 0).toNat == bl 8 k
theorem tab_get (t : ByteArray) (ht : tabB t = true) (k : Nat) (h : k < t.size) : (t[k]'h).toNat = bl 8 k := by
  simp only [tabB, Bool.and_eq_true, beq_iff_eq, List.all_eq_true, List.mem_range] at ht
  have h2 := ht.2 k (by omega)
  rw [← h2]
  have h3 : k < t.data.toList.length := by simpa using h
  rw [List.getD_eq_getElem?_getD, List.getElem?_eq_getElem h3]
  rfl

theorem wrap_sum (S : Int) (s b : Nat) (hS : S = s) (hs' : s ≤ 56) (hb : b ≤ 8) : wrap64 (S + wrap64 (b : Int)) = ((s + b : Nat) : Int) := by
  have e1 : wrap64 (b : Int) = b := IntWalk.wrap64_in _ (by omega)
  rw [e1, IntWalk.wrap64_in _ (by omega)]
  omega

theorem bits_sum (x i : Int) (s b : Nat) (hi : i = x / 2 ^ s) (hs : s = 0 ∨ 1 ≤ i) (h0 : 0 ≤ x) (hs' : s ≤ 56) (b1 : i.toNat < 2 ^ b) (b2 : 1 ≤ i.toNat → 1 ≤ b ∧ 2 ^ (b - 1) ≤ i.toNat) (b3 : b ≤ 8) (b0 : i.toNat = 0 → b = 0) :
    HasBits x ((s + b : Nat) : Int) := by
  have hD : (0 : Int) < 2 ^ s := Int.pow_pos (by decide)
  have hi0 : 0 ≤ i := by rw [hi]; exact Int.ediv_nonneg h0 (Int.le_of_lt hD)
  have lo : i * 2 ^ s ≤ x := by rw [hi]; exact Int.ediv_mul_le _ (Int.ne_of_gt hD)
  have hi' : x < (i + 1) * 2 ^ s := by rw [hi]; exact Int.lt_ediv_add_one_mul_self _ hD
  clear hi
  have b1' : i + 1 ≤ 2 ^ b := by
    have h : ((i.toNat : Nat) : Int) + 1 ≤ ((2 ^ b : Nat) : Int) := by exact_mod_cast b1
    rw [Int.natCast_pow] at h
    have : ((i.toNat : Nat) : Int) = i := Int.toNat_of_nonneg hi0
    rw [this] at h
    exact h
  refine ⟨by omega, by omega, ?_, fun h1 => ?_⟩
  · rw [Int.toNat_natCast, Nat.add_comm, Int.pow_add]
    exact Int.lt_of_lt_of_le hi' (Int.mul_le_mul_of_nonneg_right b1' (Int.le_of_lt hD))
  · rw [Int.toNat_natCast]
    by_cases hk : 1 ≤ i
    · obtain ⟨b4, b5⟩ := b2 (by omega)
      have b5' : (2 : Int) ^ (b - 1) ≤ i := by
        have h : ((2 ^ (b - 1) : Nat) : Int) ≤ (i.toNat : Int) := by exact_mod_cast b5
        rw [Int.natCast_pow, Int.toNat_of_nonneg hi0] at h
        exact h
      rw [show s + b - 1 = (b - 1) + s from by omega, Int.pow_add]
      exact Int.le_trans (Int.mul_le_mul_of_nonneg_right b5' (Int.le_of_lt hD)) lo
    · have h2 : i.toNat = 0 := by omega
      have := b0 h2
      omega

theorem bits_fin (t : ByteArray) (ht : tabB t = true) (x S i : Int) (s : Nat) (h : i.toNat < t.size) (hS : S = s) (hi : i = x / 2 ^ s) (hs : s = 0 ∨ 1 ≤ i) (h0 : 0 ≤ x) (hs' : s ≤ 56) (hi2 : i < 256) :
    HasBits x (wrap64 (S + wrap64 ((t[i.toNat]'h).toNat : Int))) := by
  rw [tab_get t ht]
  have hb := bl_spec 8 i.toNat (by omega)
  have hb0 : i.toNat = 0 → bl 8 i.toNat = 0 := fun e => by rw [e]; rfl
  generalize bl 8 i.toNat = b at hb hb0
  rw [wrap_sum S s b hS hs' hb.2.2]
  exact bits_sum x i s b hi hs h0 hs' hb.1 hb.2.1 hb.2.2 hb0

theorem wrap_twice (b : Nat) (hb : b ≤ 8) : wrap64 (wrap64 (b : Int)) = ((0 + b : Nat) : Int) := by
  have e1 : wrap64 (b : Int) = b := IntWalk.wrap64_in _ (by omega)
  rw [e1, e1]
  omega

theorem bits_fin0 (t : ByteArray) (ht : tabB t = true) (x : Int) (h : x.toNat < t.size) (h0 : 0 ≤ x) (hi2 : x < 256) :
    HasBits x (wrap64 (wrap64 ((t[x.toNat]'h).toNat : Int))) := by
  rw [tab_get t ht]
  have hb := bl_spec 8 x.toNat (by omega)
  have hb0 : x.toNat = 0 → bl 8 x.toNat = 0 := fun e => by rw [e]; rfl
  generalize bl 8 x.toNat = b at hb hb0
  rw [wrap_twice b hb.2.2]
  exact bits_sum x x 0 b (by show x = x / 1; omega) (.inl rfl) h0 (by decide) hb.1 hb.2.1 hb.2.2 hb0

set_option maxRecDepth 100000 in
set_option maxHeartbeats 1000000 in
theorem len64_any (x : Int) (w : World) (h0 : 0 ≤ x) (h1 : x < 18446744073709551616) :
    Calls Try.prog 63 #[.int .u64 x] w fun e w' => ∃ n, e = .returned (.int .i64 n) ∧ HasBits x n ∧ w = w' := by
  by_cases a : 4294967296 ≤ x
  · by_cases b : 65536 ≤ x / 4294967296
    · by_cases c : 256 ≤ x / 4294967296 / 65536
      · have E : Hid (x / 4294967296 / 65536 / 256 = x / 2 ^ 56) := Lib.hid (by show _ = x / 72057594037927936; omega)
        have d1 : 1 ≤ x / 4294967296 / 65536 / 256 := by omega
        have d2 : x / 4294967296 / 65536 / 256 < 256 := by omega
        go_enter Try.func63, Try.ntmps63
        go_wp2
        go_ret
        exact ⟨_, rfl, bits_fin _ (by kernel_rfl) x _ _ 56 _ rfl E.out (.inr d1) h0 (by decide) d2, rfl⟩
      · have E : Hid (x / 4294967296 / 65536 = x / 2 ^ 48) := Lib.hid (by show _ = x / 281474976710656; omega)
        have d1 : 1 ≤ x / 4294967296 / 65536 := by omega
        have d2 : x / 4294967296 / 65536 < 256 := by omega
        go_enter Try.func63, Try.ntmps63
        go_wp2
        go_ret
        exact ⟨_, rfl, bits_fin _ (by kernel_rfl) x _ _ 48 _ rfl E.out (.inr d1) h0 (by decide) d2, rfl⟩
    · by_cases c : 256 ≤ x / 4294967296
      · have E : Hid (x / 4294967296 / 256 = x / 2 ^ 40) := Lib.hid (by show _ = x / 1099511627776; omega)
        have d1 : 1 ≤ x / 4294967296 / 256 := by omega
        have d2 : x / 4294967296 / 256 < 256 := by omega
        go_enter Try.func63, Try.ntmps63
        go_wp2
        go_ret
        exact ⟨_, rfl, bits_fin _ (by kernel_rfl) x _ _ 40 _ rfl E.out (.inr d1) h0 (by decide) d2, rfl⟩
      · have E : Hid (x / 4294967296 = x / 2 ^ 32) := Lib.hid (by show _ = x / 4294967296; omega)
        have d1 : 1 ≤ x / 4294967296 := by omega
        have d2 : x / 4294967296 < 256 := by omega
        go_enter Try.func63, Try.ntmps63
        go_wp2
        go_ret
        exact ⟨_, rfl, bits_fin _ (by kernel_rfl) x _ _ 32 _ rfl E.out (.inr d1) h0 (by decide) d2, rfl⟩
  · by_cases b : 65536 ≤ x
    · by_cases c : 256 ≤ x / 65536
      · have E : Hid (x / 65536 / 256 = x / 2 ^ 24) := Lib.hid (by show _ = x / 16777216; omega)
        have d1 : 1 ≤ x / 65536 / 256 := by omega
        have d2 : x / 65536 / 256 < 256 := by omega
        go_enter Try.func63, Try.ntmps63
        go_wp2
        go_ret
        exact ⟨_, rfl, bits_fin _ (by kernel_rfl) x _ _ 24 _ rfl E.out (.inr d1) h0 (by decide) d2, rfl⟩
      · have E : Hid (x / 65536 = x / 2 ^ 16) := Lib.hid (by show _ = x / 65536; omega)
        have d1 : 1 ≤ x / 65536 := by omega
        have d2 : x / 65536 < 256 := by omega
        go_enter Try.func63, Try.ntmps63
        go_wp2
        go_ret
        exact ⟨_, rfl, bits_fin _ (by kernel_rfl) x _ _ 16 _ rfl E.out (.inr d1) h0 (by decide) d2, rfl⟩
    · by_cases c : 256 ≤ x
      · have E : Hid (x / 256 = x / 2 ^ 8) := Lib.hid (by show _ = x / 256; omega)
        have d1 : 1 ≤ x / 256 := by omega
        have d2 : x / 256 < 256 := by omega
        go_enter Try.func63, Try.ntmps63
        go_wp2
        go_ret
        exact ⟨_, rfl, bits_fin _ (by kernel_rfl) x _ _ 8 _ rfl E.out (.inr d1) h0 (by decide) d2, rfl⟩
      · have d2 : x < 256 := by omega
        go_enter Try.func63, Try.ntmps63
        go_wp2
        go_ret
        exact ⟨_, rfl, bits_fin0 _ (by kernel_rfl) x _ h0 d2, rfl⟩

/-- 128 ^ k -/
theorem varB_len (k : Nat) : ∀ (v : Int) (g : Nat), 0 ≤ v → 1 ≤ g → g ≤ k + 1 → v < 128 ^ g → (2 ≤ g → 128 ^ (g - 1) ≤ v) → (varB k v).length = g := by
  induction k with
  | zero => intro v g _ h1 h2 _ _; have : g = 1 := by omega
            subst this; rfl
  | succ k ih =>
    intro v g h0 h1 h2 h3 h4
    simp only [varB]
    by_cases hg : g = 1
    · subst hg
      have h3' : v < 128 := by simpa using h3
      rw [if_pos h3']
      rfl
    · have h5 := h4 (by omega)
      have hp : (1 : Int) ≤ 128 ^ (g - 2) := Int.pow_pos (n := 128) (m := g - 2) (by decide)
      have e1 : (128 : Int) ^ (g - 1) = 128 ^ (g - 2) * 128 := by rw [← Int.pow_succ]; congr 1; omega
      have e2 : (128 : Int) ^ g = 128 ^ (g - 1) * 128 := by rw [← Int.pow_succ]; congr 1; omega
      rw [if_neg (by omega), List.length_cons, ih (v / 128) (g - 1) (by omega) (by omega) (by omega)]
      · omega
      · rw [e2] at h3
        exact Int.ediv_lt_of_lt_mul (by decide) h3
      · intro h6
        rw [show g - 1 - 1 = g - 2 from by omega]
        rw [e1] at h5
        exact (Int.le_ediv_iff_mul_le (by decide)).2 h5

theorem nat_or_one (v : Nat) : v ||| 1 = 2 * (v / 2) + 1 := by
  have h1 : v = 2 ^ 1 * (v / 2) ||| v % 2 := by
    rw [← Nat.two_pow_add_eq_or_of_lt (by omega : v % 2 < 2 ^ 1)]
    omega
  have h2 : v % 2 ||| 1 = 1 := by
    rcases Nat.mod_two_eq_zero_or_one v with h | h <;> rw [h] <;> rfl
  have h3 : v ||| 1 = 2 ^ 1 * (v / 2) ||| 1 := by
    have : (2 ^ 1 * (v / 2) ||| v % 2) ||| 1 = 2 ^ 1 * (v / 2) ||| 1 := by rw [Nat.or_assoc, h2]
    rw [← h1] at this
    exact this
  rw [h3, ← Nat.two_pow_add_eq_or_of_lt (by decide : 1 < 2 ^ 1)]

theorem or_one (v : Int) (h0 : 0 ≤ v) (h1 : v < 18446744073709551616) : bits BinOp.or IntKind.u64 v 1 = 2 * (v / 2) + 1 := by
  rw [u64_or v 1 h0 h1 (by decide) (by decide)]
  have : (1 : Int).toNat = 1 := rfl
  rw [this, nat_or_one]
  omega

theorem groups_num (v n : Int) (h0 : 0 ≤ v) (h : HasBits (2 * (v / 2) + 1) n) : 1 ≤ n ∧ (n + 6) / 7 = ((varB 9 v).length : Int) := by
  obtain ⟨b0, b1, b2, b3⟩ := h
  have hn : 1 ≤ n := by
    by_cases hz : n = 0
    · subst hz; simp at b2; omega
    · omega
  refine ⟨hn, ?_⟩
  have b4 := b3 hn
  obtain ⟨m, rfl⟩ := Int.eq_ofNat_of_zero_le b0
  rw [Int.toNat_natCast] at b2 b4
  have hg : (((m : Nat) : Int) + 6) / 7 = (((m + 6) / 7 : Nat) : Int) := by omega
  rw [hg, varB_len 9 v ((m + 6) / 7) h0 (by omega) (by omega)]
  · have e : (128 : Int) ^ ((m + 6) / 7) = 2 ^ (7 * ((m + 6) / 7)) := by rw [Int.pow_mul]; rfl
    rw [e]
    have : (2 : Int) ^ m ≤ 2 ^ (7 * ((m + 6) / 7)) := by exact_mod_cast Nat.pow_le_pow_right (by decide : 0 < 2) (by omega : m ≤ 7 * ((m + 6) / 7))
    omega
  · intro h2
    have e : (128 : Int) ^ ((m + 6) / 7 - 1) = 2 ^ (7 * ((m + 6) / 7 - 1)) := by rw [Int.pow_mul]; rfl
    rw [e]
    have h3 : (2 : Int) ^ (7 * ((m + 6) / 7 - 1)) ≤ 2 ^ (m - 1) := by exact_mod_cast Nat.pow_le_pow_right (by decide : 0 < 2) (by omega : 7 * ((m + 6) / 7 - 1) ≤ m - 1)
    have h4 : (2 : Int) ^ (7 * ((m + 6) / 7 - 1)) = 2 * 2 ^ (7 * ((m + 6) / 7 - 1) - 1) := by
      rw [Int.mul_comm, ← Int.pow_succ]
      congr 1
      omega
    omega

set_option maxHeartbeats 400000 in
theorem groups_any (v : Int) (w : World) (h0 : 0 ≤ v) (h1 : v < 18446744073709551616) :
    Calls Try.prog 45 #[.int .u64 v] w fun e w' => e = .returned (.int .i64 (varB 9 v).length) ∧ w = w' := by
  have HO := Lib.hid (or_one v h0 h1)
  have HN := Lib.hid (groups_num v · h0)
  go_enter Try.func45, Try.ntmps45
  go_wp2_with fail
  rw [HO.out]
  refine (len64_any _ _ (by omega) (by omega)).mono ?_
  rintro e w' ⟨n, rfl, hb, rfl⟩
  obtain ⟨hn, hl⟩ := HN.out n hb
  have hn2 := hb.2.1
  have HL := Lib.hid hl
  clear hl hb
  go_wp2
  go_ret
  exact ⟨ret_int (by rw [← HL.out]; try omega), rfl⟩
end Go.Proofs.Ytpcilohiokpmnaa.Oct
