/-
  The document's numbers as bytes: shadowbookref01's Put and Of.
-/
import Derived.Test.YtkinmcnmdfpjbaaBase
import Derived.Test.YtkinmcnmdfpjbaaOctNum
import Derived.Laws.Bits128
import Derived.Lib.SmallJoins
namespace Go.Proofs.Ytkinmcnmdfpjbaa.Ref1
open Go.RowKit Go.Joins Bs Oct
/-- bytes, told in Oct's word -/
theorem isB_of {l : List Int} (h : Bs.IsB l) : Oct.IsB l := h

theorem putB_snoc (k : Nat) (v : Int) : putB (k + 1) v = putB k v ++ [v / 2 ^ (8 * k) % 256] := by
  rw [putB_succ_last, Int.pow_mul]
  rfl

theorem or_add (acc x : Int) (s : Nat) (h0 : 0 ≤ acc) (h1 : acc < 2 ^ s) (h2 : 0 ≤ x) (h3 : x * 2 ^ s < 18446744073709551616) (h4 : s < 64) : bits BinOp.or IntKind.u64 acc (x * 2 ^ s) = acc + x * 2 ^ s := by
  have hp : (0 : Int) < 2 ^ s := Int.pow_pos (by decide)
  have h5 : 0 ≤ x * 2 ^ s := Int.mul_nonneg h2 (Int.le_of_lt hp)
  have h6 : (2 : Int) ^ s ≤ 2 ^ 63 := by exact_mod_cast Nat.pow_le_pow_right (by decide : 0 < 2) (by omega : s ≤ 63)
  have h7 : (2 : Int) ^ 63 = 9223372036854775808 := by decide
  rw [u64_or acc _ h0 (by omega) h5 h3]
  obtain ⟨a, rfl⟩ := Int.eq_ofNat_of_zero_le h0
  obtain ⟨y, rfl⟩ := Int.eq_ofNat_of_zero_le h2
  have e : (y : Int) * 2 ^ s = ((2 ^ s * y : Nat) : Int) := by rw [Nat.mul_comm, Int.natCast_mul, Int.natCast_pow]; rfl
  rw [e, Int.toNat_natCast, Int.toNat_natCast, Nat.or_comm, ← Nat.two_pow_add_eq_or_of_lt (by exact_mod_cast h1), Int.natCast_add, Int.add_comm]

/-- One byte more. -/
theorem of_step (l : List Int) (k : Nat) (hk : k < l.length) (hb : Oct.IsB l) (h8 : l.length ≤ 8) :
    0 ≤ ofB (l.take k) ∧ ofB (l.take k) < 2 ^ (8 * k) ∧ 0 ≤ l.getD k 0 ∧ l.getD k 0 < 256 ∧ l.getD k 0 * 2 ^ (8 * k) < 18446744073709551616 ∧ 0 ≤ l.getD k 0 * 2 ^ (8 * k) ∧ ofB (l.take (k + 1)) = ofB (l.take k) + l.getD k 0 * 2 ^ (8 * k) := by
  have e : ∀ i : Nat, (256 : Int) ^ i = 2 ^ (8 * i) := fun i => by rw [Int.pow_mul]; rfl
  have h1 := ofB_bound (l.take k) (fun x hx => hb x (List.mem_of_mem_take hx))
  have hlk : (l.take k).length = k := by rw [List.length_take]; omega
  rw [hlk, e] at h1
  have hg : l.getD k 0 = l[k] := by simp [List.getD, hk]
  have h2 := hb (l[k]) (List.getElem_mem hk)
  rw [hg]
  have hp : (0 : Int) < 2 ^ (8 * k) := Int.pow_pos (by decide)
  have h3 : l[k] * 2 ^ (8 * k) < 256 * 2 ^ (8 * k) := Int.mul_lt_mul_of_pos_right h2.2 hp
  have h4 : (256 : Int) * 2 ^ (8 * k) ≤ 18446744073709551616 := by
    have : (256 : Int) * 2 ^ (8 * k) = 2 ^ (8 + 8 * k) := by rw [Int.pow_add]; rfl
    rw [this]
    have h5 : (2 : Nat) ^ (8 + 8 * k) ≤ 18446744073709551616 := Nat.le_trans (Nat.pow_le_pow_right (by decide : 0 < 2) (by omega : 8 + 8 * k ≤ 64)) (by decide)
    have h6 : ((2 ^ (8 + 8 * k) : Nat) : Int) ≤ 18446744073709551616 := by omega
    rw [Int.natCast_pow] at h6
    exact h6
  refine ⟨h1.1, h1.2, h2.1, h2.2, by omega, Int.mul_nonneg h2.1 (Int.le_of_lt hp), ?_⟩
  rw [List.take_succ_eq_append_getElem hk, ofB_snoc, hlk, e]

/-- Memory of the call's own from base on, that reads as l. -/
def GrowB (base : Nat) (w : World) (l : List Int) (n : Nat) (e : Ending) (w' : World) : Prop :=
  ∃ g c, e = .returned (.slice (some ⟨g, 0, none⟩) n c) ∧ w'.ownsRow base 5 1 (.slice (some ⟨g, 0, none⟩) n c) n (l.map (Value.int .u8)) ∧ Below base w w'

end Go.Proofs.Ytkinmcnmdfpjbaa.Ref1
