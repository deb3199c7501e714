/-
  Put, Get, Kind as one contract each, their answers under names of their own.
-/
import Derived.Test.YtfojkglindpjjaaDoorFrLives
namespace Go.Proofs.YtfojkglindpjjaaDoor.Fr
open Go.RowKit Bs Dv
open Oct (putB)

theorem put_any (n : Int) (f : Fm) (w : World) (hf : FmOk f) :
    Calls Tryd.prog 35 #[.int .i64 n, .agg #[.int .u8 f.1, .int .u64 f.2.1, .string (strOfNums f.2.2)]] w fun e w' => e = strE (putF n f) ∧ w.grownBy w' none := by
  by_cases h1 : Fits n
  · by_cases h2 : n - 16 < f.2.2.length
    · exact put_no n f.1 f.2.1 f.2.2 w (.inr ⟨h1, h2⟩)
    · have hn : ((n.toNat : Nat) : Int) = n := by unfold Fits at h1; omega
      have h := put_yes n.toNat f.1 f.2.1 f.2.2 w hf.1 hf.2.1 hf.2.2 (by rw [hn]; exact h1) (by omega)
      rw [hn] at h
      refine h.mono fun e w' ⟨a, b⟩ => ⟨?_, b⟩
      rw [a]
      unfold putF
      rw [if_neg (by simpa using h1), if_neg h2]
  · exact put_no n f.1 f.2.1 f.2.2 w (.inl h1)

theorem below_of {w w' : World} (h : w.grownBy w' none) : Below w.heap.size w w' := ⟨h.os, h.tape, h.output, h.size, fun k hk => h.block k hk (by simp)⟩
theorem kind_get (b : List Int) (t : Int) (f : Fm) (h : getF b = (f, 0)) : kindF b t = if f.1 = t then (f, 0) else (none3, 11) := by
  unfold kindF
  rw [h]
  by_cases e : f.1 = t
  · simp [e]
  · simp [e]
theorem kind_err (b : List Int) (t e : Int) (h : getF b = (none3, e)) (he : e ≠ 0) : kindF b t = (none3, e) := by
  unfold kindF
  rw [h]
  simp [he]
end Go.Proofs.YtfojkglindpjjaaDoor.Fr
