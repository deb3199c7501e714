/-
  Strings and slices of strings told alike.
-/
import Derived.Test.YtkinmcnmdfpjbaaSBase
namespace Go.Proofs.Ytkinmcnmdfpjbaa.Ss
open Go.RowKit

theorem ne_toList {a b : ByteArray} (h : a ≠ b) : ¬ a.toList = b.toList := by
  rw [Go.ByteArray.toList_eq, Go.ByteArray.toList_eq]
  intro e
  apply h
  obtain ⟨⟨a⟩⟩ := a
  obtain ⟨⟨b⟩⟩ := b
  have : a = b := e
  rw [this]
theorem ne_strs {a b : List Int} (ha : Bs.IsB a) (hb : Bs.IsB b) (h : ¬ a = b) : ((strOfNums a).toList == (strOfNums b).toList) = false :=
  beq_eq_false_iff_ne.2 (ne_toList fun e => h (Dv.str_inj ha hb e))

/-- are the lists the same? -/
def sameB (a b : List (List Int)) : Bool := decide (a = b)
theorem sameB_yes {a b : List (List Int)} (h : a = b) : sameB a b = true := decide_eq_true h
theorem sameB_no {a b : List (List Int)} (h : ¬ a = b) : sameB a b = false := decide_eq_false h
theorem take_snoc_eq {a b : List (List Int)} {k : Nat} (ha : k < a.length) (hb : k < b.length) (h : a.take k = b.take k) (hg : a.getD k [] = b.getD k []) : a.take (k + 1) = b.take (k + 1) := by
  rw [List.getD_eq_getElem?_getD, List.getD_eq_getElem?_getD, List.getElem?_eq_getElem ha, List.getElem?_eq_getElem hb] at hg
  have e : a[k] = b[k] := by simpa using hg
  rw [List.take_succ_eq_append_getElem ha, List.take_succ_eq_append_getElem hb, h, e]

end Go.Proofs.Ytkinmcnmdfpjbaa.Ss
