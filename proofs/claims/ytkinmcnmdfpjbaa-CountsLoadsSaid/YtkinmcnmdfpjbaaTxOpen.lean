/-
  Slices of strings and of bytes among the arguments, opened.
-/
import Derived.Test.YtkinmcnmdfpjbaaSBase
import Derived.Deep.Strs
import Derived.ChangeSlices
import Derived.SizedLaws
namespace Go.Proofs.Ytkinmcnmdfpjbaa.Tx
open Go.ChangeShapes Go.WideShapes Go.RowKit
open Ss (IsS)

variable {H : Type} {enc : TypeId × Value → H} {w : World} {base : Nat} {spare : Nat → Bool} {held : Bool}

theorem weight_strs {P : Program} {e : TypeId} (n : Nat) : ∀ (L : List (DataW H)) (s : List UInt8), (DataW.lit (.string s)) ∈ L → s.length ∈ DataW.weightsAll P e L
  | d :: L, s, h => by
    simp only [DataW.weightsAll, List.mem_append]
    rcases List.mem_cons.1 h with e | h
    · subst e; exact .inl (by simp [DataW.weights])
    · exact .inr (weight_strs n L s h)

set_option maxRecDepth 100000 in
theorem open_strsT {r : Reach} {b0 : Nat} {v : Value} {d : DataW H} {p : List MemPlace} (hv : Value.okWide Try.prog w r b0 37 v) (h : DataW.Trod enc Try.prog w base spare held 37 v d p) (hz : ∀ n ∈ d.weights Try.prog 37, n ≤ reachBytes) :
    ∃ a n c l, v = .slice a n c ∧ Ss.Seg w a n c l ∧ IsS l := by
  obtain ⟨a', n', c', rfl⟩ := okWide_slice Try.underlying37 hv
  obtain ⟨fuel, h⟩ := h
  rcases Go.Deep.open_strs Try.underlying37 Try.underlying9 (by kernel_rfl) h with ⟨h0, _⟩ | ⟨a, len, cap, m, Sx, hcs, hb, hl, hm, hmm, hx, hi⟩
  · simp [Value.cells] at h0
    obtain ⟨rfl, rfl, rfl⟩ := h0
    exact ⟨none, 0, 0, [], rfl, Ss.Seg.nil w, fun s hs => by cases hs⟩
  · simp [Value.cells] at hcs
    obtain ⟨rfl, rfl, rfl⟩ := hcs
    have hlm : n' ≤ m := by rw [hmm]; split <;> omega
    have hsx : ∀ i, i < n' → (Sx i).size ≤ 140737488355328 := fun i hlt => by
      have hd : d = _ := (Prod.mk.inj hx).1
      have : (Sx i).data.toList.length ∈ d.weights Try.prog 37 := by
        rw [hd]
        unfold DataW.weights
        rw [Try.underlying37]
        simp only [List.mem_cons, List.mem_append]
        exact .inr (.inl (weight_strs 0 _ _ (List.mem_map.2 ⟨i, List.mem_range.2 hlt, rfl⟩)))
      have h2 := hz _ this
      have : reachBytes < 2 ^ 47 := reachBytes_lt
      rw [Array.length_toList] at h2
      show (Sx i).data.size ≤ _
      omega
    have hf : ∀ i, ∃ l, Bs.IsB l ∧ Sx i = strOfNums l := fun i => Dv.str_of (Sx i)
    refine ⟨some a, n', c', (List.range n').map fun i => (hf i).choose, rfl, ⟨by simp, hl, hm, (fun e => by cases e), fun ad had j u hu => ?_⟩, fun s hs => ?_⟩
    · cases had
      have hj : j < n' := by
        have := (List.getElem?_eq_some_iff.1 hu).1
        simpa using this
      have hu2 : u = .string (Sx j) := by
        rw [List.getElem?_map, List.getElem?_map, List.getElem?_range hj] at hu
        simp only [Option.map_some, Option.some.injEq] at hu
        rw [← hu]
        exact congrArg Value.string (hf j).choose_spec.2.symm
      rw [hu2]
      exact (hi j (by omega)).1
    · obtain ⟨i, hi2, rfl⟩ := List.mem_map.1 hs
      have h1 := (hf i).choose_spec
      refine ⟨h1.1, ?_⟩
      have := hsx i (List.mem_range.1 hi2)
      have e : (Sx i).size = (hf i).choose.length := (congrArg ByteArray.size h1.2).trans (strOfNums_size _)
      omega

set_option maxRecDepth 100000 in
theorem open_bytesT {r : Reach} {b0 : Nat} {v : Value} {d : DataW H} {p : List MemPlace} (hv : Value.okWide Try.prog w r b0 85 v) (h : DataW.Trod enc Try.prog w base (fun _ => true) held 85 v d p) :
    ∃ a n c l, v = .slice a n c ∧ Bs.Seg w a n c l ∧ Bs.IsB l := by
  obtain ⟨a', n', c', rfl⟩ := okWide_slice Try.underlying85 hv
  obtain ⟨fuel, h⟩ := h
  rcases open_ints Try.underlying85 Try.underlying5 (by kernel_rfl) h with ⟨h0, _⟩ | ⟨x, l, c, zs, hcs, _, hl, hm, hz, _, hcell, hwz⟩
  · simp [Value.cells] at h0
    obtain ⟨rfl, rfl, rfl⟩ := h0
    exact ⟨none, 0, 0, [], rfl, Bs.Seg.nil w, fun s hs => by cases hs⟩
  · simp [Value.cells] at hcs
    obtain ⟨rfl, rfl, rfl⟩ := hcs
    exact ⟨some x, n', c', zs.take n', rfl, Bs.Seg.row hl hm (by simpa using hz) hcell, Bs.isB_row hwz n'⟩
end Go.Proofs.Ytkinmcnmdfpjbaa.Tx
