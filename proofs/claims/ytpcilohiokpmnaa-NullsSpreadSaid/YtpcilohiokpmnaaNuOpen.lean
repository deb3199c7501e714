/-
  Slices of truth values and of bytes among the arguments, opened.
-/
import Derived.Test.YtpcilohiokpmnaaBBase
import Derived.Deep.Grids
import Derived.ChangeSlices
import Derived.SizedLaws
namespace Go.Proofs.Ytpcilohiokpmnaa.Nu
open Go.ChangeShapes Go.WideShapes Go.RowKit

variable {H : Type} {enc : TypeId × Value → H} {w : World} {base : Nat} {spare : Nat → Bool} {held : Bool}

set_option maxRecDepth 100000 in
theorem open_boolsT {r : Reach} {b0 : Nat} {v : Value} {d : DataW H} {p : List MemPlace} (hv : Value.okWide Try.prog w r b0 27 v) (h : DataW.Trod enc Try.prog w base (fun _ => true) held 27 v d p) :
    ∃ a n c l, v = .slice a n c ∧ Bl.Seg w a n c l ∧ True := by
  obtain ⟨a', n', c', rfl⟩ := okWide_slice Try.underlying27 hv
  obtain ⟨fuel, h⟩ := h
  rcases Go.Deep.open_bools Try.underlying27 Try.underlying4 (by kernel_rfl) h with ⟨h0, _⟩ | ⟨x, l, c, B, hcs, _, hl, hm, _, hcell⟩
  · simp [Value.cells] at h0
    obtain ⟨rfl, rfl, rfl⟩ := h0
    exact ⟨none, 0, 0, [], rfl, Bl.Seg.nil w, trivial⟩
  · simp [Value.cells] at hcs
    obtain ⟨rfl, rfl, rfl⟩ := hcs
    refine ⟨some x, n', c', ((List.range c').map B).take n', rfl, Bl.Seg.row hl hm (by simp) (fun i hi => ?_), trivial⟩
    have hi' : i < c' := by simpa using hi
    rw [hcell i hi']
    simp [Bl.encW, List.getD, hi']

set_option maxRecDepth 100000 in
theorem open_bytesT {r : Reach} {b0 : Nat} {v : Value} {d : DataW H} {p : List MemPlace} (hv : Value.okWide Try.prog w r b0 23 v) (h : DataW.Trod enc Try.prog w base (fun _ => true) held 23 v d p) :
    ∃ a n c l, v = .slice a n c ∧ Bs.Seg w a n c l ∧ Bs.IsB l := by
  obtain ⟨a', n', c', rfl⟩ := okWide_slice Try.underlying23 hv
  obtain ⟨fuel, h⟩ := h
  rcases open_ints Try.underlying23 Try.underlying5 (by kernel_rfl) h with ⟨h0, _⟩ | ⟨x, l, c, zs, hcs, _, hl, hm, hz, _, hcell, hwz⟩
  · simp [Value.cells] at h0
    obtain ⟨rfl, rfl, rfl⟩ := h0
    exact ⟨none, 0, 0, [], rfl, Bs.Seg.nil w, fun s hs => by cases hs⟩
  · simp [Value.cells] at hcs
    obtain ⟨rfl, rfl, rfl⟩ := hcs
    exact ⟨some x, n', c', zs.take n', rfl, Bs.Seg.row hl hm (by simpa using hz) hcell, Bs.isB_row hwz n'⟩
end Go.Proofs.Ytpcilohiokpmnaa.Nu
