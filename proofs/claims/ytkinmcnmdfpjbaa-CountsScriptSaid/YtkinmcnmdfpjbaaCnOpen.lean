/-
  The statements' inputs, opened: a geometry.
-/
import Derived.Test.YtkinmcnmdfpjbaaBase
import Derived.Test.YtkinmcnmdfpjbaaRows
import Derived.ProofKit
import Derived.OpenShut
import Derived.ChangeSame
import Derived.Lib.SmallJoins
namespace Go.Proofs.Ytkinmcnmdfpjbaa.Cn
open Go.ChangeShapes Go.WideShapes Go.ChangeAt Go.RowKit Bs

section
variable {H : Type} {enc : TypeId × Value → H} {w : World} {base : Nat} {spare : Nat → Bool} {held : Bool}

theorem open_geo {r : Reach} {b0 : Nat} {v : Value} {d : DataW H} {p : List MemPlace} (hv : Value.okWide Try.prog w r b0 28 v) (h : DataW.Trod enc Try.prog w base spare held 28 v d p) :
    ∃ size blocks : Int, v = .agg #[.int .i64 size, .int .i64 blocks] ∧ (-9223372036854775808 ≤ size ∧ size ≤ 9223372036854775807) ∧ -9223372036854775808 ≤ blocks ∧ blocks ≤ 9223372036854775807 := by
  obtain ⟨c0, c1, y0, y1, m, rfl, _, _, hy0, hy1⟩ := Go.Joins.open_agg2 Try.underlying28 (by kernel_rfl) (by kernel_rfl) hv h
  obtain ⟨x0, h0, _, w0⟩ := DataW.trod_int Try.underlying3 hy0
  obtain ⟨x1, h1, _, w1⟩ := DataW.trod_int Try.underlying3 hy1
  have b0 : -9223372036854775808 ≤ x0 ∧ x0 ≤ 9223372036854775807 := by simpa [Lit.wf, IntKind.min, IntKind.max, IntKind.signed, IntKind.bits] using w0
  have b1 : -9223372036854775808 ≤ x1 ∧ x1 ≤ 9223372036854775807 := by simpa [Lit.wf, IntKind.min, IntKind.max, IntKind.signed, IntKind.bits] using w1
  refine ⟨x0, x1, ?_, b0, b1⟩
  rw [show c0 = .int .i64 x0 by simpa using h0, show c1 = .int .i64 x1 by simpa using h1]
end
end Go.Proofs.Ytkinmcnmdfpjbaa.Cn
