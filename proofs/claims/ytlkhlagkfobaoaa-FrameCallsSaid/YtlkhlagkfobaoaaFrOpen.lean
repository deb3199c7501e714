/-
  The statements' inputs, opened: a frame.
-/
import Derived.Test.YtlkhlagkfobaoaaFrNum
import Derived.Test.YtlkhlagkfobaoaaRows
import Derived.ProofKit
import Derived.OpenShut
import Derived.Lib.SmallJoins
namespace Go.Proofs.Ytlkhlagkfobaoaa.Fr
open Go.ChangeShapes Go.WideShapes Go.ChangeAt Go.RowKit Bs Dv

theorem open_fm {H : Type} {enc : TypeId × Value → H} {w : World} {base : Nat} {spare : Nat → Bool} {held : Bool} {r : Reach} {b0 : Nat} {v : Value} {d : DataW H} {p : List MemPlace} (hv : Value.okWide Try.prog w r b0 28 v) (h : DataW.Trod enc Try.prog w base spare held 28 v d p) :
    ∃ f : Fm, v = .agg #[.int .u8 f.1, .int .u64 f.2.1, .string (strOfNums f.2.2)] ∧ FmOk f ∧ f.2.2.length ≤ maxLen := by
  obtain ⟨c0, c1, c2, y0, y1, y2, m, rfl, _, _, hy0, hy1, hy2⟩ := Go.Joins.open_agg3 Try.underlying28 (by kernel_rfl) (by kernel_rfl) hv h
  obtain ⟨x0, h0, _, w0⟩ := DataW.trod_int Try.underlying5 hy0
  obtain ⟨x1, h1, _, w1⟩ := DataW.trod_int Try.underlying26 hy1
  obtain ⟨s, h2, _, hs⟩ := DataW.trod_string Try.underlying9 hy2
  obtain ⟨l, hl, rfl⟩ := str_of s
  have b0 : 0 ≤ x0 ∧ x0 ≤ 255 := by simpa [Lit.wf, IntKind.min, IntKind.max, IntKind.signed, IntKind.bits] using w0
  have b1 : 0 ≤ x1 ∧ x1 ≤ 18446744073709551615 := by simpa [Lit.wf, IntKind.min, IntKind.max, IntKind.signed, IntKind.bits] using w1
  refine ⟨(x0, x1, l), ?_, ⟨⟨b0.1, by show x0 < 256; omega⟩, ⟨b1.1, by show x1 < 18446744073709551616; omega⟩, hl⟩, by rw [strOfNums_size] at hs; exact hs⟩
  rw [show c0 = .int .u8 x0 by simpa using h0, show c1 = .int .u64 x1 by simpa using h1, show c2 = .string (strOfNums l) by simpa using h2]
end Go.Proofs.Ytlkhlagkfobaoaa.Fr
