/-
  An argument that is a table: its cells are some function's.
-/
import Derived.Test.YtdkcieojfkfaiaaCrcTab
import Derived.ProofKit
import Derived.OpenShut
namespace Go.Proofs.Ytdkcieojfkfaiaa.Crc
open Go.RowKit Go.ChangeShapes Go.WideShapes

section
variable {H : Type} {enc : TypeId × Value → H} {w : World} {base : Nat} {spare : Nat → Bool} {held : Bool}
theorem open_tab {r : Reach} {b0 : Nat} {v : Value} {d : DataW H} {p : List MemPlace} (hv : Value.okWide Try.prog w r b0 24 v) (h : DataW.Trod enc Try.prog w base spare held 24 v d p) :
    ∃ t : Nat → Nat, v = .agg (tab t) ∧ ∀ i, i < 256 → t i < 4294967296 := by
  obtain ⟨cs, rfl, hsz, _⟩ : ∃ cs, v = .agg cs ∧ cs.size = Try.prog.cellsOf 24 ∧ Row.okWide Try.prog w r b0 24 cs := by
    unfold Value.okWide at hv
    rw [Try.underlying24] at hv
    cases v <;> simp_all
  have hC : Try.prog.cellsOf 24 = 256 := by kernel_rfl
  have hE : Try.prog.cellsOf 23 = 1 := by kernel_rfl
  obtain ⟨fuel, hf⟩ := h
  obtain ⟨xs, m, _, _, hl, hxl, hg⟩ := DataW.trod_array Try.underlying24 hf
  rw [hE] at hg
  have hcl : (Value.agg cs).cells.toList.length = 256 := hl.trans hC
  have hget : ∀ i, i < 256 → ∃ n : Int, cs[i]? = some (.int .u32 n) ∧ 0 ≤ n ∧ n < 4294967296 := by
    intro i hi
    have h1 := hg i hi
    rw [List.getElem?_eq_getElem (by omega)] at h1
    obtain ⟨n, hn, _, hw⟩ := DataW.trod_int Try.underlying23 h1
    have hb : 0 ≤ n ∧ n ≤ 4294967295 := by simpa [Lit.wf, IntKind.min, IntKind.max, IntKind.signed, IntKind.bits] using hw
    refine ⟨n, ?_, hb.1, by omega⟩
    have hcs : cs.toList.length = 256 := by simpa using (hsz.trans hC)
    have h2 : (cs.toList.drop (i * 1)).take 1 = [Value.int .u32 n] := hn
    rw [Nat.mul_one, List.drop_eq_getElem_cons (by omega)] at h2
    have h3 : cs.toList[i]'(by omega) = Value.int .u32 n := by simpa using h2
    rw [← h3]
    simp [show i < cs.size by simpa using (show i < cs.toList.length by omega)]
  refine ⟨fun i => match cs[i]? with | some (.int _ n) => n.toNat | _ => 0, ?_, ?_⟩
  · congr 1
    apply Array.ext
    · rw [tab_size, hsz, hC]
    · intro i h1 h2
      have hi : i < 256 := by rw [tab_size] at h2; exact h2
      obtain ⟨n, hn, h0, _⟩ := hget i hi
      have h4 := tab_get (fun i => match cs[i]? with | some (.int _ n) => n.toNat | _ => 0) i hi
      rw [Array.getElem?_eq_getElem h2] at h4
      simp only [hn] at h4
      have h5 : cs[i] = Value.int .u32 n := by
        rw [Array.getElem?_eq_getElem h1] at hn
        exact Option.some.inj hn
      rw [h5, Option.some.inj h4]
      congr 1
      omega
  · intro i hi
    obtain ⟨n, hn, h0, h1⟩ := hget i hi
    simp only [hn]
    omega
end
end Go.Proofs.Ytdkcieojfkfaiaa.Crc
