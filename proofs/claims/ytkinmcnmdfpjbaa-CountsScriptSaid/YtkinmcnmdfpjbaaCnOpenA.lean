/-
  The statement's inputs, opened: the acts.
-/
import Derived.Test.YtkinmcnmdfpjbaaCnScriptK
import Derived.Test.YtkinmcnmdfpjbaaCnOpen
import Derived.Deep.Slices
namespace Go.Proofs.Ytkinmcnmdfpjbaa.Cn
open Go.ChangeShapes Go.WideShapes Go.ChangeAt Go.RowKit Bs

section
variable {H : Type} {enc : TypeId × Value → H} {w : World} {base : Nat} {spare : Nat → Bool} {held : Bool}

theorem one_take {cs : List Value} {j k : Nat} (hl : j + 1 ≤ cs.length) (hk : k = 1) : (cs.drop j).take k = [cs[j]'(by omega)] := by
  subst hk
  rw [List.drop_eq_getElem_cons (by omega)]
  rfl
theorem int_in {n : Nat} {t : TypeId} {kd : IntKind} {cs : List Value} {j o k : Nat} {y : Option (DataW H × List MemPlace)} (ht : Try.prog.underlying t = some (.int kd)) (hk : k = 1) (ho : o = j) (hl : j < cs.length) (hy : y.isSome = true)
    (h : DataW.trod enc Try.prog w base spare held n t ((cs.drop o).take k) = y) : ∃ x, cs[j]? = some (.int kd x) ∧ (Lit.int kd x).wf = true := by
  obtain ⟨z, rfl⟩ := Option.isSome_iff_exists.1 hy
  subst ho
  rw [one_take (by omega) hk] at h
  obtain ⟨x, h1, _, h2⟩ := DataW.trod_int ht h
  refine ⟨x, ?_, h2⟩
  rw [List.getElem?_eq_getElem hl]
  have : cs[o] = .int kd x := by simpa using h1
  rw [this]
theorem bool_in {n : Nat} {t : TypeId} {cs : List Value} {j o k : Nat} {y : Option (DataW H × List MemPlace)} (ht : Try.prog.underlying t = some .bool) (hk : k = 1) (ho : o = j) (hl : j < cs.length) (hy : y.isSome = true)
    (h : DataW.trod enc Try.prog w base spare held n t ((cs.drop o).take k) = y) : ∃ x, cs[j]? = some (.bool x) := by
  obtain ⟨z, rfl⟩ := Option.isSome_iff_exists.1 hy
  subst ho
  rw [one_take (by omega) hk] at h
  obtain ⟨x, h1, _⟩ := DataW.trod_bool ht h
  refine ⟨x, ?_⟩
  rw [List.getElem?_eq_getElem hl]
  have : cs[o] = .bool x := by simpa using h1
  rw [this]

set_option maxRecDepth 100000 in
theorem open_acts {r : Reach} {b0 : Nat} {v : Value} {d : DataW H} {p : List MemPlace} (hv : Value.okWide Try.prog w r b0 42 v) (h : DataW.Trod enc Try.prog w base spare held 42 v d p) :
    ∃ a n c l, v = .slice a n c ∧ ActSeg w a n c l ∧ ∀ x ∈ l, x.Ok := by
  obtain ⟨a', n', c', rfl⟩ := okWide_slice Try.underlying42 hv
  obtain ⟨fuel, h⟩ := h
  rcases Go.Deep.open_slice Try.underlying42 h with ⟨h0, _⟩ | ⟨ad0, len, cap, m, n0, D, Pl, hcs, hb, hl, hm, hmm, _, hi⟩
  · simp [Value.cells] at h0
    obtain ⟨rfl, rfl, rfl⟩ := h0
    exact ⟨none, 0, 0, [], rfl, ⟨rfl, Nat.le_refl _, by unfold maxLen; omega, (fun _ => ⟨rfl, rfl⟩), (fun _ e => by cases e)⟩, fun _ e => by cases e⟩
  · simp [Value.cells] at hcs
    obtain ⟨rfl, rfl, rfl⟩ := hcs
    have c3 : Try.prog.cellsOf 48 = 3 := by kernel_rfl
    have hlm : n' ≤ m := by rw [hmm]; split <;> omega
    have hel : ∀ k, k < n' → ∃ x : CAct, (∀ j v, (cact x)[j]? = some v → w.cell? (ad0.add (k * 3 + j)) = some v) ∧ x.Ok := by
      intro k hk
      obtain ⟨cs', hc, ht⟩ := hi k (by omega)
      rw [c3] at hc
      obtain ⟨_, hcl, hat⟩ := World.cells?_some hc
      obtain ⟨xs, n', _, _, _, hxl, hf⟩ := DataW.trod_struct Try.underlying48 ht
      have hxl : xs.length = 3 := hxl
      obtain ⟨x0, e0, w0⟩ := int_in (j := 0) Try.underlying3 (by kernel_rfl) rfl (by omega) (by simp [hxl]) (hf 0 _ rfl)
      obtain ⟨x1, e1, w1⟩ := int_in (j := 1) Try.underlying31 (by kernel_rfl) rfl (by omega) (by simp [hxl]) (hf 1 _ rfl)
      obtain ⟨x2, e2⟩ := bool_in (j := 2) Try.underlying4 (by kernel_rfl) rfl (by omega) (by simp [hxl]) (hf 2 _ rfl)
      have b0 : -9223372036854775808 ≤ x0 ∧ x0 ≤ 9223372036854775807 := by simpa [Lit.wf, IntKind.min, IntKind.max, IntKind.signed, IntKind.bits] using w0
      have b1 : 0 ≤ x1 ∧ x1 ≤ 4294967295 := by simpa [Lit.wf, IntKind.min, IntKind.max, IntKind.signed, IntKind.bits] using w1
      obtain ⟨mk, rfl⟩ : ∃ mk : Nat, x1 = (mk : Int) := ⟨x1.toNat, by omega⟩
      refine ⟨⟨x0, mk, x2⟩, fun j v hj => ?_, ⟨b0, by show mk < 4294967296; omega⟩⟩
      have hcs : cs' = cact ⟨x0, mk, x2⟩ := by
        apply List.ext_getElem?
        intro i
        match i with
        | 0 => rw [e0]; rfl
        | 1 => rw [e1]; rfl
        | 2 => rw [e2]; rfl
        | i + 3 => rw [List.getElem?_eq_none (by omega), List.getElem?_eq_none (by simp [cact])]
      have hjl : j < 3 := by
        have := (List.getElem?_eq_some_iff.1 hj).1
        simpa [cact] using this
      have := hat j hjl
      rw [Addr.add_add, hcs, hj] at this
      exact this
    let f : Nat → CAct := fun k => if hk : k < n' then (hel k hk).choose else default
    have hf : ∀ k (hk : k < n'), f k = (hel k hk).choose := fun k hk => dif_pos hk
    refine ⟨some ad0, n', c', (List.range n').map f, rfl, ⟨by simp, hl, hm, (fun e => by cases e), fun ad had k hk j v hj => ?_⟩, fun x hx => ?_⟩
    · cases had
      have e : ((List.range n').map f).getD k default = f k := by simp [List.getD, hk]
      rw [e, hf k hk] at hj
      exact (hel k hk).choose_spec.1 j v hj
    · obtain ⟨k, hk, rfl⟩ := List.mem_map.1 hx
      have hk := List.mem_range.1 hk
      rw [hf k hk]
      exact (hel k hk).choose_spec.2
end
end Go.Proofs.Ytkinmcnmdfpjbaa.Cn
