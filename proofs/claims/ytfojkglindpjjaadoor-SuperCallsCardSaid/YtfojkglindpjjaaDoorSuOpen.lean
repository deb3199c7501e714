/-
  The statements' inputs, opened: a super, a slice of numbers, a geometry; the table that the row lays.
-/
import Derived.Test.YtfojkglindpjjaaDoorSuData
import Derived.Test.YtfojkglindpjjaaDoorRows
import Derived.ProofKit
import Derived.LaidMore
import Derived.OpenShut
import Derived.Stop.Joined
import Derived.MakeChecks
import Derived.FnData
import Derived.Deep.Slices
import Derived.Lib.SmallJoins
import Derived.ChangeSame
namespace Go.Proofs.YtfojkglindpjjaaDoor.Su
open Go.ChangeShapes Go.WideShapes Go.ChangeAt Go.RowKit Bs

/-! ### the table -/
theorem gsz : Tryd.prog.globalNamed "shadowbook/super.headSizes" = some 0 := by kernel_rfl
theorem laid_is : Rows.laid_shadowbook_super_headSizes (H := Unit) = .agg ((List.range 4).map fun j => .lit (.int .i64 ((szL.getD j 0 : Nat) : Int))) := by kernel_rfl
theorem tysz : (Tryd.prog.globals[0]?).map (·.type) = some 92 := by kernel_rfl
theorem of_laid {W : World} (h : laidMetH Tryd.prog [("shadowbook/super.headSizes", Rows.laid_shadowbook_super_headSizes)] W) : T4 W := by
  rw [MakeChecks.laidMetH_plain _ _ _ (by kernel_rfl)] at h
  obtain ⟨ps, ⟨g0, t0, cs0, f0, p0, q0, hg0, ht0, hv0, hd0, _, _⟩, _, _⟩ := h
  obtain rfl := Option.some.inj (gsz.symm.trans hg0)
  obtain rfl := Option.some.inj (tysz.symm.trans ht0)
  rw [laid_is] at hd0
  intro j hj
  have hC : Tryd.prog.cellsOf 92 = 4 := by kernel_rfl
  obtain ⟨xs, m, rfl, hx, hlen, hn, hel⟩ := DataW.trod_array Tryd.underlying92 hd0
  have c5 : Tryd.prog.cellsOf 3 = 1 := by kernel_rfl
  have h0 := hel j hj
  rw [c5, Nat.mul_one, List.getElem?_eq_getElem (by omega)] at h0
  obtain ⟨k, e1, e2, _⟩ := DataW.trod_int Tryd.underlying3 h0
  simp only [Prod.mk.injEq, DataW.agg.injEq] at hx
  have h1 : (xs.map (·.1))[j]? = some (.lit (.int .i64 ((szL.getD j 0 : Nat) : Int))) := by
    rw [← hx.1, List.getElem?_map, List.getElem?_range hj]
    rfl
  rw [List.getElem?_map, List.getElem?_eq_getElem (by omega), Option.map_some, e2] at h1
  have hk : k = ((szL.getD j 0 : Nat) : Int) := by
    have := Option.some.inj h1
    injection this with this
    injection this
  subst hk
  have h2 := World.var?_cell gsz hv0 j
  rw [h2, ← Array.getElem?_toList]
  have h3 : ((cs0.toList.drop j).take 1)[0]? = some (.int .i64 ((szL.getD j 0 : Nat) : Int)) := by rw [e1]; rfl
  rw [List.getElem?_take_of_lt (by omega), List.getElem?_drop, Nat.add_zero] at h3
  exact h3

/-! ### the parameters -/
section
variable {H : Type} {enc : TypeId × Value → H} {w : World} {base : Nat} {spare : Nat → Bool} {held : Bool}

theorem cells_take {cs : List Value} {j k : Nat} (hl : j + 1 ≤ cs.length) (hk : k = 1) : (cs.drop j).take k = [cs[j]'(by omega)] := by
  subst hk
  rw [List.drop_eq_getElem_cons (by omega)]
  rfl
theorem int_at {n : Nat} {t : TypeId} {kd : IntKind} {cs : List Value} {j o k : Nat} {y : Option (DataW H × List MemPlace)} (ht : Tryd.prog.underlying t = some (.int kd)) (hk : k = 1) (ho : o = j) (hl : j < cs.length) (hy : y.isSome = true)
    (h : DataW.trod enc Tryd.prog w base spare held n t ((cs.drop o).take k) = y) : ∃ x, cs[j]? = some (.int kd x) ∧ (Lit.int kd x).wf = true := by
  obtain ⟨z, rfl⟩ := Option.isSome_iff_exists.1 hy
  subst ho
  rw [cells_take (by omega) hk] at h
  obtain ⟨x, h1, _, h2⟩ := DataW.trod_int ht h
  refine ⟨x, ?_, h2⟩
  rw [List.getElem?_eq_getElem hl]
  have : cs[o] = .int kd x := by simpa using h1
  rw [this]

theorem open_nums {fuel : Nat} {v : Value} {x : DataW H × List MemPlace} (h : DataW.trod enc Tryd.prog w base spare held fuel 27 [v] = some x) :
    ∃ a n c l, v = .slice a n c ∧ Ws.Seg w a n c l ∧ ∀ p ∈ l, 0 ≤ p ∧ p < 4294967296 := by
  rcases Go.Deep.open_slice1 Tryd.underlying27 (by kernel_rfl) h with ⟨h0, _⟩ | ⟨a, len, cap, m, n, V, D, Pl, hcs, hb, hl, hm, hmm, _, hi⟩
  · exact ⟨none, 0, 0, [], by simpa using h0, Ws.Seg.nil w, fun p hp => by cases hp⟩
  · have hlm : len ≤ m := by rw [hmm]; split <;> omega
    have hel : ∀ k, k < len → ∃ z : Int, w.cell? (a.add k) = some (.int .u32 z) ∧ 0 ≤ z ∧ z < 4294967296 := by
      intro k hk
      obtain ⟨h1, h2⟩ := hi k (by omega)
      obtain ⟨z, e1, _, hw⟩ := DataW.trod_int Tryd.underlying26 h2
      have e2 : V k = .int .u32 z := by simpa using e1
      rw [e2] at h1
      have b0 : 0 ≤ z ∧ z ≤ 4294967295 := by simpa [Lit.wf, IntKind.min, IntKind.max, IntKind.signed, IntKind.bits] using hw
      exact ⟨z, h1, b0.1, by omega⟩
    let f : Nat → Int := fun k => if hk : k < len then (hel k hk).choose else 0
    have hf : ∀ k (hk : k < len), f k = (hel k hk).choose := fun k hk => dif_pos hk
    refine ⟨some a, len, cap, (List.range len).map f, by simpa using hcs, ⟨by simp, hl, hm, (fun e => by cases e), fun ad had j u hu => ?_⟩, fun p hp => ?_⟩
    · cases had
      have hj : j < len := by
        have := (List.getElem?_eq_some_iff.1 hu).1
        simpa using this
      rw [List.getElem?_map, List.getElem?_map, List.getElem?_range hj] at hu
      have hu2 : Value.int .u32 (f j) = u := Option.some.inj hu
      rw [← hu2, hf j hj]
      exact (hel j hj).choose_spec.1
    · obtain ⟨k, hk, rfl⟩ := List.mem_map.1 hp
      have hk := List.mem_range.1 hk
      rw [hf k hk]
      exact (hel k hk).choose_spec.2
theorem open_nums1 {p : List MemPlace} {d : DataW H} {v : Value} {a : Option Addr} {n c : Nat} (hv : v = .slice a n c) (h : DataW.Trod enc Tryd.prog w base spare held 27 v d p) :
    ∃ l, Ws.Seg w a n c l ∧ ∀ p ∈ l, 0 ≤ p ∧ p < 4294967296 := by
  subst hv
  obtain ⟨fuel, h⟩ := h
  obtain ⟨pa, pn, pc, l, e, hps, hb⟩ := open_nums (v := .slice a n c) (by simpa [Value.cells] using h)
  injection e with e1 e2 e3
  subst e1; subst e2; subst e3
  exact ⟨l, hps, hb⟩
theorem open_super {r : Reach} {b0 : Nat} {v : Value} {d : DataW H} {p : List MemPlace} (hv : Value.okWide Tryd.prog w r b0 29 v) (h : DataW.Trod enc Tryd.prog w base spare held 29 v d p) :
    ∃ (s : Sup) (a : Option Addr) (n c : Nat), v = .agg #[.int .u64 s.gen, .int .i64 s.size, .int .i64 s.blocks, .int .u32 s.root, .slice a n c] ∧ Ws.Seg w a n c s.pages ∧ SupOk s := by
  obtain ⟨cs, rfl, hsz⟩ := okWide_struct Tryd.underlying29 hv
  have c5 : Tryd.prog.cellsOf 29 = 5 := by kernel_rfl
  rw [c5] at hsz
  obtain ⟨fuel, hf⟩ := h
  have hf : DataW.trod enc Tryd.prog w base spare held fuel 29 cs.toList = some (d, p) := hf
  obtain ⟨xs, n', _, _, _, hxl, hfs⟩ := DataW.trod_struct Tryd.underlying29 hf
  have hcl : cs.toList.length = 5 := by simpa using hsz
  have hxl : xs.length = 4 := hxl
  obtain ⟨x0, e0, w0⟩ := int_at (j := 0) Tryd.underlying23 (by kernel_rfl) rfl (by omega) (by simp [hxl]) (hfs 0 _ rfl)
  have hg := hfs 1 _ rfl
  have c2 : Tryd.prog.cellsOf 25 = 2 := by kernel_rfl
  rw [List.getElem?_eq_getElem (by omega)] at hg
  have hg : DataW.trod enc Tryd.prog w base spare held n' 25 ((cs.toList.drop 1).take (Tryd.prog.cellsOf 25)) = some xs[1] := hg
  rw [c2] at hg
  obtain ⟨ys, n2, _, _, _, hyl, hgs⟩ := DataW.trod_struct Tryd.underlying25 hg
  have hyl : ys.length = 2 := hyl
  obtain ⟨x1, e1, _⟩ := int_at (j := 0) Tryd.underlying3 (by kernel_rfl) rfl (by rw [List.length_take, List.length_drop]; omega) (by simp [hyl]) (hgs 0 _ rfl)
  obtain ⟨x2, e2, _⟩ := int_at (j := 1) Tryd.underlying3 (by kernel_rfl) rfl (by rw [List.length_take, List.length_drop]; omega) (by simp [hyl]) (hgs 1 _ rfl)
  rw [List.getElem?_take_of_lt (by omega), List.getElem?_drop] at e1 e2
  obtain ⟨x3, e3, w3⟩ := int_at (j := 3) Tryd.underlying26 (by kernel_rfl) rfl (by omega) (by simp [hxl]) (hfs 2 _ rfl)
  have h5 := hfs 3 _ rfl
  have c1 : Tryd.prog.cellsOf 27 = 1 := by kernel_rfl
  rw [List.getElem?_eq_getElem (by omega)] at h5
  have h5 : DataW.trod enc Tryd.prog w base spare held n' 27 ((cs.toList.drop 4).take (Tryd.prog.cellsOf 27)) = some xs[3] := h5
  rw [cells_take (by omega) c1] at h5
  obtain ⟨a, n, c, l, e5, hps, hbd⟩ := open_nums h5
  have e4 : cs.toList[4]? = some (.slice a n c) := by rw [List.getElem?_eq_getElem (by omega), e5]
  have b0 : 0 ≤ x0 ∧ x0 ≤ 18446744073709551615 := by simpa [Lit.wf, IntKind.min, IntKind.max, IntKind.signed, IntKind.bits] using w0
  have b3 : 0 ≤ x3 ∧ x3 ≤ 4294967295 := by simpa [Lit.wf, IntKind.min, IntKind.max, IntKind.signed, IntKind.bits] using w3
  refine ⟨⟨x0, x1, x2, x3, l⟩, a, n, c, ?_, hps, ⟨⟨b0.1, by show x0 < _; omega⟩, ⟨b3.1, by show x3 < _; omega⟩, hbd⟩⟩
  congr 1
  apply Array.ext'
  apply List.ext_getElem?
  intro i
  match i with
  | 0 => rw [e0]; rfl
  | 1 => rw [e1]; rfl
  | 2 => rw [e2]; rfl
  | 3 => rw [e3]; rfl
  | 4 => rw [e4]; rfl
  | i + 5 => rw [List.getElem?_eq_none (by omega), List.getElem?_eq_none (by simp)]
theorem open_geo {r : Reach} {b0 : Nat} {v : Value} {d : DataW H} {p : List MemPlace} (hv : Value.okWide Tryd.prog w r b0 25 v) (h : DataW.Trod enc Tryd.prog w base spare held 25 v d p) :
    ∃ size blocks : Int, v = .agg #[.int .i64 size, .int .i64 blocks] := by
  obtain ⟨c0, c1, y0, y1, m, rfl, _, _, hy0, hy1⟩ := Go.Joins.open_agg2 Tryd.underlying25 (by kernel_rfl) (by kernel_rfl) hv h
  obtain ⟨x0, h0, _, w0⟩ := DataW.trod_int Tryd.underlying3 hy0
  obtain ⟨x1, h1, _, w1⟩ := DataW.trod_int Tryd.underlying3 hy1
  refine ⟨x0, x1, ?_⟩
  rw [show c0 = .int .i64 x0 by simpa using h0, show c1 = .int .i64 x1 by simpa using h1]
end
end Go.Proofs.YtfojkglindpjjaaDoor.Su
