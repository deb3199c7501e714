/-
  The statements' inputs, opened: a geometry, picks, acts, the tables.
-/
import Derived.Test.YtjhcjnalomdbnaaDoorDevActs
import Derived.Test.YtjhcjnalomdbnaaDoorRows
import Derived.ProofKit
import Derived.LaidMore
import Derived.OpenShut
import Derived.Stop.Joined
import Derived.MakeChecks
import Derived.FnData
import Derived.Deep.Slices
import Derived.Lib.SmallJoins
import Derived.ChangeSame
namespace Go.Proofs.YtjhcjnalomdbnaaDoor.Dv
open Go.ChangeShapes Go.WideShapes Go.ChangeAt Go.RowKit Bs

theorem Turn.bel {w w' : World} (t : Turn w w' nowhere) : Below w.heap.size w w' := ⟨t.os, t.tape, t.output, t.size, fun i hi => t.block i hi id⟩

/-! ### the tables -/
theorem g64 : Tryd.prog.globalNamed "math/bits.deBruijn64tab" = some 1 := by kernel_rfl
theorem g32 : Tryd.prog.globalNamed "math/bits.deBruijn32tab" = some 0 := by kernel_rfl

theorem table {n g : Nat} {ty : TypeId} {nm : String} {W : World} {cs : Array Value} {fuel : Nat} {p : List MemPlace} {tab : List Nat} (hg : Tryd.prog.globalNamed nm = some g) (hv : W.var? Tryd.prog nm = some cs)
    (hu : Tryd.prog.underlying ty = some (.array n 5)) (hC : Tryd.prog.cellsOf ty = n)
    (hd : DataW.trod (H := Unit) (fun _ => ()) Tryd.prog W 0 (fun _ => true) false fuel ty cs.toList = some (.agg ((List.range n).map fun j => .lit (.int .u8 ((tab.getD j 0 : Nat) : Int))), p)) :
    ∀ j, j < n → W.cell? ⟨g, j, none⟩ = some (.int .u8 ((tab.getD j 0 : Nat) : Int)) := by
  intro j hj
  obtain ⟨xs, m, rfl, hx, hlen, hn, hel⟩ := DataW.trod_array hu hd
  have c5 : Tryd.prog.cellsOf 5 = 1 := by kernel_rfl
  have h0 := hel j hj
  rw [c5, Nat.mul_one, List.getElem?_eq_getElem (by omega)] at h0
  obtain ⟨k, e1, e2, _⟩ := DataW.trod_int Tryd.underlying5 h0
  simp only [Prod.mk.injEq, DataW.agg.injEq] at hx
  have h1 : (xs.map (·.1))[j]? = some (.lit (.int .u8 ((tab.getD j 0 : Nat) : Int))) := by
    rw [← hx.1, List.getElem?_map, List.getElem?_range hj]
    rfl
  rw [List.getElem?_map, List.getElem?_eq_getElem (by omega), Option.map_some, e2] at h1
  have hk : k = ((tab.getD j 0 : Nat) : Int) := by
    have := Option.some.inj h1
    injection this with this
    injection this
  subst hk
  have h2 := World.var?_cell hg hv j
  rw [h2, ← Array.getElem?_toList]
  have h3 : ((cs.toList.drop j).take 1)[0]? = some (.int .u8 ((tab.getD j 0 : Nat) : Int)) := by rw [e1]; rfl
  rw [List.getElem?_take_of_lt (by omega), List.getElem?_drop, Nat.add_zero] at h3
  exact h3

theorem laid64_is : Rows.laid_math_bits_deBruijn64tab (H := Unit) = .agg ((List.range 64).map fun j => .lit (.int .u8 (Lib.deBruijn64tab.getD j 0))) := by kernel_rfl
theorem laid32_is : Rows.laid_math_bits_deBruijn32tab (H := Unit) = .agg ((List.range 32).map fun j => .lit (.int .u8 (Lib.deBruijn32tab.getD j 0))) := by kernel_rfl
theorem ty64 : (Tryd.prog.globals[1]?).map (·.type) = some 92 := by kernel_rfl
theorem ty32 : (Tryd.prog.globals[0]?).map (·.type) = some 90 := by kernel_rfl

theorem of_laid64 {W : World} (h : laidMetH Tryd.prog [("math/bits.deBruijn64tab", Rows.laid_math_bits_deBruijn64tab)] W) : T64 W := by
  rw [MakeChecks.laidMetH_plain _ _ _ (by kernel_rfl)] at h
  obtain ⟨ps, ⟨g0, t0, cs0, f0, p0, q0, hg0, ht0, hv0, hd0, _, _⟩, _, _⟩ := h
  obtain rfl := Option.some.inj (g64.symm.trans hg0)
  obtain rfl := Option.some.inj (ty64.symm.trans ht0)
  rw [laid64_is] at hd0
  exact table g64 hv0 Tryd.underlying92 (by kernel_rfl) hd0
theorem of_laid2 {W : World} (h : laidMetH Tryd.prog [("math/bits.deBruijn32tab", Rows.laid_math_bits_deBruijn32tab), ("math/bits.deBruijn64tab", Rows.laid_math_bits_deBruijn64tab)] W) : T32 W ∧ T64 W := by
  rw [MakeChecks.laidMetH_plain _ _ _ (by kernel_rfl)] at h
  obtain ⟨ps, ⟨g0, t0, cs0, f0, p0, q0, hg0, ht0, hv0, hd0, ⟨g1, t1, cs1, f1, p1, q1, hg1, ht1, hv1, hd1, _, _⟩, _⟩, _, _⟩ := h
  obtain rfl := Option.some.inj (g32.symm.trans hg0)
  obtain rfl := Option.some.inj (ty32.symm.trans ht0)
  obtain rfl := Option.some.inj (g64.symm.trans hg1)
  obtain rfl := Option.some.inj (ty64.symm.trans ht1)
  rw [laid32_is] at hd0
  rw [laid64_is] at hd1
  exact ⟨table g32 hv0 Tryd.underlying90 (by kernel_rfl) hd0, table g64 hv1 Tryd.underlying92 (by kernel_rfl) hd1⟩

/-! ### the parameters -/
section
variable {H : Type} {enc : TypeId × Value → H} {w : World} {base : Nat} {spare : Nat → Bool} {held : Bool}

theorem cells_take {cs : List Value} {j k : Nat} (hl : j + 1 ≤ cs.length) (hk : k = 1) : (cs.drop j).take k = [cs[j]'(by omega)] := by
  subst hk
  rw [List.drop_eq_getElem_cons (by omega)]
  rfl

theorem int_at {n : Nat} {t : TypeId} {kd : IntKind} {cs : List Value} {j o k : Nat} {y : Option (DataW H × List MemPlace)} (ht : Tryd.prog.underlying t = some (.int kd)) (hk : k = 1) (ho : o = j) (hl : j < cs.length) (hy : y.isSome = true)
    (h : DataW.trod enc Tryd.prog w base spare held n t ((cs.drop o).take k) = y) : ∃ x, cs[j]? = some (.int kd x) ∧ (Lit.int kd x).wf = true := by
  obtain ⟨z, rfl⟩ := Option.isSome_iff_exists.1 hy
  subst ho
  rw [cells_take (by omega) hk] at h
  obtain ⟨x, h1, _, h2⟩ := DataW.trod_int ht h
  refine ⟨x, ?_, h2⟩
  rw [List.getElem?_eq_getElem hl]
  have : cs[o] = .int kd x := by simpa using h1
  rw [this]

theorem open_picks {fuel : Nat} {v : Value} {x : DataW H × List MemPlace} (h : DataW.trod enc Tryd.prog w base spare held fuel 37 [v] = some x) :
    ∃ pa pn pc l, v = .slice pa pn pc ∧ PSeg w pa pn pc l := by
  rcases Go.Deep.open_slice Tryd.underlying37 h with ⟨h0, _⟩ | ⟨a, len, cap, m, n, D, Pl, hcs, hb, hl, hm, hmm, _, hi⟩
  · exact ⟨none, 0, 0, [], by simpa using h0, PSeg.nil w⟩
  · have c2 : Tryd.prog.cellsOf 36 = 2 := by kernel_rfl
    have hlm : len ≤ m := by rw [hmm]; split <;> omega
    have hel : ∀ k, k < len → ∃ p : Int × Nat, w.cell? (a.add (k * 2)) = some (.int .i64 p.1) ∧ w.cell? (a.add (k * 2 + 1)) = some (.int .u64 (p.2 : Int)) ∧ -9223372036854775808 ≤ p.1 ∧ p.1 ≤ 9223372036854775807 ∧ p.2 < 18446744073709551616 := by
      intro k hk
      obtain ⟨cs', hc, ht⟩ := hi k (by omega)
      rw [c2] at hc
      obtain ⟨_, hcl, hat⟩ := World.cells?_some hc
      obtain ⟨xs, n', _, _, _, hxl, hf⟩ := DataW.trod_struct Tryd.underlying36 ht
      have hxl : xs.length = 2 := hxl
      obtain ⟨x0, e0, w0⟩ := int_at (j := 0) Tryd.underlying3 (by kernel_rfl) rfl (by omega) (by simp [hxl]) (hf 0 _ rfl)
      obtain ⟨x1, e1, w1⟩ := int_at (j := 1) Tryd.underlying34 (by kernel_rfl) rfl (by omega) (by simp [hxl]) (hf 1 _ rfl)
      have b0 : -9223372036854775808 ≤ x0 ∧ x0 ≤ 9223372036854775807 := by simpa [Lit.wf, IntKind.min, IntKind.max, IntKind.signed, IntKind.bits] using w0
      have b1 : 0 ≤ x1 ∧ x1 ≤ 18446744073709551615 := by simpa [Lit.wf, IntKind.min, IntKind.max, IntKind.signed, IntKind.bits] using w1
      have h0 := hat 0 (by omega)
      have h1 := hat 1 (by omega)
      rw [e0, Addr.add_add, Nat.add_zero] at h0
      rw [e1, Addr.add_add] at h1
      exact ⟨(x0, x1.toNat), h0, by rw [h1]; congr 2; show x1 = _; omega, b0.1, b0.2, by show x1.toNat < _; omega⟩
    let f : Nat → Int × Nat := fun k => if hk : k < len then (hel k hk).choose else (0, 0)
    have hf : ∀ k (hk : k < len), f k = (hel k hk).choose := fun k hk => dif_pos hk
    refine ⟨some a, len, cap, (List.range len).map f, by simpa using hcs, ⟨by simp, hl, hm, (fun e => by cases e), fun ad had k hk => ?_, fun p hp => ?_⟩⟩
    · cases had
      have e : ((List.range len).map f).getD k (0, 0) = f k := by simp [List.getD, hk]
      rw [e, hf k hk]
      exact ⟨(hel k hk).choose_spec.1, (hel k hk).choose_spec.2.1⟩
    · obtain ⟨k, hk, rfl⟩ := List.mem_map.1 hp
      have hk := List.mem_range.1 hk
      rw [hf k hk]
      exact (hel k hk).choose_spec.2.2

theorem open_picks1 {p : List MemPlace} {d : DataW H} {v : Value} {a : Option Addr} {n c : Nat} (hv : v = .slice a n c) (h : DataW.Trod enc Tryd.prog w base spare held 37 v d p) :
    ∃ l, PSeg w a n c l := by
  subst hv
  obtain ⟨fuel, h⟩ := h
  obtain ⟨pa, pn, pc, l, e, hps⟩ := open_picks (v := .slice a n c) (by simpa [Value.cells] using h)
  injection e with e1 e2 e3
  subst e1; subst e2; subst e3
  exact ⟨l, hps⟩

theorem open_acts {p : List MemPlace} {d : DataW H} {v : Value} {a : Option Addr} {n c : Nat} (hv : v = .slice a n c) (h : DataW.Trod enc Tryd.prog w base spare held 47 v d p) :
    ∃ l, ASeg w a n c l := by
  subst hv
  obtain ⟨fuel, h⟩ := h
  rcases Go.Deep.open_slice Tryd.underlying47 h with ⟨h0, _⟩ | ⟨ad0, len, cap, m, n0, D, Pl, hcs, hb, hl, hm, hmm, _, hi⟩
  · simp [Value.cells] at h0
    obtain ⟨rfl, rfl, rfl⟩ := h0
    exact ⟨[], rfl, Nat.le_refl _, by unfold maxLen; omega, (fun _ => ⟨rfl, rfl⟩), (fun _ e => by cases e), fun _ e => by cases e⟩
  · simp [Value.cells] at hcs
    obtain ⟨rfl, rfl, rfl⟩ := hcs
    have c6 : Tryd.prog.cellsOf 54 = 6 := by kernel_rfl
    have hlm : n ≤ m := by rw [hmm]; split <;> omega
    have hel : ∀ k, k < n → ∃ x : AAct, (∀ j v, (acells x)[j]? = some v → w.cell? (ad0.add (k * 6 + j)) = some v) ∧ x.Ok w := by
      intro k hk
      obtain ⟨cs', hc, ht⟩ := hi k (by omega)
      rw [c6] at hc
      obtain ⟨_, hcl, hat⟩ := World.cells?_some hc
      obtain ⟨xs, n', _, _, _, hxl, hf⟩ := DataW.trod_struct Tryd.underlying54 ht
      have hxl : xs.length = 6 := hxl
      obtain ⟨x0, e0, w0⟩ := int_at (j := 0) Tryd.underlying3 (by kernel_rfl) rfl (by omega) (by simp [hxl]) (hf 0 _ rfl)
      obtain ⟨x1, e1, w1⟩ := int_at (j := 1) Tryd.underlying3 (by kernel_rfl) rfl (by omega) (by simp [hxl]) (hf 1 _ rfl)
      obtain ⟨x2, e2, w2⟩ := int_at (j := 2) Tryd.underlying5 (by kernel_rfl) rfl (by omega) (by simp [hxl]) (hf 2 _ rfl)
      obtain ⟨x3, e3, w3⟩ := int_at (j := 3) Tryd.underlying3 (by kernel_rfl) rfl (by omega) (by simp [hxl]) (hf 3 _ rfl)
      obtain ⟨x4, e4, w4⟩ := int_at (j := 4) Tryd.underlying42 (by kernel_rfl) rfl (by omega) (by simp [hxl]) (hf 4 _ rfl)
      have h5 := hf 5 _ rfl
      have c1 : Tryd.prog.cellsOf 37 = 1 := by kernel_rfl
      rw [List.getElem?_eq_getElem (by omega)] at h5
      have h5 : DataW.trod enc Tryd.prog w base spare held n' 37 ((cs'.drop 5).take (Tryd.prog.cellsOf 37)) = some xs[5] := h5
      rw [cells_take (by omega) c1] at h5
      obtain ⟨pa, pn, pc, l, e5, hps⟩ := open_picks h5
      have b0 : -9223372036854775808 ≤ x0 ∧ x0 ≤ 9223372036854775807 := by simpa [Lit.wf, IntKind.min, IntKind.max, IntKind.signed, IntKind.bits] using w0
      have b1 : -9223372036854775808 ≤ x1 ∧ x1 ≤ 9223372036854775807 := by simpa [Lit.wf, IntKind.min, IntKind.max, IntKind.signed, IntKind.bits] using w1
      have b2 : 0 ≤ x2 ∧ x2 ≤ 255 := by simpa [Lit.wf, IntKind.min, IntKind.max, IntKind.signed, IntKind.bits] using w2
      have b3 : -9223372036854775808 ≤ x3 ∧ x3 ≤ 9223372036854775807 := by simpa [Lit.wf, IntKind.min, IntKind.max, IntKind.signed, IntKind.bits] using w3
      have b4 : 0 ≤ x4 ∧ x4 ≤ 4294967295 := by simpa [Lit.wf, IntKind.min, IntKind.max, IntKind.signed, IntKind.bits] using w4
      obtain ⟨mk, rfl⟩ : ∃ mk : Nat, x4 = (mk : Int) := ⟨x4.toNat, by omega⟩
      refine ⟨⟨x0, x1, x2, x3, mk, pa, pn, pc, l⟩, fun j v hj => ?_, ⟨b0, b1, by show 0 ≤ x2 ∧ x2 < 256; omega, b3, by show mk < 4294967296; omega, hps⟩⟩
      have e6 : cs'[5]? = some (.slice pa pn pc) := by rw [List.getElem?_eq_getElem (by omega), e5]
      have hcs : cs' = acells ⟨x0, x1, x2, x3, mk, pa, pn, pc, l⟩ := by
        apply List.ext_getElem?
        intro i
        match i with
        | 0 => rw [e0]; rfl
        | 1 => rw [e1]; rfl
        | 2 => rw [e2]; rfl
        | 3 => rw [e3]; rfl
        | 4 => rw [e4]; rfl
        | 5 => rw [e6]; rfl
        | i + 6 => rw [List.getElem?_eq_none (by omega), List.getElem?_eq_none (by simp [acells])]
      have hjl : j < 6 := by
        have := (List.getElem?_eq_some_iff.1 hj).1
        simpa [acells] using this
      have := hat j hjl
      rw [Addr.add_add, hcs, hj] at this
      exact this
    let f : Nat → AAct := fun k => if hk : k < n then (hel k hk).choose else default
    have hf : ∀ k (hk : k < n), f k = (hel k hk).choose := fun k hk => dif_pos hk
    refine ⟨(List.range n).map f, ⟨by simp, hl, hm, (fun e => by cases e), fun ad had k hk j v hj => ?_, fun x hx => ?_⟩⟩
    · cases had
      have e : ((List.range n).map f).getD k default = f k := by simp [List.getD, hk]
      rw [e, hf k hk] at hj
      exact (hel k hk).choose_spec.1 j v hj
    · obtain ⟨k, hk, rfl⟩ := List.mem_map.1 hx
      have hk := List.mem_range.1 hk
      rw [hf k hk]
      exact (hel k hk).choose_spec.2

theorem open_geo {r : Reach} {b0 : Nat} {v : Value} {d : DataW H} {p : List MemPlace} (hv : Value.okWide Tryd.prog w r b0 28 v) (h : DataW.Trod enc Tryd.prog w base spare held 28 v d p) :
    ∃ size blocks : Int, v = .agg #[.int .i64 size, .int .i64 blocks] ∧ (-9223372036854775808 ≤ size ∧ size ≤ 9223372036854775807) ∧ -9223372036854775808 ≤ blocks ∧ blocks ≤ 9223372036854775807 := by
  obtain ⟨c0, c1, y0, y1, m, rfl, _, _, hy0, hy1⟩ := Go.Joins.open_agg2 Tryd.underlying28 (by kernel_rfl) (by kernel_rfl) hv h
  obtain ⟨x0, h0, _, w0⟩ := DataW.trod_int Tryd.underlying3 hy0
  obtain ⟨x1, h1, _, w1⟩ := DataW.trod_int Tryd.underlying3 hy1
  have b0 : -9223372036854775808 ≤ x0 ∧ x0 ≤ 9223372036854775807 := by simpa [Lit.wf, IntKind.min, IntKind.max, IntKind.signed, IntKind.bits] using w0
  have b1 : -9223372036854775808 ≤ x1 ∧ x1 ≤ 9223372036854775807 := by simpa [Lit.wf, IntKind.min, IntKind.max, IntKind.signed, IntKind.bits] using w1
  refine ⟨x0, x1, ?_, b0, b1⟩
  rw [show c0 = .int .i64 x0 by simpa using h0, show c1 = .int .i64 x1 by simpa using h1]
end
end Go.Proofs.YtjhcjnalomdbnaaDoor.Dv
