/-
  Geometries and heads compared with ==.
-/
import Derived.Test.YtkinmcnmdfpjbaaGrow
import Derived.Laws.StructEq
namespace Go.Proofs.Ytkinmcnmdfpjbaa.Su
open Go.RowKit Bs Dv

theorem fields_geo : ∃ f1 f2 : Field, (Try.prog.fieldsOf 28).toList = [f1, f2] ∧ (f1.type = 3 ∧ f1.offset = 0 ∧ f1.name ≠ "_") ∧ (f2.type = 3 ∧ f2.offset = 1 ∧ f2.name ≠ "_") := by
  have hF : (Try.prog.fieldsOf 28).toList.map (fun f => (f.type, f.offset, decide (f.name ≠ "_"))) = [(3, 0, true), (3, 1, true)] := by kernel_rfl
  revert hF
  generalize (Try.prog.fieldsOf 28).toList = l
  intro hF
  rcases l with _ | ⟨f1, _ | ⟨f2, _ | ⟨f3, r⟩⟩⟩
  · cases hF
  · simp only [List.map_cons, List.map_nil, List.cons.injEq] at hF
    exact absurd hF.2 (by simp)
  · simp only [List.map_cons, List.map_nil, List.cons.injEq, Prod.mk.injEq, decide_eq_true_eq, and_true] at hF
    exact ⟨f1, f2, rfl, hF.1, hF.2⟩
  · simp only [List.map_cons, List.cons.injEq] at hF
    exact absurd hF.2.2 (by simp)
theorem part_geo (cs : Array Value) (o : Nat) (w : World) : (part 28 cs o).run Try.prog w = .ok (.agg (cs.extract o (o + 2))) w := by
  have hz : Try.t28.size = 2 := by kernel_rfl
  have hu := run_underlying (w := w) Try.underlying28
  simp [part, isAgg, sizeOf, hu, hz, go_sem]
theorem equal_geo (d : Nat) (x y p q : Int) (w : World) : (Op.equalIn (d + 2) 28 (.agg #[.int .i64 x, .int .i64 y]) (.agg #[.int .i64 p, .int .i64 q])).run Try.prog w = .ok (decide (x = p) && decide (y = q)) w := by
  obtain ⟨f1, f2, hf, ⟨e1, e2, e3⟩, e4, e5, e6⟩ := fields_geo
  have hu : Try.prog.underlying 28 = some (.struct (Try.prog.fieldsOf 28)) := by kernel_rfl
  rw [run_equalIn_struct w (d + 1) _ _ _ hu (by kernel_rfl), hf]
  by_cases h1 : x = p
  · by_cases h2 : y = q
    · simp [Op.eqFields, e1, e2, e3, e4, e5, e6, part, run_equalIn_int _ _ _ _ _ _ _ Try.underlying3, go_sem, h1, h2]
    · simp [Op.eqFields, e1, e2, e3, e4, e5, e6, part, run_equalIn_int _ _ _ _ _ _ _ Try.underlying3, go_sem, h1, h2]
  · simp [Op.eqFields, e1, e2, e3, part, run_equalIn_int _ _ _ _ _ _ _ Try.underlying3, go_sem, h1]
theorem neq_geo (x y p q : Int) (w : World) : (binOp .neq 28 (.agg #[.int .i64 x, .int .i64 y]) (.agg #[.int .i64 p, .int .i64 q])).run Try.prog w = .ok (.bool (!(decide (x = p) && decide (y = q)))) w := by
  rw [run_neq_struct, equal_geo 9998]
  rfl
theorem part_int (cs : Array Value) (o : Nat) (w : World) : (part 3 cs o).run Try.prog w = (match cs[o]? with | some v => (.ok v w) | none => (stuck "part: no such cell" : Sem Value).run Try.prog w) := by
  have hu := run_underlying (w := w) Try.underlying3
  cases h : cs[o]? <;> simp [part, isAgg, hu, h, go_sem]
theorem part_u64 (cs : Array Value) (o : Nat) (w : World) : (part 63 cs o).run Try.prog w = (match cs[o]? with | some v => (.ok v w) | none => (stuck "part: no such cell" : Sem Value).run Try.prog w) := by
  have hu := run_underlying (w := w) Try.underlying63
  cases h : cs[o]? <;> simp [part, isAgg, hu, h, go_sem]
theorem part_u32 (cs : Array Value) (o : Nat) (w : World) : (part 31 cs o).run Try.prog w = (match cs[o]? with | some v => (.ok v w) | none => (stuck "part: no such cell" : Sem Value).run Try.prog w) := by
  have hu := run_underlying (w := w) Try.underlying31
  cases h : cs[o]? <;> simp [part, isAgg, hu, h, go_sem]
end Go.Proofs.Ytkinmcnmdfpjbaa.Su
