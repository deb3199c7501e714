/-
  What the program's and the document's functions do, in memory and as plain functions: ZnEq, ZnGrow.
-/
import Derived.Laws.StructEq
import Derived.Laws.Rows
import Derived.Laws.Tables
import Derived.Laws.ResultCell
import Derived.BigQuiet
import Derived.Deep.QuietTactic
import Derived.Test.YtljanfnhmhimiaaGreatSmA
import Derived.Test.YtljanfnhmhimiaaGreatSmF

namespace Go.Proofs.YtljanfnhmhimiaaGreat.Zn
open Go.RowKit Bs Dv

/-! ### == -/
theorem toList_beq (s t : ByteArray) : (s.toList == t.toList) = decide (s = t) := by
  rw [Bool.eq_iff_iff, beq_iff_eq, decide_eq_true_iff]
  refine ⟨fun e => ?_, fun e => by rw [e]⟩
  rw [ByteArray.toList_eq, ByteArray.toList_eq] at e
  apply ByteArray.ext
  exact Array.ext' e
theorem fields_cell : ∃ f1 f2 f3 : Field, (Tryz.prog.fieldsOf 24).toList = [f1, f2, f3] ∧ f1.type = 3 ∧ f1.offset = 0 ∧ f1.name ≠ "_" ∧ f2.type = 2 ∧ f2.offset = 1 ∧ f2.name ≠ "_" ∧ f3.type = 9 ∧ f3.offset = 2 ∧ f3.name ≠ "_" := by
  have hF : (Tryz.prog.fieldsOf 24).toList.map (fun f => (f.type, f.offset, decide (f.name ≠ "_"))) = [(3, 0, true), (2, 1, true), (9, 2, true)] := by kernel_rfl
  revert hF
  generalize (Tryz.prog.fieldsOf 24).toList = l
  intro hF
  rcases l with _ | ⟨f1, _ | ⟨f2, _ | ⟨f3, _ | ⟨f4, r⟩⟩⟩⟩
  · cases hF
  · simp only [List.map_cons, List.map_nil, List.cons.injEq] at hF
    exact absurd hF.2 (by simp)
  · simp only [List.map_cons, List.map_nil, List.cons.injEq] at hF
    exact absurd hF.2.2 (by simp)
  · simp only [List.map_cons, List.map_nil, List.cons.injEq, Prod.mk.injEq, decide_eq_true_eq, and_true] at hF
    exact ⟨f1, f2, f3, rfl, hF.1.1, hF.1.2.1, hF.1.2.2, hF.2.1.1, hF.2.1.2.1, hF.2.1.2.2, hF.2.2.1, hF.2.2.2.1, hF.2.2.2.2⟩
  · simp only [List.map_cons, List.cons.injEq] at hF
    exact absurd hF.2.2.2 (by simp)

theorem equal_cell (d : Nat) (a b : Cel) (w : World) :
    (Op.equalIn (d + 2) 24 (.agg #[.int .i64 a.k, .int .i64 a.n, .string a.s]) (.agg #[.int .i64 b.k, .int .i64 b.n, .string b.s])).run Tryz.prog w = .ok (eqC a b) w := by
  obtain ⟨f1, f2, f3, hf, e1, e2, e3, e4, e5, e6, e7, e8, e9⟩ := fields_cell
  have hu : Tryz.prog.underlying 24 = some (.struct (Tryz.prog.fieldsOf 24)) := by kernel_rfl
  rw [run_equalIn_struct w (d + 1) _ _ _ hu (by kernel_rfl), hf]
  by_cases h1 : a.k = b.k
  · by_cases h2 : a.n = b.n
    · by_cases h3 : a.s = b.s
      · simp [Op.eqFields, e1, e2, e3, e4, e5, e6, e7, e8, e9, part, run_equalIn_int _ _ _ _ _ _ _ Tryz.underlying3, run_equalIn_int _ _ _ _ _ _ _ Tryz.underlying2, run_equalIn_string _ _ _ _ _ Tryz.underlying9, go_sem, eqC, h1, h2, h3]
      · have h4 : (a.s.toList == b.s.toList) = false := by rw [toList_beq]; exact decide_eq_false h3
        simp [Op.eqFields, e1, e2, e3, e4, e5, e6, e7, e8, e9, part, run_equalIn_int _ _ _ _ _ _ _ Tryz.underlying3, run_equalIn_int _ _ _ _ _ _ _ Tryz.underlying2, run_equalIn_string _ _ _ _ _ Tryz.underlying9, go_sem, eqC, h1, h2, h3, h4]
    · simp [Op.eqFields, e1, e2, e3, e4, e5, e6, part, run_equalIn_int _ _ _ _ _ _ _ Tryz.underlying3, run_equalIn_int _ _ _ _ _ _ _ Tryz.underlying2, go_sem, eqC, h1, h2]
  · simp [Op.eqFields, e1, e2, e3, part, run_equalIn_int _ _ _ _ _ _ _ Tryz.underlying3, go_sem, eqC, h1]

theorem eql_cell (a b : Cel) (w : World) : (binOp .eql 24 (.agg #[.int .i64 a.k, .int .i64 a.n, .string a.s]) (.agg #[.int .i64 b.k, .int .i64 b.n, .string b.s])).run Tryz.prog w = .ok (.bool (eqC a b)) w := by
  rw [run_eql_struct, equal_cell 9998]
  rfl
theorem neq_cell (a b : Cel) (w : World) : (binOp .neq 24 (.agg #[.int .i64 a.k, .int .i64 a.n, .string a.s]) (.agg #[.int .i64 b.k, .int .i64 b.n, .string b.s])).run Tryz.prog w = .ok (.bool (!eqC a b)) w := by
  rw [run_neq_struct, equal_cell 9998]
  rfl

theorem fields_zone : ∃ f1 f2 f3 f4 : Field, (Tryz.prog.fieldsOf 33).toList = [f1, f2, f3, f4] ∧ (f1.type = 3 ∧ f1.offset = 0 ∧ f1.name ≠ "_") ∧ (f2.type = 3 ∧ f2.offset = 1 ∧ f2.name ≠ "_") ∧ (f3.type = 24 ∧ f3.offset = 2 ∧ f3.name ≠ "_") ∧ (f4.type = 24 ∧ f4.offset = 5 ∧ f4.name ≠ "_") := by
  have hF : (Tryz.prog.fieldsOf 33).toList.map (fun f => (f.type, f.offset, decide (f.name ≠ "_"))) = [(3, 0, true), (3, 1, true), (24, 2, true), (24, 5, true)] := by kernel_rfl
  revert hF
  generalize (Tryz.prog.fieldsOf 33).toList = l
  intro hF
  rcases l with _ | ⟨f1, _ | ⟨f2, _ | ⟨f3, _ | ⟨f4, _ | ⟨f5, r⟩⟩⟩⟩⟩
  · cases hF
  · simp only [List.map_cons, List.map_nil, List.cons.injEq] at hF
    exact absurd hF.2 (by simp)
  · simp only [List.map_cons, List.map_nil, List.cons.injEq] at hF
    exact absurd hF.2.2 (by simp)
  · simp only [List.map_cons, List.map_nil, List.cons.injEq] at hF
    exact absurd hF.2.2.2 (by simp)
  · simp only [List.map_cons, List.map_nil, List.cons.injEq, Prod.mk.injEq, decide_eq_true_eq, and_true] at hF
    exact ⟨f1, f2, f3, f4, rfl, hF.1, hF.2.1, hF.2.2.1, hF.2.2.2⟩
  · simp only [List.map_cons, List.cons.injEq] at hF
    exact absurd hF.2.2.2.2 (by simp)
theorem info_cell2 : (Tryz.prog.info? 24).map (·.size) = some 3 := by kernel_rfl
theorem part_cell (cs : Array Value) (o : Nat) (w : World) : (part 24 cs o).run Tryz.prog w = .ok (.agg (cs.extract o (o + 3))) w := by
  have hz : Tryz.t24.size = 3 := by kernel_rfl
  have hu := run_underlying (w := w) Tryz.underlying24
  simp [part, isAgg, sizeOf, hu, hz, go_sem]
theorem part_int (cs : Array Value) (o : Nat) (w : World) : (part 3 cs o).run Tryz.prog w = (match cs[o]? with | some v => (.ok v w) | none => (stuck "part: no such cell" : Sem Value).run Tryz.prog w) := by
  have hu := run_underlying (w := w) Tryz.underlying3
  cases h : cs[o]? <;> simp [part, isAgg, hu, h, go_sem]

set_option maxHeartbeats 1000000 in
theorem equal_zone (d : Nat) (a b : Zon) (w : World) :
    (Op.equalIn (d + 3) 33 (.agg #[.int .i64 a.cnt, .int .i64 a.nul, .int .i64 a.min.k, .int .i64 a.min.n, .string a.min.s, .int .i64 a.max.k, .int .i64 a.max.n, .string a.max.s])
      (.agg #[.int .i64 b.cnt, .int .i64 b.nul, .int .i64 b.min.k, .int .i64 b.min.n, .string b.min.s, .int .i64 b.max.k, .int .i64 b.max.n, .string b.max.s])).run Tryz.prog w = .ok (eqZ a b) w := by
  obtain ⟨f1, f2, f3, f4, hf, ⟨a1, a2, a3⟩, ⟨b1, b2, b3⟩, ⟨c1, c2, c3⟩, d1, d2, d3⟩ := fields_zone
  have hu : Tryz.prog.underlying 33 = some (.struct (Tryz.prog.fieldsOf 33)) := by kernel_rfl
  have m1 := equal_cell d a.min b.min w
  have m2 := equal_cell d a.max b.max w
  rw [run_equalIn_struct w (d + 2) _ _ _ hu (by kernel_rfl), hf]
  by_cases h1 : a.cnt = b.cnt
  · by_cases h2 : a.nul = b.nul
    · cases h3 : eqC a.min b.min
      · simp [Op.eqFields, a1, a2, a3, b1, b2, b3, c1, c2, c3, part_int, part_cell, run_equalIn_int _ _ _ _ _ _ _ Tryz.underlying3, m1, Sem.run_bind, Sem.run_ite, Sem.run_pure, Result.andThen_ok, eqZ, h1, h2, h3]
      · cases h4 : eqC a.max b.max <;> simp [Op.eqFields, a1, a2, a3, b1, b2, b3, c1, c2, c3, d1, d2, d3, part_int, part_cell, run_equalIn_int _ _ _ _ _ _ _ Tryz.underlying3, m1, m2, Sem.run_bind, Sem.run_ite, Sem.run_pure, Result.andThen_ok, eqZ, h1, h2, h3, h4]
    · simp [Op.eqFields, a1, a2, a3, b1, b2, b3, part_int, run_equalIn_int _ _ _ _ _ _ _ Tryz.underlying3, Sem.run_bind, Sem.run_ite, Sem.run_pure, Result.andThen_ok, eqZ, h1, h2]
  · simp [Op.eqFields, a1, a2, a3, part_int, run_equalIn_int _ _ _ _ _ _ _ Tryz.underlying3, Sem.run_bind, Sem.run_ite, Sem.run_pure, Result.andThen_ok, eqZ, h1]
theorem eql_zone (a b : Zon) (w : World) :
    (binOp .eql 33 (.agg #[.int .i64 a.cnt, .int .i64 a.nul, .int .i64 a.min.k, .int .i64 a.min.n, .string a.min.s, .int .i64 a.max.k, .int .i64 a.max.n, .string a.max.s])
      (.agg #[.int .i64 b.cnt, .int .i64 b.nul, .int .i64 b.min.k, .int .i64 b.min.n, .string b.min.s, .int .i64 b.max.k, .int .i64 b.max.n, .string b.max.s])).run Tryz.prog w = .ok (.bool (eqZ a b)) w := by
  rw [run_eql_struct, equal_zone 9997]
  rfl

/-! ### in memory -/
theorem block_turn {w w' : World} {g : Nat} {o : Obj} {S : Nat → Prop} (h : w.heap[g]? = some o) (k : Turn w w' S) (hS : ¬ S g) : w'.heap[g]? = some o := by
  rw [k.block g (Array.getElem?_eq_some_iff.1 h).1 hS]; exact h
theorem block_lt {w : World} {g : Nat} {o : Obj} (h : w.heap[g]? = some o) : g < w.heap.size := (Array.getElem?_eq_some_iff.1 h).1
theorem below_of {w w' : World} (h : w.grownBy w' none) : Below w.heap.size w w' := ⟨h.os, h.tape, h.output, h.size, fun k hk => h.block k hk (by simp)⟩
theorem grown_turn {w w' : World} (h : w.grownBy w' none) : Turn w w' nowhere := Turn.of_grown h (fun i e => by cases e)
theorem block_old {w w' : World} {g : Nat} {o : Obj} (h : w.heap[g]? = some o) (k : w.grownBy w' none) : w'.heap[g]? = some o := block_turn h (grown_turn k) id
/-- a cell in a block of its own -/
def CB (w : World) (g : Nat) (c : Cel) : Prop := w.heap[g]? = some (.cells #[.int .i64 c.k, .int .i64 c.n, .string c.s] 24 (0, 0))
theorem CB.new (w : World) (c : Cel) : CB (w.alloc (.cells #[.int .i64 c.k, .int .i64 c.n, .string c.s] 24)) w.heap.size c := heap_alloc_new w _
theorem CB.old {w w' : World} {g : Nat} {c : Cel} (h : CB w g c) (k : w.grownBy w' none) : CB w' g c := block_old h k
theorem CB.lt {w : World} {g : Nat} {c : Cel} (h : CB w g c) : g < w.heap.size := block_lt h
theorem CB.cells {w : World} {g : Nat} {c : Cel} (h : CB w g c) : w.cell? ⟨g, 0, none⟩ = some (.int .i64 c.k) ∧ w.cell? ⟨g, 1, none⟩ = some (.int .i64 c.n) ∧ w.cell? ⟨g, 2, none⟩ = some (.string c.s) := by
  refine ⟨?_, ?_, ?_⟩ <;> rw [cell_of_row w g _ _ _ _ h] <;> rfl
/-- a zone in a block of its own -/
def ZB (w : World) (g : Nat) (z : Zon) : Prop := w.heap[g]? = some (.cells #[.int .i64 z.cnt, .int .i64 z.nul, .int .i64 z.min.k, .int .i64 z.min.n, .string z.min.s, .int .i64 z.max.k, .int .i64 z.max.n, .string z.max.s] 33 (0, 0))
theorem ZB.new (w : World) (z : Zon) : ZB (w.alloc (.cells #[.int .i64 z.cnt, .int .i64 z.nul, .int .i64 z.min.k, .int .i64 z.min.n, .string z.min.s, .int .i64 z.max.k, .int .i64 z.max.n, .string z.max.s] 33)) w.heap.size z := heap_alloc_new w _
theorem ZB.old {w w' : World} {g : Nat} {z : Zon} (h : ZB w g z) (k : w.grownBy w' none) : ZB w' g z := block_old h k
theorem ZB.lt {w : World} {g : Nat} {z : Zon} (h : ZB w g z) : g < w.heap.size := block_lt h
theorem ZB.cells {w : World} {g : Nat} {z : Zon} (h : ZB w g z) : w.cell? ⟨g, 0, none⟩ = some (.int .i64 z.cnt) ∧ w.cell? ⟨g, 1, none⟩ = some (.int .i64 z.nul) ∧
    (w.cell? ⟨g, 2, none⟩ = some (.int .i64 z.min.k) ∧ w.cell? ⟨g, 3, none⟩ = some (.int .i64 z.min.n) ∧ w.cell? ⟨g, 4, none⟩ = some (.string z.min.s)) ∧
    w.cell? ⟨g, 5, none⟩ = some (.int .i64 z.max.k) ∧ w.cell? ⟨g, 6, none⟩ = some (.int .i64 z.max.n) ∧ w.cell? ⟨g, 7, none⟩ = some (.string z.max.s) := by
  refine ⟨?_, ?_, ⟨?_, ?_, ?_⟩, ?_, ?_, ?_⟩ <;> rw [cell_of_row w g _ _ _ _ h] <;> rfl
theorem grown_alloc (w : World) (o : Obj) : w.grownBy (w.alloc o) none := World.grownBy_alloc w o none
theorem grown_then {a b c : World} (h : a.grownBy b none) (k : b.grownBy c none) : a.grownBy c none := grownBy_trans h k (fun _ e => by cases e)
theorem grown_refl (w : World) : w.grownBy w none := ⟨rfl, rfl, rfl, Nat.le_refl _, fun _ _ _ => rfl⟩
theorem grown_drew (w : World) : w.grownBy w.drew none := ⟨rfl, rfl, rfl, Nat.le_refl _, fun _ _ _ => rfl⟩
end Go.Proofs.YtljanfnhmhimiaaGreat.Zn

namespace Go.Proofs.YtljanfnhmhimiaaGreat.Zn
open Go.RowKit Bs Dv

/-- a world that has grown out of W -/
structure Gw (W : World) where
  at_ : World
  grown : W.grownBy at_ none
instance (W : World) : Nonempty (Gw W) := ⟨⟨W, grown_refl W⟩⟩
theorem wp_region_grow {id : Nat} {Q : Exit → Act → World → Prop} {a : Act} {w : World} {l : List Oper} (hB : Region.lexB .any l.toArray = true)
    (h : wpQuiet Tryz.prog l.toArray (fun w' => ∃ q : Gw w, w' = q.at_) (fun a' => ∀ w', (∃ q : Gw w, w' = q.at_) → Q .normal a' w') l a) : (Code.region id l.toArray true).wp Tryz.prog Q a w :=
  wp_region_quiet (C := fun w' => ∃ q : Gw w, w' = q.at_) (by kernel_rfl) hB ⟨⟨_, grown_drew w⟩, rfl⟩ (by simpa using h)
theorem Calls.grow_of {f : FuncId} {args : Array Value} {w : World} {q : Gw w} {v : Value}
    (h : Calls Tryz.prog f args q.at_ fun e w' => e = .returned v ∧ q.at_.grownBy w' none) : Calls Tryz.prog f args q.at_ fun e w'' => e = .returned v ∧ ∃ p : Gw w, w'' = p.at_ :=
  h.mono fun _ _ ⟨he, hg⟩ => ⟨he, ⟨_, grown_then q.grown hg⟩, rfl⟩
theorem CB.gw {W : World} {g : Nat} {c : Cel} (h : CB W g c) : (∀ q : Gw W, q.at_.cell? ⟨g, 0, none⟩ = some (.int .i64 c.k)) ∧ (∀ q : Gw W, q.at_.cell? ⟨g, 1, none⟩ = some (.int .i64 c.n)) ∧ ∀ q : Gw W, q.at_.cell? ⟨g, 2, none⟩ = some (.string c.s) :=
  ⟨fun q => (h.old q.grown).cells.1, fun q => (h.old q.grown).cells.2.1, fun q => (h.old q.grown).cells.2.2⟩
theorem ZB.gw {W : World} {g : Nat} {z : Zon} (h : ZB W g z) : (∀ q : Gw W, q.at_.cell? ⟨g, 0, none⟩ = some (.int .i64 z.cnt)) ∧ (∀ q : Gw W, q.at_.cell? ⟨g, 1, none⟩ = some (.int .i64 z.nul)) ∧
    ((∀ q : Gw W, q.at_.cell? ⟨g, 2, none⟩ = some (.int .i64 z.min.k)) ∧ (∀ q : Gw W, q.at_.cell? ⟨g, 3, none⟩ = some (.int .i64 z.min.n)) ∧ ∀ q : Gw W, q.at_.cell? ⟨g, 4, none⟩ = some (.string z.min.s)) ∧
    (∀ q : Gw W, q.at_.cell? ⟨g, 5, none⟩ = some (.int .i64 z.max.k)) ∧ (∀ q : Gw W, q.at_.cell? ⟨g, 6, none⟩ = some (.int .i64 z.max.n)) ∧ ∀ q : Gw W, q.at_.cell? ⟨g, 7, none⟩ = some (.string z.max.s) :=
  ⟨fun q => (h.old q.grown).cells.1, fun q => (h.old q.grown).cells.2.1, ⟨fun q => (h.old q.grown).cells.2.2.1.1, fun q => (h.old q.grown).cells.2.2.1.2.1, fun q => (h.old q.grown).cells.2.2.1.2.2⟩,
    fun q => (h.old q.grown).cells.2.2.2.1, fun q => (h.old q.grown).cells.2.2.2.2.1, fun q => (h.old q.grown).cells.2.2.2.2.2⟩
end Go.Proofs.YtljanfnhmhimiaaGreat.Zn
