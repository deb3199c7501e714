/-
  Supers in memory: a box that holds one; stored whole, loaded whole, handed back.
-/
import Derived.Test.YtfojkglindpjjaaDoorSuNum
import Derived.Test.YtfojkglindpjjaaDoorWBase
import Derived.Test.YtfojkglindpjjaaDoorFrAny
import Derived.Test.YtfojkglindpjjaaDoorGrow
namespace Go.Proofs.YtfojkglindpjjaaDoor.Su
open Go.RowKit Bs Dv Gr
open Fr (block_turn)

/-- a super in a block of its own; its pages are the slice a n c -/
def SB (w : World) (g : Nat) (s : Sup) (a : Option Addr) (n c : Nat) : Prop := w.heap[g]? = some (.cells #[.int .u64 s.gen, .int .i64 s.size, .int .i64 s.blocks, .int .u32 s.root, .slice a n c] 29 (0, 0))
theorem SB.new (w : World) (s : Sup) (a : Option Addr) (n c : Nat) : SB (w.alloc (.cells #[.int .u64 s.gen, .int .i64 s.size, .int .i64 s.blocks, .int .u32 s.root, .slice a n c] 29)) w.heap.size s a n c := heap_alloc_new w _
theorem SB.old {w w' : World} {g : Nat} {s : Sup} {a : Option Addr} {n c : Nat} (h : SB w g s a n c) (k : w.grownBy w' none) : SB w' g s a n c := block_old h k
theorem SB.not {w w' : World} {g k : Nat} {s : Sup} {a : Option Addr} {n c : Nat} (h : SB w g s a n c) (t : Turn w w' (· = k)) (hne : g ≠ k) : SB w' g s a n c := block_turn h t hne
theorem SB.lt {w : World} {g : Nat} {s : Sup} {a : Option Addr} {n c : Nat} (h : SB w g s a n c) : g < w.heap.size := block_lt h
theorem SB.cells {w : World} {g : Nat} {s : Sup} {a : Option Addr} {n c : Nat} (h : SB w g s a n c) : w.cell? ⟨g, 0, none⟩ = some (.int .u64 s.gen) ∧ w.cell? ⟨g, 1, none⟩ = some (.int .i64 s.size) ∧ w.cell? ⟨g, 2, none⟩ = some (.int .i64 s.blocks) ∧
    w.cell? ⟨g, 3, none⟩ = some (.int .u32 s.root) ∧ w.cell? ⟨g, 4, none⟩ = some (.slice a n c) := by
  refine ⟨?_, ?_, ?_, ?_, ?_⟩ <;> rw [cell_of_row w g _ _ _ _ h] <;> rfl
theorem SB.froz {w : World} {g : Nat} {s : Sup} {a : Option Addr} {n c : Nat} (h : SB w g s a n c) (j : Nat) : w.frozen? ⟨g, j, none⟩ = false := by
  unfold SB at h
  simp [World.frozen?, h]
theorem SB.gw {W : World} {g : Nat} {s : Sup} {a : Option Addr} {n c : Nat} (h : SB W g s a n c) : (∀ q : Gw W, q.at_.cell? ⟨g, 0, none⟩ = some (.int .u64 s.gen)) ∧ (∀ q : Gw W, q.at_.cell? ⟨g, 1, none⟩ = some (.int .i64 s.size)) ∧ (∀ q : Gw W, q.at_.cell? ⟨g, 2, none⟩ = some (.int .i64 s.blocks)) ∧
    (∀ q : Gw W, q.at_.cell? ⟨g, 3, none⟩ = some (.int .u32 s.root)) ∧ ∀ q : Gw W, q.at_.cell? ⟨g, 4, none⟩ = some (.slice a n c) :=
  ⟨fun q => (h.old q.grown).cells.1, fun q => (h.old q.grown).cells.2.1, fun q => (h.old q.grown).cells.2.2.1, fun q => (h.old q.grown).cells.2.2.2.1, fun q => (h.old q.grown).cells.2.2.2.2⟩

theorem info_super : (Tryd.prog.info? 29).map (·.size) = some 5 := by kernel_rfl
/-- A super is stored into a variable. -/
theorem wpList_store_super {w : World} {ops : Array Oper} {rest : List Oper} {o : Oper} {a : Act} {Q : Exit → Act → World → Prop} (hgd : o.guard = none) (x y : Operand) (ho : o.op = .store 29 x y)
    (g : Nat) (hx : a.eval x = .pointer (some ⟨g, 0, none⟩)) (s : Sup) (p : Option Addr) (n c : Nat) (hy : a.eval y = .agg #[.int .u64 s.gen, .int .i64 s.size, .int .i64 s.blocks, .int .u32 s.root, .slice p n c])
    (s0 : Sup) (p0 : Option Addr) (n0 c0 : Nat) (hg : SB w g s0 p0 n0 c0)
    (h : ∀ w', SB w' g s p n c → Turn w w' (· = g) → wpList Tryd.prog ops Q rest (a.put o.dst undef) w') : wpList Tryd.prog ops Q (o :: rest) a w := by
  refine wpList_store_row hgd _ x y ho g _ hx hy _ _ hg info_super rfl (by simp [Value.oneCell']) ?_
  exact h _ (setRow_heap w g _ _ _ _ hg) ⟨rfl, rfl, rfl, by simp [World.setRow], fun k _ hk => setRow_other w g k _ hk⟩
theorem wp_store_super {w : World} {o : Oper} {a : Act} {K : Act → World → Prop} {Q : Exit → Act → World → Prop} (hgd : o.dst = none) (x y : Operand) (ho : o.op = .store 29 x y)
    (g : Nat) (hx : a.eval x = .pointer (some ⟨g, 0, none⟩)) (s : Sup) (p : Option Addr) (n c : Nat) (hy : a.eval y = .agg #[.int .u64 s.gen, .int .i64 s.size, .int .i64 s.blocks, .int .u32 s.root, .slice p n c])
    (s0 : Sup) (p0 : Option Addr) (n0 c0 : Nat) (hg : SB w g s0 p0 n0 c0)
    (h : ∀ w', SB w' g s p n c → Turn w w' (· = g) → K a w') : Oper.wp Tryd.prog o a w K Q := by
  refine wp_store_row _ x y ho g _ hx hy _ _ hg info_super rfl (by simp [Value.oneCell']) ?_
  rw [hgd]
  exact h _ (setRow_heap w g _ _ _ _ hg) ⟨rfl, rfl, rfl, by simp [World.setRow], fun k _ hk => setRow_other w g k _ hk⟩
/-- A super in a cell and a value in a slot are handed back. -/
theorem run_results_super {fn : Func} {p u : Tmp} (h : fn.results = #[.cell p 29, .tmp u]) (tmps : Array Value) (w : World) (g : Nat) (s : Sup) (a : Option Addr) (n c : Nat) (hp : tmps.getD p undef = .pointer (some ⟨g, 0, none⟩))
    (hg : SB w g s a n c) (v : Value) (hv : tmps.getD u undef = v) : (results fn tmps).run Tryd.prog w = .ok (.tuple #[.agg #[.int .u64 s.gen, .int .i64 s.size, .int .i64 s.blocks, .int .u32 s.root, .slice a n c], v]) w := by
  rw [← hv]
  exact results_cell_pair h tmps w g _ _ _ _ hp hg Tryd.underlying29 rfl info_super
/-- A value in a slot, a struct in a cell, a value in a slot. -/
theorem results_mid {P : Program} {fn : Func} {p u v : Tmp} {ty : TypeId} (h : fn.results = #[.tmp u, .cell p ty, .tmp v]) (tmps : Array Value) (w : World) (g : Nat) (t : TypeId) (cs : Array Value) (fr : Nat × Nat) (d : TypeDesc)
    (hp : tmps.getD p undef = .pointer (some ⟨g, 0, none⟩)) (hg : w.heap[g]? = some (.cells cs t fr))
    (hu : P.underlying ty = some d) (hd : (match d with | .struct _ | .array _ _ => true | _ => false) = true) (hi : (P.info? ty).map (·.size) = some cs.size) :
    (results fn tmps).run P w = .ok (.tuple #[tmps.getD u undef, .agg cs, tmps.getD v undef]) w := by
  have e : (results fn tmps).run P w = ((asAddr (tmps.getD p undef)).run P w).andThen fun a w₁ => ((loadVar ty a).run P w₁).andThen fun x w₂ => .ok (.tuple #[tmps.getD u undef, x, tmps.getD v undef]) w₂ := by
    simp only [results, h]
    simp [Sem.run_bind, Result.andThen]
  rw [e, hp]
  simp [asAddr, Result.andThen, run_loadVar_row w g t ty cs fr d hg hu hd hi]
theorem run_results_mid {fn : Func} {p u v : Tmp} (h : fn.results = #[.tmp u, .cell p 29, .tmp v]) (tmps : Array Value) (w : World) (g : Nat) (s : Sup) (a : Option Addr) (n c : Nat) (x y : Value) (hp : tmps.getD p undef = .pointer (some ⟨g, 0, none⟩))
    (hg : SB w g s a n c) (hx : tmps.getD u undef = x) (hy : tmps.getD v undef = y) : (results fn tmps).run Tryd.prog w = .ok (.tuple #[x, .agg #[.int .u64 s.gen, .int .i64 s.size, .int .i64 s.blocks, .int .u32 s.root, .slice a n c], y]) w := by
  rw [← hx, ← hy]
  exact results_mid h tmps w g _ _ _ _ hp hg Tryd.underlying29 rfl info_super

theorem bd {l : List Int} (h : Ws.IsW l) (k : Nat) : 0 ≤ l.getD k 0 ∧ l.getD k 0 < 4294967296 := by
  rw [List.getD_eq_getElem?_getD]
  by_cases hk : k < l.length
  · rw [List.getElem?_eq_getElem hk]; have := h _ (List.getElem_mem hk); exact ⟨this.1, by show l[k] < _; omega⟩
  · rw [List.getElem?_eq_none (by omega)]; decide
end Go.Proofs.YtfojkglindpjjaaDoor.Su
