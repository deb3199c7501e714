/-
  Frames in memory: stored whole, handed back out of a cell.
-/
import Derived.Test.YtfojkglindpjjaaDoorFrPut
namespace Go.Proofs.YtfojkglindpjjaaDoor.Fr
open Go.RowKit Bs Dv

theorem info_fm (x y z : Value) : (Tryd.prog.info? 41).map (·.size) = some (#[x, y, z] : Array Value).size := by
  rw [show (Tryd.prog.info? 41).map (·.size) = some 3 from by kernel_rfl]
  rfl

/-- A frame is stored into a variable. -/
theorem wpList_store_fm {w : World} {ops : Array Oper} {rest : List Oper} {o : Oper} {a : Act} {Q : Exit → Act → World → Prop} (hgd : o.guard = none) (x y : Operand) (ho : o.op = .store 41 x y)
    (g : Nat) (hx : a.eval x = .pointer (some ⟨g, 0, none⟩)) (f : Fm) (hy : a.eval y = .agg #[.int .u8 f.1, .int .u64 f.2.1, .string (strOfNums f.2.2)]) (o1 o2 o3 : Value)
    (hg : w.heap[g]? = some (.cells #[o1, o2, o3] 41 (0, 0)))
    (h : ∀ w', w'.heap[g]? = some (.cells #[.int .u8 f.1, .int .u64 f.2.1, .string (strOfNums f.2.2)] 41 (0, 0)) → Turn w w' (· = g) → wpList Tryd.prog ops Q rest (a.put o.dst undef) w') : wpList Tryd.prog ops Q (o :: rest) a w := by
  refine wpList_store_row hgd _ x y ho g _ hx hy _ _ hg (info_fm _ _ _) rfl (by simp [Value.oneCell']) ?_
  exact h _ (setRow_heap w g _ _ _ _ hg) ⟨rfl, rfl, rfl, by simp [World.setRow], fun k _ hk => setRow_other w g k _ hk⟩

/-- .. as one step of a region that draws its order. -/
theorem step_store_fm {w : World} {ops : Array Oper} {o : Oper} {a : Act} {K : Act → World → Prop} {Q : Exit → Act → World → Prop} {E : Prop} (hgd : o.guard = none) (x y : Operand) (ho : o.op = .store 41 x y)
    (g : Nat) (hx : a.eval x = .pointer (some ⟨g, 0, none⟩)) (t v : Int) (s : ByteArray) (hy : a.eval y = .agg #[.int .u8 t, .int .u64 v, .string s]) (o1 o2 o3 : Value)
    (hg : w.heap[g]? = some (.cells #[o1, o2, o3] 41 (0, 0)))
    (h : ∀ w', w'.heap[g]? = some (.cells #[.int .u8 t, .int .u64 v, .string s] 41 (0, 0)) → Turn w w' (· = g) → K (a.put o.dst undef) w') : if Region.wanted o (yielded ops a.tmps) = true then Oper.wp Tryd.prog o a w K Q else E := by
  have hw : Region.wanted o (yielded ops a.tmps) = true := by simp [Region.wanted, hgd]
  rw [if_pos hw]
  refine wp_store_row _ x y ho g _ hx hy _ _ hg (info_fm _ _ _) rfl (by simp [Value.oneCell']) ?_
  exact h _ (setRow_heap w g _ _ _ _ hg) ⟨rfl, rfl, rfl, by simp [World.setRow], fun k _ hk => setRow_other w g k _ hk⟩

/-- A frame is loaded whole. -/
theorem wpList_load_fm {w : World} {ops : Array Oper} {rest : List Oper} {o : Oper} {a : Act} {Q : Exit → Act → World → Prop} (hgd : o.guard = none) (x : Operand) (ho : o.op = .load 41 x)
    (g : Nat) (hx : a.eval x = .pointer (some ⟨g, 0, none⟩)) (o1 o2 o3 : Value) (hg : w.heap[g]? = some (.cells #[o1, o2, o3] 41 (0, 0)))
    (h : wpList Tryd.prog ops Q rest (a.put o.dst (.agg #[o1, o2, o3])) w) : wpList Tryd.prog ops Q (o :: rest) a w :=
  wpList_load_row hgd _ x ho g hx _ _ _ _ hg Tryd.underlying41 rfl (info_fm _ _ _) h

/-- A frame in a cell and an error are handed back. -/
theorem run_results_fm {fn : Func} {p u : Tmp} (h : fn.results = #[.cell p 41, .tmp u]) (tmps : Array Value) (w : World) (g : Nat) (x y z : Value) (hp : tmps.getD p undef = .pointer (some ⟨g, 0, none⟩))
    (hg : w.heap[g]? = some (.cells #[x, y, z] 41 (0, 0))) (v : Value) (hv : tmps.getD u undef = v) : (results fn tmps).run Tryd.prog w = .ok (.tuple #[.agg #[x, y, z], v]) w := by
  rw [← hv]
  exact results_cell_pair h tmps w g _ _ _ _ hp hg Tryd.underlying41 rfl (info_fm x y z)

/-- A frame's cells written one by one. -/
theorem heap_fm3 {w : World} {g : Nat} {o1 o2 o3 x y z : Value} (h : w.heap[g]? = some (.cells #[o1, o2, o3] 41 (0, 0))) :
    (((w.setCell ⟨g, 0, none⟩ x).setCell ⟨g, 1, none⟩ y).setCell ⟨g, 2, none⟩ z).heap[g]? = some (.cells #[x, y, z] 41 (0, 0)) := by
  have h1 := Go.heap_setCell_same w g 0 _ _ x h
  have h2 := Go.heap_setCell_same _ g 1 _ _ y h1
  have h3 := Go.heap_setCell_same _ g 2 _ _ z h2
  exact h3
theorem turn_fm3 (w : World) (g : Nat) (x y z : Value) : Turn w (((w.setCell ⟨g, 0, none⟩ x).setCell ⟨g, 1, none⟩ y).setCell ⟨g, 2, none⟩ z) (· = g) :=
  ((Turn.setCell w _ _ (S := (· = g)) rfl).trans (Turn.setCell _ _ _ (S := (· = g)) rfl) (fun _ _ e => e)).trans (Turn.setCell _ _ _ (S := (· = g)) rfl) (fun _ _ e => e)
end Go.Proofs.YtfojkglindpjjaaDoor.Fr
