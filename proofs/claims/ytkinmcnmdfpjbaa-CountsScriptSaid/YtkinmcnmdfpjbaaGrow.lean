/-
  Worlds that grow; a region that draws its order, whose operations only read and whose callees make memory: one walk in the order of the text.
-/
import Derived.Test.YtkinmcnmdfpjbaaMem
import Derived.BigQuiet
import Derived.Deep.QuietTactic
namespace Go.Proofs.Ytkinmcnmdfpjbaa.Gr
open Go.RowKit Bs Dv

theorem block_stays {w w' : World} {g : Nat} {o : Obj} {S : Nat → Prop} (h : w.heap[g]? = some o) (k : Turn w w' S) (hS : ¬ S g) : w'.heap[g]? = some o := by rw [k.block g (Array.getElem?_eq_some_iff.1 h).1 hS]; exact h
theorem grown_turn {w w' : World} (h : w.grownBy w' none) : Turn w w' nowhere := Turn.of_grown h (fun i e => by cases e)
theorem block_old {w w' : World} {g : Nat} {o : Obj} (h : w.heap[g]? = some o) (k : w.grownBy w' none) : w'.heap[g]? = some o := block_stays h (grown_turn k) id
theorem block_lt {w : World} {g : Nat} {o : Obj} (h : w.heap[g]? = some o) : g < w.heap.size := (Array.getElem?_eq_some_iff.1 h).1
theorem grown_alloc (w : World) (o : Obj) : w.grownBy (w.alloc o) none := World.grownBy_alloc w o none
theorem grown_then {a b c : World} (h : a.grownBy b none) (k : b.grownBy c none) : a.grownBy c none := grownBy_trans h k (fun _ e => by cases e)
theorem grown_refl (w : World) : w.grownBy w none := ⟨rfl, rfl, rfl, Nat.le_refl _, fun _ _ _ => rfl⟩
theorem grown_drew (w : World) : w.grownBy w.drew none := ⟨rfl, rfl, rfl, Nat.le_refl _, fun _ _ _ => rfl⟩
theorem below_grown {w w' : World} (h : Below w.heap.size w w') : w.grownBy w' none := ⟨h.os, h.tape, h.output, h.size, fun k hk _ => h.block k hk⟩
theorem grown_below {w w' : World} (h : w.grownBy w' none) : Below w.heap.size w w' := ⟨h.os, h.tape, h.output, h.size, fun k hk => h.block k hk (by simp)⟩
/-- A store into a block that was not there at first, as a turn. -/
theorem grown_put {a w w' : World} {g : Nat} (h : a.grownBy w none) (t : Turn w w' (· = g)) (hg : a.heap.size ≤ g) : a.grownBy w' none :=
  ⟨t.os.trans h.os, t.tape.trans h.tape, t.output.trans h.output, Nat.le_trans h.size t.size, fun i hi hn => (t.block i (Nat.lt_of_lt_of_le hi h.size) (fun e => by omega)).trans (h.block i hi hn)⟩
/-- a world that has grown out of W -/
structure Gw (W : World) where
  at_ : World
  grown : W.grownBy at_ none
instance (W : World) : Nonempty (Gw W) := ⟨⟨W, grown_refl W⟩⟩
theorem wp_region_grow {id : Nat} {Q : Exit → Act → World → Prop} {a : Act} {w : World} {l : List Oper} (hB : Region.lexB .any l.toArray = true)
    (h : wpQuiet Try.prog l.toArray (fun w' => ∃ q : Gw w, w' = q.at_) (fun a' => ∀ w', (∃ q : Gw w, w' = q.at_) → Q .normal a' w') l a) : (Code.region id l.toArray true).wp Try.prog Q a w :=
  wp_region_quiet (C := fun w' => ∃ q : Gw w, w' = q.at_) (by kernel_rfl) hB ⟨⟨_, grown_drew w⟩, rfl⟩ (by simpa using h)
theorem Calls.grow_of {f : FuncId} {args : Array Value} {w : World} {q : Gw w} {v : Value}
    (h : Calls Try.prog f args q.at_ fun e w' => e = .returned v ∧ q.at_.grownBy w' none) : Calls Try.prog f args q.at_ fun e w'' => e = .returned v ∧ ∃ p : Gw w, w'' = p.at_ :=
  h.mono fun _ _ ⟨he, hg⟩ => ⟨he, ⟨_, grown_then q.grown hg⟩, rfl⟩
end Go.Proofs.Ytkinmcnmdfpjbaa.Gr
