/-
  A region that draws its order, whose operations only read and whose callees make memory: one walk in the order of the text, over every world that has grown out of the first.
-/
import Derived.Test.YtpincfofnlfjiaaZnEq
import Derived.BigQuiet
import Derived.Deep.QuietTactic
namespace Go.Proofs.Ytpincfofnlfjiaa.Zn
open Go.RowKit Bs Dv

/-- a world that has grown out of W -/
structure Gw (W : World) where
  at_ : World
  grown : W.grownBy at_ none
instance (W : World) : Nonempty (Gw W) := ⟨⟨W, grown_refl W⟩⟩
theorem wp_region_grow {id : Nat} {Q : Exit → Act → World → Prop} {a : Act} {w : World} {l : List Oper} (hB : Region.lexB .any l.toArray = true)
    (h : wpQuiet Try.prog l.toArray (fun w' => ∃ q : Gw w, w' = q.at_) (fun a' => ∀ w', (∃ q : Gw w, w' = q.at_) → Q .normal a' w') l a) : (Code.region id l.toArray true).wp Try.prog Q a w :=
  wp_region_quiet (C := fun w' => ∃ q : Gw w, w' = q.at_) (by kernel_rfl) hB ⟨⟨_, grown_drew w⟩, rfl⟩ (by simpa using h)
theorem Calls.grow_of {f : FuncId} {args : Array Value} {w : World} {q : Gw w} {v : Value}
    (h : Calls Try.prog f args q.at_ fun e w' => e = .returned v ∧ q.at_.grownBy w' none) : Calls Try.prog f args q.at_ fun e w'' => e = .returned v ∧ ∃ p : Gw w, w'' = p.at_ :=
  h.mono fun _ _ ⟨he, hg⟩ => ⟨he, ⟨_, grown_then q.grown hg⟩, rfl⟩
theorem Calls.grow_same {f : FuncId} {args : Array Value} {w : World} {q : Gw w} {v : Value}
    (h : Calls Try.prog f args q.at_ fun e w' => e = .returned v ∧ q.at_ = w') : Calls Try.prog f args q.at_ fun e w'' => e = .returned v ∧ ∃ p : Gw w, w'' = p.at_ :=
  h.mono fun _ _ ⟨he, hg⟩ => ⟨he, q, hg.symm⟩
theorem CB.gw {W : World} {g : Nat} {c : Cel} (h : CB W g c) : (∀ q : Gw W, q.at_.cell? ⟨g, 0, none⟩ = some (.int .i64 c.k)) ∧ (∀ q : Gw W, q.at_.cell? ⟨g, 1, none⟩ = some (.int .i64 c.n)) ∧ ∀ q : Gw W, q.at_.cell? ⟨g, 2, none⟩ = some (.string c.s) :=
  ⟨fun q => (h.old q.grown).cells.1, fun q => (h.old q.grown).cells.2.1, fun q => (h.old q.grown).cells.2.2⟩
theorem ZB.gw {W : World} {g : Nat} {z : Zon} (h : ZB W g z) : (∀ q : Gw W, q.at_.cell? ⟨g, 0, none⟩ = some (.int .i64 z.cnt)) ∧ (∀ q : Gw W, q.at_.cell? ⟨g, 1, none⟩ = some (.int .i64 z.nul)) ∧
    ((∀ q : Gw W, q.at_.cell? ⟨g, 2, none⟩ = some (.int .i64 z.min.k)) ∧ (∀ q : Gw W, q.at_.cell? ⟨g, 3, none⟩ = some (.int .i64 z.min.n)) ∧ ∀ q : Gw W, q.at_.cell? ⟨g, 4, none⟩ = some (.string z.min.s)) ∧
    (∀ q : Gw W, q.at_.cell? ⟨g, 5, none⟩ = some (.int .i64 z.max.k)) ∧ (∀ q : Gw W, q.at_.cell? ⟨g, 6, none⟩ = some (.int .i64 z.max.n)) ∧ ∀ q : Gw W, q.at_.cell? ⟨g, 7, none⟩ = some (.string z.max.s) :=
  ⟨fun q => (h.old q.grown).cells.1, fun q => (h.old q.grown).cells.2.1, ⟨fun q => (h.old q.grown).cells.2.2.1.1, fun q => (h.old q.grown).cells.2.2.1.2.1, fun q => (h.old q.grown).cells.2.2.1.2.2⟩,
    fun q => (h.old q.grown).cells.2.2.2.1, fun q => (h.old q.grown).cells.2.2.2.2.1, fun q => (h.old q.grown).cells.2.2.2.2.2⟩
end Go.Proofs.Ytpincfofnlfjiaa.Zn
