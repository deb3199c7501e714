/-
  The device's laws: two devices side by side.
-/
import Derived.Test.YtjhcjnalomdbnaaDoorDevActs
import Derived.Test.YtjhcjnalomdbnaaDoorDevRot
import Derived.Test.YtjhcjnalomdbnaaDoorDevLoad
namespace Go.Proofs.YtjhcjnalomdbnaaDoor.Dv
open Go.RowKit Bs

structure Two (w0 w : World) (g b : Nat) (P : Value) (s : St) (g' b' : Nat) (P' : Value) (s' : St) : Prop where
  d : Held w0 w g b P s
  c : Held w0 w g' b' P' s'
  dis : ∀ k, fp g b P k → ¬ fp g' b' P' k

theorem Two.start {w0 w w' : World} {g b g' b' : Nat} {P P' : Value} {s s' : St} (h : Held w0 w g b P s) (k : Turn w w' nowhere) (c : Held w w' g' b' P' s') : Two w0 w' g b P s g' b' P' s' :=
  ⟨h.go k, ⟨c.dev, fun i hi => Nat.le_trans h.turn.size (c.new i hi), h.turn.trans k (fun _ _ h => h)⟩, fun i hi hc => by have := h.dev.lt i hi; have := c.new i hc; omega⟩

theorem Two.go {w0 w w' : World} {g b g' b' : Nat} {P P' : Value} {s s' : St} (h : Two w0 w g b P s g' b' P' s') (k : Turn w w' nowhere) : Two w0 w' g b P s g' b' P' s' := ⟨h.d.go k, h.c.go k, h.dis⟩

theorem Two.wrote {w0 w w' : World} {g b g' b' : Nat} {P P' : Value} {s s' : St} {r : Int × St} {e : Ending} (h : Two w0 w g b P s g' b' P' s') (k : Wrote g b P r w e w') :
    ∃ P2, e = .returned (.int .i64 r.1) ∧ Two w0 w' g b P2 r.2 g' b' P' s' := by
  obtain ⟨P2, he, hd, ht, hg⟩ := h.d.wrote k
  refine ⟨P2, he, hd, ⟨h.c.dev.turn ht (fun i hi hf => h.dis i hf hi), h.c.new, hd.turn⟩, fun i hi hc => ?_⟩
  rcases hg i hi with h1 | h1
  · exact h.dis i h1 hc
  · have := h.c.dev.lt i hc
    omega

theorem Two.fused {w0 w w' : World} {g b g' b' : Nat} {P P' : Value} {s s' : St} {n : Int} {e : Ending} (h : Two w0 w g b P s g' b' P' s') (k : Fused g b P s w n e w') :
    e = .returned (.tuple #[]) ∧ Two w0 w' g b P (s.setFuse n) g' b' P' s' := by
  obtain ⟨he, hd, ht⟩ := h.d.fused k
  exact ⟨he, hd, ⟨h.c.dev.turn ht (fun i hi hf => h.dis i (.inl hf) hi), h.c.new, hd.turn⟩, h.dis⟩

theorem Held.rot {w0 w w' : World} {g b : Nat} {P : Value} {s s2 : St} {e : Ending} (h : Held w0 w g b P s) (k : RotYes g b P s2 w e w') : e = .returned (.int .i64 0) ∧ Held w0 w' g b P s2 ∧ Turn w w' (· = b) := by
  obtain ⟨he, hd, ht⟩ := k
  exact ⟨he, ⟨hd, h.new, h.turn.trans ht (fun i hi hf => by have := h.new b (.inr (.inl rfl)); omega)⟩, ht⟩

theorem Two.rot {w0 w w' : World} {g b g' b' : Nat} {P P' : Value} {s s' s2 : St} {e : Ending} (h : Two w0 w g b P s g' b' P' s') (k : RotYes g b P s2 w e w') :
    e = .returned (.int .i64 0) ∧ Two w0 w' g b P s2 g' b' P' s' := by
  obtain ⟨he, hd, ht⟩ := h.d.rot k
  exact ⟨he, hd, ⟨h.c.dev.turn ht (fun i hi hf => h.dis i (.inr (.inl hf)) hi), h.c.new, hd.turn⟩, h.dis⟩

theorem T64.held {w0 w : World} {g b : Nat} {P : Value} {s : St} (h : T64 w0) (k : Held w0 w g b P s) : T64 w := h.turn k.turn id
theorem T32.held {w0 w : World} {g b : Nat} {P : Value} {s : St} (h : T32 w0) (k : Held w0 w g b P s) : T32 w := h.turn k.turn id
theorem T32.ne {w0 w : World} {g b : Nat} {P : Value} {s : St} (h : T32 w0) (k : Held w0 w g b P s) : b ≠ 0 := fun e => by
  have h1 := World.block_lt_of_cell? w0 _ (h 0 (by decide))
  have h2 : 0 < w0.heap.size := h1
  have := k.new b (.inr (.inl rfl))
  omega
end Go.Proofs.YtjhcjnalomdbnaaDoor.Dv
