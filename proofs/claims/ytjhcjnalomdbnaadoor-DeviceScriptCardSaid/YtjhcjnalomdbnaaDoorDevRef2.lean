/-
  The document's device: Fuse, Write.
-/
import Derived.Test.YtjhcjnalomdbnaaDoorDevRef1
namespace Go.Proofs.YtjhcjnalomdbnaaDoor.Dv
open Go.RowKit Bs

def RFused (g : Nat) (D P : Value) (s : St) (w : World) (n : Int) (e : Ending) (w' : World) : Prop := e = .returned (.tuple #[]) ∧ Ref w' g D P (s.setFuse n) ∧ Turn w w' (· = g)
theorem rfuse_any (g : Nat) (D P : Value) (s : St) (n : Int) (w : World) (h : Ref w g D P s) (hn : -9223372036854775808 ≤ n ∧ n ≤ 9223372036854775807) :
    Calls Tryd.prog 32 #[.pointer (some ⟨g, 0, none⟩), .int .i64 n] w (RFused g D P s w n) := by
  obtain ⟨q0, q1, q2, q3, q4, q5⟩ := h.cells
  have f5 := h.free 5
  have hfin : RFused g D P s w n (.returned (.tuple #[])) (w.setCell ⟨g, 5, none⟩ (.int .i64 (max n (-1)))) := by
    have ht : Turn w (w.setCell ⟨g, 5, none⟩ (.int .i64 (max n (-1)))) (· = g) := Turn.setCell w _ _ rfl
    refine ⟨rfl, h.rebox ht ?_ (h.ok.setFuse n hn.2) rfl rfl rfl, ht⟩
    rw [heap_set h.box]
    rfl
  have HF := Lib.hid hfin
  clear hfin h
  by_cases h1 : n ≤ -1
  · have e1 : max n (-1) = -1 := by omega
    rw [e1] at HF
    go_enter Tryd.func32, Tryd.ntmps32
    go_wp2
    all_goals
      go_end0
      first
        | exact HF.out
        | (have : n = -1 := by omega
           subst this
           exact HF.out)
  · have e1 : max n (-1) = n := by omega
    rw [e1] at HF
    go_enter Tryd.func32, Tryd.ntmps32
    go_wp2
    all_goals
      go_end0
      exact HF.out
end Go.Proofs.YtjhcjnalomdbnaaDoor.Dv
