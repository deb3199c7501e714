/-
  Runs.
-/
import Derived.Test.YtpcilohiokpmnaaNuForm
namespace Go.Proofs.Ytpcilohiokpmnaa.Nu
open Go.RowKit
open Dv (Turn nowhere)
open Pk (Turn.then)

set_option maxHeartbeats 1000000 in
theorem clone_any (a : Option Addr) (n c : Nat) (l : List Bool) (w : World) (hs : Bl.Seg w a n c l) (hn : n ≤ 1000000) :
    Calls Try.prog 62 #[.slice a n c] w fun e w' => ∃ a' k, e = .returned (.slice a' n k) ∧ Bl.Seg w' a' n k l ∧ Turn w w' nowhere ∧ (∀ i, blockOf a' n i → w.heap.size ≤ i) := by
  obtain ⟨i0, hi, hz0, hz1, hz2⟩ := info_parts Bl.info_bool
  cases a with
  | none =>
    obtain ⟨rfl, rfl⟩ := hs.nil_ rfl
    have HS := Lib.hid hs
    have heq : ∀ W : World, (binOp .eql 27 (.slice none 0 0) (.slice none 0 0)).run Try.prog W = .ok (.bool true) W := fun W => by kernel_rfl
    clear hs
    go_enter Try.func62, Try.ntmps62
    go_wp2
    go_ret
    exact ⟨none, 0, rfl, HS.out, Turn.refl _ _, fun i ⟨_, h, _⟩ => by cases h⟩
  | some x =>
    have hown := World.ownsRow_made (base := w.heap.size) (e := 4) (size := 1) w #[] 0 (Nat.le_refl _) (by unfold maxLen; omega) rfl
    have HO := Lib.hid hown
    have HT := Lib.hid (Turn.alloc w (.cells #[] 4) nowhere)
    have HS := Lib.hid (bseg_stay hs HT.out)
    have heq : ∀ W : World, (binOp .eql 27 (.slice (some x) n c) (.slice none 0 0)).run Try.prog W = .ok (.bool false) W := fun W => by kernel_rfl
    clear hown hs
    go_enter Try.func62, Try.ntmps62
    go_wp2_with (at_builtin; refine Bl.wpList_append_seg rfl (.tmp 5) (.tmp 6) 27 rfl w.heap.size 4 i0 Try.underlying27 hi hz0 hz1 hz2 w.heap.size 0 0 [] rfl HO.out (some x) n c l rfl HS.out (by omega) (by simp) ?_; intro g1 c1 w1 hown1 hgrow1; simp only [Nat.zero_add, List.nil_append] at hown1 ⊢; have HO1 := Lib.hid hown1; have HG1 := Lib.hid hgrow1; clear hown1 hgrow1)
    go_ret
    have hlt := HO1.out.lt _ rfl
    exact ⟨some ⟨g1, 0, none⟩, c1, rfl, Bl.Seg.own HO1.out, Turn.trans HT.out (Turn.of_grown (S := fun i => i = w.heap.size) HG1.out (fun i e _ => by cases e; rfl)) (fun i hi e => by omega), fun i ⟨ad, h, _, hb⟩ => by cases h; rw [hb]; exact hlt.1⟩

/-- Runs' answer: the runs of new flags -/
def RunsX (w : World) (n : Nat) (l : List Bool) (e : Ending) (w' : World) : Prop :=
  ∃ a k, e = .returned (.func (.func 58) #[.slice a n k] #[]) ∧ Bl.Seg w' a n k l ∧ Turn w w' nowhere ∧ (∀ i, blockOf a n i → w.heap.size ≤ i)

set_option maxHeartbeats 1000000 in
theorem runs_any (a : Option Addr) (n c : Nat) (l : List Bool) (w : World) (hs : Bl.Seg w a n c l) (hn : n ≤ 1000000) :
    Calls Try.prog 44 #[.slice a n c] w (RunsX w n l) := by
  have HC := Lib.hid (clone_any a n c l w hs hn)
  have hmf : ∀ (fn : Fn) (first cap : Array Value) (w : World), (Instr.makeFunc fn first cap).run Try.prog w = .ok (.func fn first cap) w := fun _ _ _ _ => rfl
  clear hs hn
  go_enter Try.func44, Try.ntmps44
  go_wp2_with fail
  refine HC.out.mono ?_
  rintro e w1 ⟨a', k, rfl, hs1, ht1, hf1⟩
  have HF : Hid (RunsX w n l (.returned (.func (.func 58) #[.slice a' n k] #[])) w1) := Lib.hid ⟨a', k, rfl, hs1, ht1, hf1⟩
  clear hs1 ht1 hf1
  dsimp only
  go_wp2
  go_ret
  exact HF.out
end Go.Proofs.Ytpcilohiokpmnaa.Nu
