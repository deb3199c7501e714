/-
  Own on bytes.
-/
import Derived.Test.YtpcilohiokpmnaaBase
namespace Go.Proofs.Ytpcilohiokpmnaa.Bs
open Go.RowKit

/-- A row of the call's own that is not nil. -/
theorem own_shape {w : World} {base e n : Nat} {v : Value} {xs : List Value} (h : w.ownsRow base e 1 v n xs) (hv : ¬ v = .slice none 0 0) : ∃ g c, v = .slice (some ⟨g, 0, none⟩) n c := by
  rcases h.2 with ⟨e, _⟩ | ⟨g, c, cur, e, _⟩
  · exact absurd e hv
  · exact ⟨g, c, e⟩

/-- Own: new memory that reads as l. -/
def NewC (w : World) (n : Nat) (l : List Int) (e : Ending) (w' : World) : Prop :=
  ∃ g c, e = .returned (.slice (some ⟨g, 0, none⟩) n c) ∧ w'.ownsRow w.heap.size 5 1 (.slice (some ⟨g, 0, none⟩) n c) n (l.map (Value.int .u8)) ∧ w.grownBy w' none

set_option maxHeartbeats 400000 in
theorem own_any (a0 : Option Addr) (n c0 : Nat) (l : List Int) (w : World) (h0 : Seg w a0 n c0 l) (hn : n ≤ 140737488355328) :
    Calls Try.prog 22 #[.slice a0 n c0] w (NewC w n l) := by
  obtain ⟨i0, hi, hz0, hz1, hz2⟩ := info_parts info_u8
  have hown := World.ownsRow_made (base := w.heap.size) (e := 5) (size := 1) w #[] 0 (Nat.le_refl _) (by unfold maxLen; omega) rfl
  have hl0 : (l.map (Value.int .u8)).length = n * 1 := by simp [h0.len]
  have HL0 := Lib.hid hl0
  cases a0 with
  | none =>
    obtain ⟨rfl, rfl⟩ := h0.nil_ rfl
    have hl : l = [] := List.eq_nil_of_length_eq_zero h0.len
    have HE : Hid (NewC w 0 l (.returned (.slice (some ⟨w.heap.size, 0, none⟩) 0 0)) (w.alloc (.cells #[] 5))) := Lib.hid ⟨_, _, rfl, by rw [hl]; exact hown, World.grownBy_alloc w _ none⟩
    clear hl hl0 h0
    go_enter Try.func22, Try.ntmps22
    go_wp2_with (at_builtin; refine wpList_append_own_none rfl (.tmp 3) (.tmp 4) 23 rfl w.heap.size 5 i0 1 Try.underlying23 hi (.slice (some ⟨w.heap.size, 0, none⟩) 0 0) 0 [] rfl hown rfl ?_)
    go_ret
    exact HE.out
  | some ad =>
    have s0 : ∀ j u, (l.map (Value.int .u8))[j]? = some u → (w.alloc (.cells #[] 5)).cell? (ad.add j) = some u := fun j u hu => (World.grownBy_alloc w _ none).cell (h0.at_ ad rfl j u hu) (by simp)
    have S0 := Lib.hid s0
    clear hl0 h0 s0
    go_enter Try.func22, Try.ntmps22
    go_wp2_with (at_builtin; refine wpList_append_own _ rfl (.tmp 3) (.tmp 4) 23 rfl w.heap.size 5 i0 (.int .u8 0) 1 1 Try.underlying23 hi hz0 hz1 hz2 rfl (by decide) (.slice (some ⟨w.heap.size, 0, none⟩) 0 0) 0 [] rfl hown ad n c0 (l.map (Value.int .u8)) rfl HL0.out S0.out (ints_oneCell _ _) (by unfold maxLen; omega) (by omega) (by simp) ?_; intro v' w1 hown1 hgrow1 hnil)
    obtain ⟨g, c, rfl⟩ := own_shape hown1 (by rw [hnil]; simp)
    rw [Nat.zero_add, List.nil_append] at hown1
    have hfin : NewC w n l (.returned (.slice (some ⟨g, 0, none⟩) n c)) w1 := ⟨g, c, rfl, hown1, grownBy_trans (World.grownBy_alloc w _ none) hgrow1 (fun i e => by cases e; exact Nat.le_refl _)⟩
    have HE := Lib.hid hfin
    clear hfin hown1 hgrow1 hnil
    go_wp2
    go_ret
    first | exact HE.out | (rw [Nat.zero_add]; exact HE.out)
end Go.Proofs.Ytpcilohiokpmnaa.Bs
