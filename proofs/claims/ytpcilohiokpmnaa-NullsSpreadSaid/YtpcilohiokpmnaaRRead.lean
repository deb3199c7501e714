/-
  The document's reader: New, Number.
-/
import Derived.Test.YtpcilohiokpmnaaKeep
import Derived.Test.YtpcilohiokpmnaaRef0
namespace Go.Proofs.Ytpcilohiokpmnaa.In
open Go.RowKit Go.Joins
open Bs (info_u8)
open Oct (readV ofB VInv)
open Dv (Turn nowhere)

/-- The document's reader in memory: the bytes that are left. -/
structure RR (w : World) (b g : Nat) (l : List Int) : Prop where
  ne : g ≠ b
  cells : ∃ o c, w.cell? ⟨b, 0, none⟩ = some (.slice (some ⟨g, o, none⟩) l.length c) ∧ l.length ≤ c ∧ c ≤ maxLen ∧ ∀ j, j < l.length → w.cell? ⟨g, o + j, none⟩ = some (.int .u8 (l.getD j 0))
  free : w.frozen? ⟨b, 0, none⟩ = false
theorem RR.lt {w : World} {b g : Nat} {l : List Int} (h : RR w b g l) : b < w.heap.size := by
  obtain ⟨o, c, h0, _⟩ := h.cells
  exact World.block_lt_of_cell? w _ h0
theorem RR.turn {w w' : World} {b g : Nat} {l : List Int} {S : Nat → Prop} (h : RR w b g l) (k : Turn w w' S) (h1 : ¬ S b) (h2 : ¬ S g) : RR w' b g l := by
  have lt := h.lt
  obtain ⟨o, c, h0, hle, hc, hj⟩ := h.cells
  exact ⟨h.ne, ⟨o, c, k.cell h0 h1, hle, hc, fun j hjl => k.cell (hj j hjl) h2⟩, (k.frozen (p := ⟨b, 0, none⟩) lt h1).trans h.free⟩
/-- the reader goes on by n bytes -/
theorem RR.next {w : World} {b g o c n : Nat} {l : List Int} (h : RR w b g l) (h0 : w.cell? ⟨b, 0, none⟩ = some (.slice (some ⟨g, o, none⟩) l.length c)) (hle : l.length ≤ c) (hc : c ≤ maxLen) (hj : ∀ j, j < l.length → w.cell? ⟨g, o + j, none⟩ = some (.int .u8 (l.getD j 0))) (hn : n ≤ l.length) (v : Option Addr)
    (hv : v = if c = n then some ⟨g, o, none⟩ else some ⟨g, o + n, none⟩) :
    RR (w.setCell ⟨b, 0, none⟩ (.slice v (l.length - n) (c - n))) b g (l.drop n) := by
  have hT : Turn w (w.setCell ⟨b, 0, none⟩ (.slice v (l.length - n) (c - n))) (At b) := Turn.setCell w ⟨b, 0, none⟩ _ rfl
  have hcell : (w.setCell ⟨b, 0, none⟩ (.slice v (l.length - n) (c - n))).cell? ⟨b, 0, none⟩ = some (.slice v (l.length - n) (c - n)) := World.cell?_setCell_same _ _ _ h0
  refine ⟨h.ne, ?_, by rw [World.frozen?_setCell]; exact h.free⟩
  by_cases hcn : c = n
  · rw [if_pos hcn] at hv
    subst hv
    refine ⟨o, c - n, by rw [hcell, List.length_drop], by rw [List.length_drop]; omega, by omega, fun j hjl => ?_⟩
    rw [List.length_drop] at hjl
    omega
  · rw [if_neg hcn] at hv
    subst hv
    refine ⟨o + n, c - n, by rw [hcell, List.length_drop], by rw [List.length_drop]; omega, by omega, fun j hjl => ?_⟩
    rw [List.length_drop] at hjl
    have h1 := hT.cell (hj (n + j) (by omega)) (fun e => h.ne e)
    rw [Nat.add_assoc, h1]
    simp [List.getD]

/-- A new reader. -/
def RNew2 (w : World) (l : List Int) (e : Ending) (w' : World) : Prop :=
  ∃ b g, e = .returned (.pointer (some ⟨b, 0, none⟩)) ∧ w.heap.size ≤ b ∧ RR w' b g l ∧ w.grownBy w' none ∧ g < w'.heap.size

set_option maxRecDepth 100000 in
set_option maxHeartbeats 1000000 in
theorem rnew_any (a : Option Addr) (n c : Nat) (l : List Int) (w : World) (hs : Bs.Seg w a n c l) (hn : n ≤ 140737488355328) :
    Calls Try.prog 37 #[.slice a n c] w (RNew2 w l) := by
  obtain ⟨i0, hi, hz0, hz1, hz2⟩ := info_parts info_u8
  have hl := hs.len
  have h0 := World.ownsRow_made (base := w.heap.size) (e := 5) (size := 1) w #[] 0 (Nat.le_refl _) (by unfold maxLen; omega) rfl
  have HO0 : Hid ((w.alloc (.cells #[] 5)).ownsRow w.heap.size 5 1 (.slice (some ⟨w.heap.size, 0, none⟩) 0 0) 0 ([] : List Value)) := Lib.hid h0
  have HS := Lib.hid (hs.grown (World.grownBy_alloc w (.cells #[] 5) none))
  have HW : Hid (w.heap.size ≤ (w.alloc (.cells #[] 5)).heap.size) := Lib.hid (by simp)
  clear h0 hs
  go_enter Try.func37, Try.ntmps37
  go_wp2_with (at_builtin; refine Bs.wpList_append_seg rfl (.tmp 3) (.tmp 4) 23 rfl w.heap.size 5 i0 Try.underlying23 hi hz0 hz1 hz2 w.heap.size 0 0 [] rfl HO0.out a n c l rfl HS.out (by omega) HW.out ?_; intro g1 c1 w1 hown1 hgrow1)
  have hlt := (hown1.lt g1 rfl).2
  have hs1 := Bs.Seg.own (l := l) (by simpa using hown1)
  have hcells : ∀ j, j < l.length → w1.cell? ⟨g1, 0 + j, none⟩ = some (.int .u8 (l.getD j 0)) := fun j hj => by
    have := hs1.at_ _ rfl j (.int .u8 (l.getD j 0)) (by simp [List.getD, hj])
    rw [Addr.add_lit] at this
    exact this
  have hA : Turn w1 (w1.alloc (.cells #[.slice (some ⟨g1, 0, none⟩) n c1] 82)) nowhere := Turn.alloc _ _ _
  have hF : RNew2 w l (.returned (.pointer (some ⟨w1.heap.size, 0, none⟩))) (w1.alloc (.cells #[.slice (some ⟨g1, 0, none⟩) n c1] 82)) := by
    have hgr : w.grownBy w1 none := Bs.grownBy_trans (World.grownBy_alloc w _ none) hgrow1 (fun j e => by cases e; exact Nat.le_refl _)
    refine ⟨w1.heap.size, g1, rfl, hgr.size, ⟨by omega, ⟨0, c1, ?_, ?_, hs1.cap, fun j hj => hA.cell (hcells j hj) id⟩, ?_⟩, Bs.grownBy_trans hgr (World.grownBy_alloc w1 _ none) (fun j e => by cases e), by simp; omega⟩
    · rw [hl]; exact World.cell?_alloc_at _ _ _ _ rfl
    · have := hs1.le; omega
    · exact World.frozen?_alloc_at _ _ _ _ rfl
  have HF := Lib.hid hF
  clear hown1 hgrow1 hs1 hcells hA hF hlt
  go_ret
  exact HF.out

/-- The document's reader has read: the number, the error; what is left. -/
def RRead (b g : Nat) (w : World) (v E : Int) (r : List Int) (e : Ending) (w' : World) : Prop :=
  e = .returned (.tuple #[.int .u64 v, .int .i64 E]) ∧ Turn w w' (At b) ∧ RR w' b g r

set_option maxRecDepth 100000 in
set_option maxHeartbeats 1000000 in
theorem rnumber_more (b g : Nat) (l : List Int) (n : Nat) (w : World) (h : RR w b g l) (n1 : 1 ≤ n) (n8 : n ≤ 8) (hn : l.length < n) :
    Calls Try.prog 39 #[.pointer (some ⟨b, 0, none⟩), .int .i64 n] w (RRead b g w 0 7 l) := by
  obtain ⟨o, c, h0, hle, hc, hj⟩ := h.cells
  have H := Lib.hid h
  obtain ⟨m, hm⟩ : ∃ m, l.length = m := ⟨_, rfl⟩
  rw [hm] at h0 hn
  have a1 : ¬ n < 1 := by omega
  have a2 : ¬ 8 < n := by omega
  clear hj hle hc h hm
  go_enter Try.func39, Try.ntmps39
  go_wp2
  go_ret2
  exact ⟨rfl, Turn.refl _ _, H.out⟩

set_option maxRecDepth 100000 in
set_option maxHeartbeats 1000000 in
theorem rnumber_yes (b g : Nat) (l : List Int) (n : Nat) (w : World) (h : RR w b g l) (hb : Oct.IsB l) (n1 : 1 ≤ n) (n8 : n ≤ 8) (hn : n ≤ l.length) :
    Calls Try.prog 39 #[.pointer (some ⟨b, 0, none⟩), .int .i64 n] w (RRead b g w (ofB (l.take n)) 0 (l.drop n)) := by
  obtain ⟨o, c, h0, hle, hc, hj⟩ := h.cells
  have H := Lib.hid h
  have hf := h.free
  have hseg : Bs.Seg w (some ⟨g, o, none⟩) n c (l.take n) := by
    refine ⟨by rw [List.length_take]; omega, by omega, hc, (fun e => by cases e), fun ad had j u hu => ?_⟩
    cases had
    have hjn : j < n := by
      have := (List.getElem?_eq_some_iff.1 hu).1
      simp at this
      omega
    rw [Addr.add_lit, hj j (by omega)]
    rw [List.getElem?_map, List.getElem?_take_of_lt hjn, List.getElem?_eq_getElem (by omega)] at hu
    simp [List.getD, List.getElem?_eq_getElem (show j < l.length by omega)]
    simpa using hu
  have HOf := Lib.hid (Ref1.rof_any g o n c _ w hseg (isB_take hb n) n8)
  have HNext := Lib.hid (fun v hv => RR.next (n := n) h h0 hle hc hj hn v hv)
  obtain ⟨z, hz⟩ : ∃ z, ofB (l.take n) = z := ⟨_, rfl⟩
  rw [hz] at HOf ⊢
  obtain ⟨m, hm⟩ : ∃ m, l.length = m := ⟨_, rfl⟩
  rw [hm] at h0 hn HNext hle
  have a1 : ¬ n < 1 := by omega
  have a2 : ¬ 8 < n := by omega
  have a3 : ¬ m < n := by omega
  unfold maxLen at hc
  clear hj h hm hseg hz
  have HT : Hid (∀ v, Turn w (w.setCell ⟨b, 0, none⟩ v) (At b)) := Lib.hid (fun v => Turn.setCell w ⟨b, 0, none⟩ v rfl)
  by_cases hcn : c = n
  · subst hcn
    obtain rfl : m = c := by omega
    have HF : Hid (RRead b g w z 0 (l.drop m) (.returned (.tuple #[.int .u64 z, .int .i64 0])) (w.setCell ⟨b, 0, none⟩ (.slice (some ⟨g, o, none⟩) (m - m) (m - m)))) := Lib.hid ⟨rfl, HT.out _, HNext.out _ (by rw [if_pos rfl])⟩
    go_enter Try.func39, Try.ntmps39
    go_wp2_with (first
      | (go_at_call 61; refine HOf.out.mono ?_; rintro e w' ⟨rfl, rfl⟩)
      | fail)
    go_ret2
    rw [Nat.sub_self] at HF
    exact HF.out
  · have HF : Hid (RRead b g w z 0 (l.drop n) (.returned (.tuple #[.int .u64 z, .int .i64 0])) (w.setCell ⟨b, 0, none⟩ (.slice (some ⟨g, o + n, none⟩) (m - n) (c - n)))) := Lib.hid ⟨rfl, HT.out _, HNext.out _ (by rw [if_neg hcn])⟩
    go_enter Try.func39, Try.ntmps39
    go_wp2_with (first
      | (go_at_call 61; refine HOf.out.mono ?_; rintro e w' ⟨rfl, rfl⟩)
      | fail)
    go_ret2
    exact HF.out
end Go.Proofs.Ytpcilohiokpmnaa.In
