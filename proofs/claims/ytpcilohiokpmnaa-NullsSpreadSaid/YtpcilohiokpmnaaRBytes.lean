/-
  The document's reader: Bytes; Number of one byte; its bytes as a slice.
-/
import Derived.Test.YtpcilohiokpmnaaRVarR
import Derived.Test.YtpcilohiokpmnaaPkForm
namespace Go.Proofs.Ytpcilohiokpmnaa.In
open Go.RowKit Go.Joins
open Bs (info_u8)
open Oct (readV ofB)
open Dv (Turn nowhere)

/-- bytes read -/
def RBytesX (b g : Nat) (w : World) (x r : List Int) (n : Nat) (e : Ending) (w' : World) : Prop :=
  ∃ g1 c1, e = .returned (.tuple #[.slice (some ⟨g1, 0, none⟩) n c1, .int .i64 0]) ∧ w'.ownsRow w.heap.size 5 1 (.slice (some ⟨g1, 0, none⟩) n c1) n (x.map (Value.int .u8)) ∧ Turn w w' (At b) ∧ RR w' b g r

set_option maxRecDepth 100000 in
set_option maxHeartbeats 1000000 in
theorem rbytes_more (b g : Nat) (l : List Int) (n : Nat) (w : World) (h : RR w b g l) (hn : l.length < n) :
    Calls Try.prog 40 #[.pointer (some ⟨b, 0, none⟩), .int .i64 n] w fun e w' => e = .returned (.tuple #[.slice none 0 0, .int .i64 7]) ∧ w = w' := by
  obtain ⟨o, c, h0, hle, hc, hj⟩ := h.cells
  obtain ⟨m, hm⟩ : ∃ m, l.length = m := ⟨_, rfl⟩
  rw [hm] at h0 hn
  have a1 : ¬ (n : Int) < 0 := by omega
  have a3 : (m : Int) < (n : Int) := by omega
  clear hj hle hc h hm hn
  go_enter Try.func40, Try.ntmps40
  go_wp2
  go_ret2
  exact ⟨rfl, rfl⟩

set_option maxRecDepth 100000 in
set_option maxHeartbeats 1000000 in
theorem rbytes_yes (b g : Nat) (l : List Int) (n : Nat) (w : World) (h : RR w b g l) (hn : n ≤ l.length) (hl : l.length ≤ 100000000) :
    Calls Try.prog 40 #[.pointer (some ⟨b, 0, none⟩), .int .i64 n] w (RBytesX b g w (l.take n) (l.drop n) n) := by
  obtain ⟨i0, hi, hz0, hz1, hz2⟩ := info_parts info_u8
  obtain ⟨o, c, h0, hle, hc, hj⟩ := h.cells
  have H := Lib.hid h
  have hbl := h.lt
  have hseg : Bs.Seg w (some ⟨g, o, none⟩) n c (l.take n) := by
    refine ⟨by rw [List.length_take]; omega, by omega, hc, (fun e => by cases e), fun ad had j u hu => ?_⟩
    cases had
    have hjn : j < n := by
      have := (List.getElem?_eq_some_iff.1 hu).1
      simp at this
      omega
    rw [Addr.add_lit, hj j (by omega)]
    rw [List.getElem?_map, List.getElem?_take_of_lt hjn, List.getElem?_eq_getElem (by omega)] at hu
    simp [List.getD, List.getElem?_eq_getElem (show j < l.length by omega)]
    simpa using hu
  have hA := World.grownBy_alloc w (.cells #[] 5) none
  have HSeg := Lib.hid (hseg.grown hA)
  have hown := World.ownsRow_made (base := w.heap.size) (e := 5) (size := 1) w #[] 0 (Nat.le_refl _) (by unfold maxLen; omega) rfl
  have HO0 : Hid ((w.alloc (.cells #[] 5)).ownsRow w.heap.size 5 1 (.slice (some ⟨w.heap.size, 0, none⟩) 0 0) 0 ([] : List Value)) := Lib.hid hown
  have HJ := Lib.hid hj
  have HBL := Lib.hid hbl
  have HW : Hid (w.heap.size ≤ (w.alloc (.cells #[] 5)).heap.size) := Lib.hid (by simp)
  have h0a : (w.alloc (.cells #[] 5)).cell? ⟨b, 0, none⟩ = some (.slice (some ⟨g, o, none⟩) l.length c) := (Turn.alloc w (.cells #[] 5) nowhere).cell h0 id
  obtain ⟨m, hm⟩ : ∃ m, l.length = m := ⟨_, rfl⟩
  have HM := Lib.hid hm
  rw [hm] at h0 h0a hn hle hl
  have a1 : ¬ (n : Int) < 0 := by omega
  have a3 : ¬ (m : Int) < (n : Int) := by omega
  have a4 : (n : Int) ≤ (c : Int) := by omega
  have a5 : (n : Int) ≤ (m : Int) := by omega
  unfold maxLen at hc
  have HC := Lib.hid hc
  have FIN : Hid (∀ g1 c1 w1, w1.ownsRow w.heap.size 5 1 (.slice (some ⟨g1, 0, none⟩) (0 + n) c1) (0 + n) (([] : List Value) ++ (l.take n).map (Value.int .u8)) → (w.alloc (.cells #[] 5)).grownBy w1 (some w.heap.size) →
      w1.cell? ⟨b, 0, none⟩ = some (.slice (some ⟨g, o, none⟩) m c) ∧ w1.frozen? ⟨b, 0, none⟩ = false ∧ ∀ v, (v = if c = n then some ⟨g, o, none⟩ else some ⟨g, o + n, none⟩) → RBytesX b g w (l.take n) (l.drop n) n (.returned (.tuple #[.slice (some ⟨g1, 0, none⟩) n c1, .int .i64 0])) (w1.setCell ⟨b, 0, none⟩ (.slice v (m - n) (c - n)))) := Lib.hid (by
    intro g1 c1 w1 hown1 hgrow1
    have hgr : w.grownBy w1 none := Bs.grownBy_trans (World.grownBy_alloc w _ none) hgrow1 (fun j e => by cases e; exact Nat.le_refl _)
    have hT1 : Turn w w1 nowhere := Turn.of_grown hgr (fun _ e => by cases e)
    have h1 : w1.cell? ⟨b, 0, none⟩ = some (.slice (some ⟨g, o, none⟩) m c) := hT1.cell h0 id
    have hR1 : RR w1 b g l := H.out.turn hT1 id id
    refine ⟨h1, hR1.free, fun v hv => ⟨g1, c1, rfl, ?_, turn_more (In.turn_below (Pk.below_of hT1)) (Turn.setCell w1 ⟨b, 0, none⟩ _ rfl) (fun i e => .inl e.symm), ?_⟩⟩
    · have := own_turnV hown1 (Turn.setCell w1 ⟨b, 0, none⟩ (.slice v (m - n) (c - n)) rfl) HBL.out
      simpa using this
    · have := RR.next (n := n) hR1 (by rw [HM.out]; exact h1) (by rw [HM.out]; exact hle) (by unfold maxLen; exact HC.out) (fun j hj => hT1.cell (HJ.out j hj) id) (by rw [HM.out]; exact hn) v hv
      rwa [HM.out] at this)
  clear hj hbl h hseg hown hA hm HJ H
  by_cases hcn : c = n
  · subst hcn
    obtain rfl : m = c := by omega
    go_enter Try.func40, Try.ntmps40
    go_wp2_with (at_builtin; refine Bs.wpList_append_seg rfl (.tmp 16) (.tmp 22) 23 rfl w.heap.size 5 i0 Try.underlying23 hi hz0 hz1 hz2 w.heap.size 0 0 [] rfl HO0.out (some ⟨g, o, none⟩) m m (l.take m) rfl HSeg.out (by omega) HW.out ?_; intro g1 c1 w1 hown1 hgrow1; obtain ⟨h1, hf1, hx1⟩ := FIN.out g1 c1 w1 hown1 hgrow1; have HX := Lib.hid hx1; clear hown1 hgrow1 hx1)
    have HF := Lib.hid (HX.out (some ⟨g, o, none⟩) (by simp))
    rw [Nat.sub_self] at HF
    go_ret2
    exact HF.out
  · go_enter Try.func40, Try.ntmps40
    go_wp2_with (at_builtin; refine Bs.wpList_append_seg rfl (.tmp 16) (.tmp 22) 23 rfl w.heap.size 5 i0 Try.underlying23 hi hz0 hz1 hz2 w.heap.size 0 0 [] rfl HO0.out (some ⟨g, o, none⟩) n c (l.take n) rfl HSeg.out (by omega) HW.out ?_; intro g1 c1 w1 hown1 hgrow1; obtain ⟨h1, hf1, hx1⟩ := FIN.out g1 c1 w1 hown1 hgrow1; have HX := Lib.hid hx1; clear hown1 hgrow1 hx1)
    have HF := Lib.hid (HX.out (some ⟨g, o + n, none⟩) (by rw [if_neg hcn]))
    go_ret2
    exact HF.out

theorem rr_seg {w : World} {b g : Nat} {l : List Int} (h : RR w b g l) : ∃ o c, w.cell? ⟨b, 0, none⟩ = some (.slice (some ⟨g, o, none⟩) l.length c) ∧ Bs.Seg w (some ⟨g, o, none⟩) l.length c l := by
  obtain ⟨o, c, h0, hle, hc, hj⟩ := h.cells
  refine ⟨o, c, h0, rfl, hle, hc, (fun e => by cases e), fun ad had j u hu => ?_⟩
  cases had
  have hjn : j < l.length := by
    have := (List.getElem?_eq_some_iff.1 hu).1
    simpa using this
  rw [Addr.add_lit, hj j hjn]
  rw [List.getElem?_map, List.getElem?_eq_getElem hjn] at hu
  simp only [Option.map_some, Option.some.injEq] at hu
  simp [List.getD, List.getElem?_eq_getElem hjn, hu]
/-- one byte more, or none -/
theorem rnumber1_any (b g : Nat) (l : List Int) (w : World) (h : RR w b g l) (hb : Oct.IsB l) :
    Calls Try.prog 39 #[.pointer (some ⟨b, 0, none⟩), .int .i64 1] w (match (generalizing := false) l with
      | [] => RRead b g w 0 7 []
      | x :: r => RRead b g w x 0 r) := by
  cases l with
  | nil => exact rnumber_more b g [] 1 w h (by decide) (by decide) (by decide)
  | cons x r =>
    have := rnumber_yes b g (x :: r) 1 w h hb (by decide) (by decide) (by simp)
    have e : ofB ((x :: r).take 1) = x := by simp [ofB]
    rw [e] at this
    exact this

end Go.Proofs.Ytpcilohiokpmnaa.In
