/-
  PutVar and Put: what they append.
-/
import Derived.Test.YtpcilohiokpmnaaOctVar
namespace Go.Proofs.Ytpcilohiokpmnaa.Oct
open Go.RowKit

/-- What is handed back is new memory that reads as l; nothing that was there has turned. -/
def NewB (w : World) (l : List Int) (e : Ending) (w' : World) : Prop :=
  ∃ g, e = .returned (.slice (some ⟨g, 0, none⟩) l.length l.length) ∧ w'.ownsRow w.heap.size 5 1 (.slice (some ⟨g, 0, none⟩) l.length l.length) l.length (l.map (Value.int .u8)) ∧ w.grownBy w' none

theorem grownBy_trans {a b c : World} {r : Option Nat} (h : a.grownBy b none) (k : b.grownBy c r) (hr : ∀ i, r = some i → a.heap.size ≤ i) : a.grownBy c none :=
  ⟨k.os.trans h.os, k.tape.trans h.tape, k.output.trans h.output, Nat.le_trans h.size k.size, fun i hi _ => (k.block i (Nat.lt_of_lt_of_le hi h.size) (fun e => by have := hr i e.symm; omega)).trans (h.block i hi (by simp))⟩

theorem ownsRow_mono {w : World} {b b' e s : Nat} {v : Value} {n : Nat} {xs : List Value} (h : w.ownsRow b e s v n xs) (hb : b' ≤ b) : w.ownsRow b' e s v n xs := by
  refine ⟨h.1, ?_⟩
  rcases h.2 with h2 | ⟨g, cap, cur, h3, h4, h5⟩
  · exact .inl h2
  · exact .inr ⟨g, cap, cur, h3, by omega, h5⟩

theorem varB_two (k : Nat) (v : Int) (h : 2 ≤ (varB k v).length) : ∃ k', k = k' + 1 ∧ 128 ≤ v ∧ varB k v = (v % 128 + 128) :: varB k' (v / 128) := by
  cases k with
  | zero => simp [varB] at h
  | succ k =>
    simp only [varB] at h ⊢
    by_cases hv : v < 128
    · rw [if_pos hv] at h; simp at h
    · rw [if_neg hv]; exact ⟨k, rfl, by omega, rfl⟩

theorem varB_one (k : Nat) (v : Int) (h : (varB k v).length ≤ 1) (hv : v < 2 * 128 ^ k) : v < 128 ∧ varB k v = [v] := by
  cases k with
  | zero => simp at hv; exact ⟨by omega, rfl⟩
  | succ k =>
    simp only [varB] at h ⊢
    by_cases hv' : v < 128
    · rw [if_pos hv']; exact ⟨hv', rfl⟩
    · rw [if_neg hv', List.length_cons] at h
      have := varB_pos k (v / 128)
      omega

/-- One round of PutVar. -/
theorem put_step (xs : List Int) (k : Nat) (cur v : Int) (h : xs ++ varB k cur = varB 9 v) (hl : xs.length + k = 9) (h2 : xs.length + 1 < (varB 9 v).length) (hb : cur < 2 * 128 ^ k) :
    ∃ k', k = k' + 1 ∧ (xs ++ [cur % 128 + 128]) ++ varB k' (cur / 128) = varB 9 v ∧ cur / 128 < 2 * 128 ^ k' := by
  have h3 : 2 ≤ (varB k cur).length := by rw [← h] at h2; simp at h2; omega
  obtain ⟨k', rfl, h4, h5⟩ := varB_two k cur h3
  refine ⟨k', rfl, by rw [← h, h5]; simp, ?_⟩
  rw [Int.pow_succ, ← Int.mul_assoc] at hb
  exact Int.ediv_lt_of_lt_mul (by decide) hb

/-- What holds of PutVar's slots behind k rounds. -/
def PutInv (v : Int) (xs : List Int) (k : Nat) (cur : Int) : Prop := xs.length = k ∧ k ≤ 9 ∧ xs ++ varB (9 - k) cur = varB 9 v ∧ cur < 2 * 128 ^ (9 - k)
theorem PutInv.start (v : Int) (h1 : v < 18446744073709551616) : PutInv v [] 0 v := ⟨rfl, by decide, rfl, h1⟩
theorem PutInv.step {v : Int} {xs : List Int} {k : Nat} {cur : Int} (h : PutInv v xs k cur) (hl : k + 1 < (varB 9 v).length) : PutInv v (xs ++ [cur % 128 + 128]) (k + 1) (cur / 128) := by
  obtain ⟨h1, h2, h3, h4⟩ := h
  obtain ⟨k', e, h5, h6⟩ := put_step xs (9 - k) cur v h3 (by omega) (by omega) h4
  have : 9 - (k + 1) = k' := by omega
  exact ⟨by simp [h1], by omega, by rw [this]; exact h5, by rw [this]; exact h6⟩
theorem PutInv.last {v : Int} {xs : List Int} {k : Nat} {cur : Int} (h : PutInv v xs k cur) (hl : (varB 9 v).length ≤ k + 1) : cur < 128 ∧ xs ++ [cur] = varB 9 v := by
  obtain ⟨h1, h2, h3, h4⟩ := h
  have h5 : (varB (9 - k) cur).length ≤ 1 := by rw [← h3, List.length_append] at hl; omega
  obtain ⟨h6, h7⟩ := varB_one _ cur h5 h4
  exact ⟨h6, by rw [← h7]; exact h3⟩

set_option maxRecDepth 100000 in
set_option maxHeartbeats 1000000 in
theorem putVar_any (a : Option Addr) (n c : Nat) (l : List Int) (v : Int) (w : World) (hs : Seg w a n c l) (h0 : 0 ≤ v) (h1 : v < 18446744073709551616) (hn : n ≤ 140737488355328) :
    Calls Try.prog 24 #[.slice a n c, .int .u64 v] w (NewB w (l ++ varB 9 v)) := by
  obtain ⟨i0, hi, hz0, hz1, hz2⟩ := info_parts info_u8
  have hp := varB_pos 9 v
  have hm := varB_le 9 v
  obtain ⟨L, hL⟩ : ∃ L, L = (varB 9 v).length := ⟨_, rfl⟩
  have HG := Lib.hid (groups_any v · h0 h1)
  have HN := Lib.hid hn
  rw [← hL] at hp hm
  have HL := Lib.hid hL
  clear hL
  have hk0 : ∀ (w : World), (Instr.makeSlice 23 (.int .i64 0) (.int .i64 10)).run Try.prog w = .ok (.slice (some ⟨w.heap.size, 0, none⟩) 0 10) (w.alloc (.cells #[.int .u8 0, .int .u8 0, .int .u8 0, .int .u8 0, .int .u8 0, .int .u8 0, .int .u8 0, .int .u8 0, .int .u8 0, .int .u8 0] 5)) := fun _ => by kernel_rfl
  go_enter Try.func24, Try.ntmps24
  go_wp2_with (go_at_call 45; refine (HG.out _).mono ?_; rw [← HL.out]; rintro e w' ⟨rfl, rfl⟩)
  go_loopw [1, 5, 10] (fun sv low i wr => ∃ (k : Nat) (xs : List Int) (cur : Int), k + 1 ≤ L ∧ 0 ≤ cur ∧ cur < 18446744073709551616 ∧ i = .int .i64 k ∧ sv = .int .u64 cur ∧ low = .slice (some ⟨w.heap.size, 0, none⟩) k 10 ∧
      wr.ownsRow w.heap.size 5 1 (.slice (some ⟨w.heap.size, 0, none⟩) k 10) k (xs.map (Value.int .u8)) ∧ PutInv v xs k cur ∧ w.grownBy wr none)
    (fun _ _ i _ => L - (intOf i).toNat)
  case atStart => exact ⟨0, [], v, by omega, h0, h1, rfl, rfl, rfl, World.ownsRow_made w _ 10 (Nat.le_refl _) (by unfold maxLen; omega) rfl, PutInv.start v h1, World.grownBy_alloc w _ none⟩
  case round =>
    obtain ⟨k, xs, cur, hk, c0, c1, rfl, rfl, rfl, hown, hinv, hgr⟩ := hrel
    have HI := Lib.hid hinv; clear hinv
    have ho := u8_or128_right (cur % 128) (by omega) (by omega)
    by_cases hlt : k + 1 < L
    · have hlt' : (k : Int) < (L : Int) - 1 := by omega
      go_wp2_with (at_builtin; refine wpList_append_fits _ rfl (.tmp 12) (.tmp 17) 23 rfl w.heap.size 5 i0 1 Try.underlying23 hi hz1 w.heap.size k 10 _ rfl (hown.alloc _) ⟨wr.heap.size, 0, none⟩ 1 1 [.int .u8 (cur % 128 + 128)] rfl rfl (by intro t u ht; match t, ht with | 0, ht => simp at ht; subst ht; simp [Addr.add]) (by intro u hu; simp at hu; subst hu; rfl) (by omega) ?_; intro w1 hown1 hgrow1)
      go_roundw
      case rel =>
        have hl := HL.out
        exact ⟨k + 1, xs ++ [cur % 128 + 128], cur / 128, by omega, by omega, by omega, by go_num, rfl, rfl, by simpa using hown1, HI.out.step (by omega),
          grownBy_trans (grownBy_trans hgr (World.grownBy_alloc wr _ none) (fun _ e => by cases e)) hgrow1 (fun i e => by cases e; exact Nat.le_refl _)⟩
      case measure => simp [intOf]; omega
    · have hlt' : (L : Int) - 1 ≤ (k : Int) := by omega
      have hlast := HI.out.last (by rw [← HL.out]; omega)
      have c2 := hlast.1
      have HX := Lib.hid hlast.2
      clear hlast ho
      have hs' : ∀ w1 : World, w.grownBy w1 none → Seg w1 a n c l := fun w1 h => hs.kept h (fun _ _ e => by cases e)
      have HS := Lib.hid hs'
      clear hs' hs
      go_wp2_with (first
        | (at_builtin; refine wpList_append_fits _ rfl (.tmp 23) (.tmp 26) 23 rfl w.heap.size 5 i0 1 Try.underlying23 hi hz1 w.heap.size k 10 _ rfl (hown.alloc _) ⟨wr.heap.size, 0, none⟩ 1 1 [.int .u8 cur] rfl rfl (by intro t u ht; match t, ht with | 0, ht => simp at ht; subst ht; simp [Addr.add]) (by intro u hu; simp at hu; subst hu; rfl) (by omega) ?_; intro w1 hown1 hgrow1)
        | fail)
      have hg1 := grownBy_trans (grownBy_trans hgr (World.grownBy_alloc wr _ none) (fun _ e => by cases e)) hgrow1 (fun i e => by cases e; exact Nat.le_refl _)
      have hown2 : w1.ownsRow w.heap.size 5 1 (.slice (some ⟨w.heap.size, 0, none⟩) (k + 1) 10) (k + 1) ((xs ++ [cur]).map (Value.int .u8)) := by simpa using hown1
      rw [HX.out] at hown2
      have hsz := hg1.size
      refine (add_any a (some ⟨w.heap.size, 0, none⟩) n c (k + 1) 10 l (varB 9 v) w1 (HS.out _ hg1) (Seg.own hown2) (by have := HN.out; omega)).mono ?_
      rintro e w2 ⟨rfl, hown3, hg2⟩
      have hlen : (l ++ varB 9 v).length = n + (k + 1) := by
        have h1 := (HS.out _ hg1).len
        have h2 := HL.out
        rw [List.length_append]
        omega
      have HLen := Lib.hid hlen
      have hfin : NewB w (l ++ varB 9 v) (.returned (.slice (some ⟨w1.heap.size, 0, none⟩) (n + (k + 1)) (n + (k + 1)))) w2 := by
        unfold NewB
        rw [hlen]
        exact ⟨_, rfl, ownsRow_mono hown3 hsz, grownBy_trans hg1 hg2 (fun _ e => by cases e)⟩
      have HF := Lib.hid hfin
      clear hfin hlen hown3 hg2 hown2 hown1 hgrow1 hgr hown
      go_wp2
      go_ret
      exact HF.out

/-- A contract of isSize's for each of its answers. -/
theorem isSize_yes (n : Int) (w : World) (h1 : 1 ≤ n) (h2 : n ≤ 8) : Calls Try.prog 54 #[.int .i64 n] w fun e w' => e = .returned (.bool true) ∧ w = w' :=
  (isSize_any n w).mono fun e w' ⟨he, hw⟩ => ⟨by rw [he, decide_eq_true ⟨h1, h2⟩], hw⟩
theorem isSize_no (n : Int) (w : World) (h : ¬ (1 ≤ n ∧ n ≤ 8)) : Calls Try.prog 54 #[.int .i64 n] w fun e w' => e = .returned (.bool false) ∧ w = w' :=
  (isSize_any n w).mono fun e w' ⟨he, hw⟩ => ⟨by rw [he, decide_eq_false h], hw⟩

/-- add, as what it hands back. -/
theorem add_new (a0 a1 : Option Addr) (n0 c0 n1 c1 : Nat) (l0 l1 : List Int) (w : World) (h0 : Seg w a0 n0 c0 l0) (h1 : Seg w a1 n1 c1 l1) (hn : n0 + n1 ≤ 281474976710656) :
    Calls Try.prog 46 #[.slice a0 n0 c0, .slice a1 n1 c1] w (NewB w (l0 ++ l1)) :=
  (add_any a0 a1 n0 c0 n1 c1 l0 l1 w h0 h1 hn).mono fun e w' ⟨he, ho, hg⟩ => by
    have hl : (l0 ++ l1).length = n0 + n1 := by rw [List.length_append, h0.len, h1.len]
    unfold NewB
    rw [hl]
    exact ⟨_, he, ho, hg⟩

/-- NewB over a world in which nothing old has turned yet. -/
theorem NewB.trans {w w1 w' : World} {l : List Int} {e : Ending} (h : NewB w1 l e w') (hg : w.grownBy w1 none) : NewB w l e w' := by
  obtain ⟨g, he, ho, hg2⟩ := h
  exact ⟨g, he, ownsRow_mono ho hg.size, grownBy_trans hg hg2 (fun _ e => by cases e)⟩

/-- The value handed back, its length under a name of its own. -/
theorem NewB.value {w w' : World} {l : List Int} {e : Ending} (h : NewB w l e w') : ∃ g q, e = .returned (.slice (some ⟨g, 0, none⟩) q q) ∧ NewB w l (.returned (.slice (some ⟨g, 0, none⟩) q q)) w' := by
  obtain ⟨g, he, ho⟩ := h
  exact ⟨g, l.length, he, g, rfl, ho⟩

/-- What NewB says of a value that is written out. -/
theorem NewB.is {w w' : World} {l : List Int} {g q : Nat} (h : NewB w l (.returned (.slice (some ⟨g, 0, none⟩) q q)) w') :
    q = l.length ∧ w'.ownsRow w.heap.size 5 1 (.slice (some ⟨g, 0, none⟩) q q) q (l.map (Value.int .u8)) ∧ w.grownBy w' none := by
  obtain ⟨g', he, ho, hg⟩ := h
  cases he
  exact ⟨rfl, ho, hg⟩
end Go.Proofs.Ytpcilohiokpmnaa.Oct
