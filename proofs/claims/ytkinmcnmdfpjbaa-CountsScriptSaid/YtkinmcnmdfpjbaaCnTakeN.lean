/-
  Which blocks are used, as flags: plain data for CountsTake.
-/
import Derived.Test.YtkinmcnmdfpjbaaCnRefB
namespace Go.Proofs.Ytkinmcnmdfpjbaa.Cn

/-- counts of n blocks: those from 2 to i - 1 that are not flagged are 0, all others 1 -/
def markC (n : Nat) (f : Nat → Bool) (i : Nat) : List Int := (List.range n).map fun j => if 2 ≤ j ∧ j < i ∧ f j = false then 0 else 1
theorem mark_len (n : Nat) (f : Nat → Bool) (i : Nat) : (markC n f i).length = n := by simp [markC]
theorem mark_at (n : Nat) (f : Nat → Bool) (i j : Nat) (h : j < n) : (markC n f i).getD j 0 = if 2 ≤ j ∧ j < i ∧ f j = false then 0 else 1 := by
  unfold markC
  rw [List.getD_eq_getElem?_getD, List.getElem?_map, List.getElem?_range h]
  rfl
theorem ext_at {a b : List Int} (n : Nat) (ha : a.length = n) (hb : b.length = n) (h : ∀ j, j < n → a.getD j 0 = b.getD j 0) : a = b := by
  refine List.ext_getElem (by rw [ha, hb]) fun j h1 h2 => ?_
  have := h j (by omega)
  rw [List.getD_eq_getElem?_getD, List.getD_eq_getElem?_getD, List.getElem?_eq_getElem h1, List.getElem?_eq_getElem h2] at this
  exact this
theorem mark_two (n : Nat) (f : Nat → Bool) : markC n f 2 = onesC n n := by
  refine ext_at n (mark_len n f 2) (ones_len n n (Nat.le_refl _)) fun j hj => ?_
  rw [mark_at n f 2 j hj, ones_at n n j (Nat.le_refl _), if_pos hj, if_neg (by omega)]
theorem mark_skip (n : Nat) (f : Nat → Bool) (i : Nat) (h : f i = true) : markC n f (i + 1) = markC n f i := by
  refine ext_at n (mark_len ..) (mark_len ..) fun j hj => ?_
  rw [mark_at n f _ j hj, mark_at n f _ j hj]
  by_cases e : j = i
  · subst e
    rw [if_neg (fun k => by rw [h] at k; cases k.2.2), if_neg (fun k => by omega)]
  · by_cases k : 2 ≤ j ∧ j < i ∧ f j = false
    · rw [if_pos k, if_pos ⟨k.1, by omega, k.2.2⟩]
    · rw [if_neg k, if_neg (fun q => k ⟨q.1, by omega, q.2.2⟩)]
theorem mark_sub (n : Nat) (f : Nat → Bool) (i : Nat) (h2 : 2 ≤ i) (hi : i < n) (h : f i = false) : subE (markC n f i) i = 0 ∧ subN (markC n f i) i = markC n f (i + 1) := by
  have hv : (markC n f i).getD i 0 = 1 := by rw [mark_at n f i i hi, if_neg (by omega)]
  have h0 : subE (markC n f i) i = 0 := by
    unfold subE
    rw [if_neg (fun k => k ⟨h2, by rw [mark_len]; exact hi⟩), hv, if_neg (by decide)]
  refine ⟨h0, (if_pos h0).trans ?_⟩
  refine ext_at n (by rw [List.length_set, mark_len]) (mark_len ..) fun j hj => ?_
  rw [getD_set _ i _ j (by rw [mark_len]; exact hi), hv, mark_at n f _ j hj, mark_at n f _ j hj]
  by_cases e : j = i
  · subst e
    rw [if_pos rfl, if_pos ⟨h2, by omega, h⟩]; rfl
  · rw [if_neg e]
    by_cases k : 2 ≤ j ∧ j < i ∧ f j = false
    · rw [if_pos k, if_pos ⟨k.1, by omega, k.2.2⟩]
    · rw [if_neg k, if_neg (fun q => k ⟨q.1, by omega, q.2.2⟩)]
/-- how many of the first i are flagged by neither -/
def cntF (u k : Nat → Bool) (i : Nat) : Nat := (List.range i).countP fun j => decide (2 ≤ j) && (!u j && !k j)
theorem cntF_two (u k : Nat → Bool) : cntF u k 2 = 0 := by simp [cntF, List.range_succ]
theorem cntF_succ (u k : Nat → Bool) (i : Nat) (h : 2 ≤ i) : cntF u k (i + 1) = cntF u k i + if !u i && !k i then 1 else 0 := by
  unfold cntF
  rw [List.range_succ, List.countP_append, List.countP_cons, List.countP_nil, decide_eq_true h, Bool.true_and, Nat.zero_add]
theorem cntF_le (u k : Nat → Bool) (i : Nat) : cntF u k i ≤ i := by
  have : cntF u k i ≤ (List.range i).length := List.countP_le_length
  rwa [List.length_range] at this
theorem freeN_mark (n : Nat) (u k : Nat → Bool) : freeN (markC n k n) (markC n u n) = cntF u k n := by
  unfold freeN cntF
  rw [mark_len]
  refine List.countP_congr fun j hj => ?_
  have hj := List.mem_range.1 hj
  have e : freeC (markC n k n) (markC n u n) j ↔ 2 ≤ j ∧ u j = false ∧ k j = false := by
    unfold freeC
    rw [mark_len, mark_at n u n j hj, mark_at n k n j hj]
    constructor
    · rintro ⟨h1, _, h2, h3⟩
      refine ⟨h1, ?_, ?_⟩
      · by_cases q : 2 ≤ j ∧ j < n ∧ u j = false
        · exact q.2.2
        · rw [if_neg q] at h2; cases h2
      · by_cases q : 2 ≤ j ∧ j < n ∧ k j = false
        · exact q.2.2
        · rw [if_neg q] at h3; cases h3
    · rintro ⟨h1, h2, h3⟩
      exact ⟨h1, hj, if_pos ⟨h1, hj, h2⟩, if_pos ⟨h1, hj, h3⟩⟩
  rw [decide_eq_true_eq, e]
  simp
theorem mark_ok {size : Int} {n : Nat} (h : Su.GeoOk size n) (f : Nat → Bool) (i : Nat) : CnOk size n (markC n f i) := by
  have hn : 8 ≤ n := by unfold Su.GeoOk at h; omega
  refine ⟨h, mark_len .., fun x hx => ?_, by rw [mark_at n f i 0 (by omega), if_neg (by omega)], by rw [mark_at n f i 1 (by omega), if_neg (by omega)]⟩
  unfold markC at hx
  obtain ⟨j, _, rfl⟩ := List.mem_map.1 hx
  split <;> omega
end Go.Proofs.Ytkinmcnmdfpjbaa.Cn
