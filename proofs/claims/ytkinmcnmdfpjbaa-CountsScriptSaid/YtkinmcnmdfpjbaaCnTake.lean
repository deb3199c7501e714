/-
  Counts as plain data: how many blocks may be taken, and what is left behind each one that is.
-/
import Derived.Test.YtkinmcnmdfpjbaaCnNum
namespace Go.Proofs.Ytkinmcnmdfpjbaa.Cn

instance (held N : List Int) (i : Nat) : Decidable (freeC held N i) := by unfold freeC; exact inferInstance
theorem getD_set (N : List Int) (k : Nat) (x : Int) (j : Nat) (hk : k < N.length) : (N.set k x).getD j 0 = if j = k then x else N.getD j 0 := by
  by_cases h : j = k
  · subst h
    rw [if_pos rfl, List.getD_eq_getElem?_getD, List.getElem?_set_self hk]
    rfl
  · rw [if_neg h, List.getD_eq_getElem?_getD, List.getElem?_set_ne (fun e => h e.symm), ← List.getD_eq_getElem?_getD]
/-- what has been taken is no longer free; all others stay -/
theorem free_set {held N : List Int} {k : Nat} (h : freeC held N k) (j : Nat) : freeC held (N.set k 1) j ↔ freeC held N j ∧ j ≠ k := by
  have hk := h.2.1
  unfold freeC
  rw [List.length_set, getD_set N k 1 j hk]
  by_cases e : j = k
  · rw [if_pos e]
    exact ⟨fun q => absurd q.2.2.1 (by decide), fun q => absurd e q.2⟩
  · rw [if_neg e]
    exact ⟨fun q => ⟨q, e⟩, fun q => q.1⟩
/-- how many may be taken -/
def freeN (held N : List Int) : Nat := (List.range N.length).countP fun i => decide (freeC held N i)
theorem count_one : ∀ (n k : Nat) (p q : Nat → Bool), k < n → p k = true → (∀ j, q j = (p j && decide (j ≠ k))) → (List.range n).countP q + 1 = (List.range n).countP p
  | 0, k, _, _, h, _, _ => by omega
  | n + 1, k, p, q, h, hp, hq => by
    rw [List.range_succ, List.countP_append, List.countP_append, List.countP_cons, List.countP_cons, List.countP_nil, List.countP_nil]
    by_cases e : k = n
    · subst e
      have h1 : (List.range k).countP q = (List.range k).countP p := List.countP_congr fun j hj => by
        have := List.mem_range.1 hj
        rw [hq j, decide_eq_true (show j ≠ k by omega), Bool.and_true]
      have h2 : q k = false := by rw [hq k]; simp
      rw [h1, h2, hp]
      simp
    · have ih := count_one n k p q (by omega) hp hq
      have h2 : q n = p n := by rw [hq n, decide_eq_true (show n ≠ k by omega), Bool.and_true]
      rw [h2]
      omega
theorem freeN_set {held N : List Int} {k : Nat} (h : freeC held N k) : freeN held (N.set k 1) + 1 = freeN held N := by
  unfold freeN
  rw [List.length_set]
  refine count_one N.length k _ _ h.2.1 (decide_eq_true h) fun j => ?_
  rw [← Bool.decide_and]
  exact decide_eq_decide.2 (free_set h j)
theorem freeN_zero (held N : List Int) : freeN held N = 0 ↔ ∀ j, ¬ freeC held N j := by
  unfold freeN
  rw [List.countP_eq_zero]
  constructor
  · intro h j hj
    have := h j (List.mem_range.2 hj.2.1)
    rw [decide_eq_true hj] at this
    exact this rfl
  · intro h j _ hj
    exact h j (of_decide_eq_true hj)
/-- there is one as long as the number is not 0, and Take hands back the least -/
theorem take_some (held N : List Int) (h : freeN held N ≠ 0) : ∃ k, TakeR held N (some k) := by
  have h1 : ∃ j, freeC held N j := Classical.byContradiction fun q => h ((freeN_zero held N).2 fun j hj => q ⟨j, hj⟩)
  obtain ⟨j, hj⟩ := h1
  have : ∀ m, (∃ i, i ≤ m ∧ freeC held N i) → ∃ k, TakeR held N (some k) := by
    intro m
    induction m with
    | zero =>
      rintro ⟨i, hi, hf⟩
      obtain rfl : i = 0 := by omega
      exact absurd hf.1 (by omega)
    | succ m ih =>
      rintro ⟨i, hi, hf⟩
      by_cases hm : ∃ i, i ≤ m ∧ freeC held N i
      · exact ih hm
      · have e : i = m + 1 := Classical.byContradiction fun q => hm ⟨i, by omega, hf⟩
        exact ⟨i, .one i hf fun a ha hfa => hm ⟨a, by omega, hfa⟩⟩
  exact this j ⟨j, Nat.le_refl _, hj⟩
/-- all counts of the first blocks are ones: what Take leaves when nothing is held -/
def onesC (n i : Nat) : List Int := List.replicate i 1 ++ List.replicate (n - i) 0
theorem ones_len (n i : Nat) (h : i ≤ n) : (onesC n i).length = n := by unfold onesC; rw [List.length_append, List.length_replicate, List.length_replicate]; omega
theorem new_ones (n : Nat) : newC n = onesC n 2 := rfl
theorem ones_at (n i j : Nat) (_h : i ≤ n) : (onesC n i).getD j 0 = if j < i then 1 else 0 := by
  unfold onesC
  rw [List.getD_eq_getElem?_getD]
  by_cases hj : j < i
  · rw [if_pos hj, List.getElem?_append_left (by rw [List.length_replicate]; exact hj), List.getElem?_replicate, if_pos hj]; rfl
  · rw [if_neg hj, List.getElem?_append_right (by rw [List.length_replicate]; omega), List.getElem?_replicate]
    split <;> rfl
theorem ones_take (n i : Nat) (h2 : 2 ≤ i) (h : i < n) : TakeR [] (onesC n i) (some i) ∧ (onesC n i).set i 1 = onesC n (i + 1) := by
  refine ⟨.one i ⟨h2, by rw [ones_len n i (by omega)]; exact h, by rw [ones_at n i i (by omega), if_neg (by omega)], rfl⟩ fun j hj hf => ?_, ?_⟩
  · have := hf.2.2.1
    rw [ones_at n i j (by omega), if_pos hj] at this
    cases this
  · refine List.ext_getElem? fun j => ?_
    have hl1 : ((onesC n i).set i 1).length = n := by rw [List.length_set, ones_len n i (by omega)]
    have hl2 : (onesC n (i + 1)).length = n := ones_len n (i + 1) (by omega)
    by_cases hj : j < n
    · have e1 := getD_set (onesC n i) i 1 j (by rw [ones_len n i (by omega)]; exact h)
      rw [ones_at n i j (by omega)] at e1
      have e2 := ones_at n (i + 1) j (by omega)
      rw [List.getD_eq_getElem?_getD, List.getElem?_eq_getElem (by rw [hl1]; exact hj)] at e1
      rw [List.getD_eq_getElem?_getD, List.getElem?_eq_getElem (by rw [hl2]; exact hj)] at e2
      rw [List.getElem?_eq_getElem (by rw [hl1]; exact hj), List.getElem?_eq_getElem (by rw [hl2]; exact hj)]
      have e1 : ((onesC n i).set i 1)[j] = _ := e1
      have e2 : (onesC n (i + 1))[j] = _ := e2
      rw [e1, e2]
      by_cases a : j = i
      · rw [if_pos a, if_pos (by omega)]
      · rw [if_neg a]
        by_cases b : j < i
        · rw [if_pos b, if_pos (by omega)]
        · rw [if_neg b, if_neg (by omega)]
    · rw [List.getElem?_eq_none (by rw [hl1]; omega), List.getElem?_eq_none (by rw [hl2]; omega)]
theorem ones_full (n : Nat) : TakeR [] (onesC n n) none := .full fun j hf => by
  have h1 := hf.2.1
  have h2 := hf.2.2.1
  rw [ones_len n n (Nat.le_refl _)] at h1
  rw [ones_at n n j (Nat.le_refl _), if_pos h1] at h2
  cases h2
end Go.Proofs.Ytkinmcnmdfpjbaa.Cn
