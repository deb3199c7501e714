/-
  How long forms are: plain facts.
-/
import Derived.Test.YteolpjlpjjjchaaInPack
namespace Go.Proofs.Yteolpjlpjjjchaa.In
open Oct (varB)
open Pk (wid IsU Fit sizeN)
open Is (IsI)

theorem varB_mono (k : Nat) : ∀ (x y : Int), 0 ≤ x → x ≤ y → (varB k x).length ≤ (varB k y).length := by
  induction k with
  | zero => intro x y _ _; simp [varB]
  | succ k ih =>
    intro x y h0 h1
    simp only [varB]
    by_cases hx : x < 128
    · rw [if_pos hx]
      split
      · simp
      · simp only [List.length_cons, List.length_nil]; omega
    · rw [if_neg hx, if_neg (by omega)]
      simp only [List.length_cons]
      have := ih (x / 128) (y / 128) (by omega) (by omega)
      omega
theorem varB_unit (k : Nat) : (varB k 1).length = 1 := by cases k <;> simp [varB]
theorem varB_step (k : Nat) : ∀ x : Int, 0 ≤ x → (varB k (x + 1)).length ≤ (varB k x).length + 1 := by
  induction k with
  | zero => intro x _; simp [varB]
  | succ k ih =>
    intro x h0
    simp only [varB]
    by_cases h1 : x + 1 < 128
    · rw [if_pos h1]; simp
    · rw [if_neg h1]
      by_cases h2 : x < 128
      · obtain rfl : x = 127 := by omega
        rw [if_pos h2]
        have := varB_unit k
        simp only [List.length_cons, List.length_nil]
        rw [show ((127 : Int) + 1) / 128 = 1 from by decide]
        omega
      · rw [if_neg h2]
        simp only [List.length_cons]
        have e : (x + 1) / 128 = x / 128 ∨ (x + 1) / 128 = x / 128 + 1 := by omega
        rcases e with e | e <;> rw [e]
        · omega
        · have := ih (x / 128) (by omega)
          omega
theorem varB_two (x : Int) (h : x < 16384) : (varB 9 x).length ≤ 2 := by
  simp only [varB]
  split
  · simp
  · rw [if_pos (show x / 128 < 128 by omega)]; simp

theorem enc_length (k : Nat) (l : List Int) : (encB k l).length = 1 + (varB 9 (l.length : Int)).length + (bodyB k l).length := by
  unfold encB headB
  rw [List.length_append, List.length_cons]
  omega
theorem wid_sub {a b : List Int} (ha : IsU a) (h : ∀ x ∈ b, x ∈ a) : wid b ≤ wid a := by
  have h1 := (Pk.wid_le a (wid a) ha.nonneg).1 (Nat.le_refl _)
  exact (Pk.wid_le b (wid a) fun x hx => (ha x (h x hx)).1).2 fun x hx => h1 x (h x hx)
theorem sizeN_mono {n m v w : Nat} (h : n ≤ m) (k : v ≤ w) : sizeN n v ≤ sizeN m w := by
  unfold sizeN
  exact Nat.div_le_div_right (Nat.add_le_add_right (Nat.mul_le_mul h k) 7)
theorem packed_same {l m : List Int} (hl : l.length ≤ 65536) (hlen : m.length = l.length) (hm : ∀ x, x ∈ m ↔ x ∈ l) : (encB 3 m).length = (encB 3 l).length := by
  have hmin := minL_same m l hm
  have hmem : ∀ x, x ∈ offs m ↔ x ∈ offs l := by
    intro x
    unfold offs
    rw [List.mem_map, List.mem_map, hmin]
    exact ⟨fun ⟨v, h1, h2⟩ => ⟨v, (hm v).1 h1, h2⟩, fun ⟨v, h1, h2⟩ => ⟨v, (hm v).2 h1, h2⟩⟩
  have hw : wid (offs m) = wid (offs l) := Nat.le_antisymm (wid_sub (offs_isU l) fun x hx => (hmem x).1 hx) (wid_sub (offs_isU m) fun x hx => (hmem x).2 hx)
  rw [enc_length, enc_length, hlen]
  show _ + (packedB m).length = _ + (packedB l).length
  rw [packed_length m (by omega), packed_length l hl, hlen, hw]
theorem plain_len (l : List Int) : (encB 1 l).length = 1 + (varB 9 (l.length : Int)).length + 8 * l.length := by
  rw [enc_length]
  show _ + (plainB l).length = _
  rw [plainB_length]
theorem plain_more (l : List Int) (v : Int) : (encB 1 l).length + 8 ≤ (encB 1 (l ++ [v])).length := by
  rw [plain_len, plain_len, List.length_append, List.length_singleton]
  have := varB_mono 9 (l.length : Int) ((l.length + 1 : Nat) : Int) (by omega) (by omega)
  omega
theorem packed_more (l : List Int) (v : Int) (hI : IsI (l ++ [v])) (h0 : l ≠ []) (hl : l.length + 1 ≤ 65536) : (encB 3 l).length ≤ (encB 3 (l ++ [v])).length := by
  have hll : (l ++ [v]).length = l.length + 1 := by simp
  have hI0 : IsI l := fun x hx => hI x (List.mem_append_left _ hx)
  have hmin : minL (l ++ [v]) ≤ minL l := minL_le _ _ (List.mem_append_left _ (minL_mem l h0))
  have hw : wid (offs l) ≤ wid (offs (l ++ [v])) := by
    have h1 := (Pk.wid_le (offs (l ++ [v])) _ (offs_isU _).nonneg).1 (Nat.le_refl _)
    refine (Pk.wid_le (offs l) _ (offs_isU l).nonneg).2 fun x hx => ?_
    obtain ⟨y, hy, rfl⟩ := List.mem_map.1 hx
    have hy2 : y ∈ l ++ [v] := List.mem_append_left _ hy
    have h2 := h1 (u (y - minL (l ++ [v]))) (List.mem_map.2 ⟨y, hy2, rfl⟩)
    have e1 := off_eq l hI0 y hy
    have e2 := off_eq (l ++ [v]) hI y hy2
    have h3 := minL_le l y hy
    rw [e2] at h2
    show 0 ≤ u (y - minL l) ∧ (u (y - minL l)).toNat < _
    rw [e1]
    exact ⟨by omega, by have := h2.2; omega⟩
  rw [enc_length, enc_length, hll]
  have hv := varB_mono 9 (l.length : Int) ((l.length + 1 : Nat) : Int) (by omega) (by omega)
  show _ + (packedB l).length ≤ _ + (packedB (l ++ [v])).length
  rw [packed_length l (by omega), packed_length (l ++ [v]) (by omega), hll]
  have := sizeN_mono (n := l.length) (m := l.length + 1) (by omega) hw
  omega

theorem rle_snoc (v : Int) : ∀ l : List Int, l ≠ [] → ∃ d k y, rle l = d ++ [(k, y)] ∧ l.getLast? = some y ∧ rle (l ++ [v]) = if y = v then d ++ [(k + 1, y)] else d ++ [(k, y), (1, v)] := by
  intro l
  induction l with
  | nil => intro h; exact absurd rfl h
  | cons x t ih =>
    intro _
    by_cases ht : t = []
    · subst ht
      refine ⟨[], 1, x, rfl, rfl, ?_⟩
      show rle (x :: [v]) = _
      simp only [rle]
      by_cases h : x = v
      · subst h; simp
      · rw [if_neg h, if_neg h]; rfl
    · obtain ⟨d, k, y, h1, h2, h3⟩ := ih ht
      have hlast : (x :: t).getLast? = some y := by rw [List.getLast?_cons_of_ne_nil ht]; exact h2
      cases d with
      | nil =>
        rw [List.nil_append] at h1
        by_cases hxy : x = y
        · subst hxy
          refine ⟨[], k + 1, x, by simp [rle, h1], hlast, ?_⟩
          show rle (x :: (t ++ [v])) = _
          by_cases hyv : x = v
          · rw [if_pos hyv] at h3 ⊢
            simp [rle, h3]
          · rw [if_neg hyv] at h3 ⊢
            simp [rle, h3]
        · refine ⟨[(1, x)], k, y, by simp [rle, h1, hxy], hlast, ?_⟩
          show rle (x :: (t ++ [v])) = _
          by_cases hyv : y = v
          · rw [if_pos hyv] at h3 ⊢
            simp [rle, h3, hxy]
          · rw [if_neg hyv] at h3 ⊢
            simp [rle, h3, hxy]
      | cons p d =>
        obtain ⟨k1, y1⟩ := p
        by_cases hxy : x = y1
        · refine ⟨(k1 + 1, y1) :: d, k, y, by simp [rle, h1, hxy], hlast, ?_⟩
          show rle (x :: (t ++ [v])) = _
          by_cases hyv : y = v
          · rw [if_pos hyv] at h3 ⊢
            simp [rle, h3, hxy]
          · rw [if_neg hyv] at h3 ⊢
            simp [rle, h3, hxy]
        · refine ⟨(1, x) :: (k1, y1) :: d, k, y, by simp [rle, h1, hxy], hlast, ?_⟩
          show rle (x :: (t ++ [v])) = _
          by_cases hyv : y = v
          · rw [if_pos hyv] at h3 ⊢
            simp [rle, h3, hxy]
          · rw [if_neg hyv] at h3 ⊢
            simp [rle, h3, hxy]
theorem runs_more (l : List Int) (v : Int) (h0 : l ≠ []) : (encB 2 l).length ≤ (encB 2 (l ++ [v])).length ∧ (l.getLast? = some v → (encB 2 (l ++ [v])).length ≤ (encB 2 l).length + 2) := by
  obtain ⟨d, k, y, h1, h2, h3⟩ := rle_snoc v l h0
  have hv := varB_mono 9 (l.length : Int) ((l.length + 1 : Nat) : Int) (by omega) (by omega)
  have hs := varB_step 9 (l.length : Int) (by omega)
  have hk := varB_mono 9 (k : Int) ((k + 1 : Nat) : Int) (by omega) (by omega)
  have hks := varB_step 9 (k : Int) (by omega)
  rw [enc_length, enc_length, show (l ++ [v]).length = l.length + 1 from by simp]
  have e1 : (bodyB 2 l).length = (bytesR d).length + (varB 9 (k : Int)).length + 8 := by
    show (bytesR (rle l)).length = _
    rw [h1, bytesR_snoc, List.length_append, List.length_append, num8_length]
  by_cases hyv : y = v
  · have e2 : (bodyB 2 (l ++ [v])).length = (bytesR d).length + (varB 9 ((k + 1 : Nat) : Int)).length + 8 := by
      show (bytesR (rle (l ++ [v]))).length = _
      rw [h3, if_pos hyv, bytesR_snoc, List.length_append, List.length_append, num8_length]
    rw [e1, e2]
    rw [show ((l.length : Int) + 1) = ((l.length + 1 : Nat) : Int) from by omega] at hs
    rw [show ((k : Int) + 1) = ((k + 1 : Nat) : Int) from by omega] at hks
    exact ⟨by omega, fun _ => by omega⟩
  · have e2 : (bodyB 2 l).length ≤ (bodyB 2 (l ++ [v])).length := by
      show (bytesR (rle l)).length ≤ (bytesR (rle (l ++ [v]))).length
      rw [h3, if_neg hyv, show d ++ [(k, y), (1, v)] = (d ++ [(k, y)]) ++ [(1, v)] from by simp, bytesR_snoc, ← h1, List.length_append, List.length_append]
      omega
    refine ⟨by omega, fun h => ?_⟩
    rw [h2] at h
    exact absurd (Option.some.inj h) hyv

/-! ### many of the same, near ones -/
theorem same_short (v : Int) (n : Nat) (h1 : 1 ≤ n) (h2 : n ≤ 4096) (hv : IsI [v]) : (bestB (List.replicate n v)).length ≤ 12 := by
  have hne : List.replicate n v ≠ [] := by intro e; have := congrArg List.length e; simp at this; omega
  have hI : IsI (List.replicate n v) := fun x hx => by rw [List.eq_of_mem_replicate hx]; exact hv v (by simp)
  have hmin : minL (List.replicate n v) = v := List.eq_of_mem_replicate (minL_mem _ hne)
  have hw : wid (offs (List.replicate n v)) = 0 := by
    refine Nat.le_zero.1 ((Pk.wid_le _ 0 (offs_isU _).nonneg).2 fun x hx => ?_)
    obtain ⟨y, hy, rfl⟩ := List.mem_map.1 hx
    rw [hmin, List.eq_of_mem_replicate hy]
    simp [u]
  have hl : (encB 3 (List.replicate n v)).length = 1 + (varB 9 (n : Int)).length + 9 := by
    rw [enc_length, List.length_replicate]
    show _ + (packedB _).length = _
    rw [packed_length _ (by rw [List.length_replicate]; omega), hw]
    simp [sizeN]
  have hb := best_len (List.replicate n v)
  have hv2 := varB_two (n : Int) (by omega)
  omega
theorem minL_shift (l : List Int) (by_ : Int) (h0 : l ≠ []) : minL (l.map (· + by_)) = minL l + by_ := by
  have hne : l.map (· + by_) ≠ [] := by simpa using h0
  obtain ⟨y, hy, e⟩ := List.mem_map.1 (minL_mem _ hne)
  have h1 := minL_le l y hy
  have h2 := minL_le (l.map (· + by_)) (minL l + by_) (List.mem_map.2 ⟨_, minL_mem l h0, rfl⟩)
  omega
theorem offs_shift (l : List Int) (by_ : Int) (h0 : l ≠ []) : offs (l.map (· + by_)) = offs l := by
  unfold offs
  rw [minL_shift l by_ h0, List.map_map]
  apply List.map_congr_left
  intro v _
  show u (v + by_ - (minL l + by_)) = u (v - minL l)
  congr 1
  omega
theorem packed_shift (l : List Int) (by_ : Int) (h0 : l ≠ []) (hl : l.length ≤ 65536) : (encB 3 (l.map (· + by_))).length = (encB 3 l).length := by
  rw [enc_length, enc_length, List.length_map]
  show _ + (packedB _).length = _ + (packedB _).length
  rw [packed_length _ (by rw [List.length_map]; exact hl), packed_length _ hl, List.length_map, offs_shift l by_ h0]
theorem packed_near (l : List Int) (h0 : l ≠ []) (hl : l.length ≤ 200) (hs : ∀ x ∈ l, 0 ≤ x ∧ x < 65536) : (encB 3 l).length ≤ 12 + 2 * l.length := by
  have hI : IsI l := fun x hx => by have := hs x hx; omega
  have hm := (hs _ (minL_mem l h0)).1
  have hw : wid (offs l) ≤ 16 := by
    refine (Pk.wid_le _ 16 (offs_isU _).nonneg).2 fun x hx => ?_
    obtain ⟨y, hy, rfl⟩ := List.mem_map.1 hx
    rw [off_eq l hI y hy]
    have := hs y hy
    have h3 := minL_le l y hy
    exact ⟨by omega, by have : (2 : Nat) ^ 16 = 65536 := by decide
                        omega⟩
  have hv := varB_two (l.length : Int) (by omega)
  have hz := sizeN_mono (Nat.le_refl l.length) hw
  have hz2 : sizeN l.length 16 = 2 * l.length := by unfold sizeN; omega
  rw [enc_length]
  show _ + (packedB l).length ≤ _
  rw [packed_length l (by omega)]
  omega
/-- two places changed with each other -/
theorem swap_mem (l : List Int) (a b : Nat) (ha : a < l.length) (hb : b < l.length) (x : Int) : x ∈ (l.set a (l.getD b 0)).set b (l.getD a 0) ↔ x ∈ l := by
  have ea : l.getD a 0 = l[a] := by simp [List.getD, ha]
  have eb : l.getD b 0 = l[b] := by simp [List.getD, hb]
  rw [ea, eb]
  constructor
  · intro h
    rcases List.mem_or_eq_of_mem_set h with h | h
    · rcases List.mem_or_eq_of_mem_set h with h | h
      · exact h
      · rw [h]; exact List.getElem_mem _
    · rw [h]; exact List.getElem_mem _
  · intro h
    obtain ⟨i, hi, rfl⟩ := List.mem_iff_getElem.1 h
    rw [List.mem_iff_getElem]
    by_cases h1 : i = a
    · subst h1
      exact ⟨b, by simpa using hb, by simp⟩
    · by_cases h2 : i = b
      · subst h2
        exact ⟨a, by simpa using ha, by rw [List.getElem_set_ne (by omega)]; simp⟩
      · exact ⟨i, by simpa using hi, by rw [List.getElem_set_ne (by omega), List.getElem_set_ne (by omega)]⟩
end Go.Proofs.Yteolpjlpjjjchaa.In
