/-
  Packed numbers as plain facts on numbers and lists of integers, no program: l in w bits each is one number, the first one lowest; its bytes are that number in 8 bits each.
-/
namespace Go.Proofs.Ytpcilohiokpmnaa.Pk

/-- numbers in w bits each, as one number -/
def packN (w : Nat) : List Int → Nat
  | [] => 0
  | x :: t => x.toNat + 2 ^ w * packN w t
/-- n numbers of w bits each out of one number -/
def getL (w N n : Nat) : List Int := (List.range n).map fun i => ((N / 2 ^ (i * w) % 2 ^ w : Nat) : Int)
/-- each has at most w bits -/
def Fit (w : Nat) (l : List Int) : Prop := ∀ x ∈ l, 0 ≤ x ∧ x.toNat < 2 ^ w

theorem two_pos (n : Nat) : 0 < 2 ^ n := Nat.pow_pos (by decide)

theorem getL_length (w N n : Nat) : (getL w N n).length = n := by simp [getL]
theorem getL_zero (w N : Nat) : getL w N 0 = [] := rfl
theorem getL_cons (w N n : Nat) : getL w N (n + 1) = ((N % 2 ^ w : Nat) : Int) :: getL w (N / 2 ^ w) n := by
  unfold getL
  rw [List.range_succ_eq_map, List.map_cons, List.map_map, Nat.zero_mul, Nat.pow_zero, Nat.div_one]
  congr 1
  apply List.map_congr_left
  intro i _
  simp only [Function.comp]
  rw [Nat.div_div_eq_div_mul, ← Nat.pow_add, Nat.succ_mul, Nat.add_comm (i * w) w]
theorem getL_snoc (w N n : Nat) : getL w N (n + 1) = getL w N n ++ [((N / 2 ^ (n * w) % 2 ^ w : Nat) : Int)] := by
  simp [getL, List.range_succ]
theorem getL_at (w N n i : Nat) (h : i < n) : (getL w N n).getD i 0 = ((N / 2 ^ (i * w) % 2 ^ w : Nat) : Int) := by
  simp [getL, List.getD_eq_getElem?_getD, h]
theorem getL_at? (w N n i : Nat) (h : i < n) : (getL w N n)[i]? = some ((N / 2 ^ (i * w) % 2 ^ w : Nat) : Int) := by
  simp [getL, h]
theorem getL_fit (w N n : Nat) : Fit w (getL w N n) := by
  intro x hx
  simp only [getL, List.mem_map, List.mem_range] at hx
  obtain ⟨i, _, rfl⟩ := hx
  exact ⟨Int.natCast_nonneg _, by rw [Int.toNat_natCast]; exact Nat.mod_lt _ (two_pos w)⟩
theorem Fit.isB {l : List Int} (h : Fit 8 l) : ∀ x ∈ l, 0 ≤ x ∧ x < 256 := fun x hx => by have := h x hx; omega
theorem fit_isB {l : List Int} (h : ∀ x ∈ l, 0 ≤ x ∧ x < 256) : Fit 8 l := fun x hx => by have := h x hx; omega

theorem packN_lt (w : Nat) : ∀ l : List Int, Fit w l → packN w l < 2 ^ (l.length * w) := by
  intro l
  induction l with
  | nil => intro _; simp [packN]
  | cons x t ih =>
    intro h
    have h1 := (h x (List.mem_cons_self ..)).2
    have h2 := ih (fun y hy => h y (List.mem_cons_of_mem _ hy))
    simp only [packN, List.length_cons]
    rw [Nat.add_mul, Nat.one_mul, Nat.pow_add, Nat.mul_comm (2 ^ (t.length * w))]
    generalize 2 ^ w = W at *
    generalize packN w t = p at *
    generalize 2 ^ (t.length * w) = q at *
    have := Nat.mul_le_mul_left W h2
    have e : W * (p + 1) = W * p + W := by rw [Nat.mul_add, Nat.mul_one]
    rw [Nat.succ_eq_add_one, e] at this
    omega
theorem packN_append (w : Nat) : ∀ l m : List Int, packN w (l ++ m) = packN w l + 2 ^ (l.length * w) * packN w m := by
  intro l m
  induction l with
  | nil => simp [packN]
  | cons x t ih =>
    simp only [List.cons_append, packN, ih, List.length_cons]
    rw [Nat.add_mul, Nat.one_mul, Nat.pow_add, Nat.mul_add, Nat.mul_comm (2 ^ (t.length * w)) (2 ^ w), Nat.mul_assoc]
    omega
theorem packN_snoc (w : Nat) (l : List Int) (x : Int) : packN w (l ++ [x]) = packN w l + x.toNat * 2 ^ (l.length * w) := by
  rw [packN_append]; simp [packN, Nat.mul_comm]
theorem packN_getL (w : Nat) : ∀ n N : Nat, packN w (getL w N n) = N % 2 ^ (n * w) := by
  intro n
  induction n with
  | zero => intro N; simp [getL_zero, packN, Nat.mod_one]
  | succ n ih =>
    intro N
    rw [getL_cons, packN, Int.toNat_natCast, ih, Nat.add_mul, Nat.one_mul, Nat.add_comm (n * w) w, Nat.pow_add, Nat.mod_mul]
theorem getL_packN (w : Nat) : ∀ l : List Int, Fit w l → getL w (packN w l) l.length = l := by
  intro l
  induction l with
  | nil => intro _; rfl
  | cons x t ih =>
    intro h
    have h1 := h x (List.mem_cons_self ..)
    have h2 := ih (fun y hy => h y (List.mem_cons_of_mem _ hy))
    rw [List.length_cons, getL_cons, packN, Nat.add_mul_mod_self_left, Nat.mod_eq_of_lt h1.2, Nat.add_mul_div_left _ _ (two_pos w), Nat.div_eq_of_lt h1.2, Nat.zero_add, h2, Int.toNat_of_nonneg h1.1]
theorem getL_append (w n m N M : Nat) (h : N < 2 ^ (n * w)) : getL w (N + 2 ^ (n * w) * M) (n + m) = getL w N n ++ getL w M m := by
  have e1 : Fit w (getL w N n ++ getL w M m) := by
    intro x hx
    rcases List.mem_append.1 hx with hx | hx
    · exact getL_fit _ _ _ x hx
    · exact getL_fit _ _ _ x hx
  have e2 := getL_packN w _ e1
  rw [packN_append, packN_getL, packN_getL, List.length_append, getL_length, getL_length, Nat.mod_eq_of_lt h] at e2
  rw [← e2]
  simp only [getL]
  apply List.map_congr_left
  intro i hi
  rw [List.mem_range] at hi
  congr 1
  have e3 : N + 2 ^ (n * w) * (M % 2 ^ (m * w)) = (N + 2 ^ (n * w) * M) % 2 ^ ((n + m) * w) := by
    rw [Nat.add_mul, Nat.pow_add, Nat.mod_mul, Nat.add_mul_mod_self_left, Nat.mod_eq_of_lt h, Nat.add_mul_div_left _ _ (two_pos _), Nat.div_eq_of_lt h, Nat.zero_add]
  rw [e3]
  generalize N + 2 ^ (n * w) * M = K
  have e4 : (n + m) * w = i * w + ((n + m - i) * w) := by rw [← Nat.add_mul]; congr 1; omega
  rw [e4, Nat.pow_add, Nat.mod_mul_right_div_self]
  have e5 : (n + m - i) * w = w + (n + m - i - 1) * w := by
    conv => lhs; rw [show n + m - i = 1 + (n + m - i - 1) from by omega]
    rw [Nat.add_mul, Nat.one_mul]
  rw [e5, Nat.pow_add, Nat.mod_mul_right_mod]
/-- what is packed of what was got -/
theorem getL_mod (w n N : Nat) : getL w (N % 2 ^ (n * w)) n = getL w N n := by
  have h := getL_packN w (getL w N n) (getL_fit w N n)
  rw [packN_getL, getL_length] at h
  exact h

/-! ### How many bits -/
def bl (v : Nat) : Nat := if v = 0 then 0 else v.log2 + 1
theorem bl_le (v w : Nat) : bl v ≤ w ↔ v < 2 ^ w := by
  unfold bl
  split
  · rename_i h; subst h; exact ⟨fun _ => two_pos w, fun _ => Nat.zero_le _⟩
  · rename_i h; rw [← Nat.log2_lt h]; omega
theorem bl_zero : bl 0 = 0 := rfl
theorem bl_half (v : Nat) (h : v ≠ 0) : bl v = bl (v / 2) + 1 := by
  have h1 : ∀ w, bl v ≤ w + 1 ↔ bl (v / 2) ≤ w := by
    intro w
    rw [bl_le, bl_le, Nat.pow_succ]; omega
  have h3 : 1 ≤ bl v := by unfold bl; rw [if_neg h]; omega
  have h4 := h1 (bl v - 1)
  have h5 := h1 (bl (v / 2))
  omega
theorem bl_of (v : Nat) (n : Nat) (h : v < 2 ^ n) (h1 : 1 ≤ n → 2 ^ (n - 1) ≤ v) : bl v = n := by
  have a := (bl_le v n).2 h
  by_cases hn : n = 0
  · omega
  · have b := h1 (by omega)
    have c : ¬ bl v ≤ n - 1 := fun hc => by have := (bl_le v (n - 1)).1 hc; omega
    omega
theorem bl_max (a b : Nat) : bl (max a b) = max (bl a) (bl b) := by
  have h : ∀ w, bl (max a b) ≤ w ↔ max (bl a) (bl b) ≤ w := by
    intro w
    rw [bl_le, Nat.max_lt, Nat.max_le, bl_le, bl_le]
  have h1 := (h (bl (max a b))).1 (Nat.le_refl _)
  have h2 := (h (max (bl a) (bl b))).2 (Nat.le_refl _)
  omega
/-- the greatest number -/
def maxN : List Int → Nat
  | [] => 0
  | x :: t => max x.toNat (maxN t)
theorem maxN_snoc (l : List Int) (x : Int) : maxN (l ++ [x]) = max (maxN l) x.toNat := by
  induction l with
  | nil => simp [maxN]
  | cons y t ih => simp only [List.cons_append, maxN, ih]; omega
theorem maxN_lt (l : List Int) (w : Nat) : maxN l < 2 ^ w ↔ ∀ x ∈ l, x.toNat < 2 ^ w := by
  induction l with
  | nil => simp [maxN, two_pos]
  | cons y t ih => simp only [maxN, Nat.max_lt, ih, List.forall_mem_cons]
def wid (l : List Int) : Nat := bl (maxN l)
theorem wid_le (l : List Int) (w : Nat) (h : ∀ x ∈ l, 0 ≤ x) : wid l ≤ w ↔ Fit w l := by
  unfold wid
  rw [bl_le, maxN_lt]
  exact ⟨fun h1 x hx => ⟨h x hx, h1 x hx⟩, fun h1 x hx => (h1 x hx).2⟩
theorem wid_nil : wid [] = 0 := rfl
theorem wid_snoc (l : List Int) (x : Int) : wid (l ++ [x]) = max (wid l) (bl x.toNat) := by unfold wid; rw [maxN_snoc, bl_max]
/-- all are numbers of 64 bits -/
def IsU (l : List Int) : Prop := ∀ x ∈ l, 0 ≤ x ∧ x < 18446744073709551616
theorem IsU.fit {l : List Int} (h : IsU l) : Fit 64 l := fun x hx => by have := h x hx; omega
theorem IsU.nonneg {l : List Int} (h : IsU l) : ∀ x ∈ l, 0 ≤ x := fun x hx => (h x hx).1
theorem fit_isU {w : Nat} {l : List Int} (h : Fit w l) (hw : w ≤ 64) : IsU l := fun x hx => by
  have h1 := h x hx
  have h2 : 2 ^ w ≤ 2 ^ 64 := Nat.pow_le_pow_right (by decide) hw
  omega
theorem wid_64 {l : List Int} (h : IsU l) : wid l ≤ 64 := (wid_le l 64 h.nonneg).2 h.fit

/-! ### The document's answers -/
def canB (n w : Int) : Bool := decide (0 ≤ n ∧ n ≤ 65536 ∧ 0 ≤ w ∧ w ≤ 64)
def sizeN (n w : Nat) : Nat := (n * w + 7) / 8
def sizeF (n w : Int) : Int := if canB n w = true then (sizeN n.toNat w.toNat : Int) else 0
def putR (l : List Int) (w : Int) : Int × List Int :=
  if canB l.length w = true then (if (wid l : Int) ≤ w then (0, getL 8 (packN w.toNat l) (sizeN l.length w.toNat)) else (3, [])) else (2, [])
def getR (b : List Int) (n w : Int) : Int × List Int :=
  if canB n w = true then (if b.length = sizeN n.toNat w.toNat ∧ packN 8 b / 2 ^ (n.toNat * w.toNat) = 0 then (0, getL w.toNat (packN 8 b) n.toNat) else (4, [])) else (2, [])

theorem canB_iff (n w : Int) : canB n w = true ↔ (0 ≤ n ∧ n ≤ 65536 ∧ 0 ≤ w ∧ w ≤ 64) := by simp [canB]
theorem size8 (n w : Nat) : n * w ≤ sizeN n w * 8 ∧ sizeN n w * 8 < n * w + 8 := by unfold sizeN; omega
/-- the bytes of what is packed, as one number -/
theorem pack8 (l : List Int) (w : Nat) (h : Fit w l) : packN 8 (getL 8 (packN w l) (sizeN l.length w)) = packN w l := by
  rw [packN_getL]
  refine Nat.mod_eq_of_lt (Nat.lt_of_lt_of_le (packN_lt w l h) (Nat.pow_le_pow_right (by decide) (size8 _ _).1))
theorem get_put (l : List Int) (w : Int) (hl : IsU l) (hok : (putR l w).1 = 0) : getR (putR l w).2 l.length w = (0, l) := by
  unfold putR at hok ⊢
  by_cases hc : canB l.length w = true
  · rw [if_pos hc] at hok ⊢
    by_cases hw : (wid l : Int) ≤ w
    · rw [if_pos hw] at hok ⊢
      have hc' := (canB_iff _ _).1 hc
      obtain ⟨v, rfl⟩ := Int.eq_ofNat_of_zero_le hc'.2.2.1
      have hf : Fit v l := (wid_le l v hl.nonneg).1 (by omega)
      unfold getR
      rw [if_pos hc]
      simp only [Int.toNat_natCast, getL_length]
      rw [pack8 l v hf, if_pos ⟨trivial, Nat.div_eq_of_lt (packN_lt v l hf)⟩, getL_packN v l hf]
    · rw [if_neg hw] at hok; simp at hok
  · rw [if_neg hc] at hok; simp at hok
theorem put_get (b : List Int) (n w : Int) (hb : Fit 8 b) (hok : (getR b n w).1 = 0) : putR (getR b n w).2 w = (0, b) ∧ ((getR b n w).2.length : Int) = n ∧ (wid (getR b n w).2 : Int) ≤ w ∧ IsU (getR b n w).2 := by
  unfold getR at hok ⊢
  by_cases hc : canB n w = true
  · rw [if_pos hc] at hok ⊢
    by_cases hk : b.length = sizeN n.toNat w.toNat ∧ packN 8 b / 2 ^ (n.toNat * w.toNat) = 0
    · rw [if_pos hk] at hok ⊢
      have hc' := (canB_iff _ _).1 hc
      obtain ⟨v, rfl⟩ := Int.eq_ofNat_of_zero_le hc'.2.2.1
      obtain ⟨m, rfl⟩ := Int.eq_ofNat_of_zero_le hc'.1
      simp only [Int.toNat_natCast] at hk ⊢
      have hf := getL_fit v (packN 8 b) m
      have hu : IsU (getL v (packN 8 b) m) := fit_isU hf (by omega)
      have hw : (wid (getL v (packN 8 b) m) : Int) ≤ v := by have := (wid_le _ v hu.nonneg).2 hf; omega
      refine ⟨?_, by rw [getL_length], hw, hu⟩
      unfold putR
      rw [getL_length, if_pos hc, if_pos hw, Int.toNat_natCast, packN_getL]
      have hlt : packN 8 b < 2 ^ (m * v) := by
        have := Nat.div_eq_zero_iff.1 hk.2
        rcases this with h | h
        · have := two_pos (m * v); omega
        · exact h
      rw [Nat.mod_eq_of_lt hlt, ← hk.1, getL_packN 8 b hb]
    · rw [if_neg hk] at hok; simp at hok
  · rw [if_neg hc] at hok; simp at hok
theorem get_no (b : List Int) (n w : Int) (h : ¬ (getR b n w).1 = 0) : (getR b n w).2 = [] := by
  unfold getR at h ⊢
  split
  · split
    · rename_i h1 h2; rw [if_pos h1, if_pos h2] at h; exact absurd rfl h
    · rfl
  · rfl
theorem put_no (l : List Int) (w : Int) (h : ¬ (putR l w).1 = 0) : (putR l w).2 = [] := by
  unfold putR at h ⊢
  split
  · split
    · rename_i h1 h2; rw [if_pos h1, if_pos h2] at h; exact absurd rfl h
    · rfl
  · rfl
theorem put_ok (l : List Int) (w : Int) : (putR l w).1 = 0 ↔ (canB l.length w = true ∧ (wid l : Int) ≤ w) := by
  unfold putR
  split
  · split
    · rename_i h1 h2; exact ⟨fun _ => ⟨h1, h2⟩, fun _ => rfl⟩
    · rename_i h1 h2; exact ⟨fun h => by simp at h, fun h => absurd h.2 h2⟩
  · rename_i h1; exact ⟨fun h => by simp at h, fun h => absurd h.1 h1⟩
theorem put_isB (l : List Int) (w : Int) : Fit 8 (putR l w).2 := by
  unfold putR
  split
  · split
    · exact getL_fit _ _ _
    · intro x hx; cases hx
  · intro x hx; cases hx
theorem put_size (l : List Int) (w : Int) (h : (putR l w).1 = 0) : ((putR l w).2.length : Int) = sizeF l.length w := by
  obtain ⟨h1, h2⟩ := (put_ok l w).1 h
  unfold putR sizeF
  rw [if_pos h1, if_pos h2, if_pos h1, getL_length, Int.toNat_natCast]
theorem put_len (l : List Int) (w : Int) : (putR l w).2.length ≤ 524288 := by
  unfold putR
  split
  · rename_i h1
    split
    · have hc' := (canB_iff _ _).1 h1
      obtain ⟨v, rfl⟩ := Int.eq_ofNat_of_zero_le hc'.2.2.1
      rw [getL_length, Int.toNat_natCast]
      have : l.length * v ≤ 65536 * 64 := Nat.mul_le_mul (by omega) (by omega)
      unfold sizeN
      omega
    · simp
  · simp
theorem get_len (b : List Int) (n w : Int) : (getR b n w).2.length ≤ 65536 := by
  unfold getR
  split
  · rename_i h1
    have hc' := (canB_iff _ _).1 h1
    split
    · rw [getL_length]; omega
    · simp
  · simp
/-- both parts, the first one ending with a byte -/
theorem put_join (l m : List Int) (w : Nat) (hl : IsU l) (h1 : (putR l w).1 = 0) (h2 : (putR m w).1 = 0) (h8 : (l.length * w) % 8 = 0) (h3 : (putR (l ++ m) w).1 = 0) : (putR (l ++ m) w).2 = (putR l w).2 ++ (putR m w).2 := by
  obtain ⟨c1, w1⟩ := (put_ok l w).1 h1
  obtain ⟨c2, w2⟩ := (put_ok m w).1 h2
  obtain ⟨c3, w3⟩ := (put_ok (l ++ m) w).1 h3
  unfold putR
  rw [if_pos c1, if_pos w1, if_pos c2, if_pos w2, if_pos c3, if_pos w3]
  simp only [Int.toNat_natCast]
  rw [packN_append]
  have e1 : l.length * w = sizeN l.length w * 8 := by unfold sizeN; omega
  have e2 : sizeN (l ++ m).length w = sizeN l.length w + sizeN m.length w := by
    unfold sizeN; rw [List.length_append, Nat.add_mul]; omega
  rw [e2, e1]
  refine getL_append 8 _ _ _ _ ?_
  rw [← e1]
  exact packN_lt w l ((wid_le l w hl.nonneg).1 (by omega))
theorem put_both (l m : List Int) (w : Nat) (hw : w ≤ 64) (h1 : l.length ≤ 100) (h2 : m.length ≤ 100) (hl : IsU l) (hm : IsU m) : ((putR l w).1 = 0 ∧ (putR m w).1 = 0) ↔ (putR (l ++ m) w).1 = 0 := by
  have c1 : canB l.length w = true := (canB_iff _ _).2 ⟨by omega, by omega, by omega, by omega⟩
  have c2 : canB m.length w = true := (canB_iff _ _).2 ⟨by omega, by omega, by omega, by omega⟩
  have c3 : canB (l ++ m).length w = true := (canB_iff _ _).2 (by rw [List.length_append]; omega)
  have hlm : IsU (l ++ m) := fun x hx => (List.mem_append.1 hx).elim (hl x) (hm x)
  rw [put_ok, put_ok, put_ok]
  have a := wid_le l w hl.nonneg
  have b := wid_le m w hm.nonneg
  have c := wid_le (l ++ m) w hlm.nonneg
  have d : Fit w (l ++ m) ↔ Fit w l ∧ Fit w m := by
    unfold Fit; exact ⟨fun h => ⟨fun x hx => h x (List.mem_append_left _ hx), fun x hx => h x (List.mem_append_right _ hx)⟩, fun h x hx => (List.mem_append.1 hx).elim (h.1 x) (h.2 x)⟩
  constructor
  · rintro ⟨⟨_, k1⟩, ⟨_, k2⟩⟩
    have k3 := c.2 (d.2 ⟨a.1 (by omega), b.1 (by omega)⟩)
    exact ⟨c3, by omega⟩
  · rintro ⟨_, k⟩
    have k4 := d.1 (c.1 (by omega))
    have k5 := a.2 k4.1
    have k6 := b.2 k4.2
    exact ⟨⟨c1, by omega⟩, ⟨c2, by omega⟩⟩
end Go.Proofs.Ytpcilohiokpmnaa.Pk
