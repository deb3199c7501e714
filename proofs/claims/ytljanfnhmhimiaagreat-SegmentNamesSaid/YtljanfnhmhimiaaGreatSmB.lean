/-
  What the program's and the document's functions do, in memory and as plain functions: OctNum, PkNum, NuRunsN.
-/


namespace Go.Proofs.YtljanfnhmhimiaaGreat.Oct

/-- the n lowest bytes, the lowest first -/
def putB : Nat → Int → List Int
  | 0, _ => []
  | n + 1, v => (v % 256) :: putB n (v / 256)
/-- the number of some bytes, the lowest first -/
def ofB : List Int → Int
  | [] => 0
  | c :: r => c + 256 * ofB r
/-- the bytes of a varint; k: how many more may follow -/
def varB : Nat → Int → List Int
  | 0, v => [v]
  | k + 1, v => if v < 128 then [v] else (v % 128 + 128) :: varB k (v / 128)
/-- what reading a varint answers at place i with acc read: the number, the error, how many bytes are taken -/
def readV : Nat → Int → List Int → Int × Int × Nat
  | _, _, [] => (0, 7, 0)
  | i, acc, c :: r =>
    if i = 9 ∧ 1 < c then (0, 4, 0)
    else if 128 ≤ c then readV (i + 1) (acc + (c % 128) * 2 ^ (7 * i)) r
    else if c = 0 ∧ 0 < i then (0, 4, 0)
    else (acc + (c % 128) * 2 ^ (7 * i), 0, i + 1)

def IsB (l : List Int) : Prop := ∀ x ∈ l, 0 ≤ x ∧ x < 256

theorem putB_length (n : Nat) : ∀ v, (putB n v).length = n := by
  induction n with
  | zero => intro v; rfl
  | succ n ih => intro v; simp [putB, ih]

theorem putB_isB (n : Nat) : ∀ v, IsB (putB n v) := by
  induction n with
  | zero => intro v x hx; simp [putB] at hx
  | succ n ih =>
    intro v x hx
    simp only [putB, List.mem_cons] at hx
    rcases hx with rfl | hx
    · omega
    · exact ih _ x hx

theorem ofB_bound (l : List Int) (h : IsB l) : 0 ≤ ofB l ∧ ofB l < 256 ^ l.length := by
  induction l with
  | nil => simp [ofB]
  | cons c r ih =>
    have hc := h c (by simp)
    have hr := ih fun x hx => h x (by simp [hx])
    simp only [ofB, List.length_cons, Int.pow_succ]
    omega

theorem ofB_snoc (l : List Int) (c : Int) : ofB (l ++ [c]) = ofB l + c * 256 ^ l.length := by
  induction l with
  | nil => simp [ofB]
  | cons a r ih =>
    simp only [List.cons_append, ofB, ih, List.length_cons, Int.pow_succ, Int.mul_add]
    rw [Int.mul_comm (256 : Int) (c * 256 ^ r.length), Int.mul_assoc]
    omega

theorem putB_succ_last (n : Nat) : ∀ v : Int, putB (n + 1) v = putB n v ++ [v / 256 ^ n % 256] := by
  induction n with
  | zero => intro v; simp [putB]
  | succ n ih =>
    intro v
    rw [putB, ih (v / 256)]
    simp only [putB, List.cons_append]
    congr 2
    rw [Int.ediv_ediv_of_nonneg (by decide), Int.pow_succ, Int.mul_comm (256 : Int)]

theorem varB_pos (k : Nat) : ∀ v, 1 ≤ (varB k v).length := by
  cases k with
  | zero => intro v; simp [varB]
  | succ k => intro v; simp only [varB]; split <;> simp

theorem varB_le (k : Nat) : ∀ v, (varB k v).length ≤ k + 1 := by
  induction k with
  | zero => intro v; simp [varB]
  | succ k ih => intro v; simp only [varB]; split <;> simp; exact ih _

theorem varB_isB (k : Nat) : ∀ v : Int, 0 ≤ v → v < 256 * 128 ^ k → IsB (varB k v) := by
  induction k with
  | zero => intro v h0 h1 x hx; simp [varB] at hx; subst hx; simp at h1; omega
  | succ k ih =>
    intro v h0 h1 x hx
    simp only [varB] at hx
    split at hx
    · simp at hx; omega
    · simp only [List.mem_cons] at hx
      rcases hx with rfl | hx
      · omega
      · refine ih (v / 128) (by omega) ?_ x hx
        rw [Int.pow_succ, ← Int.mul_assoc] at h1
        exact Int.ediv_lt_of_lt_mul (by decide) h1

/-- What stands behind does not matter: a varint is read back. -/
theorem readV_varB (k : Nat) : ∀ (i : Nat) (acc v : Int) (r : List Int), i + k = 9 → 0 ≤ v → v < 2 * 128 ^ k → (0 < i → 0 < v) →
    readV i acc (varB k v ++ r) = (acc + v * 2 ^ (7 * i), 0, i + (varB k v).length) := by
  induction k with
  | zero =>
    intro i acc v r hi h0 h1 hp
    simp at h1
    simp only [varB, List.cons_append, List.nil_append, readV]
    have hv : v % 128 = v := by omega
    rw [if_neg (by omega), if_neg (by omega), if_neg (by omega), hv]
    simp
  | succ k ih =>
    intro i acc v r hi h0 h1 hp
    have hdiv : v / 128 < 2 * 128 ^ k := by
      rw [Int.pow_succ, ← Int.mul_assoc] at h1
      exact Int.ediv_lt_of_lt_mul (by decide) h1
    simp only [varB]
    split
    · simp only [List.cons_append, List.nil_append, readV]
      have hv : v % 128 = v := by omega
      rw [if_neg (by omega), if_neg (by omega), if_neg (by omega), hv]
      simp
    · simp only [List.cons_append, readV]
      rw [if_neg (by omega), if_pos (by omega), ih (i + 1) _ (v / 128) r (by omega) (by omega) hdiv (by omega)]
      have e1 : (v % 128 + 128) % 128 = v % 128 := by omega
      have e2 : (2 : Int) ^ (7 * (i + 1)) = 128 * 2 ^ (7 * i) := by
        rw [Nat.mul_add, Int.pow_add, Int.mul_comm]; rfl
      have e3 : acc + v % 128 * 2 ^ (7 * i) + v / 128 * (128 * 2 ^ (7 * i)) = acc + v * 2 ^ (7 * i) := by
        rw [← Int.mul_assoc, Int.add_assoc, ← Int.add_mul]
        congr 2
        omega
      rw [e1, e2, e3]
      simp only [List.length_cons]
      congr 2
      omega

/-- What was read is one form alone: its bytes are those of the number. -/
theorem varB_readV (l : List Int) : ∀ (k i : Nat) (acc : Int) (x : Int) (n : Nat), IsB l → i + k = 9 → readV i acc l = (x, 0, n) →
    ∃ v : Int, 0 ≤ v ∧ v < 2 * 128 ^ k ∧ x = acc + v * 2 ^ (7 * i) ∧ (0 < i → 0 < v) ∧ i < n ∧ n ≤ i + l.length ∧ varB k v = l.take (n - i) := by
  induction l with
  | nil => intro k i acc x n _ _ h; simp [readV] at h
  | cons c r ih =>
    intro k i acc x n hb hi h
    have hc := hb c (by simp)
    simp only [readV] at h
    split at h
    · simp at h
    · rename_i hn
      split at h
      · rename_i hge
        cases k with
        | zero => omega
        | succ k =>
          obtain ⟨v, v0, v1, hx, hp, hin, hnl, hvb⟩ := ih k (i + 1) _ x n (fun x hx => hb x (by simp [hx])) (by omega) h
          have hp := hp (by omega)
          refine ⟨c % 128 + 128 * v, by omega, ?_, ?_, by omega, by omega, by simp; omega, ?_⟩
          · rw [Int.pow_succ, ← Int.mul_assoc]; omega
          · rw [hx]
            have e2 : (2 : Int) ^ (7 * (i + 1)) = 128 * 2 ^ (7 * i) := by
              rw [Nat.mul_add, Int.pow_add, Int.mul_comm]; rfl
            rw [e2, ← Int.mul_assoc, Int.add_assoc, ← Int.add_mul]
            congr 2
            omega
          · simp only [varB]
            rw [if_neg (by omega)]
            have e : (c % 128 + 128 * v) / 128 = v := by omega
            rw [e, hvb, show n - i = (n - (i + 1)) + 1 from by omega, List.take_succ_cons]
            congr 1
            omega
      · split at h
        · simp at h
        · rename_i hlt hz
          simp only [Prod.mk.injEq] at h
          obtain ⟨hx, _, hn'⟩ := h
          have hcm : c % 128 = c := by omega
          rw [hcm] at hx
          refine ⟨c, by omega, ?_, hx.symm, by omega, by omega, by simp; omega, ?_⟩
          · cases k with
            | zero => simp; omega
            | succ k =>
              have : (1 : Int) ≤ 128 ^ k := by exact_mod_cast Nat.one_le_pow k 128 (by decide)
              rw [Int.pow_succ, ← Int.mul_assoc]; omega
          · subst hn'
            rw [show i + 1 - i = 1 from by omega]
            cases k with
            | zero => simp [varB]
            | succ k => simp only [varB]; rw [if_pos (by omega)]; simp

end Go.Proofs.YtljanfnhmhimiaaGreat.Oct

namespace Go.Proofs.YtljanfnhmhimiaaGreat.Pk

/-- numbers in w bits each, as one number -/
def packN (w : Nat) : List Int → Nat
  | [] => 0
  | x :: t => x.toNat + 2 ^ w * packN w t
/-- n numbers of w bits each out of one number -/
def getL (w N n : Nat) : List Int := (List.range n).map fun i => ((N / 2 ^ (i * w) % 2 ^ w : Nat) : Int)
/-- each has at most w bits -/
def Fit (w : Nat) (l : List Int) : Prop := ∀ x ∈ l, 0 ≤ x ∧ x.toNat < 2 ^ w

theorem two_pos (n : Nat) : 0 < 2 ^ n := Nat.pow_pos (by decide)

theorem getL_length (w N n : Nat) : (getL w N n).length = n := by simp [getL]
theorem getL_zero (w N : Nat) : getL w N 0 = [] := rfl
theorem getL_cons (w N n : Nat) : getL w N (n + 1) = ((N % 2 ^ w : Nat) : Int) :: getL w (N / 2 ^ w) n := by
  unfold getL
  rw [List.range_succ_eq_map, List.map_cons, List.map_map, Nat.zero_mul, Nat.pow_zero, Nat.div_one]
  congr 1
  apply List.map_congr_left
  intro i _
  simp only [Function.comp]
  rw [Nat.div_div_eq_div_mul, ← Nat.pow_add, Nat.succ_mul, Nat.add_comm (i * w) w]
theorem getL_snoc (w N n : Nat) : getL w N (n + 1) = getL w N n ++ [((N / 2 ^ (n * w) % 2 ^ w : Nat) : Int)] := by
  simp [getL, List.range_succ]
theorem getL_at (w N n i : Nat) (h : i < n) : (getL w N n).getD i 0 = ((N / 2 ^ (i * w) % 2 ^ w : Nat) : Int) := by
  simp [getL, List.getD_eq_getElem?_getD, h]
theorem getL_fit (w N n : Nat) : Fit w (getL w N n) := by
  intro x hx
  simp only [getL, List.mem_map, List.mem_range] at hx
  obtain ⟨i, _, rfl⟩ := hx
  exact ⟨Int.natCast_nonneg _, by rw [Int.toNat_natCast]; exact Nat.mod_lt _ (two_pos w)⟩
theorem Fit.isB {l : List Int} (h : Fit 8 l) : ∀ x ∈ l, 0 ≤ x ∧ x < 256 := fun x hx => by have := h x hx; omega
theorem fit_isB {l : List Int} (h : ∀ x ∈ l, 0 ≤ x ∧ x < 256) : Fit 8 l := fun x hx => by have := h x hx; omega

theorem packN_lt (w : Nat) : ∀ l : List Int, Fit w l → packN w l < 2 ^ (l.length * w) := by
  intro l
  induction l with
  | nil => intro _; simp [packN]
  | cons x t ih =>
    intro h
    have h1 := (h x (List.mem_cons_self ..)).2
    have h2 := ih (fun y hy => h y (List.mem_cons_of_mem _ hy))
    simp only [packN, List.length_cons]
    rw [Nat.add_mul, Nat.one_mul, Nat.pow_add, Nat.mul_comm (2 ^ (t.length * w))]
    generalize 2 ^ w = W at *
    generalize packN w t = p at *
    generalize 2 ^ (t.length * w) = q at *
    have := Nat.mul_le_mul_left W h2
    have e : W * (p + 1) = W * p + W := by rw [Nat.mul_add, Nat.mul_one]
    rw [Nat.succ_eq_add_one, e] at this
    omega
theorem packN_append (w : Nat) : ∀ l m : List Int, packN w (l ++ m) = packN w l + 2 ^ (l.length * w) * packN w m := by
  intro l m
  induction l with
  | nil => simp [packN]
  | cons x t ih =>
    simp only [List.cons_append, packN, ih, List.length_cons]
    rw [Nat.add_mul, Nat.one_mul, Nat.pow_add, Nat.mul_add, Nat.mul_comm (2 ^ (t.length * w)) (2 ^ w), Nat.mul_assoc]
    omega
theorem packN_snoc (w : Nat) (l : List Int) (x : Int) : packN w (l ++ [x]) = packN w l + x.toNat * 2 ^ (l.length * w) := by
  rw [packN_append]; simp [packN, Nat.mul_comm]
theorem packN_getL (w : Nat) : ∀ n N : Nat, packN w (getL w N n) = N % 2 ^ (n * w) := by
  intro n
  induction n with
  | zero => intro N; simp [getL_zero, packN, Nat.mod_one]
  | succ n ih =>
    intro N
    rw [getL_cons, packN, Int.toNat_natCast, ih, Nat.add_mul, Nat.one_mul, Nat.add_comm (n * w) w, Nat.pow_add, Nat.mod_mul]
theorem getL_packN (w : Nat) : ∀ l : List Int, Fit w l → getL w (packN w l) l.length = l := by
  intro l
  induction l with
  | nil => intro _; rfl
  | cons x t ih =>
    intro h
    have h1 := h x (List.mem_cons_self ..)
    have h2 := ih (fun y hy => h y (List.mem_cons_of_mem _ hy))
    rw [List.length_cons, getL_cons, packN, Nat.add_mul_mod_self_left, Nat.mod_eq_of_lt h1.2, Nat.add_mul_div_left _ _ (two_pos w), Nat.div_eq_of_lt h1.2, Nat.zero_add, h2, Int.toNat_of_nonneg h1.1]
/-- what is packed of what was got -/
theorem getL_mod (w n N : Nat) : getL w (N % 2 ^ (n * w)) n = getL w N n := by
  have h := getL_packN w (getL w N n) (getL_fit w N n)
  rw [packN_getL, getL_length] at h
  exact h

/-! ### How many bits -/
def bl (v : Nat) : Nat := if v = 0 then 0 else v.log2 + 1
theorem bl_le (v w : Nat) : bl v ≤ w ↔ v < 2 ^ w := by
  unfold bl
  split
  · rename_i h; subst h; exact ⟨fun _ => two_pos w, fun _ => Nat.zero_le _⟩
  · rename_i h; rw [← Nat.log2_lt h]; omega
theorem bl_of (v : Nat) (n : Nat) (h : v < 2 ^ n) (h1 : 1 ≤ n → 2 ^ (n - 1) ≤ v) : bl v = n := by
  have a := (bl_le v n).2 h
  by_cases hn : n = 0
  · omega
  · have b := h1 (by omega)
    have c : ¬ bl v ≤ n - 1 := fun hc => by have := (bl_le v (n - 1)).1 hc; omega
    omega
/-- the greatest number -/
def maxN : List Int → Nat
  | [] => 0
  | x :: t => max x.toNat (maxN t)
theorem maxN_snoc (l : List Int) (x : Int) : maxN (l ++ [x]) = max (maxN l) x.toNat := by
  induction l with
  | nil => simp [maxN]
  | cons y t ih => simp only [List.cons_append, maxN, ih]; omega
theorem maxN_lt (l : List Int) (w : Nat) : maxN l < 2 ^ w ↔ ∀ x ∈ l, x.toNat < 2 ^ w := by
  induction l with
  | nil => simp [maxN, two_pos]
  | cons y t ih => simp only [maxN, Nat.max_lt, ih, List.forall_mem_cons]
def wid (l : List Int) : Nat := bl (maxN l)
theorem wid_le (l : List Int) (w : Nat) (h : ∀ x ∈ l, 0 ≤ x) : wid l ≤ w ↔ Fit w l := by
  unfold wid
  rw [bl_le, maxN_lt]
  exact ⟨fun h1 x hx => ⟨h x hx, h1 x hx⟩, fun h1 x hx => (h1 x hx).2⟩
/-- all are numbers of 64 bits -/
def IsU (l : List Int) : Prop := ∀ x ∈ l, 0 ≤ x ∧ x < 18446744073709551616
theorem IsU.fit {l : List Int} (h : IsU l) : Fit 64 l := fun x hx => by have := h x hx; omega
theorem IsU.nonneg {l : List Int} (h : IsU l) : ∀ x ∈ l, 0 ≤ x := fun x hx => (h x hx).1
theorem fit_isU {w : Nat} {l : List Int} (h : Fit w l) (hw : w ≤ 64) : IsU l := fun x hx => by
  have h1 := h x hx
  have h2 : 2 ^ w ≤ 2 ^ 64 := Nat.pow_le_pow_right (by decide) hw
  omega
theorem wid_64 {l : List Int} (h : IsU l) : wid l ≤ 64 := (wid_le l 64 h.nonneg).2 h.fit

/-! ### The document's answers -/
def canB (n w : Int) : Bool := decide (0 ≤ n ∧ n ≤ 65536 ∧ 0 ≤ w ∧ w ≤ 64)
def sizeN (n w : Nat) : Nat := (n * w + 7) / 8
def sizeF (n w : Int) : Int := if canB n w = true then (sizeN n.toNat w.toNat : Int) else 0
def putR (l : List Int) (w : Int) : Int × List Int :=
  if canB l.length w = true then (if (wid l : Int) ≤ w then (0, getL 8 (packN w.toNat l) (sizeN l.length w.toNat)) else (3, [])) else (2, [])
def getR (b : List Int) (n w : Int) : Int × List Int :=
  if canB n w = true then (if b.length = sizeN n.toNat w.toNat ∧ packN 8 b / 2 ^ (n.toNat * w.toNat) = 0 then (0, getL w.toNat (packN 8 b) n.toNat) else (4, [])) else (2, [])

theorem canB_iff (n w : Int) : canB n w = true ↔ (0 ≤ n ∧ n ≤ 65536 ∧ 0 ≤ w ∧ w ≤ 64) := by simp [canB]
theorem size8 (n w : Nat) : n * w ≤ sizeN n w * 8 ∧ sizeN n w * 8 < n * w + 8 := by unfold sizeN; omega
theorem put_get (b : List Int) (n w : Int) (hb : Fit 8 b) (hok : (getR b n w).1 = 0) : putR (getR b n w).2 w = (0, b) ∧ ((getR b n w).2.length : Int) = n ∧ (wid (getR b n w).2 : Int) ≤ w ∧ IsU (getR b n w).2 := by
  unfold getR at hok ⊢
  by_cases hc : canB n w = true
  · rw [if_pos hc] at hok ⊢
    by_cases hk : b.length = sizeN n.toNat w.toNat ∧ packN 8 b / 2 ^ (n.toNat * w.toNat) = 0
    · rw [if_pos hk] at hok ⊢
      have hc' := (canB_iff _ _).1 hc
      obtain ⟨v, rfl⟩ := Int.eq_ofNat_of_zero_le hc'.2.2.1
      obtain ⟨m, rfl⟩ := Int.eq_ofNat_of_zero_le hc'.1
      simp only [Int.toNat_natCast] at hk ⊢
      have hf := getL_fit v (packN 8 b) m
      have hu : IsU (getL v (packN 8 b) m) := fit_isU hf (by omega)
      have hw : (wid (getL v (packN 8 b) m) : Int) ≤ v := by have := (wid_le _ v hu.nonneg).2 hf; omega
      refine ⟨?_, by rw [getL_length], hw, hu⟩
      unfold putR
      rw [getL_length, if_pos hc, if_pos hw, Int.toNat_natCast, packN_getL]
      have hlt : packN 8 b < 2 ^ (m * v) := by
        have := Nat.div_eq_zero_iff.1 hk.2
        rcases this with h | h
        · have := two_pos (m * v); omega
        · exact h
      rw [Nat.mod_eq_of_lt hlt, ← hk.1, getL_packN 8 b hb]
    · rw [if_neg hk] at hok; simp at hok
  · rw [if_neg hc] at hok; simp at hok
theorem get_no (b : List Int) (n w : Int) (h : ¬ (getR b n w).1 = 0) : (getR b n w).2 = [] := by
  unfold getR at h ⊢
  split
  · split
    · rename_i h1 h2; rw [if_pos h1, if_pos h2] at h; exact absurd rfl h
    · rfl
  · rfl
theorem put_ok (l : List Int) (w : Int) : (putR l w).1 = 0 ↔ (canB l.length w = true ∧ (wid l : Int) ≤ w) := by
  unfold putR
  split
  · split
    · rename_i h1 h2; exact ⟨fun _ => ⟨h1, h2⟩, fun _ => rfl⟩
    · rename_i h1 h2; exact ⟨fun h => by simp at h, fun h => absurd h.2 h2⟩
  · rename_i h1; exact ⟨fun h => by simp at h, fun h => absurd h.1 h1⟩
theorem put_isB (l : List Int) (w : Int) : Fit 8 (putR l w).2 := by
  unfold putR
  split
  · split
    · exact getL_fit _ _ _
    · intro x hx; cases hx
  · intro x hx; cases hx
theorem put_size (l : List Int) (w : Int) (h : (putR l w).1 = 0) : ((putR l w).2.length : Int) = sizeF l.length w := by
  obtain ⟨h1, h2⟩ := (put_ok l w).1 h
  unfold putR sizeF
  rw [if_pos h1, if_pos h2, if_pos h1, getL_length, Int.toNat_natCast]
theorem put_len (l : List Int) (w : Int) : (putR l w).2.length ≤ 524288 := by
  unfold putR
  split
  · rename_i h1
    split
    · have hc' := (canB_iff _ _).1 h1
      obtain ⟨v, rfl⟩ := Int.eq_ofNat_of_zero_le hc'.2.2.1
      rw [getL_length, Int.toNat_natCast]
      have : l.length * v ≤ 65536 * 64 := Nat.mul_le_mul (by omega) (by omega)
      unfold sizeN
      omega
    · simp
  · simp
theorem get_len (b : List Int) (n w : Int) : (getR b n w).2.length ≤ 65536 := by
  unfold getR
  split
  · rename_i h1
    have hc' := (canB_iff _ _).1 h1
    split
    · rw [getL_length]; omega
    · simp
  · simp
end Go.Proofs.YtljanfnhmhimiaaGreat.Pk

namespace Go.Proofs.YtljanfnhmhimiaaGreat.Nu

/-- how many are true -/
def cnt : List Bool → Nat
  | [] => 0
  | b :: t => (if b = true then 1 else 0) + cnt t
theorem cnt_app (l m : List Bool) : cnt (l ++ m) = cnt l + cnt m := by
  induction l with
  | nil => simp [cnt]
  | cons x t ih => simp only [List.cons_append, cnt, ih]; omega
theorem cnt_rep (n : Nat) (b : Bool) : cnt (List.replicate n b) = if b = true then n else 0 := by
  induction n with
  | zero => simp [cnt]
  | succ n ih => simp only [List.replicate_succ, cnt, ih]; split <;> omega
theorem cnt_le (l : List Bool) : cnt l ≤ l.length := by
  induction l with
  | nil => simp [cnt]
  | cons x t ih => simp only [cnt, List.length_cons]; split <;> omega
/-- runs of like flags: how long, and the flag -/
def runsL : List Bool → List (Nat × Bool)
  | [] => []
  | x :: t => match runsL t with
    | [] => [(1, x)]
    | (n, y) :: r => if x = y then (n + 1, y) :: r else (1, x) :: (n, y) :: r
/-- the flags of runs -/
def flagsR (R : List (Nat × Bool)) : List Bool := R.flatMap fun p => List.replicate p.1 p.2
theorem flagsR_app (R S : List (Nat × Bool)) : flagsR (R ++ S) = flagsR R ++ flagsR S := by simp [flagsR]
theorem flagsR_one (p : Nat × Bool) : flagsR [p] = List.replicate p.1 p.2 := by simp [flagsR]
theorem flagsR_cons (p : Nat × Bool) (R : List (Nat × Bool)) : flagsR (p :: R) = List.replicate p.1 p.2 ++ flagsR R := by simp [flagsR]

theorem runs_head (x : Bool) (t : List Bool) : ∃ n r, runsL (x :: t) = (n + 1, x) :: r := by
  rw [runsL]
  cases runsL t with
  | nil => exact ⟨0, [], rfl⟩
  | cons p r =>
    obtain ⟨n, y⟩ := p
    dsimp only
    by_cases h : x = y
    · subst h; rw [if_pos rfl]; exact ⟨n, r, rfl⟩
    · rw [if_neg h]; exact ⟨0, (n, y) :: r, rfl⟩
theorem runs_join (l : List Bool) : flagsR (runsL l) = l := by
  induction l with
  | nil => rfl
  | cons x t ih =>
    rw [runsL]
    cases hr : runsL t with
    | nil => rw [hr] at ih; dsimp only; rw [← ih]; rfl
    | cons p r =>
      obtain ⟨n, y⟩ := p
      rw [hr, flagsR_cons] at ih
      dsimp only
      by_cases h : x = y
      · subst h
        rw [if_pos rfl, flagsR_cons]
        dsimp only at ih ⊢
        rw [List.replicate_succ, List.cons_append, ih]
      · rw [if_neg h, flagsR_cons, flagsR_cons]
        dsimp only at ih ⊢
        rw [ih]; rfl
/-- i flags alike, and another one (or none) behind them -/
theorem runs_lead (x : Bool) (m : List Bool) (hm : ∀ y t, m = y :: t → y ≠ x) : ∀ i, runsL (List.replicate (i + 1) x ++ m) = (i + 1, x) :: runsL m := by
  intro i
  induction i with
  | zero =>
    rw [show List.replicate (0 + 1) x ++ m = x :: m from rfl]
    cases m with
    | nil => rfl
    | cons y t =>
      obtain ⟨n, r, h⟩ := runs_head y t
      rw [runsL, h]
      dsimp only
      rw [if_neg (fun e => hm y t rfl e.symm)]
  | succ i ih =>
    rw [List.replicate_succ, List.cons_append, runsL, ih]
    dsimp only
    rw [if_pos rfl]
/-- run k, and what lies ahead of it -/
theorem flags_at (R : List (Nat × Bool)) (k : Nat) (hk : k < R.length) : flagsR R = flagsR (R.take k) ++ (List.replicate (R.getD k (0, false)).1 (R.getD k (0, false)).2 ++ flagsR (R.drop (k + 1))) ∧
    flagsR (R.take (k + 1)) = flagsR (R.take k) ++ List.replicate (R.getD k (0, false)).1 (R.getD k (0, false)).2 := by
  have e : R.getD k (0, false) = R[k] := by rw [List.getD_eq_getElem?_getD, List.getElem?_eq_getElem hk]; rfl
  have h1 : R.take (k + 1) = R.take k ++ [R[k]] := List.take_succ_eq_append_getElem hk
  have h2 : R = R.take (k + 1) ++ R.drop (k + 1) := (List.take_append_drop _ _).symm
  rw [e]
  refine ⟨?_, by rw [h1, flagsR_app, flagsR_one]⟩
  conv => lhs; rw [h2, flagsR_app, h1, flagsR_app, flagsR_one]
  rw [List.append_assoc]
theorem flags_len (R : List (Nat × Bool)) (k : Nat) (hk : k < R.length) : (flagsR (R.take k)).length + (R.getD k (0, false)).1 ≤ (flagsR R).length := by
  have h := congrArg List.length (flags_at R k hk).1
  rw [List.length_append, List.length_append, List.length_replicate] at h
  omega

/-! ### places -/
def placesF : Nat → List Bool → List Int
  | _, [] => []
  | v, b :: t => if b = true then -1 :: placesF v t else (v : Int) :: placesF (v + 1) t
theorem places_len (l : List Bool) : ∀ v, (placesF v l).length = l.length := by
  induction l with
  | nil => intro v; rfl
  | cons x t ih => intro v; rw [placesF]; split <;> simp [ih]
theorem places_app (l m : List Bool) : ∀ v, placesF v (l ++ m) = placesF v l ++ placesF (v + (l.length - cnt l)) m := by
  induction l with
  | nil => intro v; simp [placesF, cnt]
  | cons x t ih =>
    intro v
    have := cnt_le t
    rw [List.cons_append, placesF, placesF]
    cases x
    · simp only [Bool.false_eq_true, if_false, cnt, List.length_cons]
      rw [ih, List.cons_append]
      congr 3
      omega
    · simp only [if_true, cnt, List.length_cons]
      rw [ih, List.cons_append]
      congr 3
      omega
/-- the place behind a list -/
def nextP (l : List Bool) : Nat := l.length - cnt l
theorem nextP_snoc (l : List Bool) (b : Bool) : nextP (l ++ [b]) = nextP l + (if b = true then 0 else 1) := by
  have := cnt_le l
  unfold nextP
  rw [cnt_app, List.length_append]
  cases b <;> simp [cnt] <;> omega
theorem places_snoc (l : List Bool) (b : Bool) : placesF 0 (l ++ [b]) = placesF 0 l ++ [if b = true then -1 else (nextP l : Int)] := by
  rw [places_app, Nat.zero_add]
  unfold nextP
  cases b <;> rfl
end Go.Proofs.YtljanfnhmhimiaaGreat.Nu
