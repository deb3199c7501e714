/-
  Numbers as bytes: plain facts on lists of integers, no program. Bytes of a fixed size ('putB', 'ofB'), varints ('varB', 'readV').
-/
namespace Go.Proofs.Ytkinmcnmdfpjbaa.Oct

/-- the n lowest bytes, the lowest first -/
def putB : Nat → Int → List Int
  | 0, _ => []
  | n + 1, v => (v % 256) :: putB n (v / 256)
/-- the number of some bytes, the lowest first -/
def ofB : List Int → Int
  | [] => 0
  | c :: r => c + 256 * ofB r
/-- the bytes of a varint; k: how many more may follow -/
def varB : Nat → Int → List Int
  | 0, v => [v]
  | k + 1, v => if v < 128 then [v] else (v % 128 + 128) :: varB k (v / 128)
/-- what reading a varint answers at place i with acc read: the number, the error, how many bytes are taken -/
def readV : Nat → Int → List Int → Int × Int × Nat
  | _, _, [] => (0, 7, 0)
  | i, acc, c :: r =>
    if i = 9 ∧ 1 < c then (0, 4, 0)
    else if 128 ≤ c then readV (i + 1) (acc + (c % 128) * 2 ^ (7 * i)) r
    else if c = 0 ∧ 0 < i then (0, 4, 0)
    else (acc + (c % 128) * 2 ^ (7 * i), 0, i + 1)

def IsB (l : List Int) : Prop := ∀ x ∈ l, 0 ≤ x ∧ x < 256

theorem putB_length (n : Nat) : ∀ v, (putB n v).length = n := by
  induction n with
  | zero => intro v; rfl
  | succ n ih => intro v; simp [putB, ih]

theorem putB_isB (n : Nat) : ∀ v, IsB (putB n v) := by
  induction n with
  | zero => intro v x hx; simp [putB] at hx
  | succ n ih =>
    intro v x hx
    simp only [putB, List.mem_cons] at hx
    rcases hx with rfl | hx
    · omega
    · exact ih _ x hx

theorem ofB_putB (n : Nat) : ∀ v : Int, 0 ≤ v → v < 256 ^ n → ofB (putB n v) = v := by
  induction n with
  | zero => intro v h0 h1; simp at h1; simp [putB, ofB]; omega
  | succ n ih =>
    intro v h0 h1
    have h2 : v / 256 < 256 ^ n := by
      rw [Int.pow_succ] at h1
      exact Int.ediv_lt_of_lt_mul (by decide) h1
    simp only [putB, ofB]
    rw [ih (v / 256) (by omega) h2]
    omega

theorem ofB_bound (l : List Int) (h : IsB l) : 0 ≤ ofB l ∧ ofB l < 256 ^ l.length := by
  induction l with
  | nil => simp [ofB]
  | cons c r ih =>
    have hc := h c (by simp)
    have hr := ih fun x hx => h x (by simp [hx])
    simp only [ofB, List.length_cons, Int.pow_succ]
    omega

theorem ofB_snoc (l : List Int) (c : Int) : ofB (l ++ [c]) = ofB l + c * 256 ^ l.length := by
  induction l with
  | nil => simp [ofB]
  | cons a r ih =>
    simp only [List.cons_append, ofB, ih, List.length_cons, Int.pow_succ, Int.mul_add]
    rw [Int.mul_comm (256 : Int) (c * 256 ^ r.length), Int.mul_assoc]
    omega

theorem putB_succ_last (n : Nat) : ∀ v : Int, putB (n + 1) v = putB n v ++ [v / 256 ^ n % 256] := by
  induction n with
  | zero => intro v; simp [putB]
  | succ n ih =>
    intro v
    rw [putB, ih (v / 256)]
    simp only [putB, List.cons_append]
    congr 2
    rw [Int.ediv_ediv_of_nonneg (by decide), Int.pow_succ, Int.mul_comm (256 : Int)]

theorem varB_pos (k : Nat) : ∀ v, 1 ≤ (varB k v).length := by
  cases k with
  | zero => intro v; simp [varB]
  | succ k => intro v; simp only [varB]; split <;> simp

theorem varB_le (k : Nat) : ∀ v, (varB k v).length ≤ k + 1 := by
  induction k with
  | zero => intro v; simp [varB]
  | succ k ih => intro v; simp only [varB]; split <;> simp; exact ih _

theorem varB_isB (k : Nat) : ∀ v : Int, 0 ≤ v → v < 256 * 128 ^ k → IsB (varB k v) := by
  induction k with
  | zero => intro v h0 h1 x hx; simp [varB] at hx; subst hx; simp at h1; omega
  | succ k ih =>
    intro v h0 h1 x hx
    simp only [varB] at hx
    split at hx
    · simp at hx; omega
    · simp only [List.mem_cons] at hx
      rcases hx with rfl | hx
      · omega
      · refine ih (v / 128) (by omega) ?_ x hx
        rw [Int.pow_succ, ← Int.mul_assoc] at h1
        exact Int.ediv_lt_of_lt_mul (by decide) h1

/-- What stands behind does not matter: a varint is read back. -/
theorem readV_varB (k : Nat) : ∀ (i : Nat) (acc v : Int) (r : List Int), i + k = 9 → 0 ≤ v → v < 2 * 128 ^ k → (0 < i → 0 < v) →
    readV i acc (varB k v ++ r) = (acc + v * 2 ^ (7 * i), 0, i + (varB k v).length) := by
  induction k with
  | zero =>
    intro i acc v r hi h0 h1 hp
    simp at h1
    simp only [varB, List.cons_append, List.nil_append, readV]
    have hv : v % 128 = v := by omega
    rw [if_neg (by omega), if_neg (by omega), if_neg (by omega), hv]
    simp
  | succ k ih =>
    intro i acc v r hi h0 h1 hp
    have hdiv : v / 128 < 2 * 128 ^ k := by
      rw [Int.pow_succ, ← Int.mul_assoc] at h1
      exact Int.ediv_lt_of_lt_mul (by decide) h1
    simp only [varB]
    split
    · simp only [List.cons_append, List.nil_append, readV]
      have hv : v % 128 = v := by omega
      rw [if_neg (by omega), if_neg (by omega), if_neg (by omega), hv]
      simp
    · simp only [List.cons_append, readV]
      rw [if_neg (by omega), if_pos (by omega), ih (i + 1) _ (v / 128) r (by omega) (by omega) hdiv (by omega)]
      have e1 : (v % 128 + 128) % 128 = v % 128 := by omega
      have e2 : (2 : Int) ^ (7 * (i + 1)) = 128 * 2 ^ (7 * i) := by
        rw [Nat.mul_add, Int.pow_add, Int.mul_comm]; rfl
      have e3 : acc + v % 128 * 2 ^ (7 * i) + v / 128 * (128 * 2 ^ (7 * i)) = acc + v * 2 ^ (7 * i) := by
        rw [← Int.mul_assoc, Int.add_assoc, ← Int.add_mul]
        congr 2
        omega
      rw [e1, e2, e3]
      simp only [List.length_cons]
      congr 2
      omega

/-- What was read is one form alone: its bytes are those of the number. -/
theorem varB_readV (l : List Int) : ∀ (k i : Nat) (acc : Int) (x : Int) (n : Nat), IsB l → i + k = 9 → readV i acc l = (x, 0, n) →
    ∃ v : Int, 0 ≤ v ∧ v < 2 * 128 ^ k ∧ x = acc + v * 2 ^ (7 * i) ∧ (0 < i → 0 < v) ∧ i < n ∧ n ≤ i + l.length ∧ varB k v = l.take (n - i) := by
  induction l with
  | nil => intro k i acc x n _ _ h; simp [readV] at h
  | cons c r ih =>
    intro k i acc x n hb hi h
    have hc := hb c (by simp)
    simp only [readV] at h
    split at h
    · simp at h
    · rename_i hn
      split at h
      · rename_i hge
        cases k with
        | zero => omega
        | succ k =>
          obtain ⟨v, v0, v1, hx, hp, hin, hnl, hvb⟩ := ih k (i + 1) _ x n (fun x hx => hb x (by simp [hx])) (by omega) h
          have hp := hp (by omega)
          refine ⟨c % 128 + 128 * v, by omega, ?_, ?_, by omega, by omega, by simp; omega, ?_⟩
          · rw [Int.pow_succ, ← Int.mul_assoc]; omega
          · rw [hx]
            have e2 : (2 : Int) ^ (7 * (i + 1)) = 128 * 2 ^ (7 * i) := by
              rw [Nat.mul_add, Int.pow_add, Int.mul_comm]; rfl
            rw [e2, ← Int.mul_assoc, Int.add_assoc, ← Int.add_mul]
            congr 2
            omega
          · simp only [varB]
            rw [if_neg (by omega)]
            have e : (c % 128 + 128 * v) / 128 = v := by omega
            rw [e, hvb, show n - i = (n - (i + 1)) + 1 from by omega, List.take_succ_cons]
            congr 1
            omega
      · split at h
        · simp at h
        · rename_i hlt hz
          simp only [Prod.mk.injEq] at h
          obtain ⟨hx, _, hn'⟩ := h
          have hcm : c % 128 = c := by omega
          rw [hcm] at hx
          refine ⟨c, by omega, ?_, hx.symm, by omega, by omega, by simp; omega, ?_⟩
          · cases k with
            | zero => simp; omega
            | succ k =>
              have : (1 : Int) ≤ 128 ^ k := by exact_mod_cast Nat.one_le_pow k 128 (by decide)
              rw [Int.pow_succ, ← Int.mul_assoc]; omega
          · subst hn'
            rw [show i + 1 - i = 1 from by omega]
            cases k with
            | zero => simp [varB]
            | succ k => simp only [varB]; rw [if_pos (by omega)]; simp

/-- An error leaves nothing taken. -/
theorem readV_err (l : List Int) : ∀ (i : Nat) (acc : Int) (x e : Int) (n : Nat), readV i acc l = (x, e, n) → e ≠ 0 → x = 0 ∧ n = 0 ∧ (e = 4 ∨ e = 7) := by
  induction l with
  | nil => intro i acc x e n h he; simp [readV] at h; omega
  | cons c r ih =>
    intro i acc x e n h he
    simp only [readV] at h
    split at h
    · simp at h; omega
    · split at h
      · exact ih _ _ _ _ _ h he
      · split at h
        · simp at h; omega
        · simp at h; omega

theorem readV_le (l : List Int) : ∀ (i : Nat) (acc : Int), (readV i acc l).2.2 ≤ i + l.length := by
  induction l with
  | nil => intro i acc; simp [readV]
  | cons c r ih =>
    intro i acc
    simp only [readV]
    split
    · simp
    · split
      · have := ih (i + 1) (acc + c % 128 * 2 ^ (7 * i)); simp; omega
      · split
        · simp
        · simp

def zig (n : Int) : Int := if n < 0 then 2 * (-n - 1) + 1 else 2 * n
def zag (v : Int) : Int := if v % 2 = 1 then -(v / 2) - 1 else v / 2
theorem zag_zig (n : Int) : zag (zig n) = n := by unfold zag zig; split <;> split <;> omega
theorem zig_zag (v : Int) (h : 0 ≤ v) : zig (zag v) = v := by unfold zag zig; split <;> split <;> omega
theorem zig_bound (n : Int) (h0 : -9223372036854775808 ≤ n) (h1 : n ≤ 9223372036854775807) : 0 ≤ zig n ∧ zig n < 18446744073709551616 := by unfold zig; split <;> omega
theorem zag_bound (v : Int) (h0 : 0 ≤ v) (h1 : v < 18446744073709551616) : -9223372036854775808 ≤ zag v ∧ zag v ≤ 9223372036854775807 := by unfold zag; split <;> omega

end Go.Proofs.Ytkinmcnmdfpjbaa.Oct
