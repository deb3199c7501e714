/-
  CRC-32C as plain facts on numbers and lists of integers, no program: 'halve' on numbers of any size is linear, so the state behind bytes is 'halves' of one number.
-/
namespace Go.Proofs.Ytkinmcnmdfpjbaa.Crc

def poly : Nat := 0x82f63b78
def halve (v : Nat) : Nat := if v % 2 = 1 then v / 2 ^^^ poly else v / 2
def halves : Nat → Nat → Nat
  | 0, v => v
  | n + 1, v => halves n (halve v)
def entry (i : Nat) : Nat := halves 8 i
def step (t : Nat → Nat) (s x : Nat) : Nat := s / 256 ^^^ t (s % 256 ^^^ x)
def upd (t : Nat → Nat) (s : Nat) (l : List Int) : Nat := l.foldl (fun s x => step t s x.toNat) s
def ones : Nat := 4294967295
def sum (t : Nat → Nat) (l : List Int) : Nat := ones ^^^ upd t ones l
def crc (l : List Int) : Nat := sum entry l
def IsB (l : List Int) : Prop := ∀ x ∈ l, 0 ≤ x ∧ x < 256
/-- the number of bytes, the lowest first -/
def num : List Int → Nat
  | [] => 0
  | c :: r => c.toNat + 256 * num r

theorem xor_mod2 (a b : Nat) : (a ^^^ b) % 2 = (a % 2 + b % 2) % 2 := by
  have h := Nat.testBit_xor a b 0
  simp only [Nat.testBit_zero] at h
  have ha := Nat.mod_two_eq_zero_or_one a
  have hb := Nat.mod_two_eq_zero_or_one b
  have hc := Nat.mod_two_eq_zero_or_one (a ^^^ b)
  rcases ha with ha | ha <;> rcases hb with hb | hb <;> rcases hc with hc | hc <;> simp_all
theorem xor_div2 (a b : Nat) : (a ^^^ b) / 2 = a / 2 ^^^ b / 2 := by
  have h := Nat.shiftRight_xor_distrib (a := a) (b := b) (i := 1)
  simpa [Nat.shiftRight_eq_div_pow] using h

theorem xor4 (a b c d : Nat) : (a ^^^ b) ^^^ (c ^^^ d) = (a ^^^ c) ^^^ (b ^^^ d) := by
  rw [Nat.xor_assoc, Nat.xor_assoc, ← Nat.xor_assoc b, ← Nat.xor_assoc c, Nat.xor_comm b c]

theorem halve_lin (a b : Nat) : halve (a ^^^ b) = halve a ^^^ halve b := by
  unfold halve
  have h := xor_mod2 a b
  have ha := Nat.mod_two_eq_zero_or_one a
  have hb := Nat.mod_two_eq_zero_or_one b
  rcases ha with ha | ha <;> rcases hb with hb | hb <;> simp only [ha, hb] at h <;> simp only [h, ha, hb, xor_div2]
  · rfl
  · simp [Nat.xor_assoc]
  · show (a / 2 ^^^ b / 2) ^^^ poly = (a / 2 ^^^ poly) ^^^ b / 2
    rw [Nat.xor_assoc, Nat.xor_comm (b / 2), ← Nat.xor_assoc]
  · show a / 2 ^^^ b / 2 = (a / 2 ^^^ poly) ^^^ (b / 2 ^^^ poly)
    rw [xor4, Nat.xor_self, Nat.xor_zero]

theorem halves_lin (n : Nat) : ∀ a b, halves n (a ^^^ b) = halves n a ^^^ halves n b := by
  induction n with
  | zero => intro a b; rfl
  | succ n ih => intro a b; simp only [halves, halve_lin, ih]

theorem halves_add (m n : Nat) : ∀ v, halves (m + n) v = halves n (halves m v) := by
  induction m with
  | zero => intro v; simp [halves]
  | succ m ih => intro v; rw [Nat.add_right_comm]; simp only [halves, ih]

theorem halves_zero (n : Nat) : halves n 0 = 0 := by
  have h := halves_lin n 0 0
  rw [Nat.xor_self, Nat.xor_self] at h
  exact h

theorem halve_double (v : Nat) : halve (2 * v) = v := by
  unfold halve
  rw [if_neg (by omega)]
  omega

theorem halves_shift (n : Nat) : ∀ v, halves n (2 ^ n * v) = v := by
  induction n with
  | zero => intro v; simp [halves]
  | succ n ih =>
    intro v
    rw [Nat.pow_succ, Nat.mul_comm (2 ^ n) 2, Nat.mul_assoc, halves, halve_double, ih]

/-- x below 256 beside what lies above it -/
theorem xor_join (x y : Nat) (h : x < 256) : x ^^^ 256 * y = x + 256 * y := by
  apply Nat.eq_of_testBit_eq
  intro i
  have e : x + 256 * y = 2 ^ 8 * y + x := by omega
  rw [Nat.testBit_xor, e, show 256 * y = 2 ^ 8 * y from rfl, Nat.testBit_two_pow_mul_add _ h, Nat.testBit_two_pow_mul]
  by_cases hi : i < 8
  · simp [hi, Nat.not_le.2 hi]
  · have hx : x.testBit i = false := Nat.testBit_lt_two_pow (Nat.lt_of_lt_of_le h (by
      have := Nat.pow_le_pow_right (by decide : 0 < 2) (Nat.le_of_not_lt hi)
      simpa using this))
    simp [hi, hx, Nat.le_of_not_lt hi]

theorem step_entry (s x : Nat) : step entry s x = halves 8 (s ^^^ x) := by
  have e : s = (s % 256) ^^^ 256 * (s / 256) := by rw [xor_join _ _ (by omega)]; omega
  have e2 : s ^^^ x = (s % 256 ^^^ x) ^^^ 256 * (s / 256) := by
    conv => lhs; rw [e]
    rw [Nat.xor_assoc, Nat.xor_assoc, Nat.xor_comm x]
  unfold step entry
  rw [e2, halves_lin 8 _ (256 * (s / 256)), show 256 * (s / 256) = 2 ^ 8 * (s / 256) from rfl, halves_shift, Nat.xor_comm]

/-- The state behind bytes, as one number. -/
theorem upd_num (l : List Int) : ∀ s, IsB l → upd entry s l = halves (8 * l.length) (s ^^^ num l) := by
  induction l with
  | nil => intro s _; simp [upd, num, halves]
  | cons c r ih =>
    intro s hb
    have hc := hb c (by simp)
    have h1 : upd entry s (c :: r) = upd entry (step entry s c.toNat) r := rfl
    rw [h1, ih _ (fun x hx => hb x (by simp [hx])), step_entry, num, ← xor_join _ _ (by omega), List.length_cons,
      Nat.mul_add, Nat.add_comm (8 * r.length), halves_add, ← Nat.xor_assoc, halves_lin 8 _ (256 * num r), show 256 * num r = 2 ^ 8 * num r from rfl, halves_shift]

theorem halve_lt (v : Nat) (h : v < 4294967296) : halve v < 4294967296 := by
  unfold halve
  split
  · exact Nat.xor_lt_two_pow (n := 32) (by omega) (by decide)
  · omega
theorem halves_lt (n : Nat) : ∀ v, v < 4294967296 → halves n v < 4294967296 := by
  induction n with
  | zero => intro v h; exact h
  | succ n ih => intro v h; exact ih _ (halve_lt v h)

theorem halve_ne (v : Nat) (h : v < 4294967296) (h0 : v ≠ 0) : halve v ≠ 0 := by
  unfold halve
  split
  · intro e
    have h1 : v / 2 = poly := by
      have := congrArg (· ^^^ poly) e
      simp only [Nat.xor_assoc, Nat.xor_self, Nat.xor_zero, Nat.zero_xor] at this
      exact this
    unfold poly at h1
    omega
  · omega
theorem halves_ne (n : Nat) : ∀ v, v < 4294967296 → v ≠ 0 → halves n v ≠ 0 := by
  induction n with
  | zero => intro v _ h; exact h
  | succ n ih => intro v h h0; exact ih _ (halve_lt v h) (halve_ne v h h0)

theorem xor_eq_zero {a b : Nat} (h : a ^^^ b = 0) : a = b := by
  have := congrArg (· ^^^ b) h
  simp only [Nat.xor_assoc, Nat.xor_self, Nat.xor_zero, Nat.zero_xor] at this
  exact this
theorem halves_inj (n a b : Nat) (ha : a < 4294967296) (hb : b < 4294967296) (h : halves n a = halves n b) : a = b := by
  apply xor_eq_zero
  apply Classical.byContradiction
  intro hne
  have h2 := halves_ne n (a ^^^ b) (Nat.xor_lt_two_pow (n := 32) ha hb) hne
  rw [halves_lin, h, Nat.xor_self] at h2
  exact h2 rfl

theorem num_lt (l : List Int) (h : IsB l) : num l < 256 ^ l.length := by
  induction l with
  | nil => simp [num]
  | cons c r ih =>
    have hc := h c (by simp)
    have hr := ih fun x hx => h x (by simp [hx])
    simp only [num, List.length_cons, Nat.pow_succ]
    omega

theorem num_inj (a : List Int) : ∀ b : List Int, IsB a → IsB b → a.length = b.length → num a = num b → a = b := by
  induction a with
  | nil => intro b _ _ hl _; exact (List.eq_nil_of_length_eq_zero hl.symm).symm
  | cons c r ih =>
    intro b ha hb hl hn
    cases b with
    | nil => simp at hl
    | cons d q =>
      have hc := ha c (by simp)
      have hd := hb d (by simp)
      simp only [num] at hn
      have e1 : c = d := by omega
      have e2 : num r = num q := by omega
      rw [e1, ih q (fun x hx => ha x (by simp [hx])) (fun x hx => hb x (by simp [hx])) (by simpa using hl) e2]

theorem upd_append (t : Nat → Nat) (s : Nat) (a b : List Int) : upd t s (a ++ b) = upd t (upd t s a) b := by unfold upd; rw [List.foldl_append]

theorem step_lt (t : Nat → Nat) (ht : ∀ i, i < 256 → t i < 4294967296) (s x : Nat) (hs : s < 4294967296) (hx : x < 256) : step t s x < 4294967296 := by
  unfold step
  exact Nat.xor_lt_two_pow (n := 32) (by omega) (ht _ (Nat.xor_lt_two_pow (n := 8) (by omega) hx))
theorem upd_lt (t : Nat → Nat) (ht : ∀ i, i < 256 → t i < 4294967296) (l : List Int) : ∀ s, IsB l → s < 4294967296 → upd t s l < 4294967296 := by
  induction l with
  | nil => intro s _ h; exact h
  | cons c r ih =>
    intro s hb h
    have hc := hb c (by simp)
    exact ih _ (fun x hx => hb x (by simp [hx])) (step_lt t ht s c.toNat h (by omega))
theorem entry_lt (i : Nat) (h : i < 256) : entry i < 4294967296 := halves_lt 8 i (by omega)
theorem sum_lt (t : Nat → Nat) (ht : ∀ i, i < 256 → t i < 4294967296) (l : List Int) (hb : IsB l) : sum t l < 4294967296 := Nat.xor_lt_two_pow (n := 32) (by decide) (upd_lt t ht l _ hb (by decide))
theorem crc_lt (l : List Int) (hb : IsB l) : crc l < 4294967296 := sum_lt entry entry_lt l hb
/-- all bits inverted -/
theorem ones_xor (v : Nat) (h : v < 4294967296) : ones ^^^ v = 4294967295 - v := by
  have h1 := BitVec.toNat_not (x := BitVec.ofNat 32 v)
  rw [BitVec.not_def, BitVec.toNat_xor, BitVec.toNat_allOnes, BitVec.toNat_ofNat, Nat.mod_eq_of_lt (show v < 2 ^ 32 from h)] at h1
  exact h1

/-- the check of the second bytes in a text whose second part is d, four bytes -/
theorem upd_tail (a d : List Int) (hd : IsB d) (h4 : d.length = 4) : upd entry ones (a ++ d) = halves 32 (upd entry ones a ^^^ num d) := by
  rw [upd_append, upd_num d _ hd, h4]

theorem good_iff (a d : List Int) (ha : IsB a) (hd : IsB d) (h4 : d.length = 4) : crc a = num d ↔ upd entry ones (a ++ d) = halves 32 ones := by
  have hu := upd_lt entry entry_lt a ones ha (by decide)
  have hn : num d < 4294967296 := by have := num_lt d hd; rw [h4] at this; exact this
  rw [upd_tail a d hd h4]
  unfold crc sum
  constructor
  · intro h
    rw [← h, Nat.xor_comm ones, ← Nat.xor_assoc, Nat.xor_self, Nat.zero_xor]
  · intro h
    have h2 := halves_inj 32 _ _ (Nat.xor_lt_two_pow (n := 32) hu hn) (by decide) h
    generalize upd entry ones a = u at h2
    rw [← h2, Nat.xor_comm u, Nat.xor_assoc, Nat.xor_self, Nat.xor_zero]


/-- bit k of some bytes inverted, if there is such a bit -/
def inv (l : List Int) (k : Nat) : List Int := l.modify (k / 8) fun x => ((x.toNat ^^^ 2 ^ (k % 8) : Nat) : Int)
def flipTo (l : List Int) (bit mask : Nat) : Nat → List Int
  | 0 => l
  | i + 1 => if mask / 2 ^ i % 2 = 1 then inv (flipTo l bit mask i) (bit + i) else flipTo l bit mask i
def flip (l : List Int) (bit n : Int) (mask : Nat) : List Int := if n < 0 ∨ 32 < n ∨ bit < 0 then l else flipTo l bit.toNat mask n.toNat
/-- the number that is turned in -/
def turn (len bit mask : Nat) : Nat → Nat
  | 0 => 0
  | i + 1 => if mask / 2 ^ i % 2 = 1 ∧ bit + i < 8 * len then turn len bit mask i ^^^ 2 ^ (bit + i) else turn len bit mask i

theorem inv_length (l : List Int) (k : Nat) : (inv l k).length = l.length := by simp [inv]
theorem inv_past (l : List Int) (k : Nat) (h : 8 * l.length ≤ k) : inv l k = l := by
  unfold inv
  exact List.modify_eq_self (by omega)
theorem inv_set (l : List Int) (k : Nat) (h : k / 8 < l.length) : inv l k = l.set (k / 8) (((l.getD (k / 8) 0).toNat ^^^ 2 ^ (k % 8) : Nat) : Int) := by
  unfold inv
  generalize k / 8 = j at h
  generalize k % 8 = s
  refine List.ext_getElem? fun q => ?_
  rw [List.getElem?_modify, List.getElem?_set]
  by_cases e : j = q
  · subst e
    rw [if_pos rfl, if_pos h, List.getD_eq_getElem?_getD, List.getElem?_eq_getElem h]
    simp
  · rw [if_neg e]
    cases l[q]? <;> simp [e]
theorem inv_isB (l : List Int) : ∀ k, IsB l → IsB (inv l k) := by
  induction l with
  | nil => intro k h; simpa [inv] using h
  | cons c r ih =>
    intro k h
    have hc := h c (by simp)
    unfold inv
    by_cases hk : k < 8
    · rw [show k / 8 = 0 from by omega, List.modify_zero_cons]
      intro x hx
      simp only [List.mem_cons] at hx
      rcases hx with rfl | hx
      · have := Nat.xor_lt_two_pow (n := 8) (x := c.toNat) (y := 2 ^ (k % 8)) (by omega) (Nat.pow_lt_pow_right (by decide) (by omega))
        omega
      · exact h x (by simp [hx])
    · rw [show k / 8 = (k - 8) / 8 + 1 from by omega, List.modify_succ_cons]
      intro x hx
      simp only [List.mem_cons] at hx
      rcases hx with rfl | hx
      · exact hc
      · refine ih (k - 8) (fun x hx => h x (by simp [hx])) x ?_
        unfold inv
        rwa [show (k - 8) % 8 = k % 8 from by omega]
theorem mul256_xor (a b : Nat) : 256 * (a ^^^ b) = 256 * a ^^^ 256 * b := by
  have h := Nat.shiftLeft_xor_distrib (a := a) (b := b) (i := 8)
  simpa [Nat.shiftLeft_eq, Nat.mul_comm] using h
theorem num_inv (l : List Int) : ∀ k, IsB l → k < 8 * l.length → num (inv l k) = num l ^^^ 2 ^ k := by
  induction l with
  | nil => intro k _ h; simp at h
  | cons c r ih =>
    intro k h hk
    have hc := h c (by simp)
    unfold inv
    by_cases hk8 : k < 8
    · rw [show k / 8 = 0 from by omega, List.modify_zero_cons]
      simp only [num, Int.toNat_natCast]
      rw [show k % 8 = k from by omega, ← xor_join c.toNat _ (by omega), ← xor_join (c.toNat ^^^ 2 ^ k) _
        (Nat.xor_lt_two_pow (n := 8) (by omega) (Nat.pow_lt_pow_right (by decide) hk8)), Nat.xor_assoc, Nat.xor_comm (2 ^ k), ← Nat.xor_assoc]
    · have h1 := ih (k - 8) (fun x hx => h x (by simp [hx])) (by simp at hk; omega)
      unfold inv at h1
      rw [show k / 8 = (k - 8) / 8 + 1 from by omega, List.modify_succ_cons]
      simp only [num]
      rw [show (k - 8) % 8 = k % 8 from by omega] at h1
      rw [h1, ← xor_join c.toNat (num r) (by omega), ← xor_join c.toNat _ (by omega), mul256_xor, ← Nat.xor_assoc]
      congr 1
      rw [show (256 : Nat) = 2 ^ 8 from rfl, ← Nat.pow_add]
      congr 1
      omega

theorem flipTo_length (l : List Int) (bit mask : Nat) (i : Nat) : (flipTo l bit mask i).length = l.length := by
  induction i with
  | zero => rfl
  | succ i ih => simp only [flipTo]; split <;> simp [inv_length, ih]
theorem flipTo_past (l : List Int) (bit mask k : Nat) (h : 8 * l.length ≤ bit + k) (d : Nat) : flipTo l bit mask (k + d) = flipTo l bit mask k := by
  induction d with
  | zero => rfl
  | succ d ih =>
    rw [← Nat.add_assoc, flipTo, inv_past _ _ (by rw [flipTo_length]; omega), ih]
    simp
theorem flipTo_isB (l : List Int) (bit mask : Nat) (h : IsB l) (i : Nat) : IsB (flipTo l bit mask i) := by
  induction i with
  | zero => exact h
  | succ i ih => simp only [flipTo]; split; exact inv_isB _ _ ih; exact ih
theorem num_flipTo (l : List Int) (bit mask : Nat) (h : IsB l) (i : Nat) : num (flipTo l bit mask i) = num l ^^^ turn l.length bit mask i := by
  induction i with
  | zero => simp [flipTo, turn]
  | succ i ih =>
    simp only [flipTo, turn]
    by_cases h1 : mask / 2 ^ i % 2 = 1
    · rw [if_pos h1]
      by_cases h2 : bit + i < 8 * l.length
      · rw [if_pos ⟨h1, h2⟩, num_inv _ _ (flipTo_isB l bit mask h i) (by rw [flipTo_length]; exact h2), ih, Nat.xor_assoc]
      · rw [if_neg (fun e => h2 e.2), inv_past _ _ (by rw [flipTo_length]; omega), ih]
    · rw [if_neg h1, if_neg (fun e => h1 e.1), ih]

theorem flip_length (l : List Int) (bit n : Int) (mask : Nat) : (flip l bit n mask).length = l.length := by
  unfold flip; split; rfl; exact flipTo_length ..
theorem flip_isB (l : List Int) (bit n : Int) (mask : Nat) (h : IsB l) : IsB (flip l bit n mask) := by
  unfold flip; split; exact h; exact flipTo_isB _ _ _ h _
/-- Turned twice bytes are as they were. -/
theorem flip_twice (l : List Int) (bit n : Int) (mask : Nat) (h : IsB l) : flip (flip l bit n mask) bit n mask = l := by
  have h1 := flip_isB l bit n mask h
  refine num_inj _ _ (flip_isB _ _ _ _ h1) h (by rw [flip_length, flip_length]) ?_
  unfold flip
  by_cases hc : n < 0 ∨ 32 < n ∨ bit < 0
  · rw [if_pos hc, if_pos hc]
  · rw [if_neg hc, if_neg hc, num_flipTo _ _ _ (flipTo_isB _ _ _ h _), num_flipTo _ _ _ h, flipTo_length, Nat.xor_assoc, Nat.xor_self, Nat.xor_zero]

theorem turn_form (len bit mask : Nat) (i : Nat) : ∃ m, m < 2 ^ i ∧ turn len bit mask i = 2 ^ bit * m := by
  induction i with
  | zero => exact ⟨0, by decide, rfl⟩
  | succ i ih =>
    obtain ⟨m, hm, e⟩ := ih
    simp only [turn]
    have h2 : 2 ^ i < 2 ^ (i + 1) := Nat.pow_lt_pow_right (by decide) (by omega)
    split
    · refine ⟨m ^^^ 2 ^ i, Nat.xor_lt_two_pow (by omega) h2, ?_⟩
      have h := Nat.shiftLeft_xor_distrib (a := m) (b := 2 ^ i) (i := bit)
      rw [e, Nat.pow_add]
      simpa [Nat.shiftLeft_eq, Nat.mul_comm] using h.symm
    · exact ⟨m, by omega, e⟩

/-- Bits turned within 32 side by side: the state behind is another one, but where nothing was turned. -/
theorem burst (l : List Int) (bit n : Int) (mask : Nat) (h : IsB l) (hb : bit.toNat < 8 * l.length) : upd entry ones (flip l bit n mask) = upd entry ones l ↔ flip l bit n mask = l := by
  constructor
  · intro he
    unfold flip at he ⊢
    by_cases hc : n < 0 ∨ 32 < n ∨ bit < 0
    · rw [if_pos hc]
    · rw [if_neg hc] at he ⊢
      refine num_inj _ _ (flipTo_isB _ _ _ h _) h (flipTo_length ..) ?_
      rw [upd_num _ _ (flipTo_isB _ _ _ h _), upd_num _ _ h, flipTo_length, num_flipTo _ _ _ h] at he
      rw [num_flipTo _ _ _ h]
      obtain ⟨m, hm, e⟩ := turn_form l.length bit.toNat mask n.toNat
      have hm32 : m < 4294967296 := by
        have : (2 : Nat) ^ n.toNat ≤ 2 ^ 32 := Nat.pow_le_pow_right (by decide) (by omega)
        omega
      rw [← Nat.xor_assoc, halves_lin _ (ones ^^^ num l)] at he
      have h0 : halves (8 * l.length) (turn l.length bit.toNat mask n.toNat) = 0 := by
        generalize halves (8 * l.length) (ones ^^^ num l) = x at he
        generalize halves (8 * l.length) (turn l.length bit.toNat mask n.toNat) = y at he ⊢
        have := congrArg (x ^^^ ·) he
        simp only [← Nat.xor_assoc, Nat.xor_self, Nat.zero_xor] at this
        exact this
      rw [e, show 8 * l.length = bit.toNat + (8 * l.length - bit.toNat) from by omega, halves_add, halves_shift] at h0
      have hm0 : m = 0 := Classical.byContradiction fun hne => halves_ne _ m hm32 hne h0
      rw [e, hm0, Nat.mul_zero, Nat.xor_zero]
  · intro he; rw [he]

/-- What the theorem of the stage asks: with its check behind, and bits turned. -/
theorem burst_good (l d x : List Int) (bit n : Int) (mask : Nat) (hl : IsB l) (hd : IsB d) (h4 : d.length = 4) (hc : num d = crc l) (hb : bit.toNat < 8 * (l ++ d).length) (hx : flip (l ++ d) bit n mask = x) :
    crc (x.take l.length) = num (x.drop l.length) ↔ x = l ++ d := by
  have hld : IsB (l ++ d) := fun y hy => by rcases List.mem_append.1 hy with h | h; exact hl y h; exact hd y h
  have hxB : IsB x := hx ▸ flip_isB _ _ _ _ hld
  have hxl : x.length = l.length + 4 := by rw [← hx, flip_length, List.length_append, h4]
  have h1 := (good_iff l d hl hd h4).1 hc.symm
  rw [good_iff _ _ (fun y hy => hxB y (List.mem_of_mem_take hy)) (fun y hy => hxB y (List.mem_of_mem_drop hy)) (by rw [List.length_drop]; omega), List.take_append_drop, ← h1, ← hx]
  exact burst (l ++ d) bit n mask hld hb

/-- Of three texts as long. -/
theorem linear (a b c : List Int) (ha : IsB a) (hb : IsB b) (hc : IsB c) (x : List Int) (hx : IsB x) (h1 : b.length = a.length) (h2 : c.length = a.length) (h3 : x.length = a.length) (hn : num x = num a ^^^ num b ^^^ num c) : crc x = crc a ^^^ crc b ^^^ crc c := by
  unfold crc sum
  rw [upd_num _ _ ha, upd_num _ _ hb, upd_num _ _ hc, upd_num _ _ hx, h1, h2, h3, hn]
  generalize 8 * a.length = k
  simp only [halves_lin]
  generalize halves k ones = o
  generalize halves k (num a) = p
  generalize halves k (num b) = q
  generalize halves k (num c) = r
  apply Nat.eq_of_testBit_eq
  intro i
  simp only [Nat.testBit_xor]
  cases ones.testBit i <;> cases o.testBit i <;> cases p.testBit i <;> cases q.testBit i <;> cases r.testBit i <;> rfl

/-- three texts turned together, place by place -/
def xor3 (a b c : List Int) (i : Nat) : Int := (((a.getD i 0).toNat ^^^ (b.getD i 0).toNat ^^^ (c.getD i 0).toNat : Nat) : Int)
theorem num_xor3 (a : List Int) : ∀ (b c x : List Int), IsB a → IsB b → IsB c → b.length = a.length → c.length = a.length → x.length = a.length → (∀ i, i < a.length → x.getD i 0 = xor3 a b c i) → num x = num a ^^^ num b ^^^ num c := by
  induction a with
  | nil =>
    intro b c x _ _ _ h1 h2 h3 _
    rw [List.eq_nil_of_length_eq_zero h1, List.eq_nil_of_length_eq_zero h2, List.eq_nil_of_length_eq_zero h3]
    rfl
  | cons p a ih =>
    intro b c x ha hb hc h1 h2 h3 hx
    cases b with
    | nil => simp at h1
    | cons q b =>
      cases c with
      | nil => simp at h2
      | cons r c =>
        cases x with
        | nil => simp at h3
        | cons y x =>
          have hp := ha p (by simp)
          have hq := hb q (by simp)
          have hr := hc r (by simp)
          have h0 := hx 0 (by simp)
          have hrec := ih b c x (fun z hz => ha z (by simp [hz])) (fun z hz => hb z (by simp [hz])) (fun z hz => hc z (by simp [hz])) (by simpa using h1) (by simpa using h2) (by simpa using h3) (fun i hi => by
            have := hx (i + 1) (by simpa using hi)
            simpa [xor3] using this)
          simp [xor3] at h0
          have h8 : p.toNat ^^^ q.toNat ^^^ r.toNat < 256 := Nat.xor_lt_two_pow (n := 8) (Nat.xor_lt_two_pow (n := 8) (by omega) (by omega)) (by omega)
          simp only [num]
          rw [h0, Int.toNat_natCast, hrec, ← xor_join p.toNat _ (by omega), ← xor_join q.toNat _ (by omega), ← xor_join r.toNat _ (by omega), ← xor_join _ _ h8, mul256_xor, mul256_xor]
          generalize 256 * num a = A
          generalize 256 * num b = B
          generalize 256 * num c = C
          apply Nat.eq_of_testBit_eq
          intro i
          simp only [Nat.testBit_xor]
          cases p.toNat.testBit i <;> cases q.toNat.testBit i <;> cases r.toNat.testBit i <;> cases A.testBit i <;> cases B.testBit i <;> cases C.testBit i <;> rfl

/-- With its check behind it every text has the same check. -/
theorem behind (a d e : List Int) (ha : IsB a) (hd : IsB d) (h4 : d.length = 4) (hc : num d = crc a) : crc (a ++ d ++ e) = ones ^^^ upd entry (halves 32 ones) e := by
  unfold crc sum
  rw [upd_append, (good_iff a d ha hd h4).1 hc.symm]

end Go.Proofs.Ytkinmcnmdfpjbaa.Crc
