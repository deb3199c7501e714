/-
  Columns of numbers as bytes: plain facts on lists, no program. Plain ('plainB'), as runs ('rle', 'runsB'), packed ('packedB'); and how they are read again.
-/
import Derived.Test.YteolpjlpjjjchaaOctNum
import Derived.Test.YteolpjlpjjjchaaPkNum
import Derived.Test.YteolpjlpjjjchaaIBase
namespace Go.Proofs.Yteolpjlpjjjchaa.In
open Oct (putB ofB varB readV)
open Pk (wid putR getR IsU Fit sizeN)
open Is (IsI)

/-- a number without its sign -/
def u (v : Int) : Int := v % 18446744073709551616
/-- a number with a sign -/
def sg (v : Int) : Int := if v < 9223372036854775808 then v else v - 18446744073709551616
theorem u_bd (v : Int) : 0 ≤ u v ∧ u v < 18446744073709551616 := by unfold u; omega
theorem sg_u (v : Int) (h0 : -9223372036854775808 ≤ v) (h1 : v ≤ 9223372036854775807) : sg (u v) = v := by unfold sg u; split <;> omega
theorem u_sg (v : Int) (h0 : 0 ≤ v) (h1 : v < 18446744073709551616) : u (sg v) = v := by unfold sg u; split <;> omega
theorem sg_bd (v : Int) (h0 : 0 ≤ v) (h1 : v < 18446744073709551616) : -9223372036854775808 ≤ sg v ∧ sg v ≤ 9223372036854775807 := by unfold sg; split <;> omega

def num8 (v : Int) : List Int := putB 8 (u v)
theorem num8_length (v : Int) : (num8 v).length = 8 := Oct.putB_length 8 _
theorem num8_isB (v : Int) : Oct.IsB (num8 v) := Oct.putB_isB 8 _
theorem ofB_num8 (v : Int) : ofB (num8 v) = u v := Oct.ofB_putB 8 _ (u_bd v).1 (by have := (u_bd v).2; exact this)
theorem putB_ofB : ∀ l : List Int, Oct.IsB l → putB l.length (ofB l) = l := by
  intro l
  induction l with
  | nil => intro _; rfl
  | cons c r ih =>
    intro h
    have hc := h c (by simp)
    have hr := ih fun x hx => h x (by simp [hx])
    simp only [List.length_cons, putB, ofB]
    rw [show (c + 256 * ofB r) % 256 = c from by omega, show (c + 256 * ofB r) / 256 = ofB r from by omega, hr]
theorem ofB_bd8 (l : List Int) (h : Oct.IsB l) (hl : l.length = 8) : 0 ≤ ofB l ∧ ofB l < 18446744073709551616 := by
  have := Oct.ofB_bound l h
  rw [hl] at this
  exact this
theorem num8_sg (l : List Int) (h : Oct.IsB l) (hl : l.length = 8) : num8 (sg (ofB l)) = l := by
  have hb := ofB_bd8 l h hl
  unfold num8
  rw [u_sg _ hb.1 hb.2]
  have := putB_ofB l h
  rwa [hl] at this
theorem isB_take {l : List Int} (h : Oct.IsB l) (n : Nat) : Oct.IsB (l.take n) := fun x hx => h x (List.mem_of_mem_take hx)
theorem isB_drop {l : List Int} (h : Oct.IsB l) (n : Nat) : Oct.IsB (l.drop n) := fun x hx => h x (List.mem_of_mem_drop hx)
theorem isB_app {l m : List Int} (h : Oct.IsB l) (k : Oct.IsB m) : Oct.IsB (l ++ m) := fun x hx => (List.mem_append.1 hx).elim (h x) (k x)
theorem isI_app {l m : List Int} (h : IsI l) (k : IsI m) : IsI (l ++ m) := fun x hx => (List.mem_append.1 hx).elim (h x) (k x)

/-- a varint is read again -/
theorem readV_var (n : Nat) (r : List Int) (h : n < 18446744073709551616) : readV 0 0 (varB 9 n ++ r) = ((n : Int), 0, (varB 9 n).length) := by
  have := Oct.readV_varB 9 0 0 n r rfl (by omega) (by have : (2 : Int) * 128 ^ 9 = 18446744073709551616 := by decide
                                                      omega) (by omega)
  rw [this]; simp
theorem drop_var (n : Nat) (r : List Int) : (varB 9 n ++ r).drop (varB 9 n).length = r := List.drop_left
/-- what was read of a varint are its bytes -/
theorem var_readV (b : List Int) (hb : Oct.IsB b) (x : Int) (n : Nat) (h : readV 0 0 b = (x, 0, n)) : 0 ≤ x ∧ x < 18446744073709551616 ∧ b = varB 9 x ++ b.drop n := by
  obtain ⟨v, v0, v1, hx, _, _, _, hvb⟩ := Oct.varB_readV b 9 0 0 x n hb rfl h
  have e : x = v := by rw [hx]; simp
  have : (2 : Int) * 128 ^ 9 = 18446744073709551616 := by decide
  refine ⟨by omega, by omega, ?_⟩
  rw [e, hvb, Nat.sub_zero, List.take_append_drop]
theorem varB_isB (n : Nat) (h : n < 18446744073709551616) : Oct.IsB (varB 9 n) :=
  Oct.varB_isB 9 n (by omega) (by have : (256 : Int) * 128 ^ 9 = 2361183241434822606848 := by decide
                                  omega)

/-! ### plain -/
def plainB (l : List Int) : List Int := l.flatMap num8
theorem plainB_nil : plainB [] = [] := rfl
theorem plainB_cons (x : Int) (l : List Int) : plainB (x :: l) = num8 x ++ plainB l := by simp [plainB]
theorem plainB_snoc (l : List Int) (x : Int) : plainB (l ++ [x]) = plainB l ++ num8 x := by simp [plainB]
theorem plainB_length (l : List Int) : (plainB l).length = 8 * l.length := by
  induction l with
  | nil => rfl
  | cons x l ih => rw [plainB_cons, List.length_append, num8_length, ih, List.length_cons]; omega
theorem plainB_isB (l : List Int) : Oct.IsB (plainB l) := by
  induction l with
  | nil => intro x hx; cases hx
  | cons x l ih => rw [plainB_cons]; exact isB_app (num8_isB x) ih

def decP : Nat → List Int → Option (List Int × List Int)
  | 0, b => some ([], b)
  | n + 1, b => if b.length < 8 then none else match decP n (b.drop 8) with
    | none => none
    | some (l, r) => some (sg (ofB (b.take 8)) :: l, r)
theorem decP_enc (l r : List Int) (h : IsI l) : decP l.length (plainB l ++ r) = some (l, r) := by
  induction l with
  | nil => rfl
  | cons x l ih =>
    have hx := h x (by simp)
    rw [plainB_cons, List.append_assoc, List.length_cons, decP, if_neg (by rw [List.length_append, num8_length]; omega)]
    have e1 : (num8 x ++ (plainB l ++ r)).drop 8 = plainB l ++ r := by rw [List.drop_left' (num8_length x)]
    have e2 : (num8 x ++ (plainB l ++ r)).take 8 = num8 x := by rw [List.take_left' (num8_length x)]
    rw [e1, e2, ih (fun y hy => h y (by simp [hy])), ofB_num8, sg_u _ hx.1 hx.2]
theorem decP_true : ∀ (n : Nat) (b l r : List Int), Oct.IsB b → decP n b = some (l, r) → b = plainB l ++ r ∧ l.length = n ∧ IsI l := by
  intro n
  induction n with
  | zero => intro b l r _ h; simp [decP] at h; obtain ⟨rfl, rfl⟩ := h; exact ⟨rfl, rfl, fun x hx => by cases hx⟩
  | succ n ih =>
    intro b l r hb h
    rw [decP] at h
    split at h
    · cases h
    · rename_i hl
      split at h
      · cases h
      · rename_i l' r' hd
        simp only [Option.some.injEq, Prod.mk.injEq] at h
        obtain ⟨rfl, rfl⟩ := h
        obtain ⟨h1, h2, h3⟩ := ih _ _ _ (isB_drop hb 8) hd
        have ht : (b.take 8).length = 8 := by rw [List.length_take]; omega
        refine ⟨?_, by rw [List.length_cons, h2], ?_⟩
        · rw [plainB_cons, num8_sg _ (isB_take hb 8) ht, List.append_assoc, ← h1, List.take_append_drop]
        · intro x hx
          rcases List.mem_cons.1 hx with rfl | hx
          · have := ofB_bd8 _ (isB_take hb 8) ht
            exact sg_bd _ this.1 this.2
          · exact h3 x hx
/-- behind k numbers -/
theorem decP_step (n k : Nat) (b acc rest : List Int) (hk : k < n) (h : decP n b = (decP (n - k) rest).map (fun p => (acc ++ p.1, p.2))) :
    (rest.length < 8 → decP n b = none) ∧ (8 ≤ rest.length → decP n b = (decP (n - (k + 1)) (rest.drop 8)).map (fun p => ((acc ++ [sg (ofB (rest.take 8))]) ++ p.1, p.2))) := by
  rw [show n - k = (n - (k + 1)) + 1 from by omega, decP] at h
  refine ⟨fun hl => by rw [h, if_pos hl]; rfl, fun hl => ?_⟩
  rw [h, if_neg (by omega)]
  cases decP (n - (k + 1)) (rest.drop 8) with
  | none => rfl
  | some p => simp

/-! ### runs -/
def rle : List Int → List (Nat × Int)
  | [] => []
  | x :: t => match rle t with
    | [] => [(1, x)]
    | (k, y) :: r => if x = y then (k + 1, y) :: r else (1, x) :: (k, y) :: r
theorem rle_head (x : Int) (t : List Int) : ∃ k r, rle (x :: t) = (k, x) :: r := by
  simp only [rle]
  split
  · exact ⟨1, [], rfl⟩
  · split
    · rename_i h; subst h; exact ⟨_, _, rfl⟩
    · exact ⟨1, _, rfl⟩
theorem rle_run (x : Int) (t : List Int) (ht : t.head? ≠ some x) : ∀ k, rle (List.replicate (k + 1) x ++ t) = (k + 1, x) :: rle t := by
  intro k
  induction k with
  | zero =>
    show rle (x :: t) = _
    cases t with
    | nil => rfl
    | cons y t =>
      obtain ⟨k, r, h⟩ := rle_head y t
      rw [rle, h]
      simp only
      rw [if_neg (fun e => ht (by rw [e]; rfl))]
  | succ k ih =>
    rw [List.replicate_succ, List.cons_append, rle, ih]
    simp
theorem runs_cut (x : Int) : ∀ t : List Int, ∃ k t', x :: t = List.replicate (k + 1) x ++ t' ∧ t'.head? ≠ some x := by
  intro t
  induction t with
  | nil => exact ⟨0, [], rfl, by simp⟩
  | cons y t ih =>
    by_cases h : y = x
    · subst h
      obtain ⟨k, t', h1, h2⟩ := ih
      exact ⟨k + 1, t', by rw [h1]; rfl, h2⟩
    · exact ⟨0, y :: t, rfl, by simpa using h⟩
/-- a run within a list -/
theorem rle_at (l : List Int) (i k : Nat) (hik : i < k) (hk : k ≤ l.length) (hs : ∀ j, i ≤ j → j < k → l.getD j 0 = l.getD i 0) (he : k = l.length ∨ l.getD k 0 ≠ l.getD i 0) :
    rle (l.drop i) = (k - i, l.getD i 0) :: rle (l.drop k) := by
  have e : l.drop i = List.replicate (k - i) (l.getD i 0) ++ l.drop k := by
    apply List.ext_getElem?
    intro j
    rw [List.getElem?_drop]
    by_cases hj : j < k - i
    · rw [List.getElem?_append_left (by simpa using hj), List.getElem?_replicate, if_pos hj, ← hs (i + j) (by omega) (by omega)]
      rw [List.getElem?_eq_getElem (by omega)]
      simp [List.getD, List.getElem?_eq_getElem (show i + j < l.length by omega)]
    · rw [List.getElem?_append_right (by simpa using hj), List.length_replicate, List.getElem?_drop]
      congr 1
      omega
  obtain ⟨m, hm⟩ : ∃ m, k - i = m + 1 := ⟨k - i - 1, by omega⟩
  rw [e, hm]
  refine rle_run _ _ ?_ m
  rcases he with h | h
  · rw [List.drop_eq_nil_of_le (by omega)]; simp
  · intro hh
    by_cases hkl : k < l.length
    · rw [List.head?_drop, List.getElem?_eq_getElem hkl] at hh
      apply h
      rw [List.getD_eq_getElem?_getD, List.getElem?_eq_getElem hkl]
      exact Option.some.inj hh
    · rw [List.drop_eq_nil_of_le (by omega)] at hh; simp at hh

def runB (p : Nat × Int) : List Int := varB 9 p.1 ++ num8 p.2
def bytesR (d : List (Nat × Int)) : List Int := d.flatMap runB
theorem bytesR_snoc (d : List (Nat × Int)) (p : Nat × Int) : bytesR (d ++ [p]) = bytesR d ++ varB 9 p.1 ++ num8 p.2 := by simp [bytesR, runB]
theorem bytesR_cons (d : List (Nat × Int)) (p : Nat × Int) : bytesR (p :: d) = varB 9 p.1 ++ num8 p.2 ++ bytesR d := by simp [bytesR, runB]
def runsB (l : List Int) : List Int := bytesR (rle l)
theorem runsB_run (x : Int) (t : List Int) (ht : t.head? ≠ some x) (k : Nat) : runsB (List.replicate (k + 1) x ++ t) = varB 9 ((k + 1 : Nat) : Int) ++ num8 x ++ runsB t := by
  unfold runsB; rw [rle_run x t ht k, bytesR_cons]

theorem rle_sum (l : List Int) : ∀ p ∈ rle l, 1 ≤ p.1 ∧ p.1 ≤ l.length := by
  induction l with
  | nil => intro p hp; cases hp
  | cons x t ih =>
    intro p hp
    simp only [rle] at hp
    split at hp
    · simp at hp; subst hp; simp
    · rename_i k y r hr
      rw [hr] at ih
      split at hp
      · rcases List.mem_cons.1 hp with rfl | hp
        · have := ih (k, y) (by simp); simp at this ⊢; omega
        · have := ih p (by simp [hp]); simp; omega
      · rcases List.mem_cons.1 hp with rfl | hp
        · simp
        · have := ih p hp; simp; omega
theorem rle_len (l : List Int) : (rle l).length ≤ l.length := by
  induction l with
  | nil => simp [rle]
  | cons x t ih =>
    simp only [rle]
    split
    · simp
    · rename_i k y r hr
      rw [hr] at ih
      split
      · simp at ih ⊢; omega
      · simp at ih ⊢; omega
theorem bytesR_len (d : List (Nat × Int)) : (bytesR d).length ≤ 18 * d.length := by
  induction d with
  | nil => simp [bytesR]
  | cons p d ih =>
    rw [bytesR_cons, List.length_append, List.length_append, num8_length, List.length_cons]
    have := Oct.varB_le 9 p.1
    omega
theorem runsB_len (l : List Int) : (runsB l).length ≤ 18 * l.length := Nat.le_trans (bytesR_len _) (Nat.mul_le_mul_left _ (rle_len l))
theorem runsB_isB (l : List Int) (hl : l.length < 18446744073709551616) : Oct.IsB (runsB l) := by
  intro x hx
  unfold runsB bytesR at hx
  obtain ⟨p, hp, hx⟩ := List.mem_flatMap.1 hx
  have := rle_sum l p hp
  exact isB_app (varB_isB p.1 (by omega)) (num8_isB p.2) x hx

def decR (chk : Bool) : Nat → Option Int → Nat → List Int → Option (List Int × List Int)
  | _, _, 0, b => some ([], b)
  | 0, _, _ + 1, _ => none
  | f + 1, last, m + 1, b =>
    if (readV 0 0 b).2.1 ≠ 0 then none
    else if (b.drop (readV 0 0 b).2.2).length < 8 then none
    else if (readV 0 0 b).1 < 1 ∨ ((m + 1 : Nat) : Int) < (readV 0 0 b).1 ∨ (chk = true ∧ last = some (sg (ofB ((b.drop (readV 0 0 b).2.2).take 8)))) then none
    else match decR chk f (some (sg (ofB ((b.drop (readV 0 0 b).2.2).take 8)))) (m + 1 - (readV 0 0 b).1.toNat) ((b.drop (readV 0 0 b).2.2).drop 8) with
      | none => none
      | some (l, r) => some (List.replicate (readV 0 0 b).1.toNat (sg (ofB ((b.drop (readV 0 0 b).2.2).take 8))) ++ l, r)
theorem decR_zero (chk : Bool) (f : Nat) (last : Option Int) (b : List Int) : decR chk f last 0 b = some ([], b) := by cases f <;> rfl

theorem decR_enc (chk : Bool) (r : List Int) : ∀ (f : Nat) (l : List Int) (last : Option Int), l.length ≤ f → f < 18446744073709551616 → IsI l → (l = [] ∨ last ≠ l.head?) → decR chk f last l.length (runsB l ++ r) = some (l, r) := by
  intro f
  induction f with
  | zero => intro l last h _ _ _; obtain rfl := List.eq_nil_of_length_eq_zero (by omega : l.length = 0); rfl
  | succ f ih =>
    intro l last h hf hI hlast
    cases l with
    | nil => exact decR_zero ..
    | cons x t =>
      obtain ⟨k, t', e, ht⟩ := runs_cut x t
      have hx := hI x (by simp)
      have hlen : (x :: t).length = k + 1 + t'.length := by rw [e]; simp
      have hne : last ≠ some x := by rcases hlast with h | h; (cases h); exact h
      have e2 : runsB (x :: t) = varB 9 ((k + 1 : Nat) : Int) ++ num8 x ++ runsB t' := by rw [e]; exact runsB_run x t' ht k
      rw [e2, hlen, show k + 1 + t'.length = (k + t'.length) + 1 from by omega, List.append_assoc, List.append_assoc]
      have hr := readV_var (k + 1) (num8 x ++ (runsB t' ++ r)) (by omega)
      simp only [decR, hr]
      rw [if_neg (by simp), drop_var, if_neg (by rw [List.length_append, num8_length]; omega)]
      have d1 : (num8 x ++ (runsB t' ++ r)).drop 8 = runsB t' ++ r := by rw [List.drop_left' (num8_length x)]
      have d2 : (num8 x ++ (runsB t' ++ r)).take 8 = num8 x := by rw [List.take_left' (num8_length x)]
      rw [d1, d2, ofB_num8, sg_u _ hx.1 hx.2, if_neg (by
        rintro (h | h | h)
        · omega
        · omega
        · exact hne h.2)]
      have hT : IsI t' := fun y hy => hI y (by rw [e]; exact List.mem_append_right _ hy)
      rw [Int.toNat_natCast, show k + t'.length + 1 - (k + 1) = t'.length from by omega, ih t' (some x) (by omega) (by omega) hT (by
        rcases t' with _ | ⟨y, t'⟩
        · exact .inl rfl
        · exact .inr (fun h => ht h.symm))]
      simp only [e]

theorem decR_true (chk : Bool) : ∀ (f : Nat) (last : Option Int) (m : Nat) (b l r : List Int), Oct.IsB b → decR chk f last m b = some (l, r) →
    l.length = m ∧ IsI l ∧ (chk = true → b = runsB l ++ r ∧ (l = [] ∨ last ≠ l.head?)) := by
  intro f
  induction f with
  | zero =>
    intro last m b l r hb h
    cases m with
    | zero => rw [decR_zero] at h; simp at h; obtain ⟨rfl, rfl⟩ := h; exact ⟨rfl, (fun x hx => by cases hx), fun _ => ⟨rfl, .inl rfl⟩⟩
    | succ m => simp [decR] at h
  | succ f ih =>
    intro last m b l r hb h
    cases m with
    | zero => rw [decR_zero] at h; simp at h; obtain ⟨rfl, rfl⟩ := h; exact ⟨rfl, (fun x hx => by cases hx), fun _ => ⟨rfl, .inl rfl⟩⟩
    | succ m =>
      obtain ⟨q, er, n, hq⟩ : ∃ q er n, readV 0 0 b = (q, er, n) := ⟨_, _, _, rfl⟩
      simp only [decR, hq] at h
      split at h
      · cases h
      · rename_i he
        have he : er = 0 := by simpa using he
        subst he
        obtain ⟨q0, q1, hbq⟩ := var_readV b hb q n hq
        split at h
        · cases h
        · rename_i hl
          have hb1 := isB_drop hb n
          have ht : ((b.drop n).take 8).length = 8 := by rw [List.length_take]; omega
          have hv := ofB_bd8 _ (isB_take hb1 8) ht
          have hn8 := num8_sg _ (isB_take hb1 8) ht
          obtain ⟨v, hve⟩ : ∃ v, v = sg (ofB ((b.drop n).take 8)) := ⟨_, rfl⟩
          have hvI := sg_bd _ hv.1 hv.2
          rw [← hve] at h hn8 hvI
          split at h
          · cases h
          · rename_i hc
            split at h
            · cases h
            · rename_i l' r' hd
              simp only [Option.some.injEq, Prod.mk.injEq] at h
              obtain ⟨rfl, rfl⟩ := h
              obtain ⟨h1, h2, h3⟩ := ih _ _ _ _ _ (isB_drop hb1 8) hd
              obtain ⟨k, hk⟩ : ∃ k : Nat, q = ((k + 1 : Nat) : Int) := ⟨q.toNat - 1, by omega⟩
              subst hk
              rw [Int.toNat_natCast] at h1 ⊢
              refine ⟨by rw [List.length_append, List.length_replicate, h1]; omega, isI_app (fun x hx => by rw [List.eq_of_mem_replicate hx]; exact hvI) h2, fun hchk => ?_⟩
              obtain ⟨h4, h5⟩ := h3 hchk
              have hne : l'.head? ≠ some v := by
                rcases h5 with rfl | h5
                · simp
                · exact fun e => h5 e.symm
              refine ⟨?_, .inr ?_⟩
              · rw [runsB_run v l' hne k, hn8, List.append_assoc, List.append_assoc, ← h4, List.take_append_drop, ← hbq]
              · intro e
                refine hc (.inr (.inr ⟨hchk, ?_⟩))
                rw [e, List.replicate_succ, List.cons_append]; rfl

/-- behind some runs -/
theorem decR_step (chk : Bool) (f m : Nat) (acc rest : List Int) (X : Option (List Int × List Int)) (h : X = (decR chk (f + 1) acc.getLast? (m + 1) rest).map (fun p => (acc ++ p.1, p.2))) :
    ((readV 0 0 rest).2.1 ≠ 0 → X = none) ∧
    ((readV 0 0 rest).2.1 = 0 → (rest.drop (readV 0 0 rest).2.2).length < 8 → X = none) ∧
    ((readV 0 0 rest).2.1 = 0 → 8 ≤ (rest.drop (readV 0 0 rest).2.2).length →
      ((readV 0 0 rest).1 < 1 ∨ ((m + 1 : Nat) : Int) < (readV 0 0 rest).1 ∨ (chk = true ∧ acc.getLast? = some (sg (ofB ((rest.drop (readV 0 0 rest).2.2).take 8)))) → X = none) ∧
      (¬ ((readV 0 0 rest).1 < 1 ∨ ((m + 1 : Nat) : Int) < (readV 0 0 rest).1 ∨ (chk = true ∧ acc.getLast? = some (sg (ofB ((rest.drop (readV 0 0 rest).2.2).take 8))))) →
        X = (decR chk f (acc ++ List.replicate (readV 0 0 rest).1.toNat (sg (ofB ((rest.drop (readV 0 0 rest).2.2).take 8)))).getLast? (m + 1 - (readV 0 0 rest).1.toNat) ((rest.drop (readV 0 0 rest).2.2).drop 8)).map
          (fun p => ((acc ++ List.replicate (readV 0 0 rest).1.toNat (sg (ofB ((rest.drop (readV 0 0 rest).2.2).take 8)))) ++ p.1, p.2)))) := by
  rw [decR] at h
  generalize hq : readV 0 0 rest = q at h ⊢
  refine ⟨fun h1 => by rw [h, if_pos h1]; rfl, fun h1 h2 => by rw [h, if_neg (by simpa using h1), if_pos h2]; rfl, fun h1 h2 => ⟨fun h3 => by rw [h, if_neg (by simpa using h1), if_neg (by omega), if_pos h3]; rfl, fun h3 => ?_⟩⟩
  rw [h, if_neg (by simpa using h1), if_neg (by omega), if_neg h3]
  generalize sg (ofB ((rest.drop q.2.2).take 8)) = v at h3 ⊢
  have e : (acc ++ List.replicate q.1.toNat v).getLast? = some v := by
    obtain ⟨k, hk⟩ : ∃ k, q.1.toNat = k + 1 := ⟨q.1.toNat - 1, by omega⟩
    rw [hk, List.replicate_succ', ← List.append_assoc, List.getLast?_append]; simp
  rw [e]
  cases decR chk f (some v) (m + 1 - q.1.toNat) ((rest.drop q.2.2).drop 8) with
  | none => rfl
  | some p => simp
end Go.Proofs.Yteolpjlpjjjchaa.In
