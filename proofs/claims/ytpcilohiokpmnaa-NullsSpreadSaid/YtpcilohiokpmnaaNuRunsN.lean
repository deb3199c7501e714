/-
  Flags as lists: plain facts, no program: runs of like flags ('runsL'), how many are true ('cnt'), the places of what is not true ('placesF').
-/
namespace Go.Proofs.Ytpcilohiokpmnaa.Nu

/-- how many are true -/
def cnt : List Bool → Nat
  | [] => 0
  | b :: t => (if b = true then 1 else 0) + cnt t
theorem cnt_app (l m : List Bool) : cnt (l ++ m) = cnt l + cnt m := by
  induction l with
  | nil => simp [cnt]
  | cons x t ih => simp only [List.cons_append, cnt, ih]; omega
theorem cnt_rep (n : Nat) (b : Bool) : cnt (List.replicate n b) = if b = true then n else 0 := by
  induction n with
  | zero => simp [cnt]
  | succ n ih => simp only [List.replicate_succ, cnt, ih]; split <;> omega
theorem cnt_le (l : List Bool) : cnt l ≤ l.length := by
  induction l with
  | nil => simp [cnt]
  | cons x t ih => simp only [cnt, List.length_cons]; split <;> omega
theorem cnt_not (l : List Bool) : cnt (l.map (!·)) + cnt l = l.length := by
  induction l with
  | nil => simp [cnt]
  | cons x t ih => cases x <;> simp only [List.map_cons, cnt, List.length_cons, Bool.not_true, Bool.not_false, if_true, Bool.false_eq_true, if_false] <;> omega
theorem cnt_zero {l : List Bool} (h : cnt l = 0) : l = List.replicate l.length false := by
  induction l with
  | nil => rfl
  | cons x t ih =>
    cases x
    · simp only [cnt, Bool.false_eq_true, if_false] at h
      rw [List.length_cons, List.replicate_succ, ← ih (by omega)]
    · simp [cnt] at h
theorem cnt_all {l : List Bool} (h : cnt l = l.length) : l = List.replicate l.length true := by
  induction l with
  | nil => rfl
  | cons x t ih =>
    have := cnt_le t
    cases x
    · simp only [cnt, Bool.false_eq_true, if_false, List.length_cons] at h; omega
    · simp only [cnt, if_true, List.length_cons] at h
      rw [List.length_cons, List.replicate_succ, ← ih (by omega)]

/-- runs of like flags: how long, and the flag -/
def runsL : List Bool → List (Nat × Bool)
  | [] => []
  | x :: t => match runsL t with
    | [] => [(1, x)]
    | (n, y) :: r => if x = y then (n + 1, y) :: r else (1, x) :: (n, y) :: r
/-- the flags of runs -/
def flagsR (R : List (Nat × Bool)) : List Bool := R.flatMap fun p => List.replicate p.1 p.2
theorem flagsR_app (R S : List (Nat × Bool)) : flagsR (R ++ S) = flagsR R ++ flagsR S := by simp [flagsR]
theorem flagsR_one (p : Nat × Bool) : flagsR [p] = List.replicate p.1 p.2 := by simp [flagsR]
theorem flagsR_cons (p : Nat × Bool) (R : List (Nat × Bool)) : flagsR (p :: R) = List.replicate p.1 p.2 ++ flagsR R := by simp [flagsR]

theorem runs_head (x : Bool) (t : List Bool) : ∃ n r, runsL (x :: t) = (n + 1, x) :: r := by
  rw [runsL]
  cases runsL t with
  | nil => exact ⟨0, [], rfl⟩
  | cons p r =>
    obtain ⟨n, y⟩ := p
    dsimp only
    by_cases h : x = y
    · subst h; rw [if_pos rfl]; exact ⟨n, r, rfl⟩
    · rw [if_neg h]; exact ⟨0, (n, y) :: r, rfl⟩
theorem runs_join (l : List Bool) : flagsR (runsL l) = l := by
  induction l with
  | nil => rfl
  | cons x t ih =>
    rw [runsL]
    cases hr : runsL t with
    | nil => rw [hr] at ih; dsimp only; rw [← ih]; rfl
    | cons p r =>
      obtain ⟨n, y⟩ := p
      rw [hr, flagsR_cons] at ih
      dsimp only
      by_cases h : x = y
      · subst h
        rw [if_pos rfl, flagsR_cons]
        dsimp only at ih ⊢
        rw [List.replicate_succ, List.cons_append, ih]
      · rw [if_neg h, flagsR_cons, flagsR_cons]
        dsimp only at ih ⊢
        rw [ih]; rfl
/-- i flags alike, and another one (or none) behind them -/
theorem runs_lead (x : Bool) (m : List Bool) (hm : ∀ y t, m = y :: t → y ≠ x) : ∀ i, runsL (List.replicate (i + 1) x ++ m) = (i + 1, x) :: runsL m := by
  intro i
  induction i with
  | zero =>
    rw [show List.replicate (0 + 1) x ++ m = x :: m from rfl]
    cases m with
    | nil => rfl
    | cons y t =>
      obtain ⟨n, r, h⟩ := runs_head y t
      rw [runsL, h]
      dsimp only
      rw [if_neg (fun e => hm y t rfl e.symm)]
  | succ i ih =>
    rw [List.replicate_succ, List.cons_append, runsL, ih]
    dsimp only
    rw [if_pos rfl]
theorem runs_pos (l : List Bool) : ∀ p ∈ runsL l, 1 ≤ p.1 := by
  induction l with
  | nil => intro p hp; cases hp
  | cons x t ih =>
    intro p hp
    rw [runsL] at hp
    cases hr : runsL t with
    | nil => rw [hr] at hp; dsimp only at hp; rw [List.mem_singleton.1 hp]; exact Nat.le_refl _
    | cons q r =>
      obtain ⟨n, y⟩ := q
      rw [hr] at hp ih
      dsimp only at hp
      by_cases h : x = y
      · rw [if_pos h] at hp
        rcases List.mem_cons.1 hp with e | e
        · rw [e]; exact Nat.succ_le_succ (Nat.zero_le _)
        · exact ih p (List.mem_cons_of_mem _ e)
      · rw [if_neg h] at hp
        rcases List.mem_cons.1 hp with e | e
        · rw [e]; exact Nat.le_refl _
        · exact ih p e
/-- neighbours are unlike -/
def Apart : List (Nat × Bool) → Prop
  | [] => True
  | [_] => True
  | p :: q :: r => p.2 ≠ q.2 ∧ Apart (q :: r)
theorem runs_apart (l : List Bool) : Apart (runsL l) := by
  induction l with
  | nil => trivial
  | cons x t ih =>
    rw [runsL]
    cases hr : runsL t with
    | nil => trivial
    | cons q r =>
      obtain ⟨n, y⟩ := q
      rw [hr] at ih
      dsimp only
      by_cases h : x = y
      · rw [if_pos h]
        cases r with
        | nil => trivial
        | cons s r => exact ih
      · rw [if_neg h]; exact ⟨h, ih⟩
theorem apart_at : ∀ (R : List (Nat × Bool)) (k : Nat), Apart R → k + 1 < R.length → (R.getD (k + 1) (0, false)).2 ≠ (R.getD k (0, false)).2
  | [], k, _, h => by simp at h
  | [_], k, _, h => by simp at h
  | p :: q :: r, 0, h, _ => fun e => h.1 e.symm
  | p :: q :: r, k + 1, h, hk => apart_at (q :: r) k h.2 (by simpa using hk)
theorem runs_len (l : List Bool) : (runsL l).length ≤ l.length := by
  induction l with
  | nil => exact Nat.le_refl _
  | cons x t ih =>
    rw [runsL]
    cases hr : runsL t with
    | nil => simp
    | cons q r =>
      obtain ⟨n, y⟩ := q
      rw [hr] at ih
      dsimp only
      split
      · simp at ih ⊢; omega
      · simp at ih ⊢; omega
theorem runs_not (l : List Bool) : runsL (l.map (!·)) = (runsL l).map fun p => (p.1, !p.2) := by
  induction l with
  | nil => rfl
  | cons x t ih =>
    rw [List.map_cons, runsL, ih, runsL]
    cases hr : runsL t with
    | nil => rfl
    | cons q r =>
      obtain ⟨n, y⟩ := q
      dsimp only [List.map_cons]
      cases x <;> cases y <;> rfl
/-- run k, and what lies ahead of it -/
theorem flags_at (R : List (Nat × Bool)) (k : Nat) (hk : k < R.length) : flagsR R = flagsR (R.take k) ++ (List.replicate (R.getD k (0, false)).1 (R.getD k (0, false)).2 ++ flagsR (R.drop (k + 1))) ∧
    flagsR (R.take (k + 1)) = flagsR (R.take k) ++ List.replicate (R.getD k (0, false)).1 (R.getD k (0, false)).2 := by
  have e : R.getD k (0, false) = R[k] := by rw [List.getD_eq_getElem?_getD, List.getElem?_eq_getElem hk]; rfl
  have h1 : R.take (k + 1) = R.take k ++ [R[k]] := List.take_succ_eq_append_getElem hk
  have h2 : R = R.take (k + 1) ++ R.drop (k + 1) := (List.take_append_drop _ _).symm
  rw [e]
  refine ⟨?_, by rw [h1, flagsR_app, flagsR_one]⟩
  conv => lhs; rw [h2, flagsR_app, h1, flagsR_app, flagsR_one]
  rw [List.append_assoc]
theorem flags_len (R : List (Nat × Bool)) (k : Nat) (hk : k < R.length) : (flagsR (R.take k)).length + (R.getD k (0, false)).1 ≤ (flagsR R).length := by
  have h := congrArg List.length (flags_at R k hk).1
  rw [List.length_append, List.length_append, List.length_replicate] at h
  omega

/-! ### places -/
def placesF : Nat → List Bool → List Int
  | _, [] => []
  | v, b :: t => if b = true then -1 :: placesF v t else (v : Int) :: placesF (v + 1) t
theorem places_len (l : List Bool) : ∀ v, (placesF v l).length = l.length := by
  induction l with
  | nil => intro v; rfl
  | cons x t ih => intro v; rw [placesF]; split <;> simp [ih]
theorem places_app (l m : List Bool) : ∀ v, placesF v (l ++ m) = placesF v l ++ placesF (v + (l.length - cnt l)) m := by
  induction l with
  | nil => intro v; simp [placesF, cnt]
  | cons x t ih =>
    intro v
    have := cnt_le t
    rw [List.cons_append, placesF, placesF]
    cases x
    · simp only [Bool.false_eq_true, if_false, cnt, List.length_cons]
      rw [ih, List.cons_append]
      congr 3
      omega
    · simp only [if_true, cnt, List.length_cons]
      rw [ih, List.cons_append]
      congr 3
      omega
/-- the place behind a list -/
def nextP (l : List Bool) : Nat := l.length - cnt l
theorem nextP_snoc (l : List Bool) (b : Bool) : nextP (l ++ [b]) = nextP l + (if b = true then 0 else 1) := by
  have := cnt_le l
  unfold nextP
  rw [cnt_app, List.length_append]
  cases b <;> simp [cnt] <;> omega
theorem places_snoc (l : List Bool) (b : Bool) : placesF 0 (l ++ [b]) = placesF 0 l ++ [if b = true then -1 else (nextP l : Int)] := by
  rw [places_app, Nat.zero_add]
  unfold nextP
  cases b <;> rfl
theorem places_neg (l : List Bool) : ∀ (v i : Nat), i < l.length → (decide ((placesF v l).getD i 0 < 0) = l.getD i false) ∧ -1 ≤ (placesF v l).getD i 0 ∧ (placesF v l).getD i 0 ≤ v + l.length := by
  induction l with
  | nil => intro v i h; simp at h
  | cons x t ih =>
    intro v i h
    rw [placesF]
    cases i with
    | zero =>
      cases x
      · simp; omega
      · simp; omega
    | succ i =>
      have h' : i < t.length := by simpa using h
      cases x
      · obtain ⟨h1, h2, h3⟩ := ih (v + 1) i h'
        simp only [Bool.false_eq_true, if_false, List.getD_cons_succ, List.length_cons]
        exact ⟨h1, h2, by omega⟩
      · obtain ⟨h1, h2, h3⟩ := ih v i h'
        simp only [if_true, List.getD_cons_succ, List.length_cons]
        exact ⟨h1, h2, by omega⟩
/-- lengths of runs, as the document counts them -/
def lens (l : List Bool) : List Int := (runsL l).map fun p => (p.1 : Int)
def upLast : List Int → List Int
  | [] => []
  | [x] => [x + 1]
  | x :: y :: r => x :: upLast (y :: r)
theorem lens_snoc (l : List Bool) (b : Bool) : lens (l ++ [b]) = if l.getLast? = some b then upLast (lens l) else lens l ++ [1] := by
  induction l with
  | nil => rfl
  | cons x t ih =>
    unfold lens at ih ⊢
    cases t with
    | nil =>
      cases x <;> cases b <;> rfl
    | cons y u =>
      obtain ⟨n, r, hr⟩ := runs_head y u
      obtain ⟨n2, r2, hr2⟩ := runs_head y (u ++ [b])
      rw [List.cons_append, runsL, show (y :: u) ++ [b] = y :: (u ++ [b]) from rfl, hr2]
      rw [show (y :: u) ++ [b] = y :: (u ++ [b]) from rfl, hr2, hr] at ih
      rw [runsL, hr, List.getLast?_cons_cons]
      dsimp only
      by_cases hb : (y :: u).getLast? = some b
      · rw [if_pos hb] at ih ⊢
        by_cases hx : x = y
        · rw [if_pos hx, if_pos hx]
          cases r with
          | nil =>
            cases r2 with
            | nil => simp [upLast] at ih ⊢; omega
            | cons q r2 => simp [upLast] at ih
          | cons q r =>
            simp only [List.map_cons, upLast, List.cons.injEq] at ih ⊢
            obtain ⟨h1, h2⟩ := ih
            exact ⟨by omega, h2⟩
        · rw [if_neg hx, if_neg hx]
          simp only [List.map_cons, upLast, List.cons.injEq] at ih ⊢
          exact ⟨trivial, ih⟩
      · rw [if_neg hb] at ih ⊢
        by_cases hx : x = y
        · rw [if_pos hx, if_pos hx]
          simp only [List.map_cons, List.cons_append, List.cons.injEq] at ih ⊢
          obtain ⟨h1, h2⟩ := ih
          exact ⟨by omega, h2⟩
        · rw [if_neg hx, if_neg hx]
          simp only [List.map_cons, List.cons_append, List.cons.injEq] at ih ⊢
          exact ⟨trivial, ih⟩
theorem lens_not (l : List Bool) : lens (l.map (!·)) = lens l := by
  unfold lens
  rw [runs_not, List.map_map]
  rfl
end Go.Proofs.Ytpcilohiokpmnaa.Nu
