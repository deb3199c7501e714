/-
  Which cells are null, as bytes: plain facts on lists, no program: the encoding ('encN'), and how it is read again ('getN', the document's 'rgetN').
-/
import Derived.Test.YtpcilohiokpmnaaNuRunsN
import Derived.Test.YtpcilohiokpmnaaKeep
import Derived.Test.YtpcilohiokpmnaaPkNum
namespace Go.Proofs.Ytpcilohiokpmnaa.Nu
open Go.RowKit
open Oct (varB readV)
open Pk (wid putR getR IsU Fit sizeN)

def formN (l : List Bool) : Nat := if cnt l = 0 then 0 else if cnt l = l.length then 1 else 2
def numsL (l : List Bool) : List Int := l.map fun b => if b = true then 1 else 0
def bitsB (l : List Bool) : List Int := (putR (numsL l) 1).2
def restB (l : List Bool) : List Int := if formN l = 2 then bitsB l else []
/-- the encoding -/
def encN (l : List Bool) : List Int := varB 9 (l.length : Int) ++ (formN l : Int) :: restB l
def putN (l : List Bool) : Int × List Int := if 4096 < l.length then (3, []) else (0, encN l)

theorem formN_le (l : List Bool) : formN l ≤ 2 := by unfold formN; split <;> (try split) <;> omega
theorem nums_len (l : List Bool) : (numsL l).length = l.length := by simp [numsL]
theorem nums_at (l : List Bool) (k : Nat) (h : k < l.length) : (numsL l).getD k 0 = if l.getD k false = true then 1 else 0 := by
  simp [numsL, List.getD, h]
theorem nums_fit (l : List Bool) : Fit 1 (numsL l) := by
  intro x hx
  obtain ⟨b, _, rfl⟩ := List.mem_map.1 hx
  cases b <;> decide
theorem nums_isU (l : List Bool) : IsU (numsL l) := Pk.fit_isU (nums_fit l) (by decide)
theorem put_nums {l : List Bool} (h : l.length ≤ 65536) : (putR (numsL l) 1).1 = 0 := by
  refine (Pk.put_ok _ _).2 ⟨(Pk.canB_iff _ _).2 ?_, ?_⟩
  · rw [nums_len]; omega
  · have := (Pk.wid_le (numsL l) 1 (nums_isU l).nonneg).2 (nums_fit l)
    omega
theorem put_bits {l : List Bool} (h : l.length ≤ 65536) : putR (numsL l) 1 = (0, bitsB l) := by
  have := put_nums h
  unfold bitsB
  rw [← this]
theorem bits_len {l : List Bool} (h : l.length ≤ 65536) : (bitsB l).length = sizeN l.length 1 := by
  have h1 := Pk.put_size (numsL l) 1 (put_nums h)
  rw [nums_len] at h1
  unfold Pk.sizeF at h1
  rw [if_pos ((Pk.canB_iff _ _).2 (by omega))] at h1
  simp only [Int.toNat_natCast] at h1
  have e : (1 : Int).toNat = 1 := rfl
  rw [e] at h1
  unfold bitsB
  omega
theorem get_bits {l : List Bool} (h : l.length ≤ 65536) : getR (bitsB l) (l.length : Nat) 1 = (0, numsL l) := by
  have := Pk.get_put (numsL l) 1 (nums_isU l) (put_nums h)
  rwa [nums_len] at this
/-- what stands for true -/
def backL (x : List Int) : List Bool := x.map fun v => decide (v = 1)
theorem back_nums (l : List Bool) : backL (numsL l) = l := by
  unfold backL numsL
  rw [List.map_map]
  refine (List.map_congr_left fun b _ => ?_).trans (List.map_id l)
  cases b <;> rfl
theorem nums_back {x : List Int} (h : Fit 1 x) : numsL (backL x) = x := by
  unfold backL numsL
  rw [List.map_map]
  refine (List.map_congr_left fun v hv => ?_).trans (List.map_id x)
  have h1 := h v hv
  have h2 : v = 0 ∨ v = 1 := by omega
  rcases h2 with rfl | rfl <;> rfl
theorem back_len (x : List Int) : (backL x).length = x.length := by simp [backL]
theorem bits_isB (l : List Bool) : Oct.IsB (bitsB l) := (Pk.put_isB (numsL l) 1).isB
theorem rest_isB (l : List Bool) : Oct.IsB (restB l) := by
  unfold restB
  split
  · exact bits_isB l
  · intro x hx; cases hx
theorem enc_isB {l : List Bool} (h : l.length ≤ 65536) : Oct.IsB (encN l) := by
  have := formN_le l
  refine In.isB_app (In.varB_isB l.length (by omega)) ?_
  intro x hx
  rcases List.mem_cons.1 hx with e | e
  · subst e; omega
  · exact rest_isB l x e
theorem sizeN_le {n : Nat} (h : n ≤ 65536) : sizeN n 1 ≤ 8192 := by unfold sizeN; omega
theorem rest_len {l : List Bool} (h : l.length ≤ 65536) : (restB l).length ≤ 8192 := by
  unfold restB
  split
  · rw [bits_len h]; exact sizeN_le h
  · exact Nat.zero_le _
theorem enc_len {l : List Bool} (h : l.length ≤ 65536) : 2 ≤ (encN l).length ∧ (encN l).length ≤ 8203 := by
  have h1 := rest_len h
  have h2 := Oct.varB_le 9 (l.length : Int)
  have h3 := Oct.varB_pos 9 (l.length : Int)
  unfold encN
  rw [List.length_append, List.length_cons]
  omega

/-! ### read again -/
def readC (b : List Int) : Option (Nat × List Int) :=
  if (readV 0 0 b).2.1 ≠ 0 ∨ 4096 < (readV 0 0 b).1 then none else some ((readV 0 0 b).1.toNat, b.drop (readV 0 0 b).2.2)
theorem readC_var (n : Nat) (r : List Int) (h : n ≤ 4096) : readC (varB 9 (n : Int) ++ r) = some (n, r) := by
  unfold readC
  rw [In.readV_var n r (by omega)]
  simp only [In.drop_var, Int.toNat_natCast]
  rw [if_neg (by omega)]
theorem readC_some {b : List Int} (hb : Oct.IsB b) {n : Nat} {r : List Int} (h : readC b = some (n, r)) : n ≤ 4096 ∧ b = varB 9 (n : Int) ++ r := by
  unfold readC at h
  obtain ⟨x, e, m, hv⟩ : ∃ x e m, readV 0 0 b = (x, e, m) := ⟨_, _, _, rfl⟩
  rw [hv] at h
  simp only at h
  split at h
  · cases h
  · rename_i hc
    have he : e = 0 := Classical.byContradiction fun k => hc (.inl k)
    subst he
    obtain ⟨h0, -, hbe⟩ := In.var_readV b hb x m hv
    obtain ⟨k, rfl⟩ := Int.eq_ofNat_of_zero_le h0
    rw [Int.toNat_natCast] at h
    simp only [Option.some.injEq, Prod.mk.injEq] at h
    obtain ⟨rfl, rfl⟩ := h
    exact ⟨by omega, hbe⟩
/-- packed flags -/
def rdP (n : Nat) (r : List Int) : Option (List Bool × List Int) :=
  if r.length < sizeN n 1 then none else if (getR (r.take (sizeN n 1)) n 1).1 ≠ 0 then none else some (backL (getR (r.take (sizeN n 1)) n 1).2, r.drop (sizeN n 1))
/-- flags of a form -/
def rdK (n : Nat) (k : Int) (r : List Int) : Option (List Bool × List Int) :=
  if k = 0 ∨ k = 1 then some (List.replicate n (decide (k = 1)), r) else if k = 2 then rdP n r else none
def rdN (b : List Int) : Option (Int × List Bool × List Int) := match readC b with
  | none => none
  | some (_, []) => none
  | some (n, k :: r) => match rdK n k r with
    | none => none
    | some (l, s) => some (k, l, s)
/-- what the program's Get tells: the flags, and what is left -/
def getN (b : List Int) : Option (List Bool × List Int) := match rdN b with
  | none => none
  | some (k, l, s) => if (formN l : Int) = k then some (l, s) else none
/-- what the document's Get tells -/
def rgetN (b : List Int) : Option (List Bool × List Int) := match rdN b with
  | none => none
  | some (_, l, s) => if encN l = b.take (b.length - s.length) then some (l, s) else none
/-- the answer: flags, how many bytes, an error -/
def resN (b : List Int) : Option (List Bool × List Int) → List Bool × Int × Int
  | some (l, s) => (l, (b.length : Int) - (s.length : Int), 0)
  | none => ([], 0, 4)

theorem isB_right {a b : List Int} (h : Oct.IsB (a ++ b)) : Oct.IsB b := fun x hx => h x (List.mem_append_right a hx)
theorem rdP_some {n : Nat} {r : List Int} (hr : Oct.IsB r) {l : List Bool} {s : List Int} (h : rdP n r = some (l, s)) : l.length = n ∧ r = bitsB l ++ s := by
  unfold rdP at h
  split at h
  · cases h
  · rename_i h1
    split at h
    · cases h
    · rename_i h2
      have hg : (getR (r.take (sizeN n 1)) n 1).1 = 0 := Classical.byContradiction h2
      simp only [Option.some.injEq, Prod.mk.injEq] at h
      obtain ⟨hl, hs⟩ := h
      have hb : Fit 8 (r.take (sizeN n 1)) := Pk.fit_isB (fun x hx => hr x (List.mem_of_mem_take hx))
      obtain ⟨p1, p2, p3, p4⟩ := Pk.put_get _ _ _ hb hg
      have hf : Fit 1 (getR (r.take (sizeN n 1)) n 1).2 := (Pk.wid_le _ 1 p4.nonneg).1 (by omega)
      have hnb := nums_back hf
      rw [hl] at hnb
      refine ⟨by rw [← hl, back_len]; omega, ?_⟩
      unfold bitsB
      rw [hnb, p1, ← hs, List.take_append_drop]
theorem rdP_bits {l : List Bool} (h : l.length ≤ 4096) (s : List Int) : rdP l.length (bitsB l ++ s) = some (l, s) := by
  have hl := bits_len (l := l) (by omega)
  unfold rdP
  rw [if_neg (by rw [List.length_append]; omega), ← hl, List.take_left, List.drop_left, get_bits (by omega), if_neg (by simp), back_nums]
theorem rdK_some {n : Nat} {k : Int} {r : List Int} (hr : Oct.IsB r) {l : List Bool} {s : List Int} (h : rdK n k r = some (l, s)) : l.length = n ∧ r = (if k = 2 then bitsB l else []) ++ s := by
  unfold rdK at h
  split at h
  · rename_i h1
    simp only [Option.some.injEq, Prod.mk.injEq] at h
    obtain ⟨rfl, rfl⟩ := h
    rw [if_neg (by omega)]
    exact ⟨by simp, rfl⟩
  · split at h
    · rename_i h2
      rw [if_pos h2]
      exact rdP_some hr h
    · cases h
theorem rdN_some {b : List Int} (hb : Oct.IsB b) {k : Int} {l : List Bool} {s : List Int} (h : rdN b = some (k, l, s)) : l.length ≤ 4096 ∧ b = varB 9 (l.length : Int) ++ k :: ((if k = 2 then bitsB l else []) ++ s) := by
  unfold rdN at h
  cases hc : readC b with
  | none => rw [hc] at h; cases h
  | some p =>
    obtain ⟨n, r⟩ := p
    obtain ⟨hn, hbe⟩ := readC_some hb hc
    rw [hc] at h
    cases r with
    | nil => cases h
    | cons k' r =>
      simp only at h
      have hr : Oct.IsB r := fun x hx => isB_right (hbe ▸ hb) x (List.mem_cons_of_mem _ hx)
      cases hk : rdK n k' r with
      | none => rw [hk] at h; cases h
      | some q =>
        obtain ⟨l1, s1⟩ := q
        rw [hk] at h
        simp only [Option.some.injEq, Prod.mk.injEq] at h
        obtain ⟨rfl, rfl, rfl⟩ := h
        obtain ⟨e1, e2⟩ := rdK_some hr hk
        exact ⟨by omega, by rw [e1, ← e2]; exact hbe⟩
theorem form_cases (l : List Bool) : (formN l = 0 ∧ l = List.replicate l.length false) ∨ (formN l = 1 ∧ l = List.replicate l.length true) ∨ formN l = 2 := by
  unfold formN
  split
  · rename_i h; exact .inl ⟨rfl, cnt_zero h⟩
  · split
    · rename_i h; exact .inr (.inl ⟨rfl, cnt_all h⟩)
    · exact .inr (.inr rfl)
theorem rdN_enc {l : List Bool} (h : l.length ≤ 4096) (s : List Int) : rdN (encN l ++ s) = some ((formN l : Int), l, s) := by
  unfold rdN encN
  rw [List.append_assoc, readC_var l.length _ h]
  simp only [List.cons_append]
  have hk : rdK l.length (formN l : Int) (restB l ++ s) = some (l, s) := by
    unfold rdK restB
    rcases form_cases l with ⟨e, hl⟩ | ⟨e, hl⟩ | e
    · rw [e, if_pos (.inl rfl), if_neg (by decide)]
      conv => rhs; rw [hl]
      rfl
    · rw [e, if_pos (.inr rfl), if_neg (by decide)]
      conv => rhs; rw [hl]
      rfl
    · rw [e, if_neg (by decide), if_pos (show ((2 : Nat) : Int) = 2 from rfl), if_pos rfl, rdP_bits h]
  rw [hk]
theorem getN_enc {l : List Bool} (h : l.length ≤ 4096) (s : List Int) : getN (encN l ++ s) = some (l, s) := by
  unfold getN
  rw [rdN_enc h]
  simp
theorem getN_some {b : List Int} (hb : Oct.IsB b) {l : List Bool} {s : List Int} (h : getN b = some (l, s)) : l.length ≤ 4096 ∧ b = encN l ++ s := by
  unfold getN at h
  cases hr : rdN b with
  | none => rw [hr] at h; cases h
  | some p =>
    obtain ⟨k, l1, s1⟩ := p
    rw [hr] at h
    simp only at h
    split at h
    · rename_i hf
      simp only [Option.some.injEq, Prod.mk.injEq] at h
      obtain ⟨rfl, rfl⟩ := h
      obtain ⟨h1, h2⟩ := rdN_some hb hr
      refine ⟨h1, ?_⟩
      unfold encN restB
      rw [h2, List.append_assoc, List.cons_append]
      congr 2
      · exact hf.symm
      · congr 1
        by_cases h3 : k = 2
        · rw [if_pos h3, if_pos (by omega)]
        · rw [if_neg h3, if_neg (by omega)]
    · cases h
theorem rget_eq {b : List Int} (hb : Oct.IsB b) : rgetN b = getN b := by
  unfold rgetN getN
  cases hr : rdN b with
  | none => rfl
  | some p =>
    obtain ⟨k, l, s⟩ := p
    simp only
    obtain ⟨h1, h2⟩ := rdN_some hb hr
    have ht : b.take (b.length - s.length) = varB 9 (l.length : Int) ++ k :: (if k = 2 then bitsB l else []) := by
      have e : b = (varB 9 (l.length : Int) ++ k :: (if k = 2 then bitsB l else [])) ++ s := by rw [h2]; simp
      rw [e, List.length_append, Nat.add_sub_cancel, List.take_left]
    rw [ht]
    by_cases hf : (formN l : Int) = k
    · rw [if_pos hf, if_pos]
      unfold encN restB
      rw [hf]
      congr 2
      by_cases h3 : k = 2
      · rw [if_pos h3, if_pos (by omega)]
      · rw [if_neg h3, if_neg (by omega)]
    · rw [if_neg hf, if_neg]
      intro he
      unfold encN at he
      exact hf (List.cons.inj (List.append_cancel_left he)).1
end Go.Proofs.Ytpcilohiokpmnaa.Nu
