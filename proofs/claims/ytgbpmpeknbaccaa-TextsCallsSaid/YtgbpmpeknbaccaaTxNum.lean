/-
  Columns of texts as bytes: plain facts on lists, no program: the forms plain and by words ('plainT', 'dictT'), and how they are read again ('getT', the document's 'rgetT').
-/
import Derived.Test.YtgbpmpeknbaccaaTxWord
import Derived.Test.YtgbpmpeknbaccaaKeep
import Derived.Test.YtgbpmpeknbaccaaPkNum
namespace Go.Proofs.Ytgbpmpeknbaccaa.Tx
open Go.RowKit
open Ss (IsS)
open Oct (varB readV)
open Pk (wid putR getR IsU Fit sizeN)

/-- may texts be put? -/
def okB (l : List (List Int)) : Bool := decide (l.length ≤ 4096) && l.all fun s => decide (s.length ≤ 65536)
def OkT (l : List (List Int)) : Prop := l.length ≤ 4096 ∧ ∀ s ∈ l, s.length ≤ 65536
theorem okB_iff (l : List (List Int)) : okB l = true ↔ OkT l := by simp [okB, OkT]

/-- a text's bytes -/
def strB (s : List Int) : List Int := varB 9 (s.length : Int) ++ s
def strsB (l : List (List Int)) : List Int := l.flatMap strB
theorem strsB_nil : strsB [] = [] := rfl
theorem strsB_cons (s : List Int) (l : List (List Int)) : strsB (s :: l) = strB s ++ strsB l := by simp [strsB]
theorem strsB_app (l m : List (List Int)) : strsB (l ++ m) = strsB l ++ strsB m := by simp [strsB]
theorem strsB_snoc (l : List (List Int)) (s : List Int) : strsB (l ++ [s]) = strsB l ++ strB s := by simp [strsB]
theorem strB_len (s : List Int) : (strB s).length ≤ s.length + 10 := by
  unfold strB; rw [List.length_append]; have := Oct.varB_le 9 (s.length : Int); omega
theorem strsB_len (l : List (List Int)) (h : ∀ s ∈ l, s.length ≤ 65536) : (strsB l).length ≤ l.length * 65546 := by
  induction l with
  | nil => simp [strsB]
  | cons s l ih =>
    rw [strsB_cons, List.length_append, List.length_cons]
    have := ih fun z hz => h z (by simp [hz])
    have := strB_len s
    have := h s (by simp)
    omega
theorem strB_isB {s : List Int} (h : Bs.IsB s) (hl : s.length ≤ 1000000000) : Oct.IsB (strB s) := In.isB_app (In.varB_isB s.length (by omega)) h
theorem strsB_isB {l : List (List Int)} (h : AllB l) (hl : ∀ s ∈ l, s.length ≤ 1000000000) : Oct.IsB (strsB l) := by
  induction l with
  | nil => intro x hx; cases hx
  | cons s l ih => rw [strsB_cons]; exact In.isB_app (strB_isB (h s (by simp)) (hl s (by simp))) (ih (fun z hz => h z (by simp [hz])) fun z hz => hl z (by simp [hz]))

/-! ### the forms -/
def plainT (l : List (List Int)) : List Int := 1 :: (varB 9 (l.length : Int) ++ strsB l)
def ixT (l : List (List Int)) : List Int := idxsF (wordsF l) l
def tailT (ix : List Int) : List Int := (wid ix : Int) :: (putR ix (wid ix)).2
def dictT (l : List (List Int)) : List Int := 2 :: (varB 9 (l.length : Int) ++ ((varB 9 ((wordsF l).length : Int) ++ strsB (wordsF l)) ++ tailT (ixT l)))
/-- the answer of a form -/
def formR (b : List Int) (l : List (List Int)) : Int × List Int := if okB l = true then (0, b) else (3, [])
def bestT (l : List (List Int)) : List Int := if (dictT l).length < (plainT l).length then dictT l else plainT l

theorem ix_isU {l : List (List Int)} (h : l.length ≤ 65536) : IsU (ixT l) := by
  intro x hx
  obtain ⟨s, hs, rfl⟩ := List.mem_map.1 hx
  have h1 := idx_lt ((mem_words s l).2 hs)
  have := words_len l
  omega
theorem put_ix {l : List (List Int)} (h : l.length ≤ 65536) : (putR (ixT l) (wid (ixT l))).1 = 0 := by
  refine (Pk.put_ok _ _).2 ⟨(Pk.canB_iff _ _).2 ?_, Int.le_refl _⟩
  have := Pk.wid_64 (ix_isU h)
  rw [show (ixT l).length = l.length from idxs_len _ _]
  omega
theorem tail_isB (ix : List Int) (hu : IsU ix) : Oct.IsB (tailT ix) := by
  intro x hx
  rcases List.mem_cons.1 hx with e | hx
  · subst e; have := Pk.wid_64 hu; omega
  · exact (Pk.put_isB ix _).isB x hx

/-! ### read again -/
def readS (b : List Int) : Option (List Int × List Int) :=
  if (readV 0 0 b).2.1 ≠ 0 ∨ 65536 < (readV 0 0 b).1 ∨ ((b.drop (readV 0 0 b).2.2).length : Int) < (readV 0 0 b).1 then none
  else some ((b.drop (readV 0 0 b).2.2).take (readV 0 0 b).1.toNat, (b.drop (readV 0 0 b).2.2).drop (readV 0 0 b).1.toNat)
def readSs : Nat → List Int → Option (List (List Int) × List Int)
  | 0, b => some ([], b)
  | n + 1, b => match readS b with
    | none => none
    | some (s, r) => match readSs n r with
      | none => none
      | some (l, r2) => some (s :: l, r2)
def readC (b : List Int) : Option (Nat × List Int) :=
  if (readV 0 0 b).2.1 ≠ 0 ∨ 4096 < (readV 0 0 b).1 then none else some ((readV 0 0 b).1.toNat, b.drop (readV 0 0 b).2.2)

theorem readS_strB (s r : List Int) (hs : s.length ≤ 65536) : readS (strB s ++ r) = some (s, r) := by
  unfold readS strB
  rw [List.append_assoc, In.readV_var s.length (s ++ r) (by omega)]
  simp only [In.drop_var, Int.toNat_natCast, List.take_left, List.drop_left, List.length_append]
  rw [if_neg (by omega)]
theorem readS_some {b : List Int} (hb : Oct.IsB b) {s r : List Int} (h : readS b = some (s, r)) : s.length ≤ 65536 ∧ b = strB s ++ r := by
  unfold readS at h
  obtain ⟨x, e, n, hv⟩ : ∃ x e n, readV 0 0 b = (x, e, n) := ⟨_, _, _, rfl⟩
  rw [hv] at h
  simp only at h
  split at h
  · cases h
  · rename_i hc
    have he : e = 0 := Classical.byContradiction fun k => hc (.inl k)
    subst he
    obtain ⟨h0, -, hbe⟩ := In.var_readV b hb x n hv
    have hx : x ≤ 65536 := by omega
    have hl : x ≤ ((b.drop n).length : Int) := by omega
    obtain ⟨m, rfl⟩ := Int.eq_ofNat_of_zero_le h0
    rw [Int.toNat_natCast] at h
    simp only [Option.some.injEq, Prod.mk.injEq] at h
    obtain ⟨rfl, rfl⟩ := h
    have hm : ((b.drop n).take m).length = m := by rw [List.length_take]; omega
    refine ⟨by rw [hm]; omega, ?_⟩
    unfold strB
    rw [hm, List.append_assoc, List.take_append_drop]
    exact hbe
theorem readSs_strs : ∀ (l : List (List Int)) (r : List Int), (∀ s ∈ l, s.length ≤ 65536) → readSs l.length (strsB l ++ r) = some (l, r)
  | [], r, _ => rfl
  | s :: l, r, h => by
    rw [strsB_cons, List.append_assoc, List.length_cons, readSs, readS_strB s _ (h s (by simp))]
    simp only [readSs_strs l r fun z hz => h z (by simp [hz])]
theorem isB_right {a b : List Int} (h : Oct.IsB (a ++ b)) : Oct.IsB b := fun x hx => h x (List.mem_append_right a hx)
theorem isB_left {a b : List Int} (h : Oct.IsB (a ++ b)) : Oct.IsB a := fun x hx => h x (List.mem_append_left b hx)
theorem readSs_some : ∀ (n : Nat) (b : List Int), Oct.IsB b → ∀ (l : List (List Int)) (r : List Int), readSs n b = some (l, r) → l.length = n ∧ (∀ s ∈ l, s.length ≤ 65536) ∧ AllB l ∧ b = strsB l ++ r
  | 0, b, _, l, r, h => by
    simp only [readSs, Option.some.injEq, Prod.mk.injEq] at h
    obtain ⟨rfl, rfl⟩ := h
    refine ⟨rfl, fun s hs => ?_, fun s hs => ?_, rfl⟩ <;> cases hs
  | n + 1, b, hb, l, r, h => by
    rw [readSs] at h
    cases hs : readS b with
    | none => rw [hs] at h; cases h
    | some p =>
      obtain ⟨s, r1⟩ := p
      rw [hs] at h
      obtain ⟨h1, h2⟩ := readS_some hb hs
      have hb1 : Oct.IsB (strB s ++ r1) := h2 ▸ hb
      simp only at h
      cases hr : readSs n r1 with
      | none => rw [hr] at h; cases h
      | some q =>
        obtain ⟨l1, r2⟩ := q
        rw [hr] at h
        simp only [Option.some.injEq, Prod.mk.injEq] at h
        obtain ⟨rfl, rfl⟩ := h
        obtain ⟨e1, e2, e3, e4⟩ := readSs_some n r1 (isB_right hb1) l1 r2 hr
        refine ⟨by rw [List.length_cons, e1], fun z hz => ?_, fun z hz => ?_, ?_⟩
        · rcases List.mem_cons.1 hz with e | hz
          · subst e; exact h1
          · exact e2 z hz
        · rcases List.mem_cons.1 hz with e | hz
          · subst e; exact isB_right (isB_left hb1)
          · exact e3 z hz
        · rw [strsB_cons, List.append_assoc, ← e4]; exact h2
theorem readC_var (n : Nat) (r : List Int) (h : n ≤ 4096) : readC (varB 9 (n : Int) ++ r) = some (n, r) := by
  unfold readC
  rw [In.readV_var n r (by omega)]
  simp only [In.drop_var, Int.toNat_natCast]
  rw [if_neg (by omega)]
theorem readC_some {b : List Int} (hb : Oct.IsB b) {n : Nat} {r : List Int} (h : readC b = some (n, r)) : n ≤ 4096 ∧ b = varB 9 (n : Int) ++ r := by
  unfold readC at h
  obtain ⟨x, e, m, hv⟩ : ∃ x e m, readV 0 0 b = (x, e, m) := ⟨_, _, _, rfl⟩
  rw [hv] at h
  simp only at h
  split at h
  · cases h
  · rename_i hc
    have he : e = 0 := Classical.byContradiction fun k => hc (.inl k)
    subst he
    obtain ⟨h0, -, hbe⟩ := In.var_readV b hb x m hv
    obtain ⟨k, rfl⟩ := Int.eq_ofNat_of_zero_le h0
    rw [Int.toNat_natCast] at h
    simp only [Option.some.injEq, Prod.mk.injEq] at h
    obtain ⟨rfl, rfl⟩ := h
    exact ⟨by omega, hbe⟩

/-- as many texts as it says -/
def getPl (b : List Int) : Option (List (List Int) × List Int) := match readC b with
  | none => none
  | some (n, r) => readSs n r
def getIx (n : Nat) : List Int → Option (List Int)
  | [] => none
  | w :: r => if (getR r n w).1 ≠ 0 ∨ (wid (getR r n w).2 : Int) ≠ w then none else some (getR r n w).2
def dictL (ws : List (List Int)) (ix : List Int) : Option (List (List Int)) :=
  if ix.all (fun i => decide (i < (ws.length : Int))) = true then some (ix.map fun i => ws.getD i.toNat []) else none
def getDt (b : List Int) : Option (List (List Int)) := match readC b with
  | none => none
  | some (n, r) => match getPl r with
    | none => none
    | some (ws, r2) => match getIx n r2 with
      | none => none
      | some ix => match dictL ws ix with
        | none => none
        | some l => if wordsF l = ws then some l else none
def endT : Option (List (List Int) × List Int) → Option (List (List Int))
  | some (l, []) => some l
  | _ => none
/-- what the program's Get tells -/
def getT : List Int → Option (List (List Int))
  | [] => none
  | k :: t => if k = 1 then endT (getPl t) else if k = 2 then getDt t else none
theorem getT_cons (k : Int) (t : List Int) : getT (k :: t) = if k = 1 then endT (getPl t) else if k = 2 then getDt t else none := rfl
/-- the answer: an error, the texts -/
def resT : Option (List (List Int)) → Int × List (List Int)
  | some l => (0, l)
  | none => (4, [])

/-- what the document's words tells -/
def rwordsT (n : Nat) (b : List Int) : Option (List (List Int)) :=
  if (readV 0 0 b).2.1 ≠ 0 ∨ (n : Int) < (readV 0 0 b).1 then none else match readSs (readV 0 0 b).1.toNat (b.drop (readV 0 0 b).2.2) with
    | none => none
    | some (_, []) => none
    | some (ws, w :: r) => if (getR r n w).1 ≠ 0 then none else dictL ws (getR r n w).2
def fstT : Option (List (List Int) × List Int) → Option (List (List Int))
  | some (l, _) => some l
  | none => none
def sameT (b : List Int) (enc : List (List Int) → List Int) : Option (List (List Int)) → Option (List (List Int))
  | some l => if enc l = b then some l else none
  | none => none
/-- what the document's Get tells -/
def rgetT (b : List Int) : Option (List (List Int)) := match b with
  | [] => none
  | k :: t => match readC t with
    | none => none
    | some (n, r) => if k = 1 then sameT b plainT (fstT (readSs n r)) else if k = 2 then sameT b dictT (rwordsT n r) else none

theorem rgetT_cons (k : Int) (t : List Int) : rgetT (k :: t) = match readC t with
    | none => none
    | some (n, r) => if k = 1 then sameT (k :: t) plainT (fstT (readSs n r)) else if k = 2 then sameT (k :: t) dictT (rwordsT n r) else none := rfl

theorem dictL_ix {l : List (List Int)} : dictL (wordsF l) (ixT l) = some l := by
  unfold dictL
  rw [if_pos]
  · congr 1
    unfold ixT idxsF
    rw [List.map_map]
    refine (List.map_congr_left fun s hs => ?_).trans (List.map_id l)
    simp only [Function.comp, Int.toNat_natCast, id]
    exact idx_get ((mem_words s l).2 hs)
  · refine List.all_eq_true.2 fun i hi => ?_
    obtain ⟨s, hs, rfl⟩ := List.mem_map.1 hi
    have := idx_lt ((mem_words s l).2 hs)
    simpa using this
theorem dictL_some {ws : List (List Int)} (hn : ws.Nodup) {ix : List Int} (hu : ∀ i ∈ ix, 0 ≤ i) {l : List (List Int)} (h : dictL ws ix = some l) : l.length = ix.length ∧ idxsF ws l = ix ∧ ∀ s ∈ l, s ∈ ws := by
  unfold dictL at h
  split at h
  · rename_i ha
    simp only [Option.some.injEq] at h
    subst h
    have hlt : ∀ i ∈ ix, i.toNat < ws.length := fun i hi => by have h1 := of_decide_eq_true (List.all_eq_true.1 ha i hi); have h2 := hu i hi; omega
    refine ⟨by simp, ?_, fun s hs => ?_⟩
    · unfold idxsF
      rw [List.map_map]
      refine (List.map_congr_left fun i hi => ?_).trans (List.map_id ix)
      simp only [Function.comp, id]
      rw [idx_at hn i.toNat (hlt i hi)]
      have := hu i hi
      omega
    · obtain ⟨i, hi, rfl⟩ := List.mem_map.1 hs
      rw [List.getD_eq_getElem?_getD, List.getElem?_eq_getElem (hlt i hi)]
      exact List.getElem_mem _
  · cases h

theorem getR_tail {l : List (List Int)} (h : l.length ≤ 65536) : getR (putR (ixT l) (wid (ixT l))).2 (l.length : Nat) (wid (ixT l) : Int) = (0, ixT l) := by
  have := Pk.get_put (ixT l) (wid (ixT l)) (ix_isU h) (put_ix h)
  rwa [show (ixT l).length = l.length from idxs_len _ _] at this

theorem get_plain {l : List (List Int)} (h : OkT l) : getT (plainT l) = some l := by
  unfold plainT
  rw [getT_cons, if_pos rfl]
  unfold getPl
  have := readSs_strs l [] h.2
  rw [List.append_nil] at this
  rw [readC_var l.length _ h.1]
  simp only [this, endT]
theorem get_dict {l : List (List Int)} (h : OkT l) : getT (dictT l) = some l := by
  have hw : OkT (wordsF l) := ⟨Nat.le_trans (words_len l) h.1, fun s hs => h.2 s ((mem_words s l).1 hs)⟩
  unfold dictT
  rw [getT_cons, if_neg (by decide), if_pos rfl]
  unfold getDt
  rw [readC_var l.length _ h.1]
  simp only
  unfold getPl
  rw [List.append_assoc, readC_var (wordsF l).length _ hw.1]
  simp only [readSs_strs (wordsF l) _ hw.2]
  have hx : getIx l.length (tailT (ixT l)) = some (ixT l) := by
    unfold tailT
    rw [getIx, getR_tail (by have := h.1; omega)]
    simp
  simp only [hx, dictL_ix, if_true]

theorem get_some {b : List Int} (hb : Oct.IsB b) {l : List (List Int)} (h : getT b = some l) : OkT l ∧ AllB l ∧ (b = plainT l ∨ b = dictT l) := by
  match b, hb, h with
  | k :: t, hb, h =>
    have ht : Oct.IsB t := fun x hx => hb x (by simp [hx])
    rw [getT_cons] at h
    split at h
    · rename_i hk
      unfold getPl at h
      cases hc : readC t with
      | none => rw [hc] at h; cases h
      | some p =>
        obtain ⟨n, r⟩ := p
        rw [hc] at h
        simp only at h
        obtain ⟨hn, ht2⟩ := readC_some ht hc
        cases hs : readSs n r with
        | none => rw [hs] at h; cases h
        | some q =>
          obtain ⟨l1, r1⟩ := q
          rw [hs] at h
          cases r1 with
          | cons y r1 => cases h
          | nil =>
            simp only [endT, Option.some.injEq] at h
            subst h
            obtain ⟨e1, e2, e3, e4⟩ := readSs_some n r (isB_right (ht2 ▸ ht)) l1 [] hs
            refine ⟨⟨by omega, e2⟩, e3, .inl ?_⟩
            rw [List.append_nil] at e4
            rw [hk, ht2, plainT, e1, e4]
    · rename_i hk1
      split at h
      · rename_i hk
        unfold getDt at h
        cases hc : readC t with
        | none => rw [hc] at h; cases h
        | some p =>
          obtain ⟨n, r⟩ := p
          rw [hc] at h
          simp only at h
          obtain ⟨hn, ht2⟩ := readC_some ht hc
          have hr : Oct.IsB r := isB_right (ht2 ▸ ht)
          unfold getPl at h
          cases hc2 : readC r with
          | none => rw [hc2] at h; cases h
          | some p2 =>
            obtain ⟨m, r2⟩ := p2
            rw [hc2] at h
            simp only at h
            obtain ⟨hm, hr2⟩ := readC_some hr hc2
            cases hs : readSs m r2 with
            | none => rw [hs] at h; cases h
            | some q =>
              obtain ⟨ws, r3⟩ := q
              rw [hs] at h
              simp only at h
              obtain ⟨e1, e2, e3, e4⟩ := readSs_some m r2 (isB_right (hr2 ▸ hr)) ws r3 hs
              have hr3 : Oct.IsB r3 := isB_right (e4 ▸ (isB_right (hr2 ▸ hr)))
              cases r3 with
              | nil => simp [getIx] at h
              | cons w r4 =>
                rw [getIx] at h
                by_cases hg : (getR r4 n w).1 ≠ 0 ∨ (wid (getR r4 n w).2 : Int) ≠ w
                · rw [if_pos hg] at h; cases h
                · rw [if_neg hg] at h
                  simp only at h
                  have g1 : (getR r4 n w).1 = 0 := Classical.byContradiction fun k => hg (.inl k)
                  have g2 : (wid (getR r4 n w).2 : Int) = w := Classical.byContradiction fun k => hg (.inr k)
                  obtain ⟨p1, p2, p3, p4⟩ := Pk.put_get r4 n w (Pk.fit_isB fun x hx => hr3 x (by simp [hx])) g1
                  generalize (getR r4 n w).2 = ix at h g2 p1 p2 p3 p4
                  cases hd : dictL ws ix with
                  | none => rw [hd] at h; cases h
                  | some l1 =>
                    rw [hd] at h
                    simp only at h
                    split at h
                    · rename_i hw
                      simp only [Option.some.injEq] at h
                      subst h
                      have hup : ∀ s ∈ l1, s ∈ ws := fun s hs => hw ▸ (mem_words s l1).2 hs
                      have hall : AllB l1 := fun s hs => e3 s (hup s hs)
                      obtain ⟨d1, d2, d3⟩ := dictL_some (hw ▸ (up_words l1 hall).nodup) p4.nonneg hd
                      have hlen : l1.length = n := by omega
                      refine ⟨⟨by omega, fun s hs => e2 s (hup s hs)⟩, hall, .inr ?_⟩
                      have hix : ixT l1 = ix := by unfold ixT; rw [hw, d2]
                      rw [hk, ht2, dictT, hlen, hix, hw, e1, hr2, e4, tailT, g2, p1, List.append_assoc]
                    · cases h
      · cases h

theorem rget_plain {l : List (List Int)} (h : OkT l) : rgetT (plainT l) = some l := by
  have := readSs_strs l [] h.2
  rw [List.append_nil] at this
  have hc := readC_var l.length (strsB l) h.1
  have e : plainT l = 1 :: (varB 9 (l.length : Int) ++ strsB l) := rfl
  rw [e, rgetT_cons, hc]
  dsimp only
  rw [if_pos rfl, this, fstT, sameT, if_pos e]
theorem rget_dict {l : List (List Int)} (h : OkT l) : rgetT (dictT l) = some l := by
  have hw : OkT (wordsF l) := ⟨Nat.le_trans (words_len l) h.1, fun s hs => h.2 s ((mem_words s l).1 hs)⟩
  have hrw : rwordsT l.length (varB 9 ((wordsF l).length : Int) ++ strsB (wordsF l) ++ tailT (ixT l)) = some l := by
    have := words_len l
    unfold rwordsT
    rw [List.append_assoc, In.readV_var (wordsF l).length _ (by have := hw.1; omega)]
    simp only [In.drop_var, Int.toNat_natCast]
    rw [if_neg (by omega), readSs_strs (wordsF l) _ hw.2]
    unfold tailT
    simp only
    rw [getR_tail (by have := h.1; omega), if_neg (by simp)]
    exact dictL_ix
  have hc := readC_var l.length (varB 9 ((wordsF l).length : Int) ++ strsB (wordsF l) ++ tailT (ixT l)) h.1
  have e : dictT l = 2 :: (varB 9 (l.length : Int) ++ (varB 9 ((wordsF l).length : Int) ++ strsB (wordsF l) ++ tailT (ixT l))) := rfl
  rw [e, rgetT_cons, hc]
  dsimp only
  rw [if_neg (by decide), if_pos rfl, hrw, sameT, if_pos e]
theorem readC_le {b : List Int} (hb : Oct.IsB b) {n : Nat} {r : List Int} (h : readC b = some (n, r)) : n ≤ 4096 ∧ Oct.IsB r := by
  obtain ⟨h1, h2⟩ := readC_some hb h
  exact ⟨h1, isB_right (h2 ▸ hb)⟩
theorem dictL_mem {ws : List (List Int)} {ix : List Int} {l : List (List Int)} (h : dictL ws ix = some l) : l.length = ix.length ∧ ∀ s ∈ l, s = [] ∨ s ∈ ws := by
  unfold dictL at h
  split at h
  · simp only [Option.some.injEq] at h
    subst h
    refine ⟨by simp, fun s hs => ?_⟩
    obtain ⟨i, _, rfl⟩ := List.mem_map.1 hs
    rw [List.getD_eq_getElem?_getD]
    by_cases hi : i.toNat < ws.length
    · rw [List.getElem?_eq_getElem hi]; exact .inr (List.getElem_mem _)
    · rw [List.getElem?_eq_none (by omega)]; exact .inl rfl
  · cases h
/-- what the document's words tells may be -/
theorem rwords_ok {n : Nat} (hn : n ≤ 4096) {b : List Int} (hb : Oct.IsB b) {l : List (List Int)} (h : rwordsT n b = some l) : l.length = n ∧ OkT l ∧ AllB l := by
  unfold rwordsT at h
  obtain ⟨x, e, m, hv⟩ : ∃ x e m, readV 0 0 b = (x, e, m) := ⟨_, _, _, rfl⟩
  rw [hv] at h
  simp only at h
  split at h
  · cases h
  · rename_i hc
    have he : e = 0 := Classical.byContradiction fun k => hc (.inl k)
    subst he
    obtain ⟨h0, -, hbe⟩ := In.var_readV b hb x m hv
    have hr : Oct.IsB (b.drop m) := In.isB_drop hb m
    cases hs : readSs x.toNat (b.drop m) with
    | none => rw [hs] at h; cases h
    | some q =>
      obtain ⟨ws, r3⟩ := q
      rw [hs] at h
      obtain ⟨e1, e2, e3, e4⟩ := readSs_some _ _ hr ws r3 hs
      have hr3 : Oct.IsB r3 := isB_right (e4 ▸ hr)
      cases r3 with
      | nil => simp at h
      | cons w r4 =>
        simp only at h
        split at h
        · cases h
        · rename_i hg
          have g1 : (getR r4 n w).1 = 0 := Classical.byContradiction fun k => hg k
          obtain ⟨p1, p2, p3, p4⟩ := Pk.put_get r4 n w (Pk.fit_isB fun x hx => hr3 x (by simp [hx])) g1
          obtain ⟨d1, d2⟩ := dictL_mem h
          refine ⟨by omega, ⟨by omega, fun s hs => ?_⟩, fun s hs => ?_⟩
          · rcases d2 s hs with rfl | k
            · simp
            · exact e2 s k
          · rcases d2 s hs with rfl | k
            · intro x hx; cases hx
            · exact e3 s k
theorem rget_eq {b : List Int} (hb : Oct.IsB b) : rgetT b = getT b := by
  cases hr : rgetT b with
  | some l =>
    match b, hb, hr with
    | k :: t, hb, hr =>
      have ht : Oct.IsB t := fun x hx => hb x (by simp [hx])
      rw [rgetT_cons] at hr
      cases hc : readC t with
      | none => rw [hc] at hr; cases hr
      | some p =>
        obtain ⟨n, r⟩ := p
        obtain ⟨hn, hrb⟩ := readC_le ht hc
        rw [hc] at hr
        simp only at hr
        split at hr
        · cases hs : readSs n r with
          | none => rw [hs] at hr; cases hr
          | some q =>
            obtain ⟨l1, r1⟩ := q
            obtain ⟨e1, e2, -, -⟩ := readSs_some n r hrb l1 r1 hs
            rw [hs, fstT, sameT] at hr
            split at hr
            · rename_i he
              simp only [Option.some.injEq] at hr
              subst hr
              rw [← he, get_plain ⟨by omega, e2⟩]
            · cases hr
        · split at hr
          · cases hw : rwordsT n r with
            | none => rw [hw] at hr; cases hr
            | some l1 =>
              rw [hw, sameT] at hr
              split at hr
              · rename_i he
                simp only [Option.some.injEq] at hr
                subst hr
                rw [← he, get_dict (rwords_ok hn hrb hw).2.1]
              · cases hr
          · cases hr
  | none =>
    cases hg : getT b with
    | none => rfl
    | some l =>
      obtain ⟨h1, h2, h3⟩ := get_some hb hg
      rcases h3 with e | e
      · rw [e, rget_plain h1] at hr; cases hr
      · rw [e, rget_dict h1] at hr; cases hr
end Go.Proofs.Ytgbpmpeknbaccaa.Tx
