/-
  What the program's and the document's functions do, in memory and as plain functions: ZnNum.
-/
import Derived.Lib.Bytealg

namespace Go.Proofs.YtljanfnhmhimiaaGreat.Zn

/-- A comparison that is a total order. -/
structure Tot {α : Type} (f : α → α → Int) : Prop where
  range : ∀ a b, f a b = -1 ∨ f a b = 0 ∨ f a b = 1
  anti : ∀ a b, f a b = - f b a
  zero : ∀ a b, f a b = 0 ↔ a = b
  trans : ∀ a b c, f a b ≤ 0 → f b c ≤ 0 → f a c ≤ 0

theorem Tot.lt_le {α : Type} {f : α → α → Int} (h : Tot f) {a b c : α} (h1 : f a b < 0) (h2 : f b c ≤ 0) : f a c < 0 := by
  have h3 := h.trans a b c (by omega) h2
  have h4 : f a c ≠ 0 := fun e => by
    have := (h.zero a c).1 e
    subst this
    have := h.anti a b
    omega
  omega
theorem Tot.self {α : Type} {f : α → α → Int} (h : Tot f) (a : α) : f a a = 0 := (h.zero a a).2 rfl

def cmpI (x y : Int) : Int := if x < y then -1 else if y < x then 1 else 0
theorem cmpI_tot : Tot cmpI := by
  constructor
  · intro a b; unfold cmpI; split <;> (try split) <;> simp
  · intro a b; unfold cmpI; split <;> (try split) <;> (try split) <;> omega
  · intro a b; unfold cmpI; split <;> (try split) <;> omega
  · intro a b c; unfold cmpI; split <;> (try split) <;> (try split) <;> (try split) <;> (try split) <;> (try split) <;> omega

/-- one behind the other -/
def lex {α β : Type} (f : α → α → Int) (g : β → β → Int) (a b : α × β) : Int := if f a.1 b.1 ≠ 0 then f a.1 b.1 else g a.2 b.2
theorem lex_tot {α β : Type} {f : α → α → Int} {g : β → β → Int} (hf : Tot f) (hg : Tot g) : Tot (lex f g) := by
  constructor
  · intro a b; unfold lex; split
    · exact hf.range _ _
    · exact hg.range _ _
  · intro a b
    unfold lex
    have h1 := hf.anti a.1 b.1
    have h2 := hg.anti a.2 b.2
    by_cases h : f a.1 b.1 = 0
    · rw [if_neg (by simpa using h), if_neg (by omega)]; exact h2
    · rw [if_pos h, if_pos (by omega)]; exact h1
  · intro a b
    unfold lex
    by_cases h : f a.1 b.1 = 0
    · rw [if_neg (by simpa using h), hg.zero]
      exact ⟨fun e => Prod.ext ((hf.zero _ _).1 h) e, fun e => by rw [e]⟩
    · rw [if_pos h]
      exact ⟨fun e => absurd e h, fun e => by rw [e]; exact hf.self _⟩
  · intro a b c h1 h2
    unfold lex at h1 h2 ⊢
    by_cases e1 : f a.1 b.1 = 0
    · rw [if_neg (by simpa using e1)] at h1
      have e := (hf.zero _ _).1 e1
      rw [e]
      by_cases e2 : f b.1 c.1 = 0
      · rw [if_neg (by simpa using e2)] at h2 ⊢
        exact hg.trans _ _ _ h1 h2
      · rw [if_pos e2] at h2 ⊢
        exact h2
    · rw [if_pos e1] at h1
      by_cases e2 : f b.1 c.1 = 0
      · have e := (hf.zero _ _).1 e2
        rw [← e, if_pos e1]
        exact h1
      · rw [if_pos e2] at h2
        have h3 := hf.lt_le (a := a.1) (b := b.1) (c := c.1) (by omega) h2
        rw [if_pos (by omega)]
        omega

theorem u8_lt {a b : UInt8} : a < b ↔ a.toNat < b.toNat := UInt8.lt_iff_toNat_lt
theorem u8_eq {a b : UInt8} (h : a.toNat = b.toNat) : a = b := UInt8.toNat_inj.1 h
open Lib (compareBytes)
theorem cb_cons (a b : UInt8) (l m : List UInt8) : compareBytes (a :: l) (b :: m) = lex cmpI compareBytes ((a.toNat : Int), l) ((b.toNat : Int), m) := by
  rw [compareBytes]
  unfold lex cmpI
  simp only [u8_lt]
  by_cases h1 : a.toNat < b.toNat
  · have : (a.toNat : Int) < b.toNat := by omega
    simp [h1, this]
  · by_cases h2 : b.toNat < a.toNat
    · have h3 : (b.toNat : Int) < a.toNat := by omega
      have h4 : ¬ (a.toNat : Int) < b.toNat := by omega
      simp [h1, h2, h3, h4]
    · have h3 : ¬ (b.toNat : Int) < a.toNat := by omega
      have h4 : ¬ (a.toNat : Int) < b.toNat := by omega
      simp [h1, h2, h3, h4]

theorem cb_range : ∀ a b, compareBytes a b = -1 ∨ compareBytes a b = 0 ∨ compareBytes a b = 1
  | [], [] => by simp [compareBytes]
  | [], _ :: _ => by simp [compareBytes]
  | _ :: _, [] => by simp [compareBytes]
  | a :: l, b :: m => by
    rw [cb_cons]
    unfold lex
    split
    · exact cmpI_tot.range _ _
    · exact cb_range l m
theorem cb_anti : ∀ a b, compareBytes a b = - compareBytes b a
  | [], [] => by simp [compareBytes]
  | [], _ :: _ => by simp [compareBytes]
  | _ :: _, [] => by simp [compareBytes]
  | a :: l, b :: m => by
    rw [cb_cons, cb_cons]
    unfold lex
    have h1 := cmpI_tot.anti (a.toNat : Int) b.toNat
    have h2 := cb_anti l m
    simp only
    split <;> split <;> omega
theorem cb_zero : ∀ a b, compareBytes a b = 0 ↔ a = b
  | [], [] => by simp [compareBytes]
  | [], _ :: _ => by simp [compareBytes]
  | _ :: _, [] => by simp [compareBytes]
  | a :: l, b :: m => by
    rw [cb_cons]
    unfold lex
    have h1 := cmpI_tot.zero (a.toNat : Int) b.toNat
    have h2 := cb_zero l m
    simp only
    by_cases h : cmpI (a.toNat : Int) b.toNat = 0
    · rw [if_neg (by simpa using h), h2]
      have e := u8_eq (show a.toNat = b.toNat by have := h1.1 h; omega)
      rw [e]
      simp
    · rw [if_pos h]
      refine ⟨fun e => absurd e h, fun e => ?_⟩
      injection e with e1 e2
      exact h1.2 (by rw [e1])
theorem cb_trans : ∀ a b c, compareBytes a b ≤ 0 → compareBytes b c ≤ 0 → compareBytes a c ≤ 0
  | [], _, [] => by simp [compareBytes]
  | [], _, _ :: _ => by simp [compareBytes]
  | _ :: _, [], _ => by simp [compareBytes]
  | _ :: _, _ :: _, [] => by simp [compareBytes]
  | a :: l, b :: m, c :: n => by
    have ih := cb_trans l m n
    rw [cb_cons, cb_cons, cb_cons]
    intro h1 h2
    unfold lex at h1 h2 ⊢
    simp only at h1 h2 ⊢
    by_cases e1 : cmpI (a.toNat : Int) b.toNat = 0
    · rw [if_neg (by simpa using e1)] at h1
      have e := (cmpI_tot.zero _ _).1 e1
      rw [e]
      by_cases e2 : cmpI (b.toNat : Int) c.toNat = 0
      · rw [if_neg (by simpa using e2)] at h2 ⊢
        exact ih h1 h2
      · rw [if_pos e2] at h2 ⊢
        exact h2
    · rw [if_pos e1] at h1
      by_cases e2 : cmpI (b.toNat : Int) c.toNat = 0
      · have e := (cmpI_tot.zero _ _).1 e2
        rw [← e, if_pos e1]
        exact h1
      · rw [if_pos e2] at h2
        have h3 := cmpI_tot.lt_le (a := (a.toNat : Int)) (b := (b.toNat : Int)) (c := (c.toNat : Int)) (by omega) h2
        rw [if_pos (by omega)]
        omega
def cmpS (s t : ByteArray) : Int := compareBytes s.data.toList t.data.toList
theorem cmpS_tot : Tot cmpS := by
  refine ⟨fun _ _ => cb_range _ _, fun _ _ => cb_anti _ _, fun s t => ?_, fun _ _ _ => cb_trans _ _ _⟩
  unfold cmpS
  rw [cb_zero]
  refine ⟨fun h => ?_, fun h => by rw [h]⟩
  apply ByteArray.ext
  exact Array.ext' h

/-! ### cells -/
structure Cel where
  k : Int
  n : Int
  s : ByteArray

theorem Cel.ext' {a b : Cel} (h1 : a.k = b.k) (h2 : a.n = b.n) (h3 : a.s = b.s) : a = b := by
  cases a; cases b; simp only at h1 h2 h3; rw [h1, h2, h3]
def zeroC : Cel := ⟨0, 0, ⟨#[]⟩⟩
def orI (a b c : Int) : Int := if a ≠ 0 then a else if b ≠ 0 then b else c
def cmpC (a b : Cel) : Int := orI (cmpI a.k b.k) (cmpI a.n b.n) (cmpS a.s b.s)
theorem cmpC_lex (a b : Cel) : cmpC a b = lex cmpI (lex cmpI cmpS) (a.k, a.n, a.s) (b.k, b.n, b.s) := rfl
theorem cmpC_tot : Tot cmpC := by
  have h := lex_tot cmpI_tot (lex_tot cmpI_tot cmpS_tot)
  refine ⟨fun a b => by rw [cmpC_lex]; exact h.range _ _, fun a b => by rw [cmpC_lex, cmpC_lex]; exact h.anti _ _, fun a b => ?_, fun a b c h1 h2 => by rw [cmpC_lex] at h1 h2 ⊢; exact h.trans _ _ _ h1 h2⟩
  rw [cmpC_lex, h.zero]
  refine ⟨fun e => ?_, fun e => by rw [e]⟩
  injection e with e1 e2
  injection e2 with e2 e3
  exact Cel.ext' e1 e2 e3
/-- are cells the same? -/
def eqC (a b : Cel) : Bool := decide (a.k = b.k ∧ a.n = b.n ∧ a.s = b.s)
theorem eqC_iff {a b : Cel} : eqC a b = true ↔ a = b := by
  unfold eqC
  rw [decide_eq_true_iff]
  exact ⟨fun ⟨x, y, z⟩ => Cel.ext' x y z, fun e => by rw [e]; exact ⟨rfl, rfl, rfl⟩⟩
theorem eqC_self (a : Cel) : eqC a a = true := eqC_iff.2 rfl
/-- does an order fit an op? -/
def opB (op o : Int) : Bool := if op = 1 then o == 0 else if op = 2 then o != 0 else if op = 3 then decide (o < 0) else if op = 4 then decide (o ≤ 0) else if op = 5 then decide (0 < o) else if op = 6 then decide (0 ≤ o) else false
def isB (op : Int) (a b : Cel) : Bool := decide (a.k ≠ 0 ∧ a.k = b.k) && opB op (cmpC a b)
/-! ### zones -/
structure Zon where
  cnt : Int
  nul : Int
  min : Cel
  max : Cel
def zeroZ : Zon := ⟨0, 0, zeroC, zeroC⟩
def oneZ (c : Cel) : Zon := if c.k = 0 then ⟨1, 1, zeroC, zeroC⟩ else ⟨1, 0, c, c⟩
def joinZ (a b : Zon) : Zon :=
  if a.cnt = a.nul then ⟨a.cnt + b.cnt, a.nul + b.nul, b.min, b.max⟩
  else ⟨a.cnt + b.cnt, a.nul + b.nul, if b.cnt = b.nul ∨ cmpC a.min b.min < 0 then a.min else b.min, if b.cnt = b.nul ∨ 0 < cmpC a.max b.max then a.max else b.max⟩
def ofZ (l : List Cel) : Zon := l.foldl (fun z c => joinZ z (oneZ c)) zeroZ
theorem ofZ_snoc (l : List Cel) (c : Cel) : ofZ (l ++ [c]) = joinZ (ofZ l) (oneZ c) := by simp [ofZ]
def eqZ (a b : Zon) : Bool := decide (a.cnt = b.cnt ∧ a.nul = b.nul) && (eqC a.min b.min && eqC a.max b.max)
theorem eqZ_iff {a b : Zon} : eqZ a b = true ↔ a = b := by
  unfold eqZ
  rw [Bool.and_eq_true, Bool.and_eq_true, eqC_iff, eqC_iff, decide_eq_true_iff]
  constructor
  · rintro ⟨⟨h1, h2⟩, h3, h4⟩
    cases a; cases b; simp only at h1 h2 h3 h4; rw [h1, h2, h3, h4]
  · rintro rfl; exact ⟨⟨rfl, rfl⟩, rfl, rfl⟩
theorem eqZ_self (a : Zon) : eqZ a a = true := eqZ_iff.2 rfl

structure Good (z : Zon) : Prop where
  nul : 0 ≤ z.nul
  le : z.nul ≤ z.cnt
  none : z.cnt = z.nul → z.min = zeroC ∧ z.max = zeroC
theorem good_zero : Good zeroZ := ⟨by decide, by decide, fun _ => ⟨rfl, rfl⟩⟩
theorem good_one (c : Cel) : Good (oneZ c) := by
  unfold oneZ
  split
  · exact ⟨by decide, by decide, fun _ => ⟨rfl, rfl⟩⟩
  · exact ⟨Int.le_refl _, by simp, fun e => by simp at e⟩
theorem join_cnt (a b : Zon) : (joinZ a b).cnt = a.cnt + b.cnt := by unfold joinZ; split <;> rfl
theorem join_nul (a b : Zon) : (joinZ a b).nul = a.nul + b.nul := by unfold joinZ; split <;> rfl
theorem good_join {a b : Zon} (ha : Good a) (hb : Good b) : Good (joinZ a b) := by
  have h1 := ha.nul
  have h2 := ha.le
  have h3 := hb.nul
  have h4 := hb.le
  refine ⟨by rw [join_nul]; omega, by rw [join_nul, join_cnt]; omega, fun e => ?_⟩
  rw [join_nul, join_cnt] at e
  have e1 : a.cnt = a.nul := by omega
  have e2 : b.cnt = b.nul := by omega
  unfold joinZ
  rw [if_pos e1]
  exact hb.none e2
theorem join_none {a b : Zon} (h : a.cnt = a.nul) : joinZ a b = ⟨a.cnt + b.cnt, a.nul + b.nul, b.min, b.max⟩ := by unfold joinZ; rw [if_pos h]
theorem join_left {a b : Zon} (h : a.cnt ≠ a.nul) (k : b.cnt = b.nul) : joinZ a b = ⟨a.cnt + b.cnt, a.nul + b.nul, a.min, a.max⟩ := by unfold joinZ; rw [if_neg h, if_pos (.inl k), if_pos (.inl k)]
def minC (a b : Cel) : Cel := if cmpC a b < 0 then a else b
def maxC (a b : Cel) : Cel := if 0 < cmpC a b then a else b
theorem join_both {a b : Zon} (h : a.cnt ≠ a.nul) (k : b.cnt ≠ b.nul) : joinZ a b = ⟨a.cnt + b.cnt, a.nul + b.nul, minC a.min b.min, maxC a.max b.max⟩ := by
  unfold joinZ minC maxC
  rw [if_neg h]
  simp [k]
theorem minC_comm (a b : Cel) : minC a b = minC b a := by
  unfold minC
  have h1 := cmpC_tot.anti a b
  by_cases h : cmpC a b < 0
  · rw [if_pos h, if_neg (by omega)]
  · rw [if_neg h]
    split
    · rfl
    · exact ((cmpC_tot.zero a b).1 (by omega)).symm
theorem maxC_comm (a b : Cel) : maxC a b = maxC b a := by
  unfold maxC
  have h1 := cmpC_tot.anti a b
  by_cases h : 0 < cmpC a b
  · rw [if_pos h, if_neg (by omega)]
  · rw [if_neg h]
    split
    · rfl
    · exact ((cmpC_tot.zero a b).1 (by omega)).symm
/-- no greater -/
def Le (a b : Cel) : Prop := cmpC a b ≤ 0
theorem Le.refl (a : Cel) : Le a a := by unfold Le; rw [cmpC_tot.self]; exact Int.le_refl _
theorem Le.trans {a b c : Cel} (h : Le a b) (k : Le b c) : Le a c := cmpC_tot.trans _ _ _ h k
theorem Le.anti {a b : Cel} (h : Le a b) (k : Le b a) : a = b := by
  unfold Le at h k
  have := cmpC_tot.anti a b
  exact (cmpC_tot.zero a b).1 (by omega)
theorem min_le1 (a b : Cel) : Le (minC a b) a := by
  unfold minC
  split
  · exact Le.refl a
  · unfold Le; have := cmpC_tot.anti a b; omega
theorem min_le2 (a b : Cel) : Le (minC a b) b := by rw [minC_comm]; exact min_le1 b a
theorem min_or (a b : Cel) : minC a b = a ∨ minC a b = b := by unfold minC; split <;> simp
theorem max_le1 (a b : Cel) : Le a (maxC a b) := by
  unfold maxC
  split
  · exact Le.refl a
  · unfold Le; omega
theorem max_le2 (a b : Cel) : Le b (maxC a b) := by rw [maxC_comm]; exact max_le1 b a
theorem max_or (a b : Cel) : maxC a b = a ∨ maxC a b = b := by unfold maxC; split <;> simp
theorem min_unique {a b m : Cel} (h1 : Le m a) (h2 : Le m b) (h3 : m = a ∨ m = b) : m = minC a b := by
  refine Le.anti ?_ ?_
  · rcases min_or a b with e | e <;> rw [e] <;> assumption
  · rcases h3 with e | e <;> rw [e]
    · exact min_le1 a b
    · exact min_le2 a b
theorem max_unique {a b m : Cel} (h1 : Le a m) (h2 : Le b m) (h3 : m = a ∨ m = b) : m = maxC a b := by
  refine Le.anti ?_ ?_
  · rcases h3 with e | e <;> rw [e]
    · exact max_le1 a b
    · exact max_le2 a b
  · rcases max_or a b with e | e <;> rw [e] <;> assumption
theorem minC_assoc (a b c : Cel) : minC (minC a b) c = minC a (minC b c) := by
  refine min_unique ((min_le1 _ _).trans (min_le1 _ _)) ?_ ?_
  · rcases min_or b c with e | e <;> rw [e]
    · exact (min_le1 _ _).trans (min_le2 _ _)
    · exact min_le2 _ _
  · rcases min_or (minC a b) c with e | e
    · rcases min_or a b with e2 | e2
      · left; rw [e, e2]
      · right
        refine Le.anti ?_ ?_
        · rcases min_or b c with e3 | e3 <;> rw [e3]
          · exact (min_le1 _ _).trans (min_le2 _ _)
          · exact min_le2 _ _
        · rw [e, e2]; exact min_le1 _ _
    · right
      refine Le.anti ?_ ?_
      · rcases min_or b c with e3 | e3 <;> rw [e3]
        · exact (min_le1 _ _).trans (min_le2 _ _)
        · exact min_le2 _ _
      · rw [e]; exact min_le2 _ _
theorem maxC_assoc (a b c : Cel) : maxC (maxC a b) c = maxC a (maxC b c) := by
  refine max_unique ((max_le1 _ _).trans (max_le1 _ _)) ?_ ?_
  · rcases max_or b c with e | e <;> rw [e]
    · exact (max_le2 _ _).trans (max_le1 _ _)
    · exact max_le2 _ _
  · rcases max_or (maxC a b) c with e | e
    · rcases max_or a b with e2 | e2
      · left; rw [e, e2]
      · right
        refine Le.anti ?_ ?_
        · rw [e, e2]; exact max_le1 _ _
        · rcases max_or b c with e3 | e3 <;> rw [e3]
          · exact (max_le2 _ _).trans (max_le1 _ _)
          · exact max_le2 _ _
    · right
      refine Le.anti ?_ ?_
      · rw [e]; exact max_le2 _ _
      · rcases max_or b c with e3 | e3 <;> rw [e3]
        · exact (max_le2 _ _).trans (max_le1 _ _)
        · exact max_le2 _ _

theorem zon_eq {a b : Zon} (h1 : a.cnt = b.cnt) (h2 : a.nul = b.nul) (h3 : a.min = b.min) (h4 : a.max = b.max) : a = b := by
  cases a; cases b; simp only at h1 h2 h3 h4; rw [h1, h2, h3, h4]
theorem join_zero {a : Zon} (ha : Good a) : joinZ a zeroZ = a := by
  by_cases h : a.cnt = a.nul
  · rw [join_none h]
    obtain ⟨x1, x2⟩ := ha.none h
    exact zon_eq (Int.add_zero _) (Int.add_zero _) x1.symm x2.symm
  · rw [join_left h rfl]
    exact zon_eq (Int.add_zero _) (Int.add_zero _) rfl rfl
theorem zero_join (a : Zon) : joinZ zeroZ a = a := by
  rw [join_none rfl]
  exact zon_eq (Int.zero_add _) (Int.zero_add _) rfl rfl
theorem join_assoc {a b c : Zon} (ha : Good a) (hb : Good b) (hc : Good c) : joinZ (joinZ a b) c = joinZ a (joinZ b c) := by
  have a1 := ha.le
  have b1 := hb.le
  have c1 := hc.le
  have hcnt := join_cnt a b
  have hnul := join_nul a b
  have hcnt2 := join_cnt b c
  have hnul2 := join_nul b c
  have ecnt : (joinZ (joinZ a b) c).cnt = (joinZ a (joinZ b c)).cnt := by simp only [join_cnt]; omega
  have enul : (joinZ (joinZ a b) c).nul = (joinZ a (joinZ b c)).nul := by simp only [join_nul]; omega
  by_cases h : a.cnt = a.nul
  · by_cases k : b.cnt = b.nul
    · refine zon_eq ecnt enul ?_ ?_
      · rw [join_none (show (joinZ a b).cnt = (joinZ a b).nul by omega), join_none h, join_none k, join_none h]
      · rw [join_none (show (joinZ a b).cnt = (joinZ a b).nul by omega), join_none h, join_none k, join_none h]
    · have e : joinZ a (joinZ b c) = ⟨_, _, (joinZ b c).min, (joinZ b c).max⟩ := join_none h
      by_cases m : c.cnt = c.nul
      · refine zon_eq ecnt enul ?_ ?_
        · rw [e, join_left (show (joinZ a b).cnt ≠ (joinZ a b).nul by omega) m, join_none h, join_left k m]
        · rw [e, join_left (show (joinZ a b).cnt ≠ (joinZ a b).nul by omega) m, join_none h, join_left k m]
      · refine zon_eq ecnt enul ?_ ?_
        · rw [e, join_both (show (joinZ a b).cnt ≠ (joinZ a b).nul by omega) m, join_none h, join_both k m]
        · rw [e, join_both (show (joinZ a b).cnt ≠ (joinZ a b).nul by omega) m, join_none h, join_both k m]
  · have hn : (joinZ a b).cnt ≠ (joinZ a b).nul := by omega
    by_cases k : b.cnt = b.nul
    · by_cases m : c.cnt = c.nul
      · have hm : (joinZ b c).cnt = (joinZ b c).nul := by omega
        refine zon_eq ecnt enul ?_ ?_
        · rw [join_left hn m, join_left h k, join_left h hm]
        · rw [join_left hn m, join_left h k, join_left h hm]
      · have hm : (joinZ b c).cnt ≠ (joinZ b c).nul := by omega
        refine zon_eq ecnt enul ?_ ?_
        · rw [join_both hn m, join_left h k, join_both h hm, join_none k]
        · rw [join_both hn m, join_left h k, join_both h hm, join_none k]
    · have hm : (joinZ b c).cnt ≠ (joinZ b c).nul := by omega
      by_cases m : c.cnt = c.nul
      · refine zon_eq ecnt enul ?_ ?_
        · rw [join_left hn m, join_both h k, join_both h hm, join_left k m]
        · rw [join_left hn m, join_both h k, join_both h hm, join_left k m]
      · refine zon_eq ecnt enul ?_ ?_
        · rw [join_both hn m, join_both h k, join_both h hm, join_both k m]
          exact minC_assoc _ _ _
        · rw [join_both hn m, join_both h k, join_both h hm, join_both k m]
          exact maxC_assoc _ _ _

theorem fold_good : ∀ (l : List Cel) (z : Zon), Good z → Good (l.foldl (fun z c => joinZ z (oneZ c)) z)
  | [], _, h => h
  | c :: l, _, h => fold_good l _ (good_join h (good_one c))
theorem good_of (l : List Cel) : Good (ofZ l) := fold_good l _ good_zero
theorem fold_of : ∀ (l : List Cel) (z : Zon), Good z → l.foldl (fun z c => joinZ z (oneZ c)) z = joinZ z (ofZ l)
  | [], z, h => (join_zero h).symm
  | c :: l, z, h => by
    rw [List.foldl_cons, fold_of l _ (good_join h (good_one c))]
    have e : ofZ (c :: l) = joinZ (oneZ c) (ofZ l) := by
      unfold ofZ
      rw [List.foldl_cons, zero_join]
      exact fold_of l _ (good_one c)
    rw [e, join_assoc h (good_one c) (good_of l)]
theorem of_app (a b : List Cel) : ofZ (a ++ b) = joinZ (ofZ a) (ofZ b) := by
  unfold ofZ
  rw [List.foldl_append]
  exact fold_of b _ (good_of a)
theorem of_cons (c : Cel) (l : List Cel) : ofZ (c :: l) = joinZ (oneZ c) (ofZ l) := by
  have h := of_app [c] l
  have e : ofZ [c] = oneZ c := by unfold ofZ; rw [List.foldl_cons, zero_join]; rfl
  rw [e] at h
  exact h

theorem one_cnt (c : Cel) : (oneZ c).cnt = 1 := by unfold oneZ; split <;> rfl
theorem one_nul (c : Cel) : (oneZ c).nul = if c.k = 0 then 1 else 0 := by unfold oneZ; split <;> rfl
theorem of_cnt : ∀ l : List Cel, (ofZ l).cnt = l.length
  | [] => rfl
  | c :: l => by rw [of_cons, join_cnt, one_cnt, of_cnt l, List.length_cons]; omega

/-- What the zone of cells is: its ends are two of them, and the others lie between. -/
structure Holds (l : List Cel) (z : Zon) : Prop where
  has : ∀ x ∈ l, x.k ≠ 0 → z.cnt ≠ z.nul ∧ Le z.min x ∧ Le x z.max
  mins : z.cnt ≠ z.nul → z.min ∈ l ∧ z.min.k ≠ 0
  maxs : z.cnt ≠ z.nul → z.max ∈ l ∧ z.max.k ≠ 0
theorem holds_of : ∀ l : List Cel, Holds l (ofZ l)
  | [] => ⟨(fun _ h => by cases h), (fun h => absurd rfl h), (fun h => absurd rfl h)⟩
  | c :: l => by
    have ih := holds_of l
    have g := good_of l
    have g1 := good_one c
    rw [of_cons]
    by_cases hc : c.k = 0
    · have e1 : oneZ c = ⟨1, 1, zeroC, zeroC⟩ := by unfold oneZ; rw [if_pos hc]
      have e : joinZ (oneZ c) (ofZ l) = ⟨1 + (ofZ l).cnt, 1 + (ofZ l).nul, (ofZ l).min, (ofZ l).max⟩ := by rw [e1, join_none rfl]
      rw [e]
      refine ⟨fun x hx hk => ?_, fun h => ?_, fun h => ?_⟩
      · rcases List.mem_cons.1 hx with rfl | hx
        · exact absurd hc hk
        · have := ih.has x hx hk
          exact ⟨by simp only; omega, this.2⟩
      · have := ih.mins (fun e => h (by simp only; omega))
        exact ⟨List.mem_cons_of_mem _ this.1, this.2⟩
      · have := ih.maxs (fun e => h (by simp only; omega))
        exact ⟨List.mem_cons_of_mem _ this.1, this.2⟩
    · have e1 : oneZ c = ⟨1, 0, c, c⟩ := by unfold oneZ; rw [if_neg hc]
      have hne : (oneZ c).cnt ≠ (oneZ c).nul := by rw [e1]; simp
      have gj := good_join g1 g
      have hjn : (joinZ (oneZ c) (ofZ l)).cnt ≠ (joinZ (oneZ c) (ofZ l)).nul := by
        rw [join_cnt, join_nul, e1]
        have := g.le
        simp only
        omega
      by_cases hl : (ofZ l).cnt = (ofZ l).nul
      · have e : joinZ (oneZ c) (ofZ l) = ⟨(oneZ c).cnt + (ofZ l).cnt, (oneZ c).nul + (ofZ l).nul, c, c⟩ := by rw [join_left hne hl, e1]
        rw [e] at hjn ⊢
        refine ⟨fun x hx hk => ?_, fun _ => ⟨List.mem_cons_self .., hc⟩, fun _ => ⟨List.mem_cons_self .., hc⟩⟩
        rcases List.mem_cons.1 hx with rfl | hx
        · exact ⟨hjn, Le.refl _, Le.refl _⟩
        · exact absurd hl (ih.has x hx hk).1
      · have e : joinZ (oneZ c) (ofZ l) = ⟨(oneZ c).cnt + (ofZ l).cnt, (oneZ c).nul + (ofZ l).nul, minC c (ofZ l).min, maxC c (ofZ l).max⟩ := by rw [join_both hne hl, e1]
        rw [e] at hjn ⊢
        refine ⟨fun x hx hk => ⟨hjn, ?_⟩, fun _ => ?_, fun _ => ?_⟩
        · rcases List.mem_cons.1 hx with rfl | hx
          · exact ⟨min_le1 _ _, max_le1 _ _⟩
          · have := ih.has x hx hk
            exact ⟨(min_le2 _ _).trans this.2.1, this.2.2.trans (max_le2 _ _)⟩
        · rcases min_or c (ofZ l).min with e2 | e2
          · simp only [e2]; exact ⟨List.mem_cons_self .., hc⟩
          · simp only [e2]; exact ⟨List.mem_cons_of_mem _ (ih.mins hl).1, (ih.mins hl).2⟩
        · rcases max_or c (ofZ l).max with e2 | e2
          · simp only [e2]; exact ⟨List.mem_cons_self .., hc⟩
          · simp only [e2]; exact ⟨List.mem_cons_of_mem _ (ih.maxs hl).1, (ih.maxs hl).2⟩

/-! ### what may be -/
def cellE (c : Cel) : Int :=
  if 65536 < c.s.size then 3
  else if (c.k = 0 ∧ c.n = 0 ∧ c.s = ⟨#[]⟩) ∨ (c.k = 1 ∧ c.s = ⟨#[]⟩) ∨ (c.k = 2 ∧ (c.n = 0 ∨ c.n = 1) ∧ c.s = ⟨#[]⟩) ∨ (c.k = 3 ∧ c.n = 0) then 0 else 2
def boundB (z : Zon) (kind : Int) : Bool := decide ((z.min.k = kind ∧ cellE z.min = 0) ∧ (z.max.k = kind ∧ cellE z.max = 0) ∧ cmpC z.min z.max ≤ 0)
def checkE (z : Zon) (kind : Int) : Int :=
  if kind ≠ 1 ∧ kind ≠ 2 ∧ kind ≠ 3 then 2
  else if z.nul < 0 ∨ z.cnt < z.nul then 2
  else if z.cnt = z.nul ∧ (eqC z.min zeroC = false ∨ eqC z.max zeroC = false) then 2
  else if z.cnt ≠ z.nul ∧ boundB z kind = false then 2
  else 0

end Go.Proofs.YtljanfnhmhimiaaGreat.Zn
