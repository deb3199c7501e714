/-
  Words of texts: plain facts on lists of strings, no program: the words are the one list that rises and has just the texts.
-/
import Derived.Test.YtgbpmpeknbaccaaSBase
namespace Go.Proofs.Ytgbpmpeknbaccaa.Tx
open Go.RowKit
open Ss (IsS)

/-- a string's bytes, as Go compares them -/
def byt (x : List Int) : List UInt8 := x.map fun n => UInt8.ofNat n.toNat
theorem byt_data (x : List Int) : (strOfNums x).data.toList = byt x := strOfNums_data x
theorem byt_inj {a b : List Int} (ha : Bs.IsB a) (hb : Bs.IsB b) (h : byt a = byt b) : a = b := Dv.map_inj a b ha hb h
theorem byt_three {a b : List Int} (ha : Bs.IsB a) (hb : Bs.IsB b) (h : ¬ byt a < byt b) (k : ¬ byt b < byt a) : a = b :=
  byt_inj ha hb (List.le_antisymm (List.not_lt.1 k) (List.not_lt.1 h))

/-- all are strings of bytes -/
def AllB (l : List (List Int)) : Prop := ∀ x ∈ l, Bs.IsB x
/-- texts that rise -/
def Up (l : List (List Int)) : Prop := l.Pairwise fun a b => byt a < byt b

theorem Up.unique : ∀ {a b : List (List Int)}, Up a → Up b → (∀ x, x ∈ a ↔ x ∈ b) → a = b
  | [], [], _, _, _ => rfl
  | [], y :: b, _, _, h => absurd ((h y).2 (by simp)) (by simp)
  | x :: a, [], _, _, h => absurd ((h x).1 (by simp)) (by simp)
  | x :: a, y :: b, ha, hb, h => by
    obtain ⟨ha1, ha2⟩ := List.pairwise_cons.1 ha
    obtain ⟨hb1, hb2⟩ := List.pairwise_cons.1 hb
    have e : x = y := by
      rcases List.mem_cons.1 ((h x).1 (by simp)) with e | hx
      · exact e
      rcases List.mem_cons.1 ((h y).2 (by simp)) with e | hy
      · exact e.symm
      exact absurd (List.lt_trans (hb1 x hx) (ha1 y hy)) (List.lt_irrefl _)
    subst e
    rw [Up.unique ha2 hb2 fun z => ⟨fun hz => ?_, fun hz => ?_⟩]
    · rcases List.mem_cons.1 ((h z).1 (List.mem_cons_of_mem _ hz)) with e | hz2
      · subst e; exact absurd (ha1 z hz) (List.lt_irrefl _)
      · exact hz2
    · rcases List.mem_cons.1 ((h z).2 (List.mem_cons_of_mem _ hz)) with e | hz2
      · subst e; exact absurd (hb1 z hz) (List.lt_irrefl _)
      · exact hz2

/-- a text among words that rise -/
def ins (x : List Int) : List (List Int) → List (List Int)
  | [] => [x]
  | y :: r => if byt y < byt x then y :: ins x r else if y = x then y :: r else x :: y :: r
/-- the words of texts -/
def wordsF : List (List Int) → List (List Int)
  | [] => []
  | x :: l => ins x (wordsF l)

theorem mem_ins (x z : List Int) : ∀ l, z ∈ ins x l ↔ z = x ∨ z ∈ l
  | [] => by simp [ins]
  | y :: r => by
    unfold ins
    split
    · simp only [List.mem_cons, mem_ins x z r]
      constructor
      · rintro (h | h | h)
        · exact .inr (.inl h)
        · exact .inl h
        · exact .inr (.inr h)
      · rintro (h | h | h)
        · exact .inr (.inl h)
        · exact .inl h
        · exact .inr (.inr h)
    · split
      · rename_i e
        subst e
        simp
      · simp
theorem up_ins (x : List Int) (hx : Bs.IsB x) : ∀ l, AllB l → Up l → Up (ins x l)
  | [], _, _ => by simp [ins, Up]
  | y :: r, hb, h => by
    obtain ⟨h1, h2⟩ := List.pairwise_cons.1 h
    unfold ins
    split
    · rename_i hlt
      refine List.pairwise_cons.2 ⟨fun z hz => ?_, up_ins x hx r (fun z hz => hb z (by simp [hz])) h2⟩
      rcases (mem_ins x z r).1 hz with e | hz
      · subst e; exact hlt
      · exact h1 z hz
    · split
      · exact h
      · rename_i hnl hne
        have hlt : byt x < byt y := Classical.byContradiction fun hn => hne (byt_three (hb y (by simp)) hx hnl hn)
        refine List.pairwise_cons.2 ⟨fun z hz => ?_, h⟩
        rcases List.mem_cons.1 hz with e | hz
        · subst e; exact hlt
        · exact List.lt_trans hlt (h1 z hz)
theorem ins_len (x : List Int) : ∀ l, (ins x l).length ≤ l.length + 1
  | [] => by simp [ins]
  | y :: r => by
    unfold ins
    split
    · simp only [List.length_cons]; have := ins_len x r; omega
    · split <;> simp

theorem mem_words (z : List Int) : ∀ l, z ∈ wordsF l ↔ z ∈ l
  | [] => Iff.rfl
  | x :: l => by unfold wordsF; rw [mem_ins, mem_words z l]; simp
theorem allB_words {l : List (List Int)} (h : AllB l) : AllB (wordsF l) := fun z hz => h z ((mem_words z l).1 hz)
theorem up_words : ∀ l, AllB l → Up (wordsF l)
  | [], _ => List.Pairwise.nil
  | x :: l, h => up_ins x (h x (by simp)) _ (allB_words fun z hz => h z (by simp [hz])) (up_words l fun z hz => h z (by simp [hz]))
theorem words_len : ∀ l : List (List Int), (wordsF l).length ≤ l.length
  | [] => Nat.le_refl _
  | x :: l => by unfold wordsF; have := ins_len x (wordsF l); have := words_len l; simp only [List.length_cons]; omega
/-- whatever rises and has just the texts are the words -/
theorem words_of {l ws : List (List Int)} (hl : AllB l) (hu : Up ws) (h : ∀ x, x ∈ ws ↔ x ∈ l) : ws = wordsF l :=
  hu.unique (up_words l hl) fun x => (h x).trans (mem_words x l).symm
theorem words_same {l m : List (List Int)} (hl : AllB l) (h : ∀ x, x ∈ m ↔ x ∈ l) : wordsF m = wordsF l :=
  words_of hl (up_words m fun x hx => hl x ((h x).1 hx)) fun x => (mem_words x m).trans (h x)
theorem words_words {l : List (List Int)} (hl : AllB l) : wordsF (wordsF l) = wordsF l := words_same hl fun x => mem_words x l
theorem Up.words {l : List (List Int)} (hl : AllB l) (h : Up l) : wordsF l = l := (words_of hl h fun _ => Iff.rfl).symm
theorem words_twice {l : List (List Int)} (hl : AllB l) : wordsF (l ++ l) = wordsF l := words_same hl fun x => by simp
theorem words_snoc {l : List (List Int)} (hl : AllB l) (x : List Int) (hx : Bs.IsB x) : wordsF (l ++ [x]) = ins x (wordsF l) :=
  (words_of (fun z hz => (List.mem_append.1 hz).elim (hl z) fun h => by rw [List.mem_singleton.1 h]; exact hx) (up_ins x hx _ (allB_words hl) (up_words l hl))
    fun z => by rw [mem_ins, mem_words]; simp [or_comm]).symm
theorem Up.nodup {l : List (List Int)} (h : Up l) : l.Nodup := List.Pairwise.imp (fun {a b} hlt (e : a = b) => by subst e; exact List.lt_irrefl _ hlt) h
theorem words_isS {l : List (List Int)} (h : IsS l) : IsS (wordsF l) := fun z hz => h z ((mem_words z l).1 hz)
theorem allB_of {l : List (List Int)} (h : IsS l) : AllB l := fun z hz => (h z hz).1

/-- what a sort of the texts, each once, leaves -/
theorem words_sorted {l ws : List (List Int)} (hl : AllB l) (hn : ws.Nodup) (hs : ws.Pairwise fun a b => byt a ≤ byt b) (h : ∀ x, x ∈ ws ↔ x ∈ l) : ws = wordsF l := by
  refine words_of hl ?_ h
  have hb : ∀ x ∈ ws, Bs.IsB x := fun x hx => hl x ((h x).1 hx)
  clear h
  induction ws with
  | nil => exact List.Pairwise.nil
  | cons x r ih =>
    obtain ⟨n1, n2⟩ := List.nodup_cons.1 hn
    obtain ⟨s1, s2⟩ := List.pairwise_cons.1 hs
    refine List.pairwise_cons.2 ⟨fun y hy => ?_, ih n2 s2 fun z hz => hb z (by simp [hz])⟩
    refine Classical.byContradiction fun hlt => n1 ?_
    have e : x = y := byt_inj (hb x (by simp)) (hb y (by simp [hy])) (List.le_antisymm (s1 y hy) (List.not_lt.1 hlt))
    rw [e]; exact hy

/-! ### the words' numbers -/
def idx (ws : List (List Int)) (x : List Int) : Nat := ws.idxOf x
theorem idx_lt {ws : List (List Int)} {x : List Int} (h : x ∈ ws) : idx ws x < ws.length := List.idxOf_lt_length_iff.2 h
theorem idx_get {ws : List (List Int)} {x : List Int} (h : x ∈ ws) : ws.getD (idx ws x) [] = x := by
  rw [List.getD_eq_getElem?_getD, List.getElem?_eq_getElem (idx_lt h)]
  exact List.getElem_idxOf (idx_lt h)
theorem idx_at {ws : List (List Int)} (hn : ws.Nodup) (k : Nat) (hk : k < ws.length) : idx ws (ws.getD k []) = k := by
  rw [List.getD_eq_getElem?_getD, List.getElem?_eq_getElem hk]
  exact hn.idxOf_getElem k hk
def idxsF (ws l : List (List Int)) : List Int := l.map fun x => ((idx ws x : Nat) : Int)
theorem idxs_len (ws l : List (List Int)) : (idxsF ws l).length = l.length := by simp [idxsF]
end Go.Proofs.Ytgbpmpeknbaccaa.Tx
