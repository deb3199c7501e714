/-
  Blocks as plain data: how a frame is put, and what a block is got as; no program.
-/
import Derived.Test.YtkinmcnmdfpjbaaStr
import Derived.Test.YtkinmcnmdfpjbaaCrcNum
import Derived.Test.YtkinmcnmdfpjbaaOctNum
namespace Go.Proofs.Ytkinmcnmdfpjbaa.Fr
open Go.RowKit Bs Dv
open Oct (putB ofB putB_length putB_isB ofB_putB ofB_bound)
open Crc (crc num flip crc_lt burst_good flip_length flip_isB)

/-- may blocks have that size? -/
def Fits (n : Int) : Prop := 128 ≤ n ∧ n ≤ 4096 ∧ n % 64 = 0
instance (n : Int) : Decidable (Fits n) := by unfold Fits; infer_instance
def room (n : Int) : Int := if Fits n then n - 16 else 0

theorem num_ofB (l : List Int) (h : Bs.IsB l) : (num l : Int) = ofB l := by
  induction l with
  | nil => rfl
  | cons c r ih =>
    have hc := h c (by simp)
    have hr := ih fun x hx => h x (by simp [hx])
    simp only [num, ofB]
    omega
theorem num_putB (v : Nat) (h : v < 4294967296) : num (putB 4 v) = v := by
  have h1 := num_ofB _ (putB_isB 4 v)
  rw [ofB_putB 4 v (by omega) (show (v : Int) < 4294967296 by omega)] at h1
  omega
theorem putB_ofB (l : List Int) (h : Bs.IsB l) : putB l.length (ofB l) = l := by
  induction l with
  | nil => rfl
  | cons c r ih =>
    have hc := h c (by simp)
    have hr := ih fun x hx => h x (by simp [hx])
    simp only [List.length_cons, putB, ofB]
    rw [show (c + 256 * ofB r) % 256 = c from by omega, show (c + 256 * ofB r) / 256 = ofB r from by omega, hr]

/-- all of a block but its check -/
def body (n : Nat) (t g : Int) (d : List Int) : List Int := t :: 0 :: (putB 2 d.length ++ (putB 8 g ++ (d ++ List.replicate (n - 16 - d.length) 0)))
/-- the block of a frame -/
def blk (n : Nat) (t g : Int) (d : List Int) : List Int := body n t g d ++ putB 4 (crc (body n t g d) : Int)

theorem body_length (n : Nat) (t g : Int) (d : List Int) (h : d.length + 16 ≤ n) : (body n t g d).length = n - 4 := by
  simp only [body, List.length_cons, List.length_append, putB_length, List.length_replicate]; omega
theorem blk_length (n : Nat) (t g : Int) (d : List Int) (h : d.length + 16 ≤ n) : (blk n t g d).length = n := by
  rw [blk, List.length_append, body_length n t g d h, putB_length]; omega
theorem body_isB (n : Nat) (t g : Int) (d : List Int) (ht : 0 ≤ t ∧ t < 256) (hd : Bs.IsB d) : Bs.IsB (body n t g d) := by
  intro x hx
  simp only [body, List.mem_cons, List.mem_append] at hx
  rcases hx with rfl | rfl | h | h | h | h
  · exact ht
  · omega
  · exact putB_isB 2 _ x h
  · exact putB_isB 8 _ x h
  · exact hd x h
  · rw [List.eq_of_mem_replicate h]; omega
theorem blk_isB (n : Nat) (t g : Int) (d : List Int) (ht : 0 ≤ t ∧ t < 256) (hd : Bs.IsB d) : Bs.IsB (blk n t g d) :=
  isB_append (body_isB n t g d ht hd) (putB_isB 4 _)

def cnt (b : List Int) : Int := ofB ((b.drop 2).take 2)
def gen (b : List Int) : Int := ofB ((b.drop 4).take 8)
def dat (b : List Int) : List Int := (b.drop 12).take (cnt b).toNat
def pad (b : List Int) : List Int := (b.drop (12 + (cnt b).toNat)).take (b.length - 16 - (cnt b).toNat)
/-- its check is right -/
def Good (b : List Int) : Prop := crc (b.take (b.length - 4)) = num (b.drop (b.length - 4))
/-- beside its check it is one that is put -/
def Shape (b : List Int) : Prop := cnt b + 16 ≤ b.length ∧ b.getD 1 0 = 0 ∧ ∀ x ∈ pad b, x = 0
instance (b : List Int) : Decidable (Good b) := by unfold Good; infer_instance
instance (b : List Int) : Decidable (Shape b) := by unfold Shape; infer_instance

abbrev Fm := Int × Int × List Int
def none3 : Fm := (0, 0, [])
def getF (b : List Int) : Fm × Int :=
  if ¬ Fits b.length then (none3, 2) else if ¬ Good b then (none3, 10) else if ¬ Shape b then (none3, 4) else ((b.getD 0 0, gen b, dat b), 0)
def kindF (b : List Int) (t : Int) : Fm × Int :=
  if (getF b).2 ≠ 0 then (none3, (getF b).2) else if (getF b).1.1 ≠ t then (none3, 11) else ((getF b).1, 0)
def putF (n : Int) (f : Fm) : List Int × Int :=
  if ¬ Fits n then ([], 2) else if n - 16 < f.2.2.length then ([], 3) else (blk n.toNat f.1 f.2.1 f.2.2, 0)

/-- a frame that may be -/
def FmOk (f : Fm) : Prop := (0 ≤ f.1 ∧ f.1 < 256) ∧ (0 ≤ f.2.1 ∧ f.2.1 < 18446744073709551616) ∧ Bs.IsB f.2.2
theorem none3_ok : FmOk none3 := ⟨by decide, by decide, fun _ h => by cases h⟩

theorem split (l : List Int) (i j : Nat) (h : i ≤ j) : l.drop i = (l.drop i).take (j - i) ++ l.drop j := by
  conv => lhs; rw [← List.take_append_drop (j - i) (l.drop i)]
  rw [List.drop_drop, show i + (j - i) = j from by omega]

theorem blk_parts (n : Nat) (t g : Int) (d : List Int) : blk n t g d = t :: 0 :: (putB 2 d.length ++ (putB 8 g ++ (d ++ (List.replicate (n - 16 - d.length) 0 ++ putB 4 (crc (body n t g d) : Int))))) := by
  simp [blk, body, List.append_assoc]

theorem take_app (a b : List Int) (n : Nat) (h : a.length = n) : (a ++ b).take n = a := by subst h; simp
theorem drop_app (a b : List Int) (n : Nat) (h : a.length = n) : (a ++ b).drop n = b := by subst h; simp

theorem blk_drop2 (n : Nat) (t g : Int) (d : List Int) : (blk n t g d).drop 2 = putB 2 d.length ++ (putB 8 g ++ (d ++ (List.replicate (n - 16 - d.length) 0 ++ putB 4 (crc (body n t g d) : Int)))) := by
  rw [blk_parts]; rfl
theorem blk_drop4 (n : Nat) (t g : Int) (d : List Int) : (blk n t g d).drop 4 = putB 8 g ++ (d ++ (List.replicate (n - 16 - d.length) 0 ++ putB 4 (crc (body n t g d) : Int))) := by
  rw [show (4 : Nat) = 2 + 2 from rfl, ← List.drop_drop, blk_drop2, drop_app _ _ 2 (putB_length 2 _)]
theorem blk_drop12 (n : Nat) (t g : Int) (d : List Int) : (blk n t g d).drop 12 = d ++ (List.replicate (n - 16 - d.length) 0 ++ putB 4 (crc (body n t g d) : Int)) := by
  rw [show (12 : Nat) = 4 + 8 from rfl, ← List.drop_drop, blk_drop4, drop_app _ _ 8 (putB_length 8 _)]

theorem blk_cnt (n : Nat) (t g : Int) (d : List Int) (h : d.length < 65536) : cnt (blk n t g d) = d.length := by
  unfold cnt
  rw [blk_drop2, take_app _ _ 2 (putB_length 2 _), ofB_putB 2 _ (by omega) (by show (d.length : Int) < 65536; omega)]
theorem blk_gen (n : Nat) (t g : Int) (d : List Int) (hg : 0 ≤ g ∧ g < 18446744073709551616) : gen (blk n t g d) = g := by
  unfold gen
  rw [blk_drop4, take_app _ _ 8 (putB_length 8 _), ofB_putB 8 _ hg.1 hg.2]
theorem blk_dat (n : Nat) (t g : Int) (d : List Int) (h : d.length < 65536) : dat (blk n t g d) = d := by
  unfold dat
  rw [blk_cnt n t g d h, Int.toNat_natCast, blk_drop12, take_app _ _ _ rfl]
theorem blk_pad (n : Nat) (t g : Int) (d : List Int) (h : d.length + 16 ≤ n) (h2 : d.length < 65536) : pad (blk n t g d) = List.replicate (n - 16 - d.length) 0 := by
  unfold pad
  rw [blk_cnt n t g d h2, Int.toNat_natCast, ← List.drop_drop, blk_drop12, drop_app _ _ _ rfl, blk_length n t g d h, take_app _ _ _ (by simp)]
theorem blk_shape (n : Nat) (t g : Int) (d : List Int) (h : d.length + 16 ≤ n) (h2 : d.length < 65536) : Shape (blk n t g d) := by
  refine ⟨by rw [blk_cnt n t g d h2, blk_length n t g d h]; omega, by rw [blk_parts]; rfl, fun x hx => ?_⟩
  rw [blk_pad n t g d h h2] at hx
  exact List.eq_of_mem_replicate hx
theorem blk_good (n : Nat) (t g : Int) (d : List Int) (h : d.length + 16 ≤ n) (ht : 0 ≤ t ∧ t < 256) (hd : Bs.IsB d) : Good (blk n t g d) := by
  unfold Good
  have hl := body_length n t g d h
  rw [blk_length n t g d h, blk, take_app _ _ _ hl, drop_app _ _ _ hl, num_putB _ (crc_lt _ (body_isB n t g d ht hd))]

theorem get_blk (n : Nat) (f : Fm) (hn : Fits n) (hf : FmOk f) (h : f.2.2.length + 16 ≤ n) : getF (blk n f.1 f.2.1 f.2.2) = (f, 0) := by
  obtain ⟨t, g, d⟩ := f
  obtain ⟨ht, hg, hd⟩ := hf
  unfold Fits at hn
  have h2 : d.length < 65536 := by simp at h; omega
  unfold getF
  rw [blk_length n t g d h, if_neg (by unfold Fits; simpa using hn), if_neg (by simpa using blk_good n t g d h ht hd), if_neg (by simpa using blk_shape n t g d h h2), blk_gen n t g d hg, blk_dat n t g d h2, blk_parts]
  rfl

theorem ofB2_lt (b : List Int) (hb : Bs.IsB b) : 0 ≤ cnt b ∧ cnt b < 65536 := by
  have h := ofB_bound ((b.drop 2).take 2) (isB_take (isB_drop hb 2) 2)
  unfold cnt
  refine ⟨h.1, Int.lt_of_lt_of_le h.2 ?_⟩
  have : ((b.drop 2).take 2).length ≤ 2 := by rw [List.length_take]; omega
  generalize ((b.drop 2).take 2).length = k at this
  match k, this with
  | 0, _ => decide
  | 1, _ => decide
  | 2, _ => decide
theorem gen_lt (b : List Int) (hb : Bs.IsB b) (h : 12 ≤ b.length) : 0 ≤ gen b ∧ gen b < 18446744073709551616 := by
  have h1 := ofB_bound ((b.drop 4).take 8) (isB_take (isB_drop hb 4) 8)
  rw [show ((b.drop 4).take 8).length = 8 from by rw [List.length_take, List.length_drop]; omega] at h1
  exact h1

/-- A block, whose check is right and that is one that is put, is the block of what it is got as. -/
theorem blk_of (b : List Int) (hb : Bs.IsB b) (hn : 128 ≤ b.length) (hg : Good b) (hs : Shape b) : blk b.length (b.getD 0 0) (gen b) (dat b) = b := by
  obtain ⟨h1, h2, h3⟩ := hs
  obtain ⟨c0, c1⟩ := ofB2_lt b hb
  obtain ⟨k, hk⟩ : ∃ k : Nat, cnt b = k := ⟨(cnt b).toNat, by omega⟩
  have hdl : (dat b).length = k := by unfold dat; rw [List.length_take, List.length_drop, hk]; omega
  have e0 : b = b.getD 0 0 :: b.drop 1 := by
    cases b with
    | nil => simp at hn
    | cons x r => rfl
  have e1 : b.drop 1 = 0 :: b.drop 2 := by
    rw [← h2]
    match b, hn with
    | x :: y :: r, _ => rfl
  have e2 : b.drop 2 = putB 2 k ++ b.drop 4 := by
    have h := split b 2 4 (by omega)
    have h4 : putB 2 (k : Int) = (b.drop 2).take 2 := by
      have := putB_ofB ((b.drop 2).take 2) (isB_take (isB_drop hb 2) 2)
      rw [show ((b.drop 2).take 2).length = 2 from by rw [List.length_take, List.length_drop]; omega] at this
      rw [← hk]; exact this
    rw [h4]; exact h
  have e3 : b.drop 4 = putB 8 (gen b) ++ b.drop 12 := by
    have h := split b 4 12 (by omega)
    have h4 : putB 8 (gen b) = (b.drop 4).take 8 := by
      have := putB_ofB ((b.drop 4).take 8) (isB_take (isB_drop hb 4) 8)
      rw [show ((b.drop 4).take 8).length = 8 from by rw [List.length_take, List.length_drop]; omega] at this
      exact this
    rw [h4]; exact h
  have e4 : b.drop 12 = dat b ++ b.drop (12 + k) := by
    have h := split b 12 (12 + k) (by omega)
    rw [show 12 + k - 12 = k from by omega] at h
    unfold dat
    rw [hk]; exact h
  have e5 : b.drop (12 + k) = List.replicate (b.length - 16 - k) 0 ++ b.drop (b.length - 4) := by
    have h := split b (12 + k) (b.length - 4) (by omega)
    have h4 : (b.drop (12 + k)).take (b.length - 4 - (12 + k)) = List.replicate (b.length - 16 - k) 0 := by
      unfold pad at h3
      rw [hk, Int.toNat_natCast] at h3
      rw [show b.length - 4 - (12 + k) = b.length - 16 - k from by omega]
      refine List.eq_replicate_iff.2 ⟨by rw [List.length_take, List.length_drop]; omega, h3⟩
    rw [h4] at h; exact h
  have e6 : b = body b.length (b.getD 0 0) (gen b) (dat b) ++ b.drop (b.length - 4) := by
    unfold body
    rw [hdl]
    simp only [List.cons_append, List.append_assoc]
    rw [← e5, ← e4, ← e3, ← e2, ← e1, ← e0]
  have e7 : body b.length (b.getD 0 0) (gen b) (dat b) = b.take (b.length - 4) := by
    have h := body_length b.length (b.getD 0 0) (gen b) (dat b) (by omega)
    have h4 := take_app (body b.length (b.getD 0 0) (gen b) (dat b)) (b.drop (b.length - 4)) _ h
    rw [← e6] at h4
    exact h4.symm
  have e8 : putB 4 (crc (body b.length (b.getD 0 0) (gen b) (dat b)) : Int) = b.drop (b.length - 4) := by
    rw [e7, hg, num_ofB _ (isB_drop hb _)]
    have := putB_ofB (b.drop (b.length - 4)) (isB_drop hb _)
    rw [show (b.drop (b.length - 4)).length = 4 from by rw [List.length_drop]; omega] at this
    exact this
  unfold blk
  rw [e8]
  exact e6.symm

/-- The document's test of a block whose check is right. -/
theorem blk_iff (b : List Int) (hb : Bs.IsB b) (hn : Fits b.length) (hg : Good b) (hc : cnt b + 16 ≤ b.length) : blk b.length (b.getD 0 0) (gen b) (dat b) = b ↔ Shape b := by
  unfold Fits at hn
  refine ⟨fun h => ?_, fun h => blk_of b hb (by omega) hg h⟩
  have h0 := ofB2_lt b hb
  have hdl : (dat b).length = (cnt b).toNat := by unfold dat; rw [List.length_take, List.length_drop]; omega
  rw [← h]
  exact blk_shape _ _ _ _ (by omega) (by omega)

theorem getD_isB {b : List Int} (hb : Bs.IsB b) (k : Nat) : 0 ≤ b.getD k 0 ∧ b.getD k 0 < 256 := by
  rw [List.getD_eq_getElem?_getD]
  by_cases hk : k < b.length
  · rw [List.getElem?_eq_getElem hk]; exact hb _ (List.getElem_mem _)
  · rw [List.getElem?_eq_none (by omega)]; decide
theorem get_ok (b : List Int) (hb : Bs.IsB b) : FmOk (getF b).1 := by
  unfold getF
  split
  · exact none3_ok
  · rename_i h
    split
    · exact none3_ok
    · split
      · exact none3_ok
      · refine ⟨getD_isB hb 0, gen_lt b hb ?_, isB_take (isB_drop hb _) _⟩
        have := Decidable.not_not.1 h
        unfold Fits at this
        omega
theorem get_err (b : List Int) (h : (getF b).2 ≠ 0) : (getF b).1 = none3 := by
  unfold getF at h ⊢
  split
  · rfl
  · split
    · rfl
    · split
      · rfl
      · rename_i h1 h2 h3
        rw [if_neg h1, if_neg h2, if_neg h3] at h
        exact absurd rfl h
/-- What is got is put the same. -/
theorem put_get (b : List Int) (hb : Bs.IsB b) (h : (getF b).2 = 0) : putF b.length (getF b).1 = (b, 0) := by
  unfold getF at h ⊢
  split at h
  · exact absurd h (by decide)
  · rename_i h1
    split at h
    · exact absurd h (by decide)
    · rename_i h2
      split at h
      · exact absurd h (by decide)
      · rename_i h3
        rw [if_neg h1, if_neg h2, if_neg h3]
        have n1 := Decidable.not_not.1 h1
        have n2 := Decidable.not_not.1 h2
        have n3 := Decidable.not_not.1 h3
        unfold putF
        rw [if_neg h1, if_neg, Int.toNat_natCast, blk_of b hb (by unfold Fits at n1; omega) n2 n3]
        show ¬ (b.length : Int) - 16 < ((dat b).length : Int)
        have h0 := ofB2_lt b hb
        have hs := n3.1
        have : (dat b).length ≤ (cnt b).toNat := by unfold dat; rw [List.length_take]; omega
        omega
theorem get_put (n : Int) (f : Fm) (hf : FmOk f) (h : (putF n f).2 = 0) : getF (putF n f).1 = (f, 0) ∧ ((putF n f).1.length : Int) = n ∧ Fits n ∧ (f.2.2.length : Int) + 16 ≤ n ∧ Bs.IsB (putF n f).1 ∧ (putF n f).1 = blk n.toNat f.1 f.2.1 f.2.2 := by
  unfold putF at h ⊢
  split at h
  · exact absurd h (by decide)
  · rename_i h1
    split at h
    · exact absurd h (by decide)
    · rename_i h2
      rw [if_neg h1, if_neg h2]
      have n1 := Decidable.not_not.1 h1
      have hn : ((n.toNat : Nat) : Int) = n := by unfold Fits at n1; omega
      refine ⟨get_blk n.toNat f (by rw [hn]; exact n1) hf (by omega), ?_, n1, by omega, blk_isB _ _ _ _ hf.1 hf.2.2, rfl⟩
      show ((blk n.toNat f.1 f.2.1 f.2.2).length : Int) = n
      rw [blk_length _ _ _ _ (by omega), hn]
theorem put_err (n : Int) (f : Fm) (h : (putF n f).2 ≠ 0) : (putF n f).1 = [] := by
  unfold putF at h ⊢
  split
  · rfl
  · split
    · rfl
    · rename_i h1 h2
      rw [if_neg h1, if_neg h2] at h
      exact absurd rfl h

/-- Bits turned within 32 side by side are told. -/
theorem rot (n : Nat) (f : Fm) (bit m : Int) (mask : Nat) (hn : Fits n) (hf : FmOk f) (h : f.2.2.length + 16 ≤ n) (h1 : bit < 8 * n) :
    getF (flip (blk n f.1 f.2.1 f.2.2) bit m mask) = if flip (blk n f.1 f.2.1 f.2.2) bit m mask = blk n f.1 f.2.1 f.2.2 then (f, 0) else (none3, 10) := by
  by_cases he : flip (blk n f.1 f.2.1 f.2.2) bit m mask = blk n f.1 f.2.1 f.2.2
  · rw [if_pos he, he]
    exact get_blk n f hn hf h
  · rw [if_neg he]
    have hB := body_isB n f.1 f.2.1 f.2.2 hf.1 hf.2.2
    have hl := body_length n f.1 f.2.1 f.2.2 h
    have hbl := blk_length n f.1 f.2.1 f.2.2 h
    have hx := burst_good (body n f.1 f.2.1 f.2.2) (putB 4 (crc (body n f.1 f.2.1 f.2.2) : Int)) _ bit m mask hB (putB_isB 4 _) (putB_length 4 _) (num_putB _ (crc_lt _ hB)) (by rw [List.length_append, hl, putB_length]; unfold Fits at hn; omega) rfl
    unfold getF
    rw [flip_length, hbl, if_neg (by simpa using hn), if_pos]
    unfold Good
    rw [flip_length, hbl]
    intro hg
    apply he
    refine hx.1 ?_
    rw [hl]
    exact hg

theorem blk_inj (n : Nat) (f g : Fm) (hn : Fits n) (hf : FmOk f) (hg : FmOk g) (h : f.2.2.length + 16 ≤ n) (h2 : g.2.2.length + 16 ≤ n) : blk n f.1 f.2.1 f.2.2 = blk n g.1 g.2.1 g.2.2 ↔ f = g := by
  refine ⟨fun e => ?_, fun e => by rw [e]⟩
  have h3 := get_blk n f hn hf h
  rw [e, get_blk n g hn hg h2] at h3
  exact (Prod.mk.inj h3).1.symm

/-! ### how the program writes a block -/
theorem spl_app (a b c v : List Int) (p : Nat) (hp : a.length = p) (hv : v.length = b.length) : (a ++ (b ++ c)).take p ++ v ++ (a ++ (b ++ c)).drop (p + v.length) = a ++ (v ++ c) := by
  subst hp
  rw [List.take_left, ← List.drop_drop, List.drop_left, hv, List.drop_left, List.append_assoc]
end Go.Proofs.Ytkinmcnmdfpjbaa.Fr
