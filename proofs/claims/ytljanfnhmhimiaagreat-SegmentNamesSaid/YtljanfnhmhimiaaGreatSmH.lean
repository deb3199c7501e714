/-
  What the program's and the document's functions do, in memory and as plain functions: Keep, InNum, InPack, TxNum, NuNum, Ref0, Ref1, TxCan, TxStrs, RRead, RVarR, InMin.
-/
import Derived.Lib.SmallJoins
import Derived.Laws.Bits128
import Derived.Lib.AppendStr
import Derived.Test.YtljanfnhmhimiaaGreatSmB
import Derived.Test.YtljanfnhmhimiaaGreatSmD
import Derived.Test.YtljanfnhmhimiaaGreatSmE
import Derived.Test.YtljanfnhmhimiaaGreatSmF

namespace Go.Proofs.YtljanfnhmhimiaaGreat.In
open Go.RowKit Go.Joins
open Oct (putB ofB varB readV Rd ReadN)
open Dv (Turn nowhere)

theorem isB_take {l : List Int} (h : Oct.IsB l) (n : Nat) : Oct.IsB (l.take n) := fun x hx => h x (List.mem_of_mem_take hx)
theorem isB_drop {l : List Int} (h : Oct.IsB l) (n : Nat) : Oct.IsB (l.drop n) := fun x hx => h x (List.mem_of_mem_drop hx)
theorem isB_app {l m : List Int} (h : Oct.IsB l) (k : Oct.IsB m) : Oct.IsB (l ++ m) := fun x hx => (List.mem_append.1 hx).elim (h x) (k x)
/-- a varint is read again -/
theorem readV_var (n : Nat) (r : List Int) (h : n < 18446744073709551616) : readV 0 0 (varB 9 n ++ r) = ((n : Int), 0, (varB 9 n).length) := by
  have := Oct.readV_varB 9 0 0 n r rfl (by omega) (by have : (2 : Int) * 128 ^ 9 = 18446744073709551616 := by decide
                                                      omega) (by omega)
  rw [this]; simp
theorem drop_var (n : Nat) (r : List Int) : (varB 9 n ++ r).drop (varB 9 n).length = r := List.drop_left
/-- what was read of a varint are its bytes -/
theorem var_readV (b : List Int) (hb : Oct.IsB b) (x : Int) (n : Nat) (h : readV 0 0 b = (x, 0, n)) : 0 ≤ x ∧ x < 18446744073709551616 ∧ b = varB 9 x ++ b.drop n := by
  obtain ⟨v, v0, v1, hx, _, _, _, hvb⟩ := Oct.varB_readV b 9 0 0 x n hb rfl h
  have e : x = v := by rw [hx]; simp
  have : (2 : Int) * 128 ^ 9 = 18446744073709551616 := by decide
  refine ⟨by omega, by omega, ?_⟩
  rw [e, hvb, Nat.sub_zero, List.take_append_drop]
theorem varB_isB (n : Nat) (h : n < 18446744073709551616) : Oct.IsB (varB 9 n) :=
  Oct.varB_isB 9 n (by omega) (by have : (256 : Int) * 128 ^ 9 = 2361183241434822606848 := by decide
                                  omega)

theorem oseg {w : World} {a : Option Addr} {n c : Nat} {l : List Int} (h : Bs.Seg w a n c l) : Oct.Seg w a n c l := ⟨h.len, h.le, h.cap, h.nil_, h.at_⟩
theorem bseg {w : World} {a : Option Addr} {n c : Nat} {l : List Int} (h : Oct.Seg w a n c l) : Bs.Seg w a n c l := ⟨h.len, h.le, h.cap, h.nil_, h.at_⟩
theorem below_grown {B : Nat} {w w' : World} (h : w.grownBy w' none) (hB : B ≤ w.heap.size) : Below B w w' := (Below.refl B w).grown h hB (fun _ e => by cases e)
theorem below_mono {B B' : Nat} {w w' : World} (h : Below B w w') (hB : B' ≤ B) : Below B' w w' := ⟨h.os, h.tape, h.output, h.size, fun k hk => h.block k (Nat.lt_of_lt_of_le hk hB)⟩
theorem own_grown {w w' : World} {base e s n : Nat} {v : Value} {xs : List Value} (h : w.ownsRow base e s v n xs) (hg : w.grownBy w' none) : w'.ownsRow base e s v n xs :=
  h.kept hg (by cases hv : v.ownBlock <;> simp)
/-- A new reader: two new blocks; nothing that was there has turned. -/
def NewR2 (w : World) (l : List Int) (e : Ending) (w' : World) : Prop :=
  ∃ b g, e = .returned (.pointer (some ⟨b, 0, none⟩)) ∧ w.heap.size ≤ b ∧ w.heap.size ≤ g ∧ b < w'.heap.size ∧ g < w'.heap.size ∧ Rd w' b g l ∧ w.grownBy w' none

set_option maxRecDepth 100000 in
set_option maxHeartbeats 400000 in
theorem new_any (a : Option Addr) (n c : Nat) (l : List Int) (w : World) (hs : Oct.Seg w a n c l) (hn : n ≤ 140737488355328) :
    Calls Tryz.prog 59 #[.slice a n c] w (NewR2 w l) := by
  have HA := Lib.hid (Oct.add_any a none n c 0 0 l [] w hs (Oct.Seg.nil w) (by omega))
  go_enter Tryz.func59, Tryz.ntmps59
  go_wp2_with fail
  refine HA.out.mono ?_
  rintro e w1 ⟨rfl, hown, hg⟩
  rw [List.append_nil, Nat.add_zero] at hown
  have hl := hs.len
  have hb : w.heap.size < w1.heap.size := (hown.lt _ rfl).2
  have hfin : NewR2 w l (.returned (.pointer (some ⟨w1.heap.size, 0, none⟩))) (w1.alloc (.cells #[.slice (some ⟨w.heap.size, 0, none⟩) n n, .pointer (some ⟨w1.heap.size, 0, none⟩)] 163)) := by
    subst hl
    have h1 := Oct.Seg.own (hown.alloc (.cells #[.slice (some ⟨w.heap.size, 0, none⟩) l.length l.length, .pointer (some ⟨w1.heap.size, 0, none⟩)] 163))
    refine ⟨w1.heap.size, w.heap.size, rfl, hg.size, Nat.le_refl _, by simp, by simp; omega, ⟨by omega, ⟨0, l.length, ?_, Nat.le_refl _, h1.cap, ?_⟩, ?_, ?_⟩, Oct.grownBy_trans hg (World.grownBy_alloc w1 _ none) (fun _ e => by cases e)⟩
    · exact World.cell?_alloc_at _ _ _ _ rfl
    · intro j hj
      have := h1.at_ _ rfl j (.int .u8 (l.getD j 0)) (by simp [List.getD, hj])
      rw [Addr.add_lit] at this
      exact this
    · exact World.cell?_alloc_at _ _ _ _ rfl
    · exact World.frozen?_alloc_at _ _ _ _ rfl
  have HF := Lib.hid hfin
  clear hfin hown hg hs HA
  go_wp2
  go_ret
  exact HF.out

theorem Turn.rd {w w' : World} {b g : Nat} {l : List Int} {S : Nat → Prop} (k : Turn w w' S) (h : Rd w b g l) (h1 : ¬ S b) (h2 : ¬ S g) : Rd w' b g l := by
  obtain ⟨o, c, h0, hle, hc, hj⟩ := h.cells
  have lt := World.block_lt_of_cell? w _ h0
  refine ⟨h.ne, ⟨o, c, k.cell h0 h1, hle, hc, fun j hjl => k.cell (hj j hjl) h2⟩, k.cell h.self h1, ?_⟩
  exact (k.frozen (p := ⟨b, 0, none⟩) lt h1).trans h.free
def At (b : Nat) : Nat → Prop := fun i => i = b
theorem turn_read {w w' : World} {b : Nat} (h : w.grownBy w' (some b)) : Turn w w' (At b) := Turn.of_grown h (fun i e _ => by cases e; rfl)
theorem turn_row {w w' : World} {g : Nat} (h : w.grownBy w' (some g)) : Turn w w' (At g) := Turn.of_grown h (fun i e _ => by cases e; rfl)
/-- further: a block that is newer may turn as well -/
theorem turn_more {a w w' : World} {b : Nat} {S : Nat → Prop} (h : Turn a w (At b)) (k : Turn w w' S) (hS : ∀ i, S i → i = b ∨ a.heap.size ≤ i) : Turn a w' (At b) :=
  h.trans k (fun i hi hs => by rcases hS i hs with e | e; exact e; omega)
theorem own_at {w w' : World} {base e s n b g c : Nat} {xs : List Value} (h : w.ownsRow base e s (.slice (some ⟨g, 0, none⟩) n c) n xs) (hg : w.grownBy w' (some b)) (hne : g ≠ b) : w'.ownsRow base e s (.slice (some ⟨g, 0, none⟩) n c) n xs :=
  h.kept hg (.inr (by simp [Value.ownBlock]; exact hne))
theorem turn_below {w w' : World} {S : Nat → Prop} (h : Below w.heap.size w w') : Turn w w' S := ⟨h.os, h.tape, h.output, h.size, fun i hi _ => h.block i hi⟩
theorem own_below {w w' : World} {base e s n : Nat} {v : Value} {xs : List Value} (h : w.ownsRow base e s v n xs) (hb : Below w.heap.size w w') : w'.ownsRow base e s v n xs :=
  own_grown h (Bs.grown_of hb)
theorem turn_up {w w1 w2 : World} {b : Nat} (h : Below w.heap.size w w1) (k : Turn w1 w2 (At b)) (hb : w.heap.size ≤ b) : Below w.heap.size w w2 :=
  ⟨k.os.trans h.os, k.tape.trans h.tape, k.output.trans h.output, Nat.le_trans h.size k.size, fun i hi => (k.block i (Nat.lt_of_lt_of_le hi h.size) (fun e => by unfold At at e; omega)).trans (h.block i hi)⟩
end Go.Proofs.YtljanfnhmhimiaaGreat.In

namespace Go.Proofs.YtljanfnhmhimiaaGreat.In
open Oct (putB ofB varB readV)
open Pk (wid putR getR IsU Fit sizeN)
open Is (IsI)

/-- a number without its sign -/
def u (v : Int) : Int := v % 18446744073709551616
/-- a number with a sign -/
def sg (v : Int) : Int := if v < 9223372036854775808 then v else v - 18446744073709551616
theorem u_bd (v : Int) : 0 ≤ u v ∧ u v < 18446744073709551616 := by unfold u; omega
theorem u_sg (v : Int) (h0 : 0 ≤ v) (h1 : v < 18446744073709551616) : u (sg v) = v := by unfold sg u; split <;> omega
theorem sg_bd (v : Int) (h0 : 0 ≤ v) (h1 : v < 18446744073709551616) : -9223372036854775808 ≤ sg v ∧ sg v ≤ 9223372036854775807 := by unfold sg; split <;> omega

def num8 (v : Int) : List Int := putB 8 (u v)
theorem num8_length (v : Int) : (num8 v).length = 8 := Oct.putB_length 8 _
theorem num8_isB (v : Int) : Oct.IsB (num8 v) := Oct.putB_isB 8 _
theorem putB_ofB : ∀ l : List Int, Oct.IsB l → putB l.length (ofB l) = l := by
  intro l
  induction l with
  | nil => intro _; rfl
  | cons c r ih =>
    intro h
    have hc := h c (by simp)
    have hr := ih fun x hx => h x (by simp [hx])
    simp only [List.length_cons, putB, ofB]
    rw [show (c + 256 * ofB r) % 256 = c from by omega, show (c + 256 * ofB r) / 256 = ofB r from by omega, hr]
theorem ofB_bd8 (l : List Int) (h : Oct.IsB l) (hl : l.length = 8) : 0 ≤ ofB l ∧ ofB l < 18446744073709551616 := by
  have := Oct.ofB_bound l h
  rw [hl] at this
  exact this
theorem num8_sg (l : List Int) (h : Oct.IsB l) (hl : l.length = 8) : num8 (sg (ofB l)) = l := by
  have hb := ofB_bd8 l h hl
  unfold num8
  rw [u_sg _ hb.1 hb.2]
  have := putB_ofB l h
  rwa [hl] at this
theorem isI_app {l m : List Int} (h : IsI l) (k : IsI m) : IsI (l ++ m) := fun x hx => (List.mem_append.1 hx).elim (h x) (k x)

/-! ### plain -/
def plainB (l : List Int) : List Int := l.flatMap num8
theorem plainB_cons (x : Int) (l : List Int) : plainB (x :: l) = num8 x ++ plainB l := by simp [plainB]
theorem plainB_snoc (l : List Int) (x : Int) : plainB (l ++ [x]) = plainB l ++ num8 x := by simp [plainB]
theorem plainB_length (l : List Int) : (plainB l).length = 8 * l.length := by
  induction l with
  | nil => rfl
  | cons x l ih => rw [plainB_cons, List.length_append, num8_length, ih, List.length_cons]; omega
theorem plainB_isB (l : List Int) : Oct.IsB (plainB l) := by
  induction l with
  | nil => intro x hx; cases hx
  | cons x l ih => rw [plainB_cons]; exact isB_app (num8_isB x) ih

def decP : Nat → List Int → Option (List Int × List Int)
  | 0, b => some ([], b)
  | n + 1, b => if b.length < 8 then none else match decP n (b.drop 8) with
    | none => none
    | some (l, r) => some (sg (ofB (b.take 8)) :: l, r)
theorem decP_true : ∀ (n : Nat) (b l r : List Int), Oct.IsB b → decP n b = some (l, r) → b = plainB l ++ r ∧ l.length = n ∧ IsI l := by
  intro n
  induction n with
  | zero => intro b l r _ h; simp [decP] at h; obtain ⟨rfl, rfl⟩ := h; exact ⟨rfl, rfl, fun x hx => by cases hx⟩
  | succ n ih =>
    intro b l r hb h
    rw [decP] at h
    split at h
    · cases h
    · rename_i hl
      split at h
      · cases h
      · rename_i l' r' hd
        simp only [Option.some.injEq, Prod.mk.injEq] at h
        obtain ⟨rfl, rfl⟩ := h
        obtain ⟨h1, h2, h3⟩ := ih _ _ _ (isB_drop hb 8) hd
        have ht : (b.take 8).length = 8 := by rw [List.length_take]; omega
        refine ⟨?_, by rw [List.length_cons, h2], ?_⟩
        · rw [plainB_cons, num8_sg _ (isB_take hb 8) ht, List.append_assoc, ← h1, List.take_append_drop]
        · intro x hx
          rcases List.mem_cons.1 hx with rfl | hx
          · have := ofB_bd8 _ (isB_take hb 8) ht
            exact sg_bd _ this.1 this.2
          · exact h3 x hx
/-- behind k numbers -/
theorem decP_step (n k : Nat) (b acc rest : List Int) (hk : k < n) (h : decP n b = (decP (n - k) rest).map (fun p => (acc ++ p.1, p.2))) :
    (rest.length < 8 → decP n b = none) ∧ (8 ≤ rest.length → decP n b = (decP (n - (k + 1)) (rest.drop 8)).map (fun p => ((acc ++ [sg (ofB (rest.take 8))]) ++ p.1, p.2))) := by
  rw [show n - k = (n - (k + 1)) + 1 from by omega, decP] at h
  refine ⟨fun hl => by rw [h, if_pos hl]; rfl, fun hl => ?_⟩
  rw [h, if_neg (by omega)]
  cases decP (n - (k + 1)) (rest.drop 8) with
  | none => rfl
  | some p => simp

/-! ### runs -/
def rle : List Int → List (Nat × Int)
  | [] => []
  | x :: t => match rle t with
    | [] => [(1, x)]
    | (k, y) :: r => if x = y then (k + 1, y) :: r else (1, x) :: (k, y) :: r
theorem rle_head (x : Int) (t : List Int) : ∃ k r, rle (x :: t) = (k, x) :: r := by
  simp only [rle]
  split
  · exact ⟨1, [], rfl⟩
  · split
    · rename_i h; subst h; exact ⟨_, _, rfl⟩
    · exact ⟨1, _, rfl⟩
theorem rle_run (x : Int) (t : List Int) (ht : t.head? ≠ some x) : ∀ k, rle (List.replicate (k + 1) x ++ t) = (k + 1, x) :: rle t := by
  intro k
  induction k with
  | zero =>
    show rle (x :: t) = _
    cases t with
    | nil => rfl
    | cons y t =>
      obtain ⟨k, r, h⟩ := rle_head y t
      rw [rle, h]
      simp only
      rw [if_neg (fun e => ht (by rw [e]; rfl))]
  | succ k ih =>
    rw [List.replicate_succ, List.cons_append, rle, ih]
    simp
/-- a run within a list -/
theorem rle_at (l : List Int) (i k : Nat) (hik : i < k) (hk : k ≤ l.length) (hs : ∀ j, i ≤ j → j < k → l.getD j 0 = l.getD i 0) (he : k = l.length ∨ l.getD k 0 ≠ l.getD i 0) :
    rle (l.drop i) = (k - i, l.getD i 0) :: rle (l.drop k) := by
  have e : l.drop i = List.replicate (k - i) (l.getD i 0) ++ l.drop k := by
    apply List.ext_getElem?
    intro j
    rw [List.getElem?_drop]
    by_cases hj : j < k - i
    · rw [List.getElem?_append_left (by simpa using hj), List.getElem?_replicate, if_pos hj, ← hs (i + j) (by omega) (by omega)]
      rw [List.getElem?_eq_getElem (by omega)]
      simp [List.getD, List.getElem?_eq_getElem (show i + j < l.length by omega)]
    · rw [List.getElem?_append_right (by simpa using hj), List.length_replicate, List.getElem?_drop]
      congr 1
      omega
  obtain ⟨m, hm⟩ : ∃ m, k - i = m + 1 := ⟨k - i - 1, by omega⟩
  rw [e, hm]
  refine rle_run _ _ ?_ m
  rcases he with h | h
  · rw [List.drop_eq_nil_of_le (by omega)]; simp
  · intro hh
    by_cases hkl : k < l.length
    · rw [List.head?_drop, List.getElem?_eq_getElem hkl] at hh
      apply h
      rw [List.getD_eq_getElem?_getD, List.getElem?_eq_getElem hkl]
      exact Option.some.inj hh
    · rw [List.drop_eq_nil_of_le (by omega)] at hh; simp at hh

def runB (p : Nat × Int) : List Int := varB 9 p.1 ++ num8 p.2
def bytesR (d : List (Nat × Int)) : List Int := d.flatMap runB
theorem bytesR_snoc (d : List (Nat × Int)) (p : Nat × Int) : bytesR (d ++ [p]) = bytesR d ++ varB 9 p.1 ++ num8 p.2 := by simp [bytesR, runB]
theorem bytesR_cons (d : List (Nat × Int)) (p : Nat × Int) : bytesR (p :: d) = varB 9 p.1 ++ num8 p.2 ++ bytesR d := by simp [bytesR, runB]
def runsB (l : List Int) : List Int := bytesR (rle l)
theorem runsB_run (x : Int) (t : List Int) (ht : t.head? ≠ some x) (k : Nat) : runsB (List.replicate (k + 1) x ++ t) = varB 9 ((k + 1 : Nat) : Int) ++ num8 x ++ runsB t := by
  unfold runsB; rw [rle_run x t ht k, bytesR_cons]

theorem rle_sum (l : List Int) : ∀ p ∈ rle l, 1 ≤ p.1 ∧ p.1 ≤ l.length := by
  induction l with
  | nil => intro p hp; cases hp
  | cons x t ih =>
    intro p hp
    simp only [rle] at hp
    split at hp
    · simp at hp; subst hp; simp
    · rename_i k y r hr
      rw [hr] at ih
      split at hp
      · rcases List.mem_cons.1 hp with rfl | hp
        · have := ih (k, y) (by simp); simp at this ⊢; omega
        · have := ih p (by simp [hp]); simp; omega
      · rcases List.mem_cons.1 hp with rfl | hp
        · simp
        · have := ih p hp; simp; omega
theorem rle_len (l : List Int) : (rle l).length ≤ l.length := by
  induction l with
  | nil => simp [rle]
  | cons x t ih =>
    simp only [rle]
    split
    · simp
    · rename_i k y r hr
      rw [hr] at ih
      split
      · simp at ih ⊢; omega
      · simp at ih ⊢; omega
theorem bytesR_len (d : List (Nat × Int)) : (bytesR d).length ≤ 18 * d.length := by
  induction d with
  | nil => simp [bytesR]
  | cons p d ih =>
    rw [bytesR_cons, List.length_append, List.length_append, num8_length, List.length_cons]
    have := Oct.varB_le 9 p.1
    omega
theorem runsB_len (l : List Int) : (runsB l).length ≤ 18 * l.length := Nat.le_trans (bytesR_len _) (Nat.mul_le_mul_left _ (rle_len l))
theorem runsB_isB (l : List Int) (hl : l.length < 18446744073709551616) : Oct.IsB (runsB l) := by
  intro x hx
  unfold runsB bytesR at hx
  obtain ⟨p, hp, hx⟩ := List.mem_flatMap.1 hx
  have := rle_sum l p hp
  exact isB_app (varB_isB p.1 (by omega)) (num8_isB p.2) x hx

def decR (chk : Bool) : Nat → Option Int → Nat → List Int → Option (List Int × List Int)
  | _, _, 0, b => some ([], b)
  | 0, _, _ + 1, _ => none
  | f + 1, last, m + 1, b =>
    if (readV 0 0 b).2.1 ≠ 0 then none
    else if (b.drop (readV 0 0 b).2.2).length < 8 then none
    else if (readV 0 0 b).1 < 1 ∨ ((m + 1 : Nat) : Int) < (readV 0 0 b).1 ∨ (chk = true ∧ last = some (sg (ofB ((b.drop (readV 0 0 b).2.2).take 8)))) then none
    else match decR chk f (some (sg (ofB ((b.drop (readV 0 0 b).2.2).take 8)))) (m + 1 - (readV 0 0 b).1.toNat) ((b.drop (readV 0 0 b).2.2).drop 8) with
      | none => none
      | some (l, r) => some (List.replicate (readV 0 0 b).1.toNat (sg (ofB ((b.drop (readV 0 0 b).2.2).take 8))) ++ l, r)
theorem decR_zero (chk : Bool) (f : Nat) (last : Option Int) (b : List Int) : decR chk f last 0 b = some ([], b) := by cases f <;> rfl

theorem decR_true (chk : Bool) : ∀ (f : Nat) (last : Option Int) (m : Nat) (b l r : List Int), Oct.IsB b → decR chk f last m b = some (l, r) →
    l.length = m ∧ IsI l ∧ (chk = true → b = runsB l ++ r ∧ (l = [] ∨ last ≠ l.head?)) := by
  intro f
  induction f with
  | zero =>
    intro last m b l r hb h
    cases m with
    | zero => rw [decR_zero] at h; simp at h; obtain ⟨rfl, rfl⟩ := h; exact ⟨rfl, (fun x hx => by cases hx), fun _ => ⟨rfl, .inl rfl⟩⟩
    | succ m => simp [decR] at h
  | succ f ih =>
    intro last m b l r hb h
    cases m with
    | zero => rw [decR_zero] at h; simp at h; obtain ⟨rfl, rfl⟩ := h; exact ⟨rfl, (fun x hx => by cases hx), fun _ => ⟨rfl, .inl rfl⟩⟩
    | succ m =>
      obtain ⟨q, er, n, hq⟩ : ∃ q er n, readV 0 0 b = (q, er, n) := ⟨_, _, _, rfl⟩
      simp only [decR, hq] at h
      split at h
      · cases h
      · rename_i he
        have he : er = 0 := by simpa using he
        subst he
        obtain ⟨q0, q1, hbq⟩ := var_readV b hb q n hq
        split at h
        · cases h
        · rename_i hl
          have hb1 := isB_drop hb n
          have ht : ((b.drop n).take 8).length = 8 := by rw [List.length_take]; omega
          have hv := ofB_bd8 _ (isB_take hb1 8) ht
          have hn8 := num8_sg _ (isB_take hb1 8) ht
          obtain ⟨v, hve⟩ : ∃ v, v = sg (ofB ((b.drop n).take 8)) := ⟨_, rfl⟩
          have hvI := sg_bd _ hv.1 hv.2
          rw [← hve] at h hn8 hvI
          split at h
          · cases h
          · rename_i hc
            split at h
            · cases h
            · rename_i l' r' hd
              simp only [Option.some.injEq, Prod.mk.injEq] at h
              obtain ⟨rfl, rfl⟩ := h
              obtain ⟨h1, h2, h3⟩ := ih _ _ _ _ _ (isB_drop hb1 8) hd
              obtain ⟨k, hk⟩ : ∃ k : Nat, q = ((k + 1 : Nat) : Int) := ⟨q.toNat - 1, by omega⟩
              subst hk
              rw [Int.toNat_natCast] at h1 ⊢
              refine ⟨by rw [List.length_append, List.length_replicate, h1]; omega, isI_app (fun x hx => by rw [List.eq_of_mem_replicate hx]; exact hvI) h2, fun hchk => ?_⟩
              obtain ⟨h4, h5⟩ := h3 hchk
              have hne : l'.head? ≠ some v := by
                rcases h5 with rfl | h5
                · simp
                · exact fun e => h5 e.symm
              refine ⟨?_, .inr ?_⟩
              · rw [runsB_run v l' hne k, hn8, List.append_assoc, List.append_assoc, ← h4, List.take_append_drop, ← hbq]
              · intro e
                refine hc (.inr (.inr ⟨hchk, ?_⟩))
                rw [e, List.replicate_succ, List.cons_append]; rfl

/-- behind some runs -/
theorem decR_step (chk : Bool) (f m : Nat) (acc rest : List Int) (X : Option (List Int × List Int)) (h : X = (decR chk (f + 1) acc.getLast? (m + 1) rest).map (fun p => (acc ++ p.1, p.2))) :
    ((readV 0 0 rest).2.1 ≠ 0 → X = none) ∧
    ((readV 0 0 rest).2.1 = 0 → (rest.drop (readV 0 0 rest).2.2).length < 8 → X = none) ∧
    ((readV 0 0 rest).2.1 = 0 → 8 ≤ (rest.drop (readV 0 0 rest).2.2).length →
      ((readV 0 0 rest).1 < 1 ∨ ((m + 1 : Nat) : Int) < (readV 0 0 rest).1 ∨ (chk = true ∧ acc.getLast? = some (sg (ofB ((rest.drop (readV 0 0 rest).2.2).take 8)))) → X = none) ∧
      (¬ ((readV 0 0 rest).1 < 1 ∨ ((m + 1 : Nat) : Int) < (readV 0 0 rest).1 ∨ (chk = true ∧ acc.getLast? = some (sg (ofB ((rest.drop (readV 0 0 rest).2.2).take 8))))) →
        X = (decR chk f (acc ++ List.replicate (readV 0 0 rest).1.toNat (sg (ofB ((rest.drop (readV 0 0 rest).2.2).take 8)))).getLast? (m + 1 - (readV 0 0 rest).1.toNat) ((rest.drop (readV 0 0 rest).2.2).drop 8)).map
          (fun p => ((acc ++ List.replicate (readV 0 0 rest).1.toNat (sg (ofB ((rest.drop (readV 0 0 rest).2.2).take 8)))) ++ p.1, p.2)))) := by
  rw [decR] at h
  generalize hq : readV 0 0 rest = q at h ⊢
  refine ⟨fun h1 => by rw [h, if_pos h1]; rfl, fun h1 h2 => by rw [h, if_neg (by simpa using h1), if_pos h2]; rfl, fun h1 h2 => ⟨fun h3 => by rw [h, if_neg (by simpa using h1), if_neg (by omega), if_pos h3]; rfl, fun h3 => ?_⟩⟩
  rw [h, if_neg (by simpa using h1), if_neg (by omega), if_neg h3]
  generalize sg (ofB ((rest.drop q.2.2).take 8)) = v at h3 ⊢
  have e : (acc ++ List.replicate q.1.toNat v).getLast? = some v := by
    obtain ⟨k, hk⟩ : ∃ k, q.1.toNat = k + 1 := ⟨q.1.toNat - 1, by omega⟩
    rw [hk, List.replicate_succ', ← List.append_assoc, List.getLast?_append]; simp
  rw [e]
  cases decR chk f (some v) (m + 1 - q.1.toNat) ((rest.drop q.2.2).drop 8) with
  | none => rfl
  | some p => simp
end Go.Proofs.YtljanfnhmhimiaaGreat.In

namespace Go.Proofs.YtljanfnhmhimiaaGreat.In
open Oct (putB ofB varB readV)
open Pk (wid putR getR IsU Fit sizeN canB)
open Is (IsI)

/-- the smallest number, 0 of none -/
def minL : List Int → Int
  | [] => 0
  | x :: t => t.foldl min x
theorem minL_snoc (l : List Int) (x : Int) (h : l ≠ []) : minL (l ++ [x]) = min (minL l) x := by
  cases l with
  | nil => exact absurd rfl h
  | cons y t => simp [minL, List.foldl_append]
/-- what numbers have above the smallest one -/
def offs (l : List Int) : List Int := l.map (fun v => u (v - minL l))
theorem offs_length (l : List Int) : (offs l).length = l.length := by simp [offs]
theorem offs_isU (l : List Int) : IsU (offs l) := by
  intro x hx
  obtain ⟨v, _, rfl⟩ := List.mem_map.1 hx
  exact u_bd _
def packedB (l : List Int) : List Int := num8 (minL l) ++ [((wid (offs l) : Nat) : Int)] ++ (putR (offs l) (wid (offs l))).2
theorem put_yes (l : List Int) (hl : l.length ≤ 65536) : (putR (offs l) (wid (offs l))).1 = 0 := by
  have := Pk.wid_64 (offs_isU l)
  exact (Pk.put_ok _ _).2 ⟨(Pk.canB_iff _ _).2 (by rw [offs_length]; omega), by omega⟩
theorem packed_length (l : List Int) (hl : l.length ≤ 65536) : (packedB l).length = 9 + sizeN l.length (wid (offs l)) := by
  have h := Pk.put_size (offs l) (wid (offs l)) (put_yes l hl)
  have hw := Pk.wid_64 (offs_isU l)
  unfold Pk.sizeF at h
  rw [offs_length, if_pos ((Pk.canB_iff _ _).2 (by omega)), Int.toNat_natCast, Int.toNat_natCast] at h
  unfold packedB
  rw [List.length_append, List.length_append, num8_length]
  simp only [List.length_singleton]
  omega
theorem packedB_isB (l : List Int) : Oct.IsB (packedB l) := by
  have hw := Pk.wid_64 (offs_isU l)
  refine isB_app (isB_app (num8_isB _) ?_) (Pk.Fit.isB (Pk.put_isB _ _))
  intro x hx
  simp only [List.mem_singleton] at hx
  omega

/-- one number above the smallest one -/
def above (b : List Int) (v : Int) : Int := sg ((ofB (b.take 8) + v) % 18446744073709551616)
def decK (chk : Bool) (n : Nat) (b : List Int) : Option (List Int) :=
  if b.length < 9 then none
  else if (getR (b.drop 9) n (b.getD 8 0)).1 ≠ 0 then none
  else if chk = true ∧ ¬ (minL ((getR (b.drop 9) n (b.getD 8 0)).2.map (above b)) = sg (ofB (b.take 8)) ∧ ((wid (getR (b.drop 9) n (b.getD 8 0)).2 : Nat) : Int) = b.getD 8 0) then none
  else some ((getR (b.drop 9) n (b.getD 8 0)).2.map (above b))

theorem decK_true (chk : Bool) (n : Nat) (b l : List Int) (hb : Oct.IsB b) (h : decK chk n b = some l) : l.length = n ∧ IsI l ∧ (chk = true → b = packedB l) := by
  unfold decK at h
  split at h
  · cases h
  · rename_i h9
    split at h
    · cases h
    · rename_i he
      have he : (getR (b.drop 9) n (b.getD 8 0)).1 = 0 := by simpa using he
      obtain ⟨p1, p2, p3, p4⟩ := Pk.put_get (b.drop 9) n (b.getD 8 0) (Pk.fit_isB (isB_drop hb 9)) he
      split at h
      · cases h
      · rename_i hc
        simp only [Option.some.injEq] at h
        obtain ⟨A, hA⟩ : ∃ A, A = (getR (b.drop 9) n (b.getD 8 0)).2 := ⟨_, rfl⟩
        rw [← hA] at h hc p1 p2 p3 p4
        obtain ⟨z, hz⟩ : ∃ z, z = ofB (b.take 8) := ⟨_, rfl⟩
        have ht : (b.take 8).length = 8 := by rw [List.length_take]; omega
        have hzb := ofB_bd8 _ (isB_take hb 8) ht
        have hz8 := num8_sg _ (isB_take hb 8) ht
        rw [← hz] at hzb hz8 hc
        have hI : IsI l := by
          rw [← h]
          intro x hx
          obtain ⟨v, _, rfl⟩ := List.mem_map.1 hx
          exact sg_bd _ (by omega) (by omega)
        refine ⟨by rw [← h, List.length_map]; omega, hI, fun hchk => ?_⟩
        obtain ⟨c1, c2⟩ := Classical.not_not.1 (fun hn => hc ⟨hchk, hn⟩)
        have c1' : minL l = sg z := by rw [← h]; exact c1
        have e : offs l = A := by
          unfold offs
          rw [c1', ← h, List.map_map]
          conv => rhs; rw [← List.map_id A]
          apply List.map_congr_left
          intro v hv
          have hv2 := p4 v hv
          show u (above b v - sg z) = v
          unfold above
          rw [← hz]
          unfold u sg
          split <;> split <;> omega
        have c2' : b.getD 8 0 = ((wid A : Nat) : Int) := c2.symm
        unfold packedB
        rw [c1', e, hz8, ← c2', p1]
        have hd : b.drop 8 = b.getD 8 0 :: b.drop 9 := by
          rw [List.drop_eq_getElem_cons (by omega)]
          simp [List.getD, List.getElem?_eq_getElem (show 8 < b.length by omega)]
        show b = b.take 8 ++ [b.getD 8 0] ++ b.drop 9
        rw [List.append_assoc]
        show b = b.take 8 ++ (b.getD 8 0 :: b.drop 9)
        rw [← hd, List.take_append_drop]

/-! ### all forms -/
def headB (k : Nat) (n : Nat) : List Int := (k : Int) :: varB 9 (n : Int)
def bodyB (k : Nat) (l : List Int) : List Int := if k = 1 then plainB l else if k = 2 then runsB l else packedB l
def encB (k : Nat) (l : List Int) : List Int := headB k l.length ++ bodyB k l
theorem encB_isB (k : Nat) (l : List Int) (hk : k ≤ 3) (hl : l.length ≤ 65536) : Oct.IsB (encB k l) := by
  refine isB_app ?_ ?_
  · intro x hx
    rcases List.mem_cons.1 hx with rfl | hx
    · omega
    · exact varB_isB l.length (by omega) x hx
  · unfold bodyB
    split
    · exact plainB_isB l
    · split
      · exact runsB_isB l (by omega)
      · exact packedB_isB l
def decF (chk : Bool) (k n : Nat) (b : List Int) : Option (List Int × List Int) :=
  if k = 1 then decP n b else if k = 2 then decR chk n none n b else (decK chk n b).map (fun l => (l, []))
theorem decF_true (chk : Bool) (k n : Nat) (b l r : List Int) (hb : Oct.IsB b) (h : decF chk k n b = some (l, r)) : l.length = n ∧ IsI l ∧ (chk = true → b = bodyB k l ++ r) := by
  unfold decF at h
  unfold bodyB
  by_cases h1 : k = 1
  · rw [if_pos h1] at h
    rw [if_pos h1]
    obtain ⟨a, b, c⟩ := decP_true _ _ _ _ hb h
    exact ⟨b, c, fun _ => a⟩
  · rw [if_neg h1] at h
    rw [if_neg h1]
    by_cases h2 : k = 2
    · rw [if_pos h2] at h
      rw [if_pos h2]
      obtain ⟨a, b, c⟩ := decR_true _ _ _ _ _ _ _ hb h
      exact ⟨a, b, fun hc => (c hc).1⟩
    · rw [if_neg h2] at h
      rw [if_neg h2]
      cases hd : decK chk n b with
      | none => rw [hd] at h; cases h
      | some l' =>
        rw [hd] at h
        simp only [Option.map_some, Option.some.injEq, Prod.mk.injEq] at h
        obtain ⟨rfl, rfl⟩ := h
        obtain ⟨a, b, c⟩ := decK_true _ _ _ _ hb hd
        exact ⟨a, b, fun hc => by rw [List.append_nil]; exact c hc⟩

/-- what Get makes of what a form's reading tells -/
def fin (o : Option (List Int × List Int)) : Int × List Int := match o with
  | some (l, []) => (0, l)
  | _ => (4, [])
/-- Get's answer: the error, the numbers -/
def getI (b : List Int) : Int × List Int := match b with
  | [] => (4, [])
  | k :: t =>
    if k < 1 ∨ 3 < k then (4, [])
    else if (readV 0 0 t).2.1 ≠ 0 ∨ 4096 < (readV 0 0 t).1 then (4, [])
    else fin (decF true k.toNat (readV 0 0 t).1.toNat (t.drop (readV 0 0 t).2.2))
theorem get_true (b l : List Int) (hb : Oct.IsB b) (h : getI b = (0, l)) : ∃ k, 1 ≤ k ∧ k ≤ 3 ∧ b = encB k l ∧ l.length ≤ 4096 ∧ IsI l := by
  cases b with
  | nil => simp [getI] at h
  | cons k t =>
    simp only [getI] at h
    split at h
    · simp at h
    · rename_i hk
      obtain ⟨q, er, n, hq⟩ : ∃ q er n, readV 0 0 t = (q, er, n) := ⟨_, _, _, rfl⟩
      rw [hq] at h
      simp only at h
      split at h
      · simp at h
      · rename_i hc
        have hbt : Oct.IsB t := fun x hx => hb x (by simp [hx])
        have er0 : er = 0 := Classical.not_not.1 (fun e => hc (.inl e))
        subst er0
        obtain ⟨q0, q1, hbq⟩ := var_readV t hbt q n hq
        obtain ⟨j, rfl⟩ := Int.eq_ofNat_of_zero_le q0
        obtain ⟨m, rfl⟩ := Int.eq_ofNat_of_zero_le (show 0 ≤ k by omega)
        simp only [Int.toNat_natCast] at h
        cases hd : decF true m j (t.drop n) with
        | none => rw [hd] at h; simp [fin] at h
        | some p =>
          obtain ⟨l', r⟩ := p
          rw [hd] at h
          cases r with
          | cons y r => simp [fin] at h
          | nil =>
            simp only [fin, Prod.mk.injEq, true_and] at h
            subst h
            obtain ⟨a, c, e⟩ := decF_true _ _ _ _ _ _ (isB_drop hbt n) hd
            have e := e rfl
            rw [List.append_nil] at e
            refine ⟨m, by omega, by omega, ?_, by omega, c⟩
            unfold encB headB
            rw [a, ← e, List.cons_append, ← hbq]
theorem get_cases (b : List Int) : (∃ l, getI b = (0, l)) ∨ getI b = (4, []) := by
  cases b with
  | nil => exact .inr rfl
  | cons k t =>
    simp only [getI]
    split
    · exact .inr rfl
    · split
      · exact .inr rfl
      · unfold fin
        split
        · exact .inl ⟨_, rfl⟩
        · exact .inr rfl

theorem get_len (b : List Int) (hb : Oct.IsB b) : (getI b).2.length ≤ 4096 ∧ IsI (getI b).2 := by
  rcases get_cases b with ⟨l, h⟩ | h
  · obtain ⟨_, _, _, _, a, c⟩ := get_true b l hb h
    rw [h]; exact ⟨a, c⟩
  · rw [h]; exact ⟨by simp, fun x hx => by cases hx⟩

/-! ### the shortest -/
def bestB (l : List Int) : List Int :=
  let m := if (encB 2 l).length < (encB 1 l).length then encB 2 l else encB 1 l
  if (encB 3 l).length < m.length then encB 3 l else m
def tooMany (l : List Int) (e : List Int) : Int × List Int := if 4096 < l.length then (3, []) else (0, e)
theorem best_cases (l : List Int) : (bestB l = encB 1 l ∨ bestB l = encB 2 l ∨ bestB l = encB 3 l) := by
  unfold bestB
  simp only
  split <;> split <;> simp
theorem best_len (l : List Int) : (bestB l).length = min (min (encB 1 l).length (encB 2 l).length) (encB 3 l).length := by
  unfold bestB
  simp only
  split <;> split <;> omega
end Go.Proofs.YtljanfnhmhimiaaGreat.In

namespace Go.Proofs.YtljanfnhmhimiaaGreat.Tx
open Go.RowKit
open Ss (IsS)
open Oct (varB readV)
open Pk (wid putR getR IsU Fit sizeN)

/-- may texts be put? -/
def okB (l : List (List Int)) : Bool := decide (l.length ≤ 4096) && l.all fun s => decide (s.length ≤ 65536)
def OkT (l : List (List Int)) : Prop := l.length ≤ 4096 ∧ ∀ s ∈ l, s.length ≤ 65536
theorem okB_iff (l : List (List Int)) : okB l = true ↔ OkT l := by simp [okB, OkT]

/-- a text's bytes -/
def strB (s : List Int) : List Int := varB 9 (s.length : Int) ++ s
def strsB (l : List (List Int)) : List Int := l.flatMap strB
theorem strsB_cons (s : List Int) (l : List (List Int)) : strsB (s :: l) = strB s ++ strsB l := by simp [strsB]
theorem strsB_snoc (l : List (List Int)) (s : List Int) : strsB (l ++ [s]) = strsB l ++ strB s := by simp [strsB]
theorem strB_len (s : List Int) : (strB s).length ≤ s.length + 10 := by
  unfold strB; rw [List.length_append]; have := Oct.varB_le 9 (s.length : Int); omega
theorem strsB_len (l : List (List Int)) (h : ∀ s ∈ l, s.length ≤ 65536) : (strsB l).length ≤ l.length * 65546 := by
  induction l with
  | nil => simp [strsB]
  | cons s l ih =>
    rw [strsB_cons, List.length_append, List.length_cons]
    have := ih fun z hz => h z (by simp [hz])
    have := strB_len s
    have := h s (by simp)
    omega
theorem strB_isB {s : List Int} (h : Bs.IsB s) (hl : s.length ≤ 1000000000) : Oct.IsB (strB s) := In.isB_app (In.varB_isB s.length (by omega)) h
theorem strsB_isB {l : List (List Int)} (h : AllB l) (hl : ∀ s ∈ l, s.length ≤ 1000000000) : Oct.IsB (strsB l) := by
  induction l with
  | nil => intro x hx; cases hx
  | cons s l ih => rw [strsB_cons]; exact In.isB_app (strB_isB (h s (by simp)) (hl s (by simp))) (ih (fun z hz => h z (by simp [hz])) fun z hz => hl z (by simp [hz]))

/-! ### the forms -/
def plainT (l : List (List Int)) : List Int := 1 :: (varB 9 (l.length : Int) ++ strsB l)
def ixT (l : List (List Int)) : List Int := idxsF (wordsF l) l
def tailT (ix : List Int) : List Int := (wid ix : Int) :: (putR ix (wid ix)).2
def dictT (l : List (List Int)) : List Int := 2 :: (varB 9 (l.length : Int) ++ ((varB 9 ((wordsF l).length : Int) ++ strsB (wordsF l)) ++ tailT (ixT l)))
/-- the answer of a form -/
def formR (b : List Int) (l : List (List Int)) : Int × List Int := if okB l = true then (0, b) else (3, [])
def bestT (l : List (List Int)) : List Int := if (dictT l).length < (plainT l).length then dictT l else plainT l

theorem ix_isU {l : List (List Int)} (h : l.length ≤ 65536) : IsU (ixT l) := by
  intro x hx
  obtain ⟨s, hs, rfl⟩ := List.mem_map.1 hx
  have h1 := idx_lt ((mem_words s l).2 hs)
  have := words_len l
  omega
theorem put_ix {l : List (List Int)} (h : l.length ≤ 65536) : (putR (ixT l) (wid (ixT l))).1 = 0 := by
  refine (Pk.put_ok _ _).2 ⟨(Pk.canB_iff _ _).2 ?_, Int.le_refl _⟩
  have := Pk.wid_64 (ix_isU h)
  rw [show (ixT l).length = l.length from idxs_len _ _]
  omega
theorem tail_isB (ix : List Int) (hu : IsU ix) : Oct.IsB (tailT ix) := by
  intro x hx
  rcases List.mem_cons.1 hx with e | hx
  · subst e; have := Pk.wid_64 hu; omega
  · exact (Pk.put_isB ix _).isB x hx

/-! ### read again -/
def readS (b : List Int) : Option (List Int × List Int) :=
  if (readV 0 0 b).2.1 ≠ 0 ∨ 65536 < (readV 0 0 b).1 ∨ ((b.drop (readV 0 0 b).2.2).length : Int) < (readV 0 0 b).1 then none
  else some ((b.drop (readV 0 0 b).2.2).take (readV 0 0 b).1.toNat, (b.drop (readV 0 0 b).2.2).drop (readV 0 0 b).1.toNat)
def readSs : Nat → List Int → Option (List (List Int) × List Int)
  | 0, b => some ([], b)
  | n + 1, b => match readS b with
    | none => none
    | some (s, r) => match readSs n r with
      | none => none
      | some (l, r2) => some (s :: l, r2)
def readC (b : List Int) : Option (Nat × List Int) :=
  if (readV 0 0 b).2.1 ≠ 0 ∨ 4096 < (readV 0 0 b).1 then none else some ((readV 0 0 b).1.toNat, b.drop (readV 0 0 b).2.2)

theorem readS_some {b : List Int} (hb : Oct.IsB b) {s r : List Int} (h : readS b = some (s, r)) : s.length ≤ 65536 ∧ b = strB s ++ r := by
  unfold readS at h
  obtain ⟨x, e, n, hv⟩ : ∃ x e n, readV 0 0 b = (x, e, n) := ⟨_, _, _, rfl⟩
  rw [hv] at h
  simp only at h
  split at h
  · cases h
  · rename_i hc
    have he : e = 0 := Classical.byContradiction fun k => hc (.inl k)
    subst he
    obtain ⟨h0, -, hbe⟩ := In.var_readV b hb x n hv
    have hx : x ≤ 65536 := by omega
    have hl : x ≤ ((b.drop n).length : Int) := by omega
    obtain ⟨m, rfl⟩ := Int.eq_ofNat_of_zero_le h0
    rw [Int.toNat_natCast] at h
    simp only [Option.some.injEq, Prod.mk.injEq] at h
    obtain ⟨rfl, rfl⟩ := h
    have hm : ((b.drop n).take m).length = m := by rw [List.length_take]; omega
    refine ⟨by rw [hm]; omega, ?_⟩
    unfold strB
    rw [hm, List.append_assoc, List.take_append_drop]
    exact hbe
theorem isB_right {a b : List Int} (h : Oct.IsB (a ++ b)) : Oct.IsB b := fun x hx => h x (List.mem_append_right a hx)
theorem isB_left {a b : List Int} (h : Oct.IsB (a ++ b)) : Oct.IsB a := fun x hx => h x (List.mem_append_left b hx)
theorem readSs_some : ∀ (n : Nat) (b : List Int), Oct.IsB b → ∀ (l : List (List Int)) (r : List Int), readSs n b = some (l, r) → l.length = n ∧ (∀ s ∈ l, s.length ≤ 65536) ∧ AllB l ∧ b = strsB l ++ r
  | 0, b, _, l, r, h => by
    simp only [readSs, Option.some.injEq, Prod.mk.injEq] at h
    obtain ⟨rfl, rfl⟩ := h
    refine ⟨rfl, fun s hs => ?_, fun s hs => ?_, rfl⟩ <;> cases hs
  | n + 1, b, hb, l, r, h => by
    rw [readSs] at h
    cases hs : readS b with
    | none => rw [hs] at h; cases h
    | some p =>
      obtain ⟨s, r1⟩ := p
      rw [hs] at h
      obtain ⟨h1, h2⟩ := readS_some hb hs
      have hb1 : Oct.IsB (strB s ++ r1) := h2 ▸ hb
      simp only at h
      cases hr : readSs n r1 with
      | none => rw [hr] at h; cases h
      | some q =>
        obtain ⟨l1, r2⟩ := q
        rw [hr] at h
        simp only [Option.some.injEq, Prod.mk.injEq] at h
        obtain ⟨rfl, rfl⟩ := h
        obtain ⟨e1, e2, e3, e4⟩ := readSs_some n r1 (isB_right hb1) l1 r2 hr
        refine ⟨by rw [List.length_cons, e1], fun z hz => ?_, fun z hz => ?_, ?_⟩
        · rcases List.mem_cons.1 hz with e | hz
          · subst e; exact h1
          · exact e2 z hz
        · rcases List.mem_cons.1 hz with e | hz
          · subst e; exact isB_right (isB_left hb1)
          · exact e3 z hz
        · rw [strsB_cons, List.append_assoc, ← e4]; exact h2
theorem readC_some {b : List Int} (hb : Oct.IsB b) {n : Nat} {r : List Int} (h : readC b = some (n, r)) : n ≤ 4096 ∧ b = varB 9 (n : Int) ++ r := by
  unfold readC at h
  obtain ⟨x, e, m, hv⟩ : ∃ x e m, readV 0 0 b = (x, e, m) := ⟨_, _, _, rfl⟩
  rw [hv] at h
  simp only at h
  split at h
  · cases h
  · rename_i hc
    have he : e = 0 := Classical.byContradiction fun k => hc (.inl k)
    subst he
    obtain ⟨h0, -, hbe⟩ := In.var_readV b hb x m hv
    obtain ⟨k, rfl⟩ := Int.eq_ofNat_of_zero_le h0
    rw [Int.toNat_natCast] at h
    simp only [Option.some.injEq, Prod.mk.injEq] at h
    obtain ⟨rfl, rfl⟩ := h
    exact ⟨by omega, hbe⟩

/-- as many texts as it says -/
def getPl (b : List Int) : Option (List (List Int) × List Int) := match readC b with
  | none => none
  | some (n, r) => readSs n r
def getIx (n : Nat) : List Int → Option (List Int)
  | [] => none
  | w :: r => if (getR r n w).1 ≠ 0 ∨ (wid (getR r n w).2 : Int) ≠ w then none else some (getR r n w).2
def dictL (ws : List (List Int)) (ix : List Int) : Option (List (List Int)) :=
  if ix.all (fun i => decide (i < (ws.length : Int))) = true then some (ix.map fun i => ws.getD i.toNat []) else none
def getDt (b : List Int) : Option (List (List Int)) := match readC b with
  | none => none
  | some (n, r) => match getPl r with
    | none => none
    | some (ws, r2) => match getIx n r2 with
      | none => none
      | some ix => match dictL ws ix with
        | none => none
        | some l => if wordsF l = ws then some l else none
def endT : Option (List (List Int) × List Int) → Option (List (List Int))
  | some (l, []) => some l
  | _ => none
/-- what the program's Get tells -/
def getT : List Int → Option (List (List Int))
  | [] => none
  | k :: t => if k = 1 then endT (getPl t) else if k = 2 then getDt t else none
theorem getT_cons (k : Int) (t : List Int) : getT (k :: t) = if k = 1 then endT (getPl t) else if k = 2 then getDt t else none := rfl
/-- the answer: an error, the texts -/
def resT : Option (List (List Int)) → Int × List (List Int)
  | some l => (0, l)
  | none => (4, [])

theorem dictL_some {ws : List (List Int)} (hn : ws.Nodup) {ix : List Int} (hu : ∀ i ∈ ix, 0 ≤ i) {l : List (List Int)} (h : dictL ws ix = some l) : l.length = ix.length ∧ idxsF ws l = ix ∧ ∀ s ∈ l, s ∈ ws := by
  unfold dictL at h
  split at h
  · rename_i ha
    simp only [Option.some.injEq] at h
    subst h
    have hlt : ∀ i ∈ ix, i.toNat < ws.length := fun i hi => by have h1 := of_decide_eq_true (List.all_eq_true.1 ha i hi); have h2 := hu i hi; omega
    refine ⟨by simp, ?_, fun s hs => ?_⟩
    · unfold idxsF
      rw [List.map_map]
      refine (List.map_congr_left fun i hi => ?_).trans (List.map_id ix)
      simp only [Function.comp, id]
      rw [idx_at hn i.toNat (hlt i hi)]
      have := hu i hi
      omega
    · obtain ⟨i, hi, rfl⟩ := List.mem_map.1 hs
      rw [List.getD_eq_getElem?_getD, List.getElem?_eq_getElem (hlt i hi)]
      exact List.getElem_mem _
  · cases h

theorem get_some {b : List Int} (hb : Oct.IsB b) {l : List (List Int)} (h : getT b = some l) : OkT l ∧ AllB l ∧ (b = plainT l ∨ b = dictT l) := by
  match b, hb, h with
  | k :: t, hb, h =>
    have ht : Oct.IsB t := fun x hx => hb x (by simp [hx])
    rw [getT_cons] at h
    split at h
    · rename_i hk
      unfold getPl at h
      cases hc : readC t with
      | none => rw [hc] at h; cases h
      | some p =>
        obtain ⟨n, r⟩ := p
        rw [hc] at h
        simp only at h
        obtain ⟨hn, ht2⟩ := readC_some ht hc
        cases hs : readSs n r with
        | none => rw [hs] at h; cases h
        | some q =>
          obtain ⟨l1, r1⟩ := q
          rw [hs] at h
          cases r1 with
          | cons y r1 => cases h
          | nil =>
            simp only [endT, Option.some.injEq] at h
            subst h
            obtain ⟨e1, e2, e3, e4⟩ := readSs_some n r (isB_right (ht2 ▸ ht)) l1 [] hs
            refine ⟨⟨by omega, e2⟩, e3, .inl ?_⟩
            rw [List.append_nil] at e4
            rw [hk, ht2, plainT, e1, e4]
    · rename_i hk1
      split at h
      · rename_i hk
        unfold getDt at h
        cases hc : readC t with
        | none => rw [hc] at h; cases h
        | some p =>
          obtain ⟨n, r⟩ := p
          rw [hc] at h
          simp only at h
          obtain ⟨hn, ht2⟩ := readC_some ht hc
          have hr : Oct.IsB r := isB_right (ht2 ▸ ht)
          unfold getPl at h
          cases hc2 : readC r with
          | none => rw [hc2] at h; cases h
          | some p2 =>
            obtain ⟨m, r2⟩ := p2
            rw [hc2] at h
            simp only at h
            obtain ⟨hm, hr2⟩ := readC_some hr hc2
            cases hs : readSs m r2 with
            | none => rw [hs] at h; cases h
            | some q =>
              obtain ⟨ws, r3⟩ := q
              rw [hs] at h
              simp only at h
              obtain ⟨e1, e2, e3, e4⟩ := readSs_some m r2 (isB_right (hr2 ▸ hr)) ws r3 hs
              have hr3 : Oct.IsB r3 := isB_right (e4 ▸ (isB_right (hr2 ▸ hr)))
              cases r3 with
              | nil => simp [getIx] at h
              | cons w r4 =>
                rw [getIx] at h
                by_cases hg : (getR r4 n w).1 ≠ 0 ∨ (wid (getR r4 n w).2 : Int) ≠ w
                · rw [if_pos hg] at h; cases h
                · rw [if_neg hg] at h
                  simp only at h
                  have g1 : (getR r4 n w).1 = 0 := Classical.byContradiction fun k => hg (.inl k)
                  have g2 : (wid (getR r4 n w).2 : Int) = w := Classical.byContradiction fun k => hg (.inr k)
                  obtain ⟨p1, p2, p3, p4⟩ := Pk.put_get r4 n w (Pk.fit_isB fun x hx => hr3 x (by simp [hx])) g1
                  generalize (getR r4 n w).2 = ix at h g2 p1 p2 p3 p4
                  cases hd : dictL ws ix with
                  | none => rw [hd] at h; cases h
                  | some l1 =>
                    rw [hd] at h
                    simp only at h
                    split at h
                    · rename_i hw
                      simp only [Option.some.injEq] at h
                      subst h
                      have hup : ∀ s ∈ l1, s ∈ ws := fun s hs => hw ▸ (mem_words s l1).2 hs
                      have hall : AllB l1 := fun s hs => e3 s (hup s hs)
                      obtain ⟨d1, d2, d3⟩ := dictL_some (hw ▸ (up_words l1 hall).nodup) p4.nonneg hd
                      have hlen : l1.length = n := by omega
                      refine ⟨⟨by omega, fun s hs => e2 s (hup s hs)⟩, hall, .inr ?_⟩
                      have hix : ixT l1 = ix := by unfold ixT; rw [hw, d2]
                      rw [hk, ht2, dictT, hlen, hix, hw, e1, hr2, e4, tailT, g2, p1, List.append_assoc]
                    · cases h
      · cases h

theorem readC_le {b : List Int} (hb : Oct.IsB b) {n : Nat} {r : List Int} (h : readC b = some (n, r)) : n ≤ 4096 ∧ Oct.IsB r := by
  obtain ⟨h1, h2⟩ := readC_some hb h
  exact ⟨h1, isB_right (h2 ▸ hb)⟩
end Go.Proofs.YtljanfnhmhimiaaGreat.Tx

namespace Go.Proofs.YtljanfnhmhimiaaGreat.Nu
open Go.RowKit
open Oct (varB readV)
open Pk (wid putR getR IsU Fit sizeN)

def formN (l : List Bool) : Nat := if cnt l = 0 then 0 else if cnt l = l.length then 1 else 2
def numsL (l : List Bool) : List Int := l.map fun b => if b = true then 1 else 0
def bitsB (l : List Bool) : List Int := (putR (numsL l) 1).2
def restB (l : List Bool) : List Int := if formN l = 2 then bitsB l else []
/-- the encoding -/
def encN (l : List Bool) : List Int := varB 9 (l.length : Int) ++ (formN l : Int) :: restB l
def putN (l : List Bool) : Int × List Int := if 4096 < l.length then (3, []) else (0, encN l)

theorem formN_le (l : List Bool) : formN l ≤ 2 := by unfold formN; split <;> (try split) <;> omega
theorem nums_len (l : List Bool) : (numsL l).length = l.length := by simp [numsL]
theorem nums_fit (l : List Bool) : Fit 1 (numsL l) := by
  intro x hx
  obtain ⟨b, _, rfl⟩ := List.mem_map.1 hx
  cases b <;> decide
theorem nums_isU (l : List Bool) : IsU (numsL l) := Pk.fit_isU (nums_fit l) (by decide)
theorem put_nums {l : List Bool} (h : l.length ≤ 65536) : (putR (numsL l) 1).1 = 0 := by
  refine (Pk.put_ok _ _).2 ⟨(Pk.canB_iff _ _).2 ?_, ?_⟩
  · rw [nums_len]; omega
  · have := (Pk.wid_le (numsL l) 1 (nums_isU l).nonneg).2 (nums_fit l)
    omega
theorem put_bits {l : List Bool} (h : l.length ≤ 65536) : putR (numsL l) 1 = (0, bitsB l) := by
  have := put_nums h
  unfold bitsB
  rw [← this]
theorem bits_len {l : List Bool} (h : l.length ≤ 65536) : (bitsB l).length = sizeN l.length 1 := by
  have h1 := Pk.put_size (numsL l) 1 (put_nums h)
  rw [nums_len] at h1
  unfold Pk.sizeF at h1
  rw [if_pos ((Pk.canB_iff _ _).2 (by omega))] at h1
  simp only [Int.toNat_natCast] at h1
  have e : (1 : Int).toNat = 1 := rfl
  rw [e] at h1
  unfold bitsB
  omega
/-- what stands for true -/
def backL (x : List Int) : List Bool := x.map fun v => decide (v = 1)
theorem nums_back {x : List Int} (h : Fit 1 x) : numsL (backL x) = x := by
  unfold backL numsL
  rw [List.map_map]
  refine (List.map_congr_left fun v hv => ?_).trans (List.map_id x)
  have h1 := h v hv
  have h2 : v = 0 ∨ v = 1 := by omega
  rcases h2 with rfl | rfl <;> rfl
theorem back_len (x : List Int) : (backL x).length = x.length := by simp [backL]
theorem bits_isB (l : List Bool) : Oct.IsB (bitsB l) := (Pk.put_isB (numsL l) 1).isB
theorem rest_isB (l : List Bool) : Oct.IsB (restB l) := by
  unfold restB
  split
  · exact bits_isB l
  · intro x hx; cases hx
theorem enc_isB {l : List Bool} (h : l.length ≤ 65536) : Oct.IsB (encN l) := by
  have := formN_le l
  refine In.isB_app (In.varB_isB l.length (by omega)) ?_
  intro x hx
  rcases List.mem_cons.1 hx with e | e
  · subst e; omega
  · exact rest_isB l x e
theorem sizeN_le {n : Nat} (h : n ≤ 65536) : sizeN n 1 ≤ 8192 := by unfold sizeN; omega
theorem rest_len {l : List Bool} (h : l.length ≤ 65536) : (restB l).length ≤ 8192 := by
  unfold restB
  split
  · rw [bits_len h]; exact sizeN_le h
  · exact Nat.zero_le _
theorem enc_len {l : List Bool} (h : l.length ≤ 65536) : 2 ≤ (encN l).length ∧ (encN l).length ≤ 8203 := by
  have h1 := rest_len h
  have h2 := Oct.varB_le 9 (l.length : Int)
  have h3 := Oct.varB_pos 9 (l.length : Int)
  unfold encN
  rw [List.length_append, List.length_cons]
  omega

/-! ### read again -/
def readC (b : List Int) : Option (Nat × List Int) :=
  if (readV 0 0 b).2.1 ≠ 0 ∨ 4096 < (readV 0 0 b).1 then none else some ((readV 0 0 b).1.toNat, b.drop (readV 0 0 b).2.2)
theorem readC_some {b : List Int} (hb : Oct.IsB b) {n : Nat} {r : List Int} (h : readC b = some (n, r)) : n ≤ 4096 ∧ b = varB 9 (n : Int) ++ r := by
  unfold readC at h
  obtain ⟨x, e, m, hv⟩ : ∃ x e m, readV 0 0 b = (x, e, m) := ⟨_, _, _, rfl⟩
  rw [hv] at h
  simp only at h
  split at h
  · cases h
  · rename_i hc
    have he : e = 0 := Classical.byContradiction fun k => hc (.inl k)
    subst he
    obtain ⟨h0, -, hbe⟩ := In.var_readV b hb x m hv
    obtain ⟨k, rfl⟩ := Int.eq_ofNat_of_zero_le h0
    rw [Int.toNat_natCast] at h
    simp only [Option.some.injEq, Prod.mk.injEq] at h
    obtain ⟨rfl, rfl⟩ := h
    exact ⟨by omega, hbe⟩
/-- packed flags -/
def rdP (n : Nat) (r : List Int) : Option (List Bool × List Int) :=
  if r.length < sizeN n 1 then none else if (getR (r.take (sizeN n 1)) n 1).1 ≠ 0 then none else some (backL (getR (r.take (sizeN n 1)) n 1).2, r.drop (sizeN n 1))
/-- flags of a form -/
def rdK (n : Nat) (k : Int) (r : List Int) : Option (List Bool × List Int) :=
  if k = 0 ∨ k = 1 then some (List.replicate n (decide (k = 1)), r) else if k = 2 then rdP n r else none
def rdN (b : List Int) : Option (Int × List Bool × List Int) := match readC b with
  | none => none
  | some (_, []) => none
  | some (n, k :: r) => match rdK n k r with
    | none => none
    | some (l, s) => some (k, l, s)
/-- what the program's Get tells: the flags, and what is left -/
def getN (b : List Int) : Option (List Bool × List Int) := match rdN b with
  | none => none
  | some (k, l, s) => if (formN l : Int) = k then some (l, s) else none
/-- the answer: flags, how many bytes, an error -/
def resN (b : List Int) : Option (List Bool × List Int) → List Bool × Int × Int
  | some (l, s) => (l, (b.length : Int) - (s.length : Int), 0)
  | none => ([], 0, 4)

theorem isB_right {a b : List Int} (h : Oct.IsB (a ++ b)) : Oct.IsB b := fun x hx => h x (List.mem_append_right a hx)
theorem rdP_some {n : Nat} {r : List Int} (hr : Oct.IsB r) {l : List Bool} {s : List Int} (h : rdP n r = some (l, s)) : l.length = n ∧ r = bitsB l ++ s := by
  unfold rdP at h
  split at h
  · cases h
  · rename_i h1
    split at h
    · cases h
    · rename_i h2
      have hg : (getR (r.take (sizeN n 1)) n 1).1 = 0 := Classical.byContradiction h2
      simp only [Option.some.injEq, Prod.mk.injEq] at h
      obtain ⟨hl, hs⟩ := h
      have hb : Fit 8 (r.take (sizeN n 1)) := Pk.fit_isB (fun x hx => hr x (List.mem_of_mem_take hx))
      obtain ⟨p1, p2, p3, p4⟩ := Pk.put_get _ _ _ hb hg
      have hf : Fit 1 (getR (r.take (sizeN n 1)) n 1).2 := (Pk.wid_le _ 1 p4.nonneg).1 (by omega)
      have hnb := nums_back hf
      rw [hl] at hnb
      refine ⟨by rw [← hl, back_len]; omega, ?_⟩
      unfold bitsB
      rw [hnb, p1, ← hs, List.take_append_drop]
theorem rdK_some {n : Nat} {k : Int} {r : List Int} (hr : Oct.IsB r) {l : List Bool} {s : List Int} (h : rdK n k r = some (l, s)) : l.length = n ∧ r = (if k = 2 then bitsB l else []) ++ s := by
  unfold rdK at h
  split at h
  · rename_i h1
    simp only [Option.some.injEq, Prod.mk.injEq] at h
    obtain ⟨rfl, rfl⟩ := h
    rw [if_neg (by omega)]
    exact ⟨by simp, rfl⟩
  · split at h
    · rename_i h2
      rw [if_pos h2]
      exact rdP_some hr h
    · cases h
theorem rdN_some {b : List Int} (hb : Oct.IsB b) {k : Int} {l : List Bool} {s : List Int} (h : rdN b = some (k, l, s)) : l.length ≤ 4096 ∧ b = varB 9 (l.length : Int) ++ k :: ((if k = 2 then bitsB l else []) ++ s) := by
  unfold rdN at h
  cases hc : readC b with
  | none => rw [hc] at h; cases h
  | some p =>
    obtain ⟨n, r⟩ := p
    obtain ⟨hn, hbe⟩ := readC_some hb hc
    rw [hc] at h
    cases r with
    | nil => cases h
    | cons k' r =>
      simp only at h
      have hr : Oct.IsB r := fun x hx => isB_right (hbe ▸ hb) x (List.mem_cons_of_mem _ hx)
      cases hk : rdK n k' r with
      | none => rw [hk] at h; cases h
      | some q =>
        obtain ⟨l1, s1⟩ := q
        rw [hk] at h
        simp only [Option.some.injEq, Prod.mk.injEq] at h
        obtain ⟨rfl, rfl, rfl⟩ := h
        obtain ⟨e1, e2⟩ := rdK_some hr hk
        exact ⟨by omega, by rw [e1, ← e2]; exact hbe⟩
theorem getN_some {b : List Int} (hb : Oct.IsB b) {l : List Bool} {s : List Int} (h : getN b = some (l, s)) : l.length ≤ 4096 ∧ b = encN l ++ s := by
  unfold getN at h
  cases hr : rdN b with
  | none => rw [hr] at h; cases h
  | some p =>
    obtain ⟨k, l1, s1⟩ := p
    rw [hr] at h
    simp only at h
    split at h
    · rename_i hf
      simp only [Option.some.injEq, Prod.mk.injEq] at h
      obtain ⟨rfl, rfl⟩ := h
      obtain ⟨h1, h2⟩ := rdN_some hb hr
      refine ⟨h1, ?_⟩
      unfold encN restB
      rw [h2, List.append_assoc, List.cons_append]
      congr 2
      · exact hf.symm
      · congr 1
        by_cases h3 : k = 2
        · rw [if_pos h3, if_pos (by omega)]
        · rw [if_neg h3, if_neg (by omega)]
    · cases h
end Go.Proofs.YtljanfnhmhimiaaGreat.Nu

namespace Go.Proofs.YtljanfnhmhimiaaGreat.Ref1
open Go.RowKit Go.Joins Bs Oct
/-- Memory of the call's own from base on, that reads as l. -/
def GrowB (base : Nat) (w : World) (l : List Int) (n : Nat) (e : Ending) (w' : World) : Prop :=
  ∃ g c, e = .returned (.slice (some ⟨g, 0, none⟩) n c) ∧ w'.ownsRow base 5 1 (.slice (some ⟨g, 0, none⟩) n c) n (l.map (Value.int .u8)) ∧ Below base w w'

end Go.Proofs.YtljanfnhmhimiaaGreat.Ref1

namespace Go.Proofs.YtljanfnhmhimiaaGreat.Tx
open Go.RowKit
open Ss (IsS)

/-- the place of the first text that is too long, or -1 -/
def longI (l : List (List Int)) : Int := match l.findIdx? (fun s => decide (65536 < s.length)) with
  | some i => (i : Int)
  | none => -1
theorem longI_at (l : List (List Int)) (k : Nat) (hk : k < l.length) (h : ∀ s ∈ l.take k, s.length ≤ 65536) (hl : 65536 < (l.getD k []).length) : longI l = (k : Int) := by
  have : l.findIdx? (fun s => decide (65536 < s.length)) = some k := by
    rw [List.findIdx?_eq_some_iff_getElem]
    refine ⟨hk, ?_, fun j hj => ?_⟩
    · rw [List.getD_eq_getElem?_getD, List.getElem?_eq_getElem hk] at hl
      simpa using hl
    · have := h (l[j]'(by omega)) (List.mem_take_iff_getElem.2 ⟨j, by omega, rfl⟩)
      simpa using this
  rw [longI, this]
theorem longI_no (l : List (List Int)) (h : ∀ s ∈ l, s.length ≤ 65536) : longI l = -1 := by
  have : l.findIdx? (fun s => decide (65536 < s.length)) = none := by
    rw [List.findIdx?_eq_none_iff]
    intro s hs
    have := h s hs
    simpa using this
  rw [longI, this]
theorem longI_iff (l : List (List Int)) : 0 ≤ longI l ↔ ¬ ∀ s ∈ l, s.length ≤ 65536 := by
  unfold longI
  cases hf : l.findIdx? (fun s => decide (65536 < s.length)) with
  | some i =>
    obtain ⟨hk, h1, _⟩ := List.findIdx?_eq_some_iff_getElem.1 hf
    refine ⟨fun _ h => ?_, fun _ => by simp⟩
    have := h _ (List.getElem_mem hk)
    simp at h1
    omega
  | none =>
    refine ⟨fun h => by simp at h, fun h => absurd (fun s hs => ?_) h⟩
    have := List.findIdx?_eq_none_iff.1 hf s hs
    simpa using this
theorem take_snoc_all {l : List (List Int)} {k : Nat} (hk : k < l.length) (h : ∀ s ∈ l.take k, s.length ≤ 65536) (hl : (l.getD k []).length ≤ 65536) : ∀ s ∈ l.take (k + 1), s.length ≤ 65536 := by
  intro s hs
  rw [List.take_succ_eq_append_getElem hk] at hs
  rcases List.mem_append.1 hs with hs | hs
  · exact h s hs
  · rw [List.mem_singleton.1 hs]
    rw [List.getD_eq_getElem?_getD, List.getElem?_eq_getElem hk] at hl
    simpa using hl

theorem isLong_any (x : List Int) (w : World) : Calls Tryz.prog 186 #[.string (strOfNums x)] w fun e w' => e = .returned (.bool (decide (65536 < (x.length : Int)))) ∧ w = w' := by
  have hs := strOfNums_size x
  obtain ⟨m, hm⟩ : ∃ m, x.length = m := ⟨_, rfl⟩
  rw [hm] at hs ⊢
  clear hm
  go_enter Tryz.func186, Tryz.ntmps186
  go_wp2
  go_ret
  exact ⟨rfl, rfl⟩

set_option maxHeartbeats 400000 in
theorem indexLong_any (a : Option Addr) (n c : Nat) (l : List (List Int)) (w : World) (hs : Ss.Seg w a n c l) :
    Calls Tryz.prog 194 #[.slice a n c, .func (.func 186) #[] #[]] w fun e w' => e = .returned (.int .i64 (longI l)) ∧ ∃ m, w' = w.drewN m := by
  have hm := hs.cap
  have hle := hs.le
  unfold maxLen at hm
  have HL := Lib.hid hs.len
  have HS := Lib.hid hs
  clear hs
  go_enter Tryz.func194, Tryz.ntmps194
  go_wp2
  go_loopw [8] (fun si wr => ∃ k m : Nat, k ≤ n ∧ si = .int .i64 k ∧ wr = w.drewN m ∧ Hid (∀ s ∈ l.take k, s.length ≤ 65536)) (fun si _ => n - (intOf si).toNat)
  case atStart => exact ⟨0, 0, Nat.zero_le _, rfl, rfl, Lib.hid fun s hs => by simp at hs⟩
  case round =>
    obtain ⟨k, m, hk, rfl, rfl, HK⟩ := hrel
    by_cases hlt : k < n
    · obtain ⟨g, o, rfl, hc⟩ := HS.out.addr (by omega)
      have q0 := hc k hlt
      obtain ⟨x, hx⟩ : ∃ x, l.getD k [] = x := ⟨_, rfl⟩
      rw [hx] at q0
      have HC := Lib.hid (fun W => isLong_any x W)
      by_cases hlong : 65536 < x.length
      · have HF : Hid (longI l = (k : Int)) := Lib.hid (longI_at l k (by rw [HL.out]; exact hlt) HK.out (by rw [hx]; exact hlong))
        have hd : decide (65536 < (x.length : Int)) = true := decide_eq_true (by omega)
        rw [hd] at HC
        clear hc hx hlong hd
        go_wp2_with (go_at_call 186; refine (HC.out _).mono ?_; rintro e w' ⟨rfl, rfl⟩)
        go_ret
        exact ⟨Bs.ret_int HF.out.symm, m, rfl⟩
      · have HF : Hid (∀ s ∈ l.take (k + 1), s.length ≤ 65536) := Lib.hid (take_snoc_all (by rw [HL.out]; exact hlt) HK.out (by rw [hx]; omega))
        have hd : decide (65536 < (x.length : Int)) = false := decide_eq_false (by omega)
        rw [hd] at HC
        clear hc hx hlong hd
        go_wp2_with (go_at_call 186; refine (HC.out _).mono ?_; rintro e w' ⟨rfl, rfl⟩)
        go_roundw
        case rel => exact ⟨k + 1, m, by omega, by go_num, by simp, HF⟩
        case measure => simp [intOf]; omega
    · obtain rfl : k = n := by omega
      have HF : Hid (longI l = -1) := Lib.hid (longI_no l (by have := HK.out; rwa [List.take_of_length_le (Nat.le_of_eq HL.out)] at this))
      go_wp2
      go_ret
      exact ⟨Bs.ret_int HF.out.symm, m, rfl⟩

set_option maxHeartbeats 400000 in
theorem anyLong_any (a : Option Addr) (n c : Nat) (l : List (List Int)) (w : World) (hs : Ss.Seg w a n c l) :
    Calls Tryz.prog 185 #[.slice a n c, .func (.func 186) #[] #[]] w fun e w' => e = .returned (.bool (decide (0 ≤ longI l))) ∧ ∃ m, w' = w.drewN m := by
  have HC := Lib.hid (indexLong_any a n c l w hs)
  obtain ⟨x, hx⟩ : ∃ x, longI l = x := ⟨_, rfl⟩
  rw [hx] at HC ⊢
  clear hs hx
  go_enter Tryz.func185, Tryz.ntmps185
  go_wp2_with (go_at_call 194; refine HC.out.mono ?_; rintro e w' ⟨rfl, m, rfl⟩)
  go_ret
  exact ⟨rfl, m, rfl⟩

set_option maxHeartbeats 400000 in
theorem canPut_any (a : Option Addr) (n c : Nat) (l : List (List Int)) (w : World) (hs : Ss.Seg w a n c l) :
    Calls Tryz.prog 168 #[.slice a n c] w fun e w' => e = .returned (.bool (okB l)) ∧ ∃ m, w' = w.drewN m := by
  have HC := Lib.hid (anyLong_any a n c l w hs)
  have HL := Lib.hid hs.len
  by_cases hn : n ≤ 4096
  · have hok : okB l = !decide (0 ≤ longI l) := by
      have h1 := okB_iff l
      have h2 := longI_iff l
      by_cases h : 0 ≤ longI l
      · rw [decide_eq_true h]
        refine Bool.eq_false_iff.2 fun k => h2.1 h (h1.1 k).2
      · rw [decide_eq_false h]
        exact h1.2 ⟨by rw [HL.out]; exact hn, Classical.byContradiction fun k => h (h2.2 k)⟩
    have HO := Lib.hid hok
    clear hok hs
    obtain ⟨y, hy⟩ : ∃ y, decide (0 ≤ longI l) = y := ⟨_, rfl⟩
    rw [hy] at HC HO
    clear hy
    have hn' : (n : Int) ≤ 4096 := by omega
    go_enter Tryz.func168, Tryz.ntmps168
    go_wp2_with (go_at_call 185; refine HC.out.mono ?_; rintro e w' ⟨rfl, m, rfl⟩)
    go_ret
    exact ⟨Bs.ret_bool HO.out.symm, m, rfl⟩
  · have hok : okB l = false := Bool.eq_false_iff.2 fun k => hn (by have := ((okB_iff l).1 k).1; rwa [HL.out] at this)
    have HO := Lib.hid hok
    clear hok hs HC
    have hn' : ¬ (n : Int) ≤ 4096 := by omega
    go_enter Tryz.func168, Tryz.ntmps168
    go_wp2
    go_ret
    exact ⟨Bs.ret_bool HO.out.symm, 0, rfl⟩
end Go.Proofs.YtljanfnhmhimiaaGreat.Tx

namespace Go.Proofs.YtljanfnhmhimiaaGreat.Tx
open Go.RowKit Go.Joins
open Ss (IsS)
open Bs (info_u8)
open Oct (varB)
open Ref1 (GrowB)
open In (below_grown below_mono own_grown)

theorem strCells_nums (d : List Int) (h : Bs.IsB d) : Lib.strCells (strOfNums d) = d.map (Value.int .u8) := Dv.str_data d h
theorem sseg_below {w w' : World} {a : Option Addr} {n c B : Nat} {l : List (List Int)} (h : Ss.Seg w a n c l) (k : Below B w w') (hB : B = w.heap.size) : Ss.Seg w' a n c l := by
  subst hB; exact h.grown (Bs.grown_of k)
/-- A slice whose texts lie below stays. -/
theorem sseg_at {w w' : World} {a : Option Addr} {n c B : Nat} {l : List (List Int)} (h : Ss.Seg w a n c l) (k : Below B w w') (hb : ∀ ad, a = some ad → ad.block < B) : Ss.Seg w' a n c l := by
  refine ⟨h.len, h.le, h.cap, h.nil_, fun ad had j u hu => ?_⟩
  have e : (ad.add j).block = ad.block := by unfold Addr.add; split <;> rfl
  exact (k.cell (by rw [e]; exact hb ad had)).trans (h.at_ ad had j u hu)
theorem sseg_lt {w : World} {a : Option Addr} {n c : Nat} {l : List (List Int)} (h : Ss.Seg w a n c l) (hn : 0 < n) : ∀ ad, a = some ad → ad.block < w.heap.size := by
  intro ad had
  obtain ⟨g, o, rfl, hc⟩ := h.addr hn
  cases had
  exact World.block_lt_of_cell? w _ (hc 0 hn)
theorem strs_take (l : List (List Int)) (k : Nat) (x : List Int) (h : k < l.length) (hx : l.getD k [] = x) : strsB (l.take (k + 1)) = strsB (l.take k) ++ (varB 9 (x.length : Int) ++ x) := by
  rw [List.take_succ_eq_append_getElem h, strsB_snoc, ← hx]; simp [List.getD, h, strB]
theorem take_at {l : List (List Int)} {k : Nat} (h : k < l.length) : l.getD k [] ∈ l := by
  rw [List.getD_eq_getElem?_getD, List.getElem?_eq_getElem h]; exact List.getElem_mem _
theorem wrap_u64 {n : Nat} (h : n ≤ 1000000000) : IntKind.u64.wrap (n : Int) = (n : Int) := by rw [IntKind.wrap_u64]; omega

set_option maxRecDepth 100000 in
set_option maxHeartbeats 1000000 in
theorem putStrings_any (base : Nat) (v0 : Value) (n : Nat) (B : List Int) (a : Option Addr) (m c : Nat) (l : List (List Int)) (w : World) (hs : Ss.Seg w a m c l) (hblk : 0 < m → ∀ ad, a = some ad → ad.block < base) (hbase : base ≤ w.heap.size)
    (hown : w.ownsRow base 5 1 v0 n (B.map (Value.int .u8))) (hn : 0 < n) (hn2 : n ≤ 1000000000) (hb : AllB l) (hl : ∀ s ∈ l, s.length ≤ 65536) (hm : m ≤ 65536) :
    Calls Tryz.prog 169 #[v0, .slice a m c] w (GrowB base w (B ++ strsB l) (n + (strsB l).length)) := by
  obtain ⟨i0, hi, hz0, hz1, hz2⟩ := info_parts info_u8
  have hcap := hs.cap
  have hle := hs.le
  unfold maxLen at hcap
  have HLen := Lib.hid hs.len
  have HSeg := Lib.hid hs
  have HO := Lib.hid hown
  have HG := Lib.hid (Below.refl base w)
  have HW := Lib.hid hbase
  have HBk := Lib.hid hblk
  have HBB := Lib.hid hb
  have HLL := Lib.hid hl
  clear hs hown hbase hblk hb hl
  go_enter Tryz.func169, Tryz.ntmps169
  go_wp2
  go_loopw [0, 9] (fun so si wr => ∃ (k q : Nat) (V : Value), k ≤ m ∧ si = .int .i64 k ∧ V = so ∧ Hid ((strsB (l.take k)).length = q ∧ q ≤ k * 65546) ∧ Hid (wr.ownsRow base 5 1 V (n + q) ((B ++ strsB (l.take k)).map (Value.int .u8))) ∧ Hid (Below base w wr))
    (fun _ si _ => m - (intOf si).toNat)
  case atStart => exact ⟨0, 0, _, Nat.zero_le _, rfl, rfl, Lib.hid ⟨rfl, Nat.le_refl _⟩, Lib.hid (by simpa [strsB] using HO.out), HG⟩
  case round =>
    obtain ⟨k, q, V, hk, rfl, rfl, HQ, HO, HB⟩ := hrel
    by_cases hlt : k < m
    · have hsz0 : base ≤ wr.heap.size := Nat.le_trans HW.out HB.out.size
      have hseg := sseg_at HSeg.out HB.out (HBk.out (by omega))
      obtain ⟨gA, oA, rfl, hc⟩ := hseg.addr (by omega)
      have g1 := hc k hlt
      obtain ⟨x, hx⟩ : ∃ x, l.getD k [] = x := ⟨_, rfl⟩
      have hxm : x ∈ l := hx ▸ take_at (by rw [HLen.out]; exact hlt)
      have HXB := Lib.hid (HBB.out x hxm)
      rw [hx] at g1
      have HP := Lib.hid (strs_take l k x (by have := HLen.out; omega) hx)
      have hss := strOfNums_size x
      have hxl := HLL.out x hxm
      obtain ⟨xl, hxe⟩ : ∃ n, x.length = n := ⟨_, rfl⟩
      rw [hxe] at hss hxl
      have hwu := wrap_u64 (n := xl) (by omega)
      have HPut := Lib.hid (Oct.putVar_any none 0 0 [] (xl : Int) wr (Oct.Seg.nil wr) (by omega) (by omega) (by omega))
      have hvl := Oct.varB_le 9 (xl : Int)
      have HXe := Lib.hid hxe
      have HSS := Lib.hid hss
      clear hx hxm hc hseg hxe
      go_wp2_with fail
      refine HPut.out.mono ?_
      rintro e w1 hnew
      rw [List.nil_append] at hnew
      obtain ⟨g, p, rfl, hf⟩ := hnew.value
      obtain ⟨hp, hown1, hg⟩ := hf.is
      rw [← hp] at hvl
      have HPl := Lib.hid hp
      have HS1 := Lib.hid ((Oct.Seg.own hown1).at_ _ rfl)
      have HLn : Hid (((varB 9 (xl : Int)).map (Value.int .u8)).length = p * 1) := Lib.hid (by rw [List.length_map, hp]; omega)
      have HO1 := Lib.hid (own_grown HO.out hg)
      have HB1 := Lib.hid (HB.out.trans (below_grown hg hsz0))
      have HS2 : Hid (base ≤ w1.heap.size) := Lib.hid (Nat.le_trans hsz0 hg.size)
      have hqb := HQ.out.2
      clear hnew hf hown1 hg hp hsz0
      go_wp2_with (first
        | (at_builtin; refine wpList_append_own _ rfl (.tmp 13) (.tmp 17) 45 rfl base 5 i0 (.int .u8 0) 1 1 Tryz.underlying45 hi hz0 hz1 hz2 rfl (by decide) V (n + q) _ rfl HO1.out ⟨g, 0, none⟩ p p ((varB 9 (xl : Int)).map (Value.int .u8)) rfl HLn.out HS1.out (ints_oneCell _ _) (by unfold maxLen; omega) (by omega) HS2.out ?_; intro v2 w2 hown2 hgrow2 hnil2; have HO2 := Lib.hid hown2; have HB2 := Lib.hid (HB1.out.grown hgrow2 HS2.out (fun j e => (HO1.out.lt j e).1)); have HS3 : Hid (base ≤ w2.heap.size) := Lib.hid (Nat.le_trans HS2.out hgrow2.size); clear hown2 hgrow2 hnil2)
        | (at_builtin; refine Lib.wpList_append_own_string _ rfl (.tmp 19) (.tmp 20) 45 9 rfl base 5 i0 Tryz.underlying45 Tryz.underlying9 hi hz0 hz1 hz2 v2 (n + q + p) _ rfl HO2.out (strOfNums x) rfl (by rw [HSS.out]; unfold maxLen; omega) (by rw [HSS.out]; omega) HS3.out ?_; intro v3 w3 hown3 hgrow3 hnil3)
        | fail)
      rw [HSS.out, strCells_nums x HXB.out, ← List.map_append] at hown3
      go_roundw
      case rel =>
        refine ⟨k + 1, q + (p + xl), v3, by omega, by go_num, rfl, Lib.hid ⟨?_, by have := HQ.out.2; omega⟩, Lib.hid ?_, Lib.hid (HB2.out.grown hgrow3 HS3.out (fun j e => (HO2.out.lt j e).1))⟩
        · rw [HP.out, List.length_append, HQ.out.1, List.length_append, HXe.out, ← HPl.out]
        · rw [HP.out, HXe.out, show n + (q + (p + xl)) = n + q + p + xl from by omega, ← List.append_assoc, ← List.append_assoc]
          rw [List.map_append] at hown3 ⊢
          rw [List.map_append (l₁ := B ++ strsB (l.take k))]
          simpa using hown3
      case measure => simp [intOf]; omega
    · obtain rfl : k = m := by omega
      obtain ⟨g, cc, rfl⟩ := ownsRow_form HO.out (by omega)
      have HF : Hid (GrowB base w (B ++ strsB l) (n + (strsB l).length) (.returned (.slice (some ⟨g, 0, none⟩) (n + q) cc)) wr) := by
        have h1 := HQ.out.1
        have h2 := HO.out
        rw [List.take_of_length_le (Nat.le_of_eq HLen.out)] at h1 h2
        rw [h1]
        exact Lib.hid ⟨g, cc, rfl, h2, HB.out⟩
      go_wp2
      go_ret
      exact HF.out
end Go.Proofs.YtljanfnhmhimiaaGreat.Tx

namespace Go.Proofs.YtljanfnhmhimiaaGreat.In
open Go.RowKit Go.Joins
open Bs (info_u8)
open Oct (readV ofB VInv)
open Dv (Turn nowhere)

/-- The document's reader in memory: the bytes that are left. -/
structure RR (w : World) (b g : Nat) (l : List Int) : Prop where
  ne : g ≠ b
  cells : ∃ o c, w.cell? ⟨b, 0, none⟩ = some (.slice (some ⟨g, o, none⟩) l.length c) ∧ l.length ≤ c ∧ c ≤ maxLen ∧ ∀ j, j < l.length → w.cell? ⟨g, o + j, none⟩ = some (.int .u8 (l.getD j 0))
  free : w.frozen? ⟨b, 0, none⟩ = false
theorem RR.lt {w : World} {b g : Nat} {l : List Int} (h : RR w b g l) : b < w.heap.size := by
  obtain ⟨o, c, h0, _⟩ := h.cells
  exact World.block_lt_of_cell? w _ h0
theorem RR.turn {w w' : World} {b g : Nat} {l : List Int} {S : Nat → Prop} (h : RR w b g l) (k : Turn w w' S) (h1 : ¬ S b) (h2 : ¬ S g) : RR w' b g l := by
  have lt := h.lt
  obtain ⟨o, c, h0, hle, hc, hj⟩ := h.cells
  exact ⟨h.ne, ⟨o, c, k.cell h0 h1, hle, hc, fun j hjl => k.cell (hj j hjl) h2⟩, (k.frozen (p := ⟨b, 0, none⟩) lt h1).trans h.free⟩
/-- the reader goes on by n bytes -/
theorem RR.next {w : World} {b g o c n : Nat} {l : List Int} (h : RR w b g l) (h0 : w.cell? ⟨b, 0, none⟩ = some (.slice (some ⟨g, o, none⟩) l.length c)) (hle : l.length ≤ c) (hc : c ≤ maxLen) (hj : ∀ j, j < l.length → w.cell? ⟨g, o + j, none⟩ = some (.int .u8 (l.getD j 0))) (hn : n ≤ l.length) (v : Option Addr)
    (hv : v = if c = n then some ⟨g, o, none⟩ else some ⟨g, o + n, none⟩) :
    RR (w.setCell ⟨b, 0, none⟩ (.slice v (l.length - n) (c - n))) b g (l.drop n) := by
  have hT : Turn w (w.setCell ⟨b, 0, none⟩ (.slice v (l.length - n) (c - n))) (At b) := Turn.setCell w ⟨b, 0, none⟩ _ rfl
  have hcell : (w.setCell ⟨b, 0, none⟩ (.slice v (l.length - n) (c - n))).cell? ⟨b, 0, none⟩ = some (.slice v (l.length - n) (c - n)) := World.cell?_setCell_same _ _ _ h0
  refine ⟨h.ne, ?_, by rw [World.frozen?_setCell]; exact h.free⟩
  by_cases hcn : c = n
  · rw [if_pos hcn] at hv
    subst hv
    refine ⟨o, c - n, by rw [hcell, List.length_drop], by rw [List.length_drop]; omega, by omega, fun j hjl => ?_⟩
    rw [List.length_drop] at hjl
    omega
  · rw [if_neg hcn] at hv
    subst hv
    refine ⟨o + n, c - n, by rw [hcell, List.length_drop], by rw [List.length_drop]; omega, by omega, fun j hjl => ?_⟩
    rw [List.length_drop] at hjl
    have h1 := hT.cell (hj (n + j) (by omega)) (fun e => h.ne e)
    rw [Nat.add_assoc, h1]
    simp [List.getD]

/-- The document's reader has read: the number, the error; what is left. -/
def RRead (b g : Nat) (w : World) (v E : Int) (r : List Int) (e : Ending) (w' : World) : Prop :=
  e = .returned (.tuple #[.int .u64 v, .int .i64 E]) ∧ Turn w w' (At b) ∧ RR w' b g r

end Go.Proofs.YtljanfnhmhimiaaGreat.In

namespace Go.Proofs.YtljanfnhmhimiaaGreat.In
open Go.RowKit Go.Joins
open Oct (readV ofB VInv)
open Dv (Turn nowhere)

/-- What Var of the document answers. -/
def RVarX (b g : Nat) (w : World) (l : List Int) (e : Ending) (w' : World) : Prop := RRead b g w (readV 0 0 l).1 (readV 0 0 l).2.1 (l.drop (readV 0 0 l).2.2) e w'
theorem RVarX.err {b g : Nat} {w : World} {l : List Int} {x : Int} (hr : readV 0 0 l = (0, x, 0)) (h : RR w b g l) : RVarX b g w l (.returned (.tuple #[.int .u64 0, .int .i64 x])) w := by
  unfold RVarX
  rw [hr]
  exact ⟨rfl, Turn.refl _ _, h⟩

theorem RR.own {w w' : World} {b g N : Nat} {l : List Int} {row : Option Nat} (h : RR w b g l) (k : w.grownBy w' row) (hr : ∀ i, row = some i → N ≤ i) (hb : b < N) (hg : g < N) : RR w' b g l :=
  h.turn (Turn.of_grown (S := fun i => N ≤ i) k (fun i e _ => hr i e)) (Nat.not_le.2 hb) (Nat.not_le.2 hg)
end Go.Proofs.YtljanfnhmhimiaaGreat.In

namespace Go.Proofs.YtljanfnhmhimiaaGreat.In
open Go.RowKit
open Is (IsI)

theorem minL_take (l : List Int) (k : Nat) (x : Int) (h0 : 1 ≤ k) (h : k < l.length) (hx : l.getD k 0 = x) : minL (l.take (k + 1)) = min (minL (l.take k)) x := by
  have hne : l.take k ≠ [] := fun e => by have := congrArg List.length e; rw [List.length_take, List.length_nil] at this; omega
  rw [List.take_succ_eq_append_getElem h, minL_snoc _ _ hne]
  rw [← hx]; simp [List.getD, h]
theorem min_if (m x : Int) : (if x < m then x else m) = min m x := by split <;> omega
theorem minL_one (l : List Int) (h : 0 < l.length) : minL (l.take 1) = l.getD 0 0 := by
  cases l with
  | nil => simp at h
  | cons x t => simp [minL]

set_option maxRecDepth 100000 in
set_option maxHeartbeats 1000000 in
theorem min_any (a : Option Addr) (n c : Nat) (l : List Int) (w : World) (hs : Is.Seg w a n c l) (hI : IsI l) (hn : 0 < n) :
    Calls Tryz.prog 193 #[.slice a n c] w fun e w' => e = .returned (.int .i64 (minL l)) ∧ w = w' := by
  have hm := hs.cap
  have hle := hs.le
  unfold maxLen at hm
  have HL := Lib.hid hs.len
  obtain ⟨g, o, rfl, hc⟩ := hs.addr hn
  have HC := Lib.hid hc
  have HI : Hid (∀ k, k < n → -9223372036854775808 ≤ l.getD k 0 ∧ l.getD k 0 ≤ 9223372036854775807) := Lib.hid (fun k hk => by
    have := hs.len
    rw [List.getD_eq_getElem?_getD, List.getElem?_eq_getElem (by omega)]
    exact hI _ (List.getElem_mem _))
  have c0 := hc 0 hn
  rw [Nat.add_zero] at c0
  obtain ⟨x0, hx0⟩ : ∃ x, x = l.getD 0 0 := ⟨_, rfl⟩
  rw [← hx0] at c0
  have HX0 := Lib.hid hx0
  clear hc hs hx0
  go_enter Tryz.func193, Tryz.ntmps193
  go_wp2
  go_loop [3, 4] (fun sm si => ∃ (k : Nat) (m : Int), 1 ≤ k ∧ k ≤ n ∧ si = .int .i64 k ∧ sm = .int .i64 m ∧ Hid (m = minL (l.take k))) (fun _ si => n - (intOf si).toNat)
  case atStart => exact ⟨1, x0, Nat.le_refl _, hn, rfl, rfl, Lib.hid (by rw [HX0.out, minL_one l (by have := HL.out; omega)])⟩
  case round =>
    obtain ⟨k, m, hk1, hk, rfl, rfl, HM⟩ := hrel
    by_cases hlt : k < n
    · have g1 := HC.out k hlt
      obtain ⟨x, hx⟩ : ∃ x, l.getD k 0 = x := ⟨_, rfl⟩
      rw [hx] at g1
      have HS := Lib.hid (minL_take l k x hk1 (by have := HL.out; omega) hx)
      clear hx
      go_wp2
      go_round
      case rel => exact ⟨k + 1, min m x, by omega, by omega, by go_num, (by simp only [min_if]), Lib.hid (by rw [HS.out, HM.out])⟩
      case measure => simp [intOf]; omega
    · obtain rfl : k = n := by omega
      go_wp2
      go_ret
      exact ⟨Bs.ret_int (by rw [HM.out, List.take_of_length_le (Nat.le_of_eq HL.out)]), rfl⟩

set_option maxHeartbeats 400000 in
theorem smallest_any (a : Option Addr) (n c : Nat) (l : List Int) (w : World) (hs : Is.Seg w a n c l) (hI : IsI l) :
    Calls Tryz.prog 184 #[.slice a n c] w fun e w' => e = .returned (.int .i64 (minL l)) ∧ w = w' := by
  by_cases hn : n = 0
  · subst hn
    obtain rfl := List.eq_nil_of_length_eq_zero hs.len
    go_enter Tryz.func184, Tryz.ntmps184
    go_wp2
    go_ret
    exact ⟨rfl, rfl⟩
  · have H := Lib.hid (min_any a n c l w hs hI (by omega))
    have hb : ((n : Int) == 0) = false := by simp; omega
    go_enter Tryz.func184, Tryz.ntmps184
    go_wp2_with fail
    refine H.out.mono ?_
    rintro e w' ⟨rfl, rfl⟩
    go_wp2
    go_ret
    exact ⟨rfl, rfl⟩
end Go.Proofs.YtljanfnhmhimiaaGreat.In
