/-
  Turns of a world; regions of bytes in memory, and how they stay.
-/
import Derived.Test.YtkinmcnmdfpjbaaStr
import Derived.Laws.IdiomCopy
import Derived.Lib.ConvBytes
namespace Go.Proofs.Ytkinmcnmdfpjbaa.Dv
open Go.RowKit Bs

/-! ### turns -/
structure Turn (w w' : World) (S : Nat → Prop) : Prop where
  os : w'.os = w.os
  tape : w'.tape = w.tape
  output : w'.output = w.output
  size : w.heap.size ≤ w'.heap.size
  block : ∀ k, k < w.heap.size → ¬ S k → w'.heap[k]? = w.heap[k]?

def nowhere : Nat → Prop := fun _ => False

theorem Turn.refl (w : World) (S : Nat → Prop) : Turn w w S := ⟨rfl, rfl, rfl, Nat.le_refl _, fun _ _ _ => rfl⟩
theorem Turn.trans {a b c : World} {S S' : Nat → Prop} (h : Turn a b S) (k : Turn b c S') (hS : ∀ i, i < a.heap.size → S' i → S i) : Turn a c S :=
  ⟨k.os.trans h.os, k.tape.trans h.tape, k.output.trans h.output, Nat.le_trans h.size k.size, fun i hi hn => (k.block i (Nat.lt_of_lt_of_le hi h.size) (fun e => hn (hS i hi e))).trans (h.block i hi hn)⟩
theorem Turn.mono {a b : World} {S S' : Nat → Prop} (h : Turn a b S) (hS : ∀ i, i < a.heap.size → S i → S' i) : Turn a b S' := ⟨h.os, h.tape, h.output, h.size, fun i hi hn => h.block i hi (fun e => hn (hS i hi e))⟩
theorem Turn.of_grown {a b : World} {row : Option Nat} {S : Nat → Prop} (h : a.grownBy b row) (hS : ∀ i, row = some i → i < a.heap.size → S i) : Turn a b S :=
  ⟨h.os, h.tape, h.output, h.size, fun i hi hn => h.block i hi (fun e => hn (hS i e.symm hi))⟩
theorem Turn.grown {a b : World} (h : Turn a b nowhere) : a.grownBy b none := ⟨h.os, h.tape, h.output, h.size, fun i hi _ => h.block i hi id⟩
theorem Turn.drewN (a : World) (n : Nat) (S : Nat → Prop) : Turn a (a.drewN n) S := ⟨rfl, rfl, rfl, Nat.le_refl _, fun _ _ _ => rfl⟩
theorem Turn.drew (a : World) (S : Nat → Prop) : Turn a a.drew S := ⟨rfl, rfl, rfl, Nat.le_refl _, fun _ _ _ => rfl⟩
theorem Turn.alloc (a : World) (o : Obj) (S : Nat → Prop) : Turn a (a.alloc o) S := ⟨rfl, rfl, rfl, by simp, fun i hi _ => Below.heap_alloc a o i hi⟩
theorem Turn.setCell (a : World) (p : Addr) (v : Value) {S : Nat → Prop} (hS : S p.block) : Turn a (a.setCell p v) S :=
  ⟨rfl, rfl, rfl, by simp [World.setCell], fun i _ hn => Below.heap_setCell _ _ _ _ (fun e => hn (by rw [e]; exact hS))⟩
theorem Turn.cell {a b : World} {S : Nat → Prop} (h : Turn a b S) {p : Addr} {v : Value} (hv : a.cell? p = some v) (hp : ¬ S p.block) : b.cell? p = some v :=
  (World.cell?_of_block (h.block p.block (World.block_lt_of_cell? a p hv) hp)).trans hv
theorem Turn.frozen {a b : World} {S : Nat → Prop} (h : Turn a b S) {p : Addr} (hlt : p.block < a.heap.size) (hp : ¬ S p.block) : b.frozen? p = a.frozen? p := World.frozen?_of_block (h.block p.block hlt hp)
theorem Turn.below {B : Nat} {a w w' : World} {S : Nat → Prop} (h : Below B a w) (k : Turn w w' S) (hB : B ≤ w.heap.size) (hS : ∀ i, i < w.heap.size → S i → B ≤ i) : Below B a w' :=
  h.trans ⟨k.os, k.tape, k.output, k.size, fun i hi => k.block i (by omega) (fun e => by have := hS i (by omega) e; omega)⟩
theorem Turn.of_below {a b : World} {S : Nat → Prop} (h : Below a.heap.size a b) : Turn a b S := ⟨h.os, h.tape, h.output, h.size, fun i hi _ => h.block i hi⟩

theorem setCells_turn (b : Nat) {S : Nat → Prop} (hS : S b) : ∀ (vs : List Value) (o : Nat) (w : World), Turn w (w.setCells b o vs) S
  | [], _, w => Turn.refl w S
  | v :: r, o, w => (Turn.setCell w ⟨b, o, none⟩ v hS).trans (setCells_turn b hS r (o + 1) _) (fun _ _ h => h)

/-! ### regions of bytes -/
def Reg (w : World) (b o : Nat) (l : List Int) : Prop := ∀ j x, l[j]? = some x → w.cell? ⟨b, o + j, none⟩ = some (.int .u8 x) ∧ w.frozen? ⟨b, o + j, none⟩ = false

theorem Reg.turn {w w' : World} {b o : Nat} {l : List Int} {S : Nat → Prop} (h : Reg w b o l) (k : Turn w w' S) (hb : ¬ S b) : Reg w' b o l := fun j x hx => by
  obtain ⟨h1, h2⟩ := h j x hx
  exact ⟨k.cell h1 hb, (k.frozen (p := ⟨b, o + j, none⟩) (World.block_lt_of_cell? w _ h1) hb).trans h2⟩

theorem Reg.lt {w : World} {b o : Nat} {l : List Int} (h : Reg w b o l) (hl : l ≠ []) : b < w.heap.size := by
  cases l with
  | nil => exact absurd rfl hl
  | cons x l => exact World.block_lt_of_cell? w _ (h 0 x rfl).1

theorem Reg.at_ {w : World} {b o : Nat} {l : List Int} (h : Reg w b o l) (j : Nat) (hj : j < l.length) : w.cell? ⟨b, o + j, none⟩ = some (.int .u8 (l.getD j 0)) ∧ w.frozen? ⟨b, o + j, none⟩ = false :=
  h j _ (by simp [List.getD, hj])

/-- What a region reads, as a slice. -/
theorem Reg.seg {w : World} {b o c : Nat} {l : List Int} (h : Reg w b o l) (hc : l.length ≤ c) (hm : c ≤ maxLen) : Seg w (some ⟨b, o, none⟩) l.length c l := by
  refine ⟨rfl, hc, hm, (fun e => by cases e), fun ad had j u hu => ?_⟩
  cases had
  rw [List.getElem?_map] at hu
  cases hq : l[j]? with
  | none => rw [hq] at hu; cases hu
  | some x => rw [hq] at hu; rw [Addr.add_lit, ← Option.some.inj hu]; exact (h j x hq).1

theorem Reg.own {w : World} {base e g n c : Nat} {l : List Int} (h : w.ownsRow base e 1 (.slice (some ⟨g, 0, none⟩) n c) n (l.map (Value.int .u8))) : Reg w g 0 l := fun j x hx => by
  have h1 := h.cells (g := g) rfl j (.int .u8 x) (by rw [List.getElem?_map, hx]; rfl)
  rw [Addr.add_lit] at h1
  refine ⟨h1, ?_⟩
  rcases h.2 with ⟨e, _⟩ | ⟨g', cap, cur, e, _, hg, _⟩
  · cases e
  · cases e
    simp [World.frozen?, hg]

/-- Outside [o, o + n) of block b nothing has turned. -/
structure Out (w w' : World) (b o n : Nat) : Prop where
  turn : Turn w w' (· = b)
  cell : ∀ j, j < o ∨ o + n ≤ j → w'.cell? ⟨b, j, none⟩ = w.cell? ⟨b, j, none⟩
  frozen : ∀ j, w'.frozen? ⟨b, j, none⟩ = w.frozen? ⟨b, j, none⟩

theorem Out.refl (w : World) (b o n : Nat) : Out w w b o n := ⟨Turn.refl _ _, fun _ _ => rfl, fun _ => rfl⟩
theorem Out.trans {w w' w'' : World} {b o n : Nat} (h : Out w w' b o n) (k : Out w' w'' b o n) : Out w w'' b o n :=
  ⟨h.turn.trans k.turn (fun _ _ e => e), fun j hj => (k.cell j hj).trans (h.cell j hj), fun j => (k.frozen j).trans (h.frozen j)⟩
theorem Out.mono {w w' : World} {b o n o' n' : Nat} (h : Out w w' b o n) (h1 : o' ≤ o) (h2 : o + n ≤ o' + n') : Out w w' b o' n' :=
  ⟨h.turn, fun j hj => h.cell j (by omega), h.frozen⟩
theorem Out.drewN {w w' : World} {b o n : Nat} (h : Out w w' b o n) (m : Nat) : Out w (w'.drewN m) b o n := ⟨⟨h.turn.os, h.turn.tape, h.turn.output, h.turn.size, h.turn.block⟩, h.cell, h.frozen⟩
/-- New blocks beside. -/
theorem Out.later {w w' w'' : World} {b o n : Nat} (h : Out w w' b o n) (k : Turn w' w'' nowhere) (hb : b < w'.heap.size) : Out w w'' b o n := by
  have e := k.block b hb id
  exact ⟨h.turn.trans k (fun _ _ e => e.elim), fun j hj => (World.cell?_of_block (a := ⟨b, j, none⟩) e).trans (h.cell j hj), fun j => (World.frozen?_of_block (a := ⟨b, j, none⟩) e).trans (h.frozen j)⟩
theorem Out.ahead {w w' w'' : World} {b o n : Nat} (k : Turn w w' nowhere) (h : Out w' w'' b o n) (hb : b < w.heap.size) : Out w w'' b o n := by
  have e := k.block b hb id
  exact ⟨Turn.trans (k.mono (fun _ _ e => e.elim)) h.turn (fun _ _ e => e), fun j hj => (h.cell j hj).trans (World.cell?_of_block (a := ⟨b, j, none⟩) e), fun j => (h.frozen j).trans (World.frozen?_of_block (a := ⟨b, j, none⟩) e)⟩

theorem Out.setCells (w : World) (b o n p : Nat) (vs : List Value) (h1 : o ≤ p) (h2 : p + vs.length ≤ o + n) : Out w (w.setCells b p vs) b o n :=
  ⟨setCells_turn (S := (· = b)) b rfl vs p w, fun j hj => World.cell?_setCells_out b vs p w ⟨b, j, none⟩ (fun _ _ => by show j < p ∨ p + vs.length ≤ j; omega), fun j => World.frozen?_setCells b vs p w _⟩

theorem Out.setCell (w : World) (b o n p : Nat) (v : Value) (h1 : o ≤ p) (h2 : p < o + n) : Out w (w.setCell ⟨b, p, none⟩ v) b o n :=
  Out.setCells w b o n p [v] h1 (by simp; omega)

/-- bytes written into a region -/
def spl (l : List Int) (p : Nat) (v : List Int) : List Int := l.take p ++ v ++ l.drop (p + v.length)
theorem spl_get (l : List Int) (p : Nat) (v : List Int) (h : p + v.length ≤ l.length) (j : Nat) : (spl l p v)[j]? = if j < p then l[j]? else if j < p + v.length then v[j - p]? else l[j]? := by
  unfold spl
  have ht : (l.take p).length = p := by rw [List.length_take]; omega
  by_cases h1 : j < p
  · rw [if_pos h1, List.append_assoc, List.getElem?_append_left (by omega), List.getElem?_take_of_lt h1]
  · rw [if_neg h1]
    by_cases h2 : j < p + v.length
    · rw [if_pos h2, List.append_assoc, List.getElem?_append_right (by omega), ht, List.getElem?_append_left (by omega)]
    · rw [if_neg h2, List.getElem?_append_right (by rw [List.length_append]; omega), List.length_append, ht, List.getElem?_drop]
      congr 1
      omega
theorem spl_len (l : List Int) (p : Nat) (v : List Int) (h : p + v.length ≤ l.length) : (spl l p v).length = l.length := by
  simp [spl]; omega

theorem Reg.setCells {w : World} {b o : Nat} {l : List Int} (h : Reg w b o l) (p : Nat) (v : List Int) (hp : p + v.length ≤ l.length) : Reg (w.setCells b (o + p) (v.map (Value.int .u8))) b o (spl l p v) := fun j x hx => by
  rw [spl_get l p v hp] at hx
  rw [World.frozen?_setCells]
  have hcs : ∀ i, i < (v.map (Value.int .u8)).length → (w.cell? ⟨b, o + p + i, none⟩).isSome = true := fun i hi => by
    rw [List.length_map] at hi
    have := (h.at_ (p + i) (by omega)).1
    rw [← Nat.add_assoc] at this
    rw [this]; rfl
  by_cases h1 : j < p
  · rw [if_pos h1] at hx
    rw [World.cell?_setCells_out b _ _ w ⟨b, o + j, none⟩ (fun _ _ => Or.inl (by show o + j < o + p; omega))]
    exact h j x hx
  · rw [if_neg h1] at hx
    by_cases h2 : j < p + v.length
    · rw [if_pos h2] at hx
      have h3 := World.cell?_setCells_in b (v.map (Value.int .u8)) (o + p) w hcs (j - p) (by rw [List.length_map]; omega)
      rw [show o + p + (j - p) = o + j from by omega] at h3
      refine ⟨h3.trans ?_, (h.at_ j (by omega)).2⟩
      rw [List.getElem?_eq_getElem (by omega)] at hx
      rw [List.getElem_map, Option.some.inj hx]
    · rw [if_neg h2] at hx
      rw [World.cell?_setCells_out b _ _ w ⟨b, o + j, none⟩ (fun _ _ => Or.inr (by show o + p + (v.map (Value.int .u8)).length ≤ o + j; rw [List.length_map]; omega))]
      exact h j x hx

theorem Reg.setCell {w : World} {b o : Nat} {l : List Int} (h : Reg w b o l) (p : Nat) (x : Int) (hp : p < l.length) : Reg (w.setCell ⟨b, o + p, none⟩ (.int .u8 x)) b o (l.set p x) := by
  have h1 := h.setCells p [x] (by simp; omega)
  have e : spl l p [x] = l.set p x := by
    apply List.ext_getElem?
    intro j
    rw [spl_get l p [x] (by simp; omega)]
    by_cases h1 : j < p
    · rw [if_pos h1, List.getElem?_set_ne (by omega)]
    · rw [if_neg h1]
      by_cases h2 : j < p + 1
      · obtain rfl : j = p := by omega
        rw [if_pos (by simp), List.getElem?_set_self hp]
        simp
      · rw [if_neg (by simpa using h2), List.getElem?_set_ne (by omega)]
  rw [e] at h1
  exact h1

theorem block_add (a : Addr) (n : Nat) : (a.add n).block = a.block := by unfold Addr.add; split <;> rfl
theorem own_turn {w w' : World} {e size n : Nat} {v : Value} {xs : List Value} {S : Nat → Prop} (h : w.ownsRow 0 e size v n xs) (k : Turn w w' S) (hv : ∀ i, v.ownBlock = some i → ¬ S i) : w'.ownsRow 0 e size v n xs := by
  refine ⟨h.1, ?_⟩
  rcases h.2 with h2 | ⟨g, cap, cur, e1, h3, h4, h5⟩
  · exact .inl h2
  · refine .inr ⟨g, cap, cur, e1, h3, ?_, h5⟩
    rw [k.block g (Array.getElem?_eq_some_iff.1 h4).1 (hv g (by rw [e1]; rfl))]
    exact h4

/-- A row of the call's own, opened where it is not empty. -/
theorem own_open {w : World} {base e size n : Nat} {v : Value} {xs : List Value} (h : w.ownsRow base e size v n xs) (hn : 0 < n) : ∃ g c, v = .slice (some ⟨g, 0, none⟩) n c ∧ n ≤ c ∧ c ≤ maxLen ∧ (∀ j u, xs[j]? = some u → w.cell? ⟨g, j, none⟩ = some u) ∧ ∀ j, w.frozen? ⟨g, j, none⟩ = false := by
  rcases h.2 with ⟨_, h0⟩ | ⟨g, c, cur, rfl, _, hg, h1, h2, _⟩
  · omega
  · refine ⟨g, c, rfl, h1, h2, fun j u hu => ?_, fun j => by simp [World.frozen?, hg]⟩
    have := h.cells (g := g) rfl j u hu
    rwa [Addr.add_lit, Nat.zero_add] at this
/-- A row of the call's own, whatever its length. -/
theorem own_form {w : World} {base e size n : Nat} {v : Value} {xs : List Value} (h : w.ownsRow base e size v n xs) : ∃ a c, v = .slice a n c ∧ n ≤ c ∧ c ≤ maxLen ∧ (a = none → n = 0 ∧ c = 0) ∧ ∀ ad, a = some ad → ∀ j u, xs[j]? = some u → w.cell? (ad.add j) = some u := by
  rcases h.2 with ⟨rfl, rfl⟩ | ⟨g, c, cur, rfl, _, hg, h1, h2, _⟩
  · exact ⟨none, 0, rfl, Nat.le_refl _, by unfold maxLen; omega, fun _ => ⟨rfl, rfl⟩, fun _ h => by cases h⟩
  · exact ⟨_, c, rfl, h1, h2, (fun e => by cases e), fun ad had j u hu => by cases had; exact h.cells (g := g) rfl j u hu⟩

end Go.Proofs.Ytkinmcnmdfpjbaa.Dv
