/-
  What readers, varints and strings of bytes keep to, whatever is read: facts beside the octets' contracts.
-/
import Derived.Test.YtpcilohiokpmnaaBase
import Derived.Test.YtpcilohiokpmnaaOctNum
import Derived.Test.YtpcilohiokpmnaaOctVarR
import Derived.Test.YtpcilohiokpmnaaMem
import Derived.Lib.SmallJoins
namespace Go.Proofs.Ytpcilohiokpmnaa.In
open Go.RowKit Go.Joins
open Oct (putB ofB varB readV Rd ReadN cells_reader)
open Dv (Turn nowhere)

theorem isB_take {l : List Int} (h : Oct.IsB l) (n : Nat) : Oct.IsB (l.take n) := fun x hx => h x (List.mem_of_mem_take hx)
theorem isB_drop {l : List Int} (h : Oct.IsB l) (n : Nat) : Oct.IsB (l.drop n) := fun x hx => h x (List.mem_of_mem_drop hx)
theorem isB_app {l m : List Int} (h : Oct.IsB l) (k : Oct.IsB m) : Oct.IsB (l ++ m) := fun x hx => (List.mem_append.1 hx).elim (h x) (k x)
/-- a varint is read again -/
theorem readV_var (n : Nat) (r : List Int) (h : n < 18446744073709551616) : readV 0 0 (varB 9 n ++ r) = ((n : Int), 0, (varB 9 n).length) := by
  have := Oct.readV_varB 9 0 0 n r rfl (by omega) (by have : (2 : Int) * 128 ^ 9 = 18446744073709551616 := by decide
                                                      omega) (by omega)
  rw [this]; simp
theorem drop_var (n : Nat) (r : List Int) : (varB 9 n ++ r).drop (varB 9 n).length = r := List.drop_left
/-- what was read of a varint are its bytes -/
theorem var_readV (b : List Int) (hb : Oct.IsB b) (x : Int) (n : Nat) (h : readV 0 0 b = (x, 0, n)) : 0 ≤ x ∧ x < 18446744073709551616 ∧ b = varB 9 x ++ b.drop n := by
  obtain ⟨v, v0, v1, hx, _, _, _, hvb⟩ := Oct.varB_readV b 9 0 0 x n hb rfl h
  have e : x = v := by rw [hx]; simp
  have : (2 : Int) * 128 ^ 9 = 18446744073709551616 := by decide
  refine ⟨by omega, by omega, ?_⟩
  rw [e, hvb, Nat.sub_zero, List.take_append_drop]
theorem varB_isB (n : Nat) (h : n < 18446744073709551616) : Oct.IsB (varB 9 n) :=
  Oct.varB_isB 9 n (by omega) (by have : (256 : Int) * 128 ^ 9 = 2361183241434822606848 := by decide
                                  omega)

theorem oseg {w : World} {a : Option Addr} {n c : Nat} {l : List Int} (h : Bs.Seg w a n c l) : Oct.Seg w a n c l := ⟨h.len, h.le, h.cap, h.nil_, h.at_⟩
theorem bseg {w : World} {a : Option Addr} {n c : Nat} {l : List Int} (h : Oct.Seg w a n c l) : Bs.Seg w a n c l := ⟨h.len, h.le, h.cap, h.nil_, h.at_⟩
theorem below_grown {B : Nat} {w w' : World} (h : w.grownBy w' none) (hB : B ≤ w.heap.size) : Below B w w' := (Below.refl B w).grown h hB (fun _ e => by cases e)
theorem below_mono {B B' : Nat} {w w' : World} (h : Below B w w') (hB : B' ≤ B) : Below B' w w' := ⟨h.os, h.tape, h.output, h.size, fun k hk => h.block k (Nat.lt_of_lt_of_le hk hB)⟩
theorem own_grown {w w' : World} {base e s n : Nat} {v : Value} {xs : List Value} (h : w.ownsRow base e s v n xs) (hg : w.grownBy w' none) : w'.ownsRow base e s v n xs :=
  h.kept hg (by cases hv : v.ownBlock <;> simp)
theorem num_of {n : Nat} (h : n ≤ 65536) : IntKind.u64.wrap (n : Int) = (n : Int) := by rw [IntKind.wrap_u64]; omega
/-- A new reader: two new blocks; nothing that was there has turned. -/
def NewR2 (w : World) (l : List Int) (e : Ending) (w' : World) : Prop :=
  ∃ b g, e = .returned (.pointer (some ⟨b, 0, none⟩)) ∧ w.heap.size ≤ b ∧ w.heap.size ≤ g ∧ b < w'.heap.size ∧ g < w'.heap.size ∧ Rd w' b g l ∧ w.grownBy w' none

set_option maxRecDepth 100000 in
set_option maxHeartbeats 400000 in
theorem new_any (a : Option Addr) (n c : Nat) (l : List Int) (w : World) (hs : Oct.Seg w a n c l) (hn : n ≤ 140737488355328) :
    Calls Try.prog 27 #[.slice a n c] w (NewR2 w l) := by
  have HA := Lib.hid (Oct.add_any a none n c 0 0 l [] w hs (Oct.Seg.nil w) (by omega))
  go_enter Try.func27, Try.ntmps27
  go_wp2_with fail
  refine HA.out.mono ?_
  rintro e w1 ⟨rfl, hown, hg⟩
  rw [List.append_nil, Nat.add_zero] at hown
  have hl := hs.len
  have hb : w.heap.size < w1.heap.size := (hown.lt _ rfl).2
  have hfin : NewR2 w l (.returned (.pointer (some ⟨w1.heap.size, 0, none⟩))) (w1.alloc (.cells #[.slice (some ⟨w.heap.size, 0, none⟩) n n, .pointer (some ⟨w1.heap.size, 0, none⟩)] 75)) := by
    subst hl
    have h1 := Oct.Seg.own (hown.alloc (.cells #[.slice (some ⟨w.heap.size, 0, none⟩) l.length l.length, .pointer (some ⟨w1.heap.size, 0, none⟩)] 75))
    refine ⟨w1.heap.size, w.heap.size, rfl, hg.size, Nat.le_refl _, by simp, by simp; omega, ⟨by omega, ⟨0, l.length, ?_, Nat.le_refl _, h1.cap, ?_⟩, ?_, ?_⟩, Oct.grownBy_trans hg (World.grownBy_alloc w1 _ none) (fun _ e => by cases e)⟩
    · exact World.cell?_alloc_at _ _ _ _ rfl
    · intro j hj
      have := h1.at_ _ rfl j (.int .u8 (l.getD j 0)) (by simp [List.getD, hj])
      rw [Addr.add_lit] at this
      exact this
    · exact World.cell?_alloc_at _ _ _ _ rfl
    · exact World.frozen?_alloc_at _ _ _ _ rfl
  have HF := Lib.hid hfin
  clear hfin hown hg hs HA
  go_wp2
  go_ret
  exact HF.out

theorem Turn.rd {w w' : World} {b g : Nat} {l : List Int} {S : Nat → Prop} (k : Turn w w' S) (h : Rd w b g l) (h1 : ¬ S b) (h2 : ¬ S g) : Rd w' b g l := by
  obtain ⟨o, c, h0, hle, hc, hj⟩ := h.cells
  have lt := World.block_lt_of_cell? w _ h0
  refine ⟨h.ne, ⟨o, c, k.cell h0 h1, hle, hc, fun j hjl => k.cell (hj j hjl) h2⟩, k.cell h.self h1, ?_⟩
  exact (k.frozen (p := ⟨b, 0, none⟩) lt h1).trans h.free
def At (b : Nat) : Nat → Prop := fun i => i = b
theorem turn_read {w w' : World} {b : Nat} (h : w.grownBy w' (some b)) : Turn w w' (At b) := Turn.of_grown h (fun i e _ => by cases e; rfl)
theorem turn_row {w w' : World} {g : Nat} (h : w.grownBy w' (some g)) : Turn w w' (At g) := Turn.of_grown h (fun i e _ => by cases e; rfl)
/-- further: a block that is newer may turn as well -/
theorem turn_more {a w w' : World} {b : Nat} {S : Nat → Prop} (h : Turn a w (At b)) (k : Turn w w' S) (hS : ∀ i, S i → i = b ∨ a.heap.size ≤ i) : Turn a w' (At b) :=
  h.trans k (fun i hi hs => by rcases hS i hs with e | e; exact e; omega)
theorem own_at {w w' : World} {base e s n b g c : Nat} {xs : List Value} (h : w.ownsRow base e s (.slice (some ⟨g, 0, none⟩) n c) n xs) (hg : w.grownBy w' (some b)) (hne : g ≠ b) : w'.ownsRow base e s (.slice (some ⟨g, 0, none⟩) n c) n xs :=
  h.kept hg (.inr (by simp [Value.ownBlock]; exact hne))
theorem turn_below {w w' : World} {S : Nat → Prop} (h : Below w.heap.size w w') : Turn w w' S := ⟨h.os, h.tape, h.output, h.size, fun i hi _ => h.block i hi⟩
theorem own_below {w w' : World} {base e s n : Nat} {v : Value} {xs : List Value} (h : w.ownsRow base e s v n xs) (hb : Below w.heap.size w w') : w'.ownsRow base e s v n xs :=
  own_grown h (Bs.grown_of hb)
theorem turn_up {w w1 w2 : World} {b : Nat} (h : Below w.heap.size w w1) (k : Turn w1 w2 (At b)) (hb : w.heap.size ≤ b) : Below w.heap.size w w2 :=
  ⟨k.os.trans h.os, k.tape.trans h.tape, k.output.trans h.output, Nat.le_trans h.size k.size, fun i hi => (k.block i (Nat.lt_of_lt_of_le hi h.size) (fun e => by unfold At at e; omega)).trans (h.block i hi)⟩
/-- 'string(b)' of bytes that are there. -/
theorem conv_seg {w : World} {a : Option Addr} {n c : Nat} {l : List Int} (hs : Bs.Seg w a n c l) (hn : 0 < n) : (convert 23 9 (.slice a n c)).run Try.prog w = .ok (.string (strOfNums l)) w := by
  obtain ⟨g, o, rfl, hc⟩ := hs.addr hn
  exact run_convert_bytes_arg w 23 5 Try.underlying23 Try.underlying5 g o n c l hs.len (fun j hj => by
    have := hc j (by have := hs.len; omega)
    rw [this]) 9 Try.underlying9
end Go.Proofs.Ytpcilohiokpmnaa.In
