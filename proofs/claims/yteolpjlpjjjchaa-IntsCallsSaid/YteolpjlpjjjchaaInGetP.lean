/-
  Columns read again: a reader's frame; getPlain.
-/
import Derived.Test.YteolpjlpjjjchaaInPuts
namespace Go.Proofs.Yteolpjlpjjjchaa.In
open Go.RowKit Go.Joins
open Is (IsI)
open Oct (Rd ReadN ofB cells_reader)
open Dv (Turn nowhere)

/-- A new reader: two new blocks; nothing that was there has turned. -/
def NewR2 (w : World) (l : List Int) (e : Ending) (w' : World) : Prop :=
  ∃ b g, e = .returned (.pointer (some ⟨b, 0, none⟩)) ∧ w.heap.size ≤ b ∧ w.heap.size ≤ g ∧ b < w'.heap.size ∧ g < w'.heap.size ∧ Rd w' b g l ∧ w.grownBy w' none

set_option maxRecDepth 100000 in
set_option maxHeartbeats 400000 in
theorem new_any (a : Option Addr) (n c : Nat) (l : List Int) (w : World) (hs : Oct.Seg w a n c l) (hn : n ≤ 140737488355328) :
    Calls Try.prog 25 #[.slice a n c] w (NewR2 w l) := by
  have HA := Lib.hid (Oct.add_any a none n c 0 0 l [] w hs (Oct.Seg.nil w) (by omega))
  go_enter Try.func25, Try.ntmps25
  go_wp2_with fail
  refine HA.out.mono ?_
  rintro e w1 ⟨rfl, hown, hg⟩
  rw [List.append_nil, Nat.add_zero] at hown
  have hl := hs.len
  have hb : w.heap.size < w1.heap.size := (hown.lt _ rfl).2
  have hfin : NewR2 w l (.returned (.pointer (some ⟨w1.heap.size, 0, none⟩))) (w1.alloc (.cells #[.slice (some ⟨w.heap.size, 0, none⟩) n n, .pointer (some ⟨w1.heap.size, 0, none⟩)] 76)) := by
    subst hl
    have h1 := Oct.Seg.own (hown.alloc (.cells #[.slice (some ⟨w.heap.size, 0, none⟩) l.length l.length, .pointer (some ⟨w1.heap.size, 0, none⟩)] 76))
    refine ⟨w1.heap.size, w.heap.size, rfl, hg.size, Nat.le_refl _, by simp, by simp; omega, ⟨by omega, ⟨0, l.length, ?_, Nat.le_refl _, h1.cap, ?_⟩, ?_, ?_⟩, Oct.grownBy_trans hg (World.grownBy_alloc w1 _ none) (fun _ e => by cases e)⟩
    · exact World.cell?_alloc_at _ _ _ _ rfl
    · intro j hj
      have := h1.at_ _ rfl j (.int .u8 (l.getD j 0)) (by simp [List.getD, hj])
      rw [Addr.add_lit] at this
      exact this
    · exact World.cell?_alloc_at _ _ _ _ rfl
    · exact World.frozen?_alloc_at _ _ _ _ rfl
  have HF := Lib.hid hfin
  clear hfin hown hg hs HA
  go_wp2
  go_ret
  exact HF.out

theorem Turn.rd {w w' : World} {b g : Nat} {l : List Int} {S : Nat → Prop} (k : Turn w w' S) (h : Rd w b g l) (h1 : ¬ S b) (h2 : ¬ S g) : Rd w' b g l := by
  obtain ⟨o, c, h0, hle, hc, hj⟩ := h.cells
  have lt := World.block_lt_of_cell? w _ h0
  refine ⟨h.ne, ⟨o, c, k.cell h0 h1, hle, hc, fun j hjl => k.cell (hj j hjl) h2⟩, k.cell h.self h1, ?_⟩
  exact (k.frozen (p := ⟨b, 0, none⟩) lt h1).trans h.free
def At (b : Nat) : Nat → Prop := fun i => i = b
theorem turn_read {w w' : World} {b : Nat} (h : w.grownBy w' (some b)) : Turn w w' (At b) := Turn.of_grown h (fun i e _ => by cases e; rfl)
theorem turn_row {w w' : World} {g : Nat} (h : w.grownBy w' (some g)) : Turn w w' (At g) := Turn.of_grown h (fun i e _ => by cases e; rfl)
/-- further: a block that is newer may turn as well -/
theorem turn_more {a w w' : World} {b : Nat} {S : Nat → Prop} (h : Turn a w (At b)) (k : Turn w w' S) (hS : ∀ i, S i → i = b ∨ a.heap.size ≤ i) : Turn a w' (At b) :=
  h.trans k (fun i hi hs => by rcases hS i hs with e | e; exact e; omega)
theorem own_at {w w' : World} {base e s n b g c : Nat} {xs : List Value} (h : w.ownsRow base e s (.slice (some ⟨g, 0, none⟩) n c) n xs) (hg : w.grownBy w' (some b)) (hne : g ≠ b) : w'.ownsRow base e s (.slice (some ⟨g, 0, none⟩) n c) n xs :=
  h.kept hg (.inr (by simp [Value.ownBlock]; exact hne))
theorem wrap_sg (v : Int) (h0 : 0 ≤ v) (h1 : v < 18446744073709551616) : wrap64 v = sg v := by
  rw [← IntWalk.i64_left, IntKind.wrap_i64]; unfold sg; split <;> omega

/-- What reading a form answers: the numbers, and what is left; or an error. -/
def GetsX (b g : Nat) (w : World) (r : Option (List Int × List Int)) (e : Ending) (w' : World) : Prop :=
  Turn w w' (At b) ∧ match r with
    | some (l, rest) => ∃ a c, e = .returned (.tuple #[.slice a l.length c, .int .i64 0]) ∧ Is.Seg w' a l.length c l ∧ Rd w' b g rest
    | none => ∃ E : Int, E ≠ 0 ∧ e = .returned (.tuple #[.slice none 0 0, .int .i64 E])

set_option maxRecDepth 100000 in
set_option maxHeartbeats 2000000 in
theorem getPlain_any (b g n : Nat) (bs : List Int) (w : World) (h : Rd w b g bs) (hg : g < w.heap.size) (hb : Oct.IsB bs) (hn : n ≤ 65536) :
    Calls Try.prog 50 #[.pointer (some ⟨b, 0, none⟩), .int .i64 n] w (GetsX b g w (decP n bs)) := by
  obtain ⟨i0, hi, hz0, hz1, hz2⟩ := info_parts Is.info_i64
  have hbl : b < w.heap.size := World.block_lt_of_cell? w _ h.self
  have HBL := Lib.hid hbl
  have HGL := Lib.hid hg
  have hmk := make_roomI n (by omega)
  have h0 := World.ownsRow_made (base := w.heap.size) (e := 2) (size := 1) w (roomI n) n (Nat.le_refl _) (by unfold maxLen; omega) (by rw [roomI_size, Nat.mul_one])
  have HO0 := Lib.hid h0
  have HT0 : Hid (Turn w (w.alloc (.cells (roomI n) 2)) (At b)) := Lib.hid (Turn.alloc w _ _)
  have HR0 : Hid (Rd (w.alloc (.cells (roomI n) 2)) b g bs) := Lib.hid (Turn.rd (Turn.alloc w _ nowhere) h id id)
  have HE0 : Hid (decP n bs = (decP (n - 0) bs).map (fun p => (([] : List Int) ++ p.1, p.2))) := Lib.hid (by simp)
  have HB0 := Lib.hid hb
  clear h0 h hg hb hbl
  go_enter Try.func50, Try.ntmps50
  go_wp2
  go_loopw [6, 12] (fun so si wr => ∃ (k : Nat) (acc rest : List Int), k ≤ n ∧ si = .int .i64 k ∧ so = .slice (some ⟨w.heap.size, 0, none⟩) k n ∧ Hid (wr.ownsRow w.heap.size 2 1 (.slice (some ⟨w.heap.size, 0, none⟩) k n) k (acc.map (Value.int .i64))) ∧
      Hid (Rd wr b g rest) ∧ Hid (Oct.IsB rest) ∧ Hid (decP n bs = (decP (n - k) rest).map (fun p => (acc ++ p.1, p.2))) ∧ Hid (Turn w wr (At b)) ∧ Hid (w.heap.size < wr.heap.size))
    (fun _ si _ => n - (intOf si).toNat)
  case atStart => exact ⟨0, [], bs, Nat.zero_le _, rfl, rfl, HO0, HR0, HB0, HE0, HT0, Lib.hid (by simp)⟩
  case round =>
    obtain ⟨k, acc, rest, hk, rfl, rfl, HO, HR, HB, HE, HT, HL⟩ := hrel
    by_cases hlt : k < n
    · have hstep := decP_step n k bs acc rest hlt HE.out
      by_cases h8 : rest.length < 8
      · have HN := Lib.hid (Oct.number_more b g rest 8 wr HR.out (by decide) (by decide) (by omega))
        have HF : Hid (GetsX b g w (decP n bs) (.returned (.tuple #[.slice none 0 0, .int .i64 7])) wr) := Lib.hid (by
          rw [hstep.1 h8]
          exact ⟨HT.out, 7, by decide, rfl⟩)
        clear hstep h8
        go_wp2_with fail
        refine HN.out.mono ?_
        rintro e w' ⟨rfl, rfl⟩
        dsimp only
        go_wp2
        go_ret2
        exact HF.out
      · have h8' : 8 ≤ rest.length := by omega
        have HS := Lib.hid (hstep.2 h8')
        have HN := Lib.hid (Oct.number_yes b g rest 8 wr HR.out HB.out (by decide) (by decide) h8')
        have hz := ofB_bd8 (rest.take 8) (isB_take HB.out 8) (by rw [List.length_take]; omega)
        obtain ⟨z, hze⟩ : ∃ z, ofB (rest.take 8) = z := ⟨_, rfl⟩
        rw [hze] at HN HS hz
        have HZ := Lib.hid (wrap_sg z hz.1 hz.2)
        have HB2 := Lib.hid (isB_drop HB.out 8)
        clear hstep h8 h8' hze hz
        go_wp2_with fail
        refine HN.out.mono ?_
        rintro e w1 ⟨rfl, hg1, hr1⟩
        have HO1 : Hid (w1.ownsRow w.heap.size 2 1 (.slice (some ⟨w.heap.size, 0, none⟩) k n) k (acc.map (Value.int .i64))) := Lib.hid (own_at HO.out hg1 (by have := HBL.out; omega))
        have HT1 : Hid (Turn w w1 (At b)) := Lib.hid (turn_more HT.out (turn_read hg1) (fun i e => .inl e))
        have HR1 := Lib.hid hr1
        have HL1 : Hid (w.heap.size < w1.heap.size) := Lib.hid (Nat.lt_of_lt_of_le HL.out hg1.size)
        clear hg1 hr1
        dsimp only
        go_wp2_with (at_builtin; refine wpList_append_fits _ rfl (.tmp 22) (.tmp 25) 27 rfl w.heap.size 2 i0 1 Try.underlying27 hi hz1 w.heap.size k n _ rfl (HO1.out.alloc _) ⟨w1.heap.size, 0, none⟩ 1 1 [.int .i64 (wrap64 z)] rfl rfl (by intro t u ht; match t, ht with | 0, ht => simp at ht; subst ht; exact Pk.cell_new w1 _ _) (by intro u hu; simp at hu; subst hu; rfl) (by omega) ?_; intro w2 hown2 hgrow2)
        go_roundw
        case rel =>
          have hT2 := Turn.alloc w1 (.cells #[.int .i64 (wrap64 z)] 2) (At b)
          refine ⟨k + 1, acc ++ [sg z], rest.drop 8, by omega, by go_num, rfl, Lib.hid ?_, Lib.hid ?_, HB2, HS, Lib.hid ?_, Lib.hid (Nat.lt_of_lt_of_le (Nat.lt_of_lt_of_le HL1.out hT2.size) hgrow2.size)⟩
          · rw [List.map_append, ← HZ.out]; exact hown2
          · exact Turn.rd (turn_row hgrow2) (Turn.rd (Turn.alloc w1 _ nowhere) HR1.out id id) (by have := HBL.out; unfold At; omega) (by have := HGL.out; unfold At; omega)
          · exact turn_more (turn_more HT1.out hT2 (fun i e => .inl e)) (turn_row hgrow2) (fun i e => .inr (by unfold At at e; omega))
        case measure => simp [intOf]; omega
    · obtain rfl : k = n := by omega
      have hd := HE.out
      rw [Nat.sub_self] at hd
      have hd2 : decP k bs = some (acc, rest) := by rw [hd]; simp [decP]
      have hal : acc.length = k := by have := HO.out.1; rw [List.length_map] at this; omega
      have HF : Hid (GetsX b g w (decP k bs) (.returned (.tuple #[.slice (some ⟨w.heap.size, 0, none⟩) k k, .int .i64 0])) wr) := Lib.hid (by
        rw [hd2]
        refine ⟨HT.out, _, k, by rw [hal], ?_, HR.out⟩
        rw [hal]
        exact Is.Seg.own HO.out)
      clear hd hd2 hal
      go_wp2
      go_ret2
      exact HF.out
end Go.Proofs.Yteolpjlpjjjchaa.In
