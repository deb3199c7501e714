/-
  Put: the program's.
-/
import Derived.Test.YtfojkglindpjjaaDoorFrSet
import Derived.Test.YtfojkglindpjjaaDoorFrRoom
import Derived.Test.YtfojkglindpjjaaDoorCrcOf
namespace Go.Proofs.YtfojkglindpjjaaDoor.Fr
open Go.RowKit Bs Dv
open Oct (putB ofB putB_length putB_isB ofB_putB ofB_bound)
open Crc (crc num flip crc_lt burst_good flip_length flip_isB)

def fmV (f : Fm) : Value := .agg #[.int .u8 f.1, .int .u64 f.2.1, .string (strOfNums f.2.2)]
/-- a string and an error -/
def strE (r : List Int × Int) : Ending := .returned (.tuple #[.string (strOfNums r.1), .int .i64 r.2])
/-- a frame and an error -/
def fmE (r : Fm × Int) : Ending := .returned (.tuple #[fmV r.1, .int .i64 r.2])

theorem block_turn {w w' : World} {g : Nat} {o : Obj} {S : Nat → Prop} (h : w.heap[g]? = some o) (k : Turn w w' S) (hS : ¬ S g) : w'.heap[g]? = some o := by
  rw [k.block g (Array.getElem?_eq_some_iff.1 h).1 hS]; exact h
theorem block_lt {w : World} {g : Nat} {o : Obj} (h : w.heap[g]? = some o) : g < w.heap.size := (Array.getElem?_eq_some_iff.1 h).1
theorem fm_cells {w : World} {g : Nat} {x y z : Value} (h : w.heap[g]? = some (.cells #[x, y, z] 41 (0, 0))) :
    w.cell? ⟨g, 0, none⟩ = some x ∧ w.cell? ⟨g, 1, none⟩ = some y ∧ w.cell? ⟨g, 2, none⟩ = some z := by
  refine ⟨?_, ?_, ?_⟩ <;> rw [cell_of_row w g _ _ _ _ h] <;> rfl
theorem parts_cells {w : World} {g b n : Nat} (h : w.heap[g]? = some (.cells (partsV b n) 83 (0, 0))) :
    w.cell? ⟨g, 0, none⟩ = some (.slice (some ⟨b, 0, none⟩) 1 1) ∧ w.cell? ⟨g, 1, none⟩ = some (.slice (some ⟨b, 1, none⟩) 1 1) ∧ w.cell? ⟨g, 2, none⟩ = some (.slice (some ⟨b, 2, none⟩) 2 2) ∧
    w.cell? ⟨g, 3, none⟩ = some (.slice (some ⟨b, 4, none⟩) 8 8) ∧ w.cell? ⟨g, 4, none⟩ = some (.slice (some ⟨b, 12, none⟩) (n - 16) (n - 16)) ∧ w.cell? ⟨g, 5, none⟩ = some (.slice (some ⟨b, 0, none⟩) (n - 4) (n - 4)) ∧
    w.cell? ⟨g, 6, none⟩ = some (.slice (some ⟨b, n - 4, none⟩) 4 4) := by
  refine ⟨?_, ?_, ?_, ?_, ?_, ?_, ?_⟩ <;> rw [cell_of_row w g _ _ _ _ h] <;> rfl

set_option maxHeartbeats 1000000 in
theorem put_no (n t g : Int) (d : List Int) (w : World) (hn : ¬ Fits n ∨ (Fits n ∧ n - 16 < d.length)) :
    Calls Tryd.prog 35 #[.int .i64 n, .agg #[.int .u8 t, .int .u64 g, .string (strOfNums d)]] w fun e w' => e = strE (putF n (t, g, d)) ∧ w.grownBy w' none := by
  have hg := World.grownBy_alloc w (.cells #[.int .u8 t, .int .u64 g, .string (strOfNums d)] 41) none
  have hb := heap_alloc_new w (.cells #[.int .u8 t, .int .u64 g, .string (strOfNums d)] 41)
  have hsz : (strOfNums d).size = d.length := strOfNums_size d
  have HG := Lib.hid hg
  have HB := Lib.hid hb
  clear hg hb
  rcases hn with hn | ⟨hn, hl⟩
  · have HE : Hid (strE (putF n (t, g, d)) = strE ([], 2)) := Lib.hid (by unfold putF; rw [if_pos hn])
    have HR := Lib.hid (show room n = 0 from if_neg hn)
    clear hn
    go_enter Tryd.func35, Tryd.ntmps35
    go_wp2_with fail
    refine (room_any n _).mono ?_
    rintro e w1 ⟨rfl, hg1⟩
    have HG1 := Lib.hid (grownBy_trans HG.out hg1 (fun _ e => by cases e))
    clear hg1
    rw [HR.out]
    go_wp2
    go_ret2
    exact ⟨HE.out.symm, HG1.out⟩
  · have HE : Hid (strE (putF n (t, g, d)) = strE ([], 3)) := Lib.hid (by unfold putF; rw [if_neg (by simpa using hn), if_pos hl])
    have HR := Lib.hid (show room n = n - 16 from if_pos hn)
    unfold Fits at hn
    go_enter Tryd.func35, Tryd.ntmps35
    go_wp2_with fail
    refine (room_any n _).mono ?_
    rintro e w1 ⟨rfl, hg1⟩
    obtain ⟨c0, c1, c2⟩ := fm_cells (block_turn HB.out (Turn.of_grown hg1 (S := nowhere) (fun i e => by cases e)) id)
    have HG1 := Lib.hid (grownBy_trans HG.out hg1 (fun _ e => by cases e))
    clear hg1
    rw [HR.out]
    go_wp2
    go_ret2
    exact ⟨HE.out.symm, HG1.out⟩

/-- how a block of zeros becomes a frame's -/
theorem steps (n : Nat) (t g : Int) (d : List Int) (h : d.length + 16 ≤ n) :
    spl (spl (spl ((List.replicate n 0).set 0 t) 2 (putB 2 d.length)) 4 (putB 8 g)) 12 d = body n t g d ++ List.replicate 4 0 ∧
    spl (body n t g d ++ List.replicate 4 0) (n - 4) (putB 4 (crc (body n t g d) : Int)) = blk n t g d := by
  have e0 : List.replicate n (0 : Int) = List.replicate 1 0 ++ (List.replicate 1 0 ++ (List.replicate 2 0 ++ (List.replicate 8 0 ++ (List.replicate d.length 0 ++ (List.replicate (n - 16 - d.length) 0 ++ List.replicate 4 0))))) := by
    simp only [List.replicate_append_replicate]
    congr 1
    omega
  have e1 : (List.replicate n (0 : Int)).set 0 t = [t, 0] ++ (List.replicate 2 0 ++ (List.replicate 8 0 ++ (List.replicate d.length 0 ++ (List.replicate (n - 16 - d.length) 0 ++ List.replicate 4 0)))) := by
    rw [e0]; rfl
  refine ⟨?_, ?_⟩
  · rw [e1]
    unfold spl
    rw [spl_app [t, 0] _ _ _ 2 rfl (by rw [putB_length, List.length_replicate]), ← List.append_assoc [t, 0],
      spl_app ([t, 0] ++ putB 2 d.length) _ _ _ 4 (by rw [List.length_append, putB_length]; rfl) (by rw [putB_length, List.length_replicate]), ← List.append_assoc ([t, 0] ++ putB 2 d.length),
      spl_app ([t, 0] ++ putB 2 d.length ++ putB 8 g) _ _ _ 12 (by rw [List.length_append, List.length_append, putB_length, putB_length]; rfl) (by rw [List.length_replicate])]
    simp [body, List.append_assoc]
  · have := spl_app (body n t g d) (List.replicate 4 0) [] (putB 4 (crc (body n t g d) : Int)) (n - 4) (body_length n t g d h) (by rw [putB_length, List.length_replicate])
    rw [List.append_nil, List.append_nil] at this
    exact this

set_option maxRecDepth 100000 in
set_option maxHeartbeats 2000000 in
theorem put_yes (n : Nat) (t g : Int) (d : List Int) (w : World) (ht : 0 ≤ t ∧ t < 256) (hgn : 0 ≤ g ∧ g < 18446744073709551616) (hd : Bs.IsB d) (hn : Fits n) (hl : d.length + 16 ≤ n) :
    Calls Tryd.prog 35 #[.int .i64 n, .agg #[.int .u8 t, .int .u64 g, .string (strOfNums d)]] w fun e w' => e = strE (blk n t g d, 0) ∧ w.grownBy w' none := by
  obtain ⟨i0, hi, hz0, hz1, hz2⟩ := info_parts info_u8
  have hb := heap_alloc_new w (.cells #[.int .u8 t, .int .u64 g, .string (strOfNums d)] 41)
  have hsz : (strOfNums d).size = d.length := strOfNums_size d
  have T0 := Lib.hid (Turn.alloc w (.cells #[.int .u8 t, .int .u64 g, .string (strOfNums d)] 41) nowhere)
  have HB := Lib.hid hb
  have ZA := Lib.hid (show w.heap.size < (w.alloc (.cells #[.int .u8 t, .int .u64 g, .string (strOfNums d)] 41)).heap.size from block_lt hb)
  have HR := Lib.hid (show room n = (n : Int) - 16 from if_pos hn)
  unfold Fits at hn
  clear hb
  go_enter Tryd.func35, Tryd.ntmps35
  go_wp2_with fail
  refine (room_any n _).mono ?_
  rintro e w1 ⟨rfl, hg1⟩
  have t1 := Turn.of_grown hg1 (S := nowhere) (fun i e => by cases e)
  have B1 := Lib.hid (block_turn HB.out t1 id)
  have T1 := Lib.hid (T0.out.trans t1 (fun _ _ e => e))
  have Z1 := Lib.hid (block_lt B1.out)
  obtain ⟨c0, c1, c2⟩ := fm_cells B1.out
  clear hg1 t1
  rw [HR.out]
  generalize w.alloc (.cells #[.int .u8 t, .int .u64 g, .string (strOfNums d)] 41) = w0 at *
  generalize w.heap.size = p at *
  have hl' : ¬ ((n : Int) - 16 < (d.length : Int)) := by omega
  go_wp2_with (first
    | (refine wpList_make_full _ rfl _ _ 48 rfl w1.heap.size 5 i0 (.int .u8 0) 1 Tryd.underlying48 hi hz0 hz1 _ _ _ _ n rfl rfl rfl rfl (by rw [hz2]; omega) (by unfold maxLen; omega) (Nat.le_refl _) ?_; intro w2 hown2 hgrow2)
    | fail)
  have hmk : (madeCells (Value.int .u8 0).cells (n * 1)).toList = (List.replicate n (0 : Int)).map (Value.int .u8) := by
    rw [Nat.mul_one, List.map_replicate]
    exact toList_madeCells_one _ _
  rw [hmk] at hown2
  clear hmk
  obtain ⟨b, hbe⟩ : ∃ b, b = w1.heap.size := ⟨_, rfl⟩
  rw [← hbe] at hown2 Z1 ⊢
  have R2 := Lib.hid (Reg.own hown2)
  have t2 := Turn.of_grown hgrow2 (S := nowhere) (fun i e => by cases e)
  have B2 := Lib.hid (block_turn B1.out t2 id)
  have T2 := Lib.hid (T1.out.trans t2 (fun _ _ e => e))
  have Y2 := Lib.hid (show b < w2.heap.size from (hown2.lt _ rfl).2)
  have WB := Lib.hid (show w.heap.size ≤ b from by rw [hbe]; exact T1.out.size)
  clear hown2 hgrow2 t2 hbe c0 c1 c2 B1 T1 hl'
  refine (cut_any b n n w2 (by omega) (Nat.le_refl _) (by omega)).mono ?_
  rintro e w3 ⟨rfl, hg3⟩
  have t3 := Turn.of_grown hg3 (S := nowhere) (fun i e => by cases e)
  have B3 := Lib.hid (block_turn B2.out t3 id)
  have T3 := Lib.hid (T2.out.trans t3 (fun _ _ e => e))
  have R3 := Lib.hid (R2.out.turn t3 id)
  have Y3 := Lib.hid (Nat.lt_of_lt_of_le Y2.out t3.size)
  obtain ⟨c0, c1, c2⟩ := fm_cells B3.out
  have Y := Y3.out
  have Z := Z1.out
  obtain ⟨r0, f0⟩ := R3.out.at_ 0 (by rw [List.length_replicate]; omega)
  simp only [Nat.add_zero] at r0 f0
  clear hg3 t3 B2 T2 R2 Y2
  have X : p < w3.heap.size := Nat.lt_trans Z Y
  simp only [partsV]
  go_wp2_with fail
  have ll0 : (List.replicate n (0 : Int)).length = n := List.length_replicate
  obtain ⟨q, hq⟩ : ∃ q, q = w3.heap.size := ⟨_, rfl⟩
  have r4 := (R3.out.setCell 0 t (by rw [ll0]; omega)).turn (Turn.alloc (w3.setCell ⟨b, 0 + 0, none⟩ (.int .u8 t)) (.cells (partsV b n) 83) nowhere) id
  have t4 := (Turn.setCell w3 ⟨b, 0 + 0, none⟩ (.int .u8 t) (S := (· = b)) rfl).trans (Turn.alloc (w3.setCell ⟨b, 0 + 0, none⟩ (.int .u8 t)) (.cells (partsV b n) 83) (· = b)) (fun _ _ e => e)
  have q4 : ((w3.setCell ⟨b, 0 + 0, none⟩ (.int .u8 t)).alloc (.cells (partsV b n) 83)).heap[q]? = some (.cells (partsV b n) 83 (0, 0)) := by
    have h := heap_alloc_new (w3.setCell ⟨b, 0 + 0, none⟩ (.int .u8 t)) (.cells (partsV b n) 83)
    have e : (w3.setCell ⟨b, 0 + 0, none⟩ (.int .u8 t)).heap.size = w3.heap.size := by simp [World.setCell]
    rw [hq, ← e]
    exact h
  have hqb : q ≠ b := by omega
  have hpb : p ≠ b := by omega
  rw [← hq]
  have Q4 := Lib.hid q4
  have R4 := Lib.hid r4
  have T4 := Lib.hid ((T3.out.mono (S' := (· = b)) (fun _ _ e => e.elim)).trans t4 (fun _ _ e => e))
  have B4 := Lib.hid (block_turn B3.out t4 (by show ¬ p = b; omega))
  have L4 := Lib.hid (show ((List.replicate n (0 : Int)).set 0 t).length = n by rw [List.length_set, ll0])
  obtain ⟨s1, s2⟩ := steps n t g d hl
  clear r4 t4 q4 ll0 c0 c1 c2 r0 f0 X Y Z Y3 Z1 B3 T3 R3 hq
  generalize (List.replicate n (0 : Int)).set 0 t = L0 at *
  obtain ⟨L1, hL1⟩ : ∃ L1, L1 = spl L0 2 (putB 2 (d.length : Int)) := ⟨_, rfl⟩
  have l1 : L1.length = n := by rw [hL1, spl_len _ _ _ (by rw [putB_length, L4.out]; omega), L4.out]
  obtain ⟨L2, hL2⟩ : ∃ L2, L2 = spl L1 4 (putB 8 g) := ⟨_, rfl⟩
  have l2 : L2.length = n := by rw [hL2, spl_len _ _ _ (by rw [putB_length, l1]; omega), l1]
  rw [← hL1, ← hL2] at s1
  have hbl := body_length n t g d hl
  have hbB := body_isB n t g d ht hd
  have HL1 := Lib.hid hL1
  have HL2 := Lib.hid hL2
  have Hl1 := Lib.hid l1
  have Hl2 := Lib.hid l2
  have HS1 := Lib.hid s1
  have HS2 := Lib.hid s2
  have HBL := Lib.hid hbl
  have HBB := Lib.hid hbB
  have HD := Lib.hid hd
  clear hL1 hL2 l1 l2 s1 s2 hbl hbB hd
  refine (set_any b 2 2 2 (d.length : Int) L0 _ R4.out (by omega) (by omega) (by rw [L4.out]; omega) (by omega) (by omega)).mono ?_
  rintro e w5 ⟨rfl, r5, t5⟩
  rw [← HL1.out] at r5
  have R5 := Lib.hid r5
  have T5 := Lib.hid (T4.out.trans t5 (fun _ _ e => e))
  have Q5 := Lib.hid (block_turn Q4.out t5 (show ¬ q = b from hqb))
  have B5 := Lib.hid (block_turn B4.out t5 (show ¬ p = b from hpb))
  obtain ⟨c0, c1, c2⟩ := fm_cells B5.out
  obtain ⟨k0, k1, k2, k3, k4, k5, k6⟩ := parts_cells Q5.out
  clear r5 t5 R4 T4 Q4 B4
  go_wp2_with fail
  refine (set_any b 4 8 8 g L1 _ R5.out (by omega) (by omega) (by rw [Hl1.out]; omega) hgn.1 hgn.2).mono ?_
  rintro e w6 ⟨rfl, r6, t6⟩
  rw [← HL2.out] at r6
  have R6 := Lib.hid r6
  have T6 := Lib.hid (T5.out.trans t6 (fun _ _ e => e))
  have Q6 := Lib.hid (block_turn Q5.out t6 (show ¬ q = b from hqb))
  have B6 := Lib.hid (block_turn B5.out t6 (show ¬ p = b from hpb))
  clear r6 t6 R5 T5 Q5 B5 c0 c1 c2 k0 k1 k2 k3 k4 k5 k6
  obtain ⟨c0, c1, c2⟩ := fm_cells B6.out
  obtain ⟨k0, k1, k2, k3, k4, k5, k6⟩ := parts_cells Q6.out
  have RD := Lib.hid (R6.out.sub 12)
  have LD := Lib.hid (show (L2.drop 12).length = n - 12 by rw [List.length_drop, Hl2.out])
  go_wp2_with (first
    | (with_reducible refine wpList_copy_reg rfl (.tmp 42) (.tmp 44) rfl b 12 (n - 16) (n - 16) rfl (L2.drop 12) d rfl RD.out HD.out (by omega) (by rw [LD.out]; omega) ?_; intro w7 hr7 ho7)
    | fail)
  have r7 : Reg w7 b 0 (body n t g d ++ List.replicate 4 0) := by
    have h := R6.out.patch (v := d) (by have := hr7.take d.length; rwa [show (spl (L2.drop 12) 0 d).take d.length = d from by unfold spl; simp] at this) ho7 (by rw [Hl2.out]; omega)
    rwa [HS1.out] at h
  have R7 := Lib.hid (r7.turn (Turn.drew w7 nowhere) id)
  have T7 := Lib.hid ((T6.out.trans ho7.turn (fun _ _ e => e)).trans (Turn.drew w7 (· = b)) (fun _ _ e => e))
  have q7 := block_turn Q6.out ho7.turn (show ¬ q = b from hqb)
  have SB : Hid (Seg w7.drew (some ⟨b, 0, none⟩) (n - 4) (n - 4) (body n t g d)) := Lib.hid (by
    have h := (R7.out.take (n - 4)).seg (c := n - 4) (by rw [take_app _ _ _ HBL.out, HBL.out]; exact Nat.le_refl _) (by unfold maxLen; omega)
    rw [take_app _ _ _ HBL.out, HBL.out] at h
    exact h)
  clear c0 c1 c2 k0 k1 k2 k3 k4 k5 k6 hr7 ho7 r7 R6 T6 Q6 B6 RD LD
  obtain ⟨k0, k1, k2, k3, k4, k5, k6⟩ := parts_cells q7
  obtain ⟨C, hC⟩ : ∃ C, C = crc (body n t g d) := ⟨_, rfl⟩
  have hC4 : C < 4294967296 := by rw [hC]; exact crc_lt _ HBB.out
  have HC := Lib.hid hC
  clear hC q7 k0 k1 k2 k3 k4
  have HW : Hid (IntKind.u64.wrap (C : Int) = (C : Int)) := Lib.hid (by
    have e : IntKind.u64.wrap (C : Int) = (C : Int) % 18446744073709551616 := by simp [IntKind.wrap, IntKind.bits, IntKind.signed]
    rw [e]; omega)
  go_region_held3 (fun w' => w'.cell? ⟨q, 5, none⟩ = some (.slice (some ⟨b, 0, none⟩) (n - 4) (n - 4)) ∧ w'.cell? ⟨q, 6, none⟩ = some (.slice (some ⟨b, n - 4, none⟩) 4 4)) (go_keep)
    (first
      | (go_at_call 52
         (with_reducible refine (Crc.of_any _ _ _ (body n t g d) _ SB.out HBB.out).mono ?_)
         rintro e w8 ⟨rfl, hg8⟩
         rw [← HC.out]
         have T8 := Lib.hid (Turn.of_grown hg8 (S := nowhere) (fun i e => by cases e))
         have R8 := Lib.hid (R7.out.turn T8.out id)
         have e5 := T8.out.cell (p := ⟨q, 5, none⟩) (by exact k5) id
         have e6 := T8.out.cell (p := ⟨q, 6, none⟩) (by exact k6) id
         clear hg8)
      | (go_at_call 51
         rw [HW.out]
         (with_reducible refine (set_any b (n - 4) 4 4 (C : Int) (body n t g d ++ List.replicate 4 0) _ R8.out (by omega) (by omega) (by rw [List.length_append, HBL.out, List.length_replicate]; omega) (by omega) (by omega)).mono ?_)
         rintro e w9 ⟨rfl, r9, t9⟩
         have d5 := t9.cell (p := ⟨q, 5, none⟩) (by exact e5) (show ¬ q = b from hqb)
         have d6 := t9.cell (p := ⟨q, 6, none⟩) (by exact e6) (show ¬ q = b from hqb))
      | fail)
  rw [HC.out, HS2.out] at r9
  have T9 := Lib.hid ((T7.out.trans (T8.out.mono (fun _ _ e => e.elim)) (fun _ _ e => e)).trans t9 (fun _ _ e => e))
  have WB' := WB.out
  have HF : Hid (w.grownBy w9 none) := ⟨T9.out.os, T9.out.tape, T9.out.output, T9.out.size, fun i hi _ => T9.out.block i hi (fun e => by have : i = b := e; omega)⟩
  have hcv := conv_any b 0 n n _ w9 r9 (blk_length n t g d hl)
  clear r9 t9 d5 d6 e5 e6 WB'
  go_wp2
  go_ret2
  exact ⟨rfl, HF.out⟩
end Go.Proofs.YtfojkglindpjjaaDoor.Fr
