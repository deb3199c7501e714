/-
  NullsNames: the chapter's examples.
-/
import Derived.Test.YtpcilohiokpmnaaNuLaw
namespace Go.Proofs.Ytpcilohiokpmnaa.Nu
open Go.RowKit
open Dv (Turn nowhere)
open Pk (Turn.then PutF below_of)

theorem make_flags (S : Nat) (hS : S ≤ 1000000) (W : World) : (Instr.makeSlice 27 (.int .i64 (S : Int)) (.int .i64 (S : Int))).run Try.prog W = .ok (.slice (some ⟨W.heap.size, 0, none⟩) S S) (W.alloc (.cells (roomF S) 4)) := by
  obtain ⟨i0, hi, hz0, hz1, hz2⟩ := info_parts Bl.info_bool
  have h := run_make (P := Try.prog) W 27 4 i0 (.bool false) Try.underlying27 hi hz0 .i64 .i64 (S : Int) (S : Int) (by omega) (by omega) (by rw [hz2]; omega) (by omega)
  rw [hz1, Int.toNat_natCast, Nat.mul_one] at h
  exact h
theorem seg_flags (S : Nat) (hS : S ≤ 1000000) (w : World) : Bl.Seg (w.alloc (.cells (roomF S) 4)) (some ⟨w.heap.size, 0, none⟩) S S (List.replicate S false) := by
  have h := made_flags w (List.replicate S false) S hS (by simp)
  rw [fillF_zero, List.length_replicate] at h
  exact Bl.Seg.own h
theorem many_no (S : Nat) (hS : 4096 < S) : putN (List.replicate S false) = (3, []) := by unfold putN; rw [if_pos (by rw [List.length_replicate]; exact hS)]

set_option maxRecDepth 100000 in
set_option maxHeartbeats 4000000 in
theorem names_any (w : World) : Calls Try.prog 3 #[] w fun e w' => e = .returned (.bool true) ∧ Below w.heap.size w w' := by
  have HB : Hid (Oct.IsB [3, 2, 5, 9] ∧ Oct.IsB [2, 2, 3] ∧ Oct.IsB [0, 1] ∧ Oct.IsB [3, 2] ∧ Oct.IsB [1, 3]) := Lib.hid ⟨Bs.isB_of _ (by decide), Bs.isB_of _ (by decide), Bs.isB_of _ (by decide), Bs.isB_of _ (by decide), Bs.isB_of _ (by decide)⟩
  have hmk : ∀ W : World, (Instr.makeSlice 27 (.int .i64 4097) (.int .i64 4097)).run Try.prog W = .ok (.slice (some ⟨W.heap.size, 0, none⟩) 4097 4097) (W.alloc (.cells (roomF 4097) 4)) := make_flags 4097 (by decide)
  go_enter Try.func3, Try.ntmps3
  go_wp2_with fail
  refine (lives_any _).mono ?_
  rintro e w0 ⟨rfl, hg1⟩
  have T0 := Lib.hid hg1
  clear hg1
  dsimp only
  go_wp2_with fail
  refine (put_form (l := []) (E := 0) (B := [0, 0]) (m := 2) (by decide +kernel) rfl _ _ _ _ (Bl.Seg.nil w0)).mono ?_
  rintro e w1 ⟨x1, k1, rfl, hs1, hT⟩
  have T1 := Lib.hid (Turn.then T0.out hT)
  have S1 := Lib.hid hs1
  clear hT hs1
  dsimp only
  have R1a := Lib.hid (Turn.alloc w1 (.cells #[.bool true, .bool true] 4) nowhere)
  go_wp2_with fail
  refine (put_form (l := [true, true]) (E := 0) (B := [2, 1]) (m := 2) (by decide +kernel) rfl _ _ _ _ (Bl.lit_seg w1 [true, true] (by decide))).mono ?_
  rintro e w2 ⟨x2, k2, rfl, hs2, hT⟩
  have R2 := Lib.hid (Turn.then R1a.out hT)
  have T2 := Lib.hid (Turn.then T1.out R2.out)
  have S1 := Lib.hid (Pk.seg_stay S1.out R2.out)
  have S2 := Lib.hid hs2
  clear hT hs2 R2 R1a T1 T0
  dsimp only
  have R2a := Lib.hid (Turn.alloc w2 (.cells #[.int .u8 3, .int .u8 2, .int .u8 5, .int .u8 9] 5) nowhere)
  go_wp2_with fail
  refine (got_form (bs := [3, 2, 5, 9]) (L := [true, false, true]) (z := 3) (E := 0) (m := 3) (by decide +kernel) rfl HB.out.1 (by decide) _ _ _ _ (Bs.lit_seg w2 [3, 2, 5, 9] (by decide))).mono ?_
  rintro e w3 ⟨x3, k3, rfl, hs3, hT⟩
  have R3 := Lib.hid (Turn.then R2a.out hT)
  have T3 := Lib.hid (Turn.then T2.out R3.out)
  have S1 := Lib.hid (Pk.seg_stay S1.out R3.out)
  have S2 := Lib.hid (Pk.seg_stay S2.out R3.out)
  have S3 := Lib.hid hs3
  clear hT hs3 R3 R2a T2
  dsimp only
  have R3a := Lib.hid (Turn.alloc w3 (.cells #[.int .u8 2, .int .u8 2, .int .u8 3] 5) nowhere)
  go_wp2_with fail
  refine (got_form (bs := [2, 2, 3]) (L := []) (z := 0) (E := 4) (m := 0) (by decide +kernel) rfl HB.out.2.1 (by decide) _ _ _ _ (Bs.lit_seg w3 [2, 2, 3] (by decide))).mono ?_
  rintro e w4 ⟨x4, k4, rfl, hs4, hT⟩
  have R4 := Lib.hid (Turn.then R3a.out hT)
  have T4 := Lib.hid (Turn.then T3.out R4.out)
  have S1 := Lib.hid (Pk.seg_stay S1.out R4.out)
  have S2 := Lib.hid (Pk.seg_stay S2.out R4.out)
  have S3 := Lib.hid (bseg_stay S3.out R4.out)
  clear hT hs4 R4 R3a T3
  dsimp only
  have R4a := Lib.hid (Turn.alloc w4 (.cells #[.int .u8 0, .int .u8 1] 5) nowhere)
  go_wp2_with fail
  refine (got_form (bs := [0, 1]) (L := []) (z := 0) (E := 4) (m := 0) (by decide +kernel) rfl HB.out.2.2.1 (by decide) _ _ _ _ (Bs.lit_seg w4 [0, 1] (by decide))).mono ?_
  rintro e w5 ⟨x5, k5, rfl, hs5, hT⟩
  have R5 := Lib.hid (Turn.then R4a.out hT)
  have T5 := Lib.hid (Turn.then T4.out R5.out)
  have S1 := Lib.hid (Pk.seg_stay S1.out R5.out)
  have S2 := Lib.hid (Pk.seg_stay S2.out R5.out)
  have S3 := Lib.hid (bseg_stay S3.out R5.out)
  clear hT hs5 R5 R4a T4
  dsimp only
  have R5a := Lib.hid (Turn.alloc w5 (.cells #[.int .u8 3, .int .u8 2] 5) nowhere)
  go_wp2_with fail
  refine (got_form (bs := [3, 2]) (L := []) (z := 0) (E := 4) (m := 0) (by decide +kernel) rfl HB.out.2.2.2.1 (by decide) _ _ _ _ (Bs.lit_seg w5 [3, 2] (by decide))).mono ?_
  rintro e w6 ⟨x6, k6, rfl, hs6, hT⟩
  have R6 := Lib.hid (Turn.then R5a.out hT)
  have T6 := Lib.hid (Turn.then T5.out R6.out)
  have S1 := Lib.hid (Pk.seg_stay S1.out R6.out)
  have S2 := Lib.hid (Pk.seg_stay S2.out R6.out)
  have S3 := Lib.hid (bseg_stay S3.out R6.out)
  clear hT hs6 R6 R5a T5
  dsimp only
  have R6a := Lib.hid (Turn.alloc w6 (.cells #[.int .u8 1, .int .u8 3] 5) nowhere)
  go_wp2_with fail
  refine (got_form (bs := [1, 3]) (L := []) (z := 0) (E := 4) (m := 0) (by decide +kernel) rfl HB.out.2.2.2.2 (by decide) _ _ _ _ (Bs.lit_seg w6 [1, 3] (by decide))).mono ?_
  rintro e w7 ⟨x7, k7, rfl, hs7, hT⟩
  have R7 := Lib.hid (Turn.then R6a.out hT)
  have T7 := Lib.hid (Turn.then T6.out R7.out)
  have S1 := Lib.hid (Pk.seg_stay S1.out R7.out)
  have S2 := Lib.hid (Pk.seg_stay S2.out R7.out)
  have S3 := Lib.hid (bseg_stay S3.out R7.out)
  clear hT hs7 R7 R6a T6
  dsimp only
  have R7a := Lib.hid (Turn.alloc w7 (.cells (roomF 4097) 4) nowhere)
  go_wp2_with fail
  refine (put_form (l := List.replicate 4097 false) (E := 3) (B := []) (m := 0) (many_no 4097 (by decide)) rfl _ _ _ _ (seg_flags 4097 (by decide) w7)).mono ?_
  rintro e w8 ⟨x8, k8, rfl, hs8, hT⟩
  have R8 := Lib.hid (Turn.then R7a.out hT)
  have T8 := Lib.hid (Turn.then T7.out R8.out)
  have S1 := Lib.hid (Pk.seg_stay S1.out R8.out)
  have S2 := Lib.hid (Pk.seg_stay S2.out R8.out)
  have S3 := Lib.hid (bseg_stay S3.out R8.out)
  clear hT hs8 R8 R7a T7 hmk
  dsimp only
  have RA := Lib.hid (Turn.alloc w8 (.cells #[.int .u8 0, .int .u8 0] 5) nowhere)
  have HSa := Lib.hid (Pk.same_form x1 (some ⟨w8.heap.size, 0, none⟩) 2 2 k1 2 [0, 0] [0, 0] (w8.alloc (.cells #[.int .u8 0, .int .u8 0] 5)) (Pk.seg_stay S1.out RA.out) (Bs.lit_seg w8 [0, 0] (by decide)) true (by decide))
  go_wp2_with fail
  refine HSa.out.mono ?_
  rintro e w9 ⟨rfl, hT⟩
  have R9 := Lib.hid (Turn.then RA.out hT)
  have T9 := Lib.hid (Turn.then T8.out R9.out)
  have S2 := Lib.hid (Pk.seg_stay S2.out R9.out)
  have S3 := Lib.hid (bseg_stay S3.out R9.out)
  clear hT R9 RA HSa T8
  dsimp only
  have RB := Lib.hid (Turn.alloc w9 (.cells #[.int .u8 2, .int .u8 1] 5) nowhere)
  have HSb := Lib.hid (Pk.same_form x2 (some ⟨w9.heap.size, 0, none⟩) 2 2 k2 2 [2, 1] [2, 1] (w9.alloc (.cells #[.int .u8 2, .int .u8 1] 5)) (Pk.seg_stay S2.out RB.out) (Bs.lit_seg w9 [2, 1] (by decide)) true (by decide))
  go_wp2_with fail
  refine HSb.out.mono ?_
  rintro e w10 ⟨rfl, hT⟩
  have R10 := Lib.hid (Turn.then RB.out hT)
  have T10 := Lib.hid (Turn.then T9.out R10.out)
  have S3 := Lib.hid (bseg_stay S3.out R10.out)
  clear hT R10 RB HSb T9
  dsimp only
  have RC := Lib.hid (Turn.alloc w10 (.cells #[.bool true, .bool false, .bool true] 4) nowhere)
  have HSc := Lib.hid (bsame_form x3 (some ⟨w10.heap.size, 0, none⟩) 3 3 k3 3 [true, false, true] [true, false, true] (w10.alloc (.cells #[.bool true, .bool false, .bool true] 4)) (bseg_stay S3.out RC.out) (Bl.lit_seg w10 [true, false, true] (by decide)) true (by decide))
  go_wp2_with fail
  refine HSc.out.mono ?_
  rintro e w11 ⟨rfl, hT⟩
  have R11 := Lib.hid (Turn.then RC.out hT)
  have T11 := Lib.hid (Turn.then T10.out R11.out)
  have S3 := Lib.hid (bseg_stay S3.out R11.out)
  have HCt := Lib.hid (Count_any x3 3 k3 [true, false, true] w11 S3.out)
  clear hT R11 RC HSc T10
  dsimp only
  go_wp2_with fail
  refine HCt.out.mono ?_
  rintro e w12 ⟨rfl, hT⟩
  have T12 := Lib.hid (Turn.then T11.out hT)
  have S3 := Lib.hid (bseg_stay S3.out hT)
  have HSp := Lib.hid (spread_any x3 3 k3 [true, false, true] 1 3 w12 S3.out (by decide) (by decide +kernel))
  clear hT HCt T11
  dsimp only
  go_wp2_with fail
  refine HSp.out.mono ?_
  rintro e w13 ⟨x13, k13, rfl, hs13, hT⟩
  have T13 := Lib.hid (Turn.then T12.out hT)
  have S3 := Lib.hid (bseg_stay S3.out hT)
  have RD := Lib.hid (Turn.alloc w13 (.cells #[.int .i64 (-1), .int .i64 0, .int .i64 (-1)] 3) nowhere)
  have HSd := Lib.hid (jsame_form x13 (some ⟨w13.heap.size, 0, none⟩) 3 3 k13 3 _ [-1, 0, -1] (w13.alloc (.cells #[.int .i64 (-1), .int .i64 0, .int .i64 (-1)] 3)) (jseg_stay hs13 RD.out) (Js.lit_seg w13 [-1, 0, -1] (by decide)) true (by decide +kernel))
  clear hT HSp T12 hs13
  dsimp only
  go_wp2_with fail
  refine HSd.out.mono ?_
  rintro e w14 ⟨rfl, hT⟩
  have R14 := Lib.hid (Turn.then RD.out hT)
  have T14 := Lib.hid (Turn.then T13.out R14.out)
  have S3 := Lib.hid (bseg_stay S3.out R14.out)
  have HSq := Lib.hid (spread_any x3 3 k3 [true, false, true] 2 0 w14 S3.out (by decide) (by decide +kernel))
  clear hT R14 RD HSd T13
  dsimp only
  go_wp2_with fail
  refine HSq.out.mono ?_
  rintro e w15 ⟨x15, k15, rfl, hs15, hT⟩
  have T15 := Lib.hid (Turn.then T14.out hT)
  clear hT HSq T14 hs15
  dsimp only
  go_wp2
  go_ret
  exact ⟨rfl, below_of T15.out⟩
end Go.Proofs.Ytpcilohiokpmnaa.Nu
