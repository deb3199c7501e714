/-
  TextsNames: the chapter's examples.
-/
import Derived.Test.YtgbpmpeknbaccaaTxLaw
import Derived.Test.YtgbpmpeknbaccaaTimes
import Derived.Lib.SlBytesConst
namespace Go.Proofs.Ytgbpmpeknbaccaa.Tx
open Go.RowKit Go.Joins
open Ss (IsS encW info_str)
open Pk (PutF Turn.then below_of turn_of)
open Dv (Turn nowhere)

theorem make_fullS (S : Nat) (hS : S ≤ 1000000) (W : World) : (Instr.makeSlice 27 (.int .i64 (S : Int)) (.int .i64 (S : Int))).run Try.prog W = .ok (.slice (some ⟨W.heap.size, 0, none⟩) S S) (W.alloc (.cells (roomS S) 9)) := by
  obtain ⟨i0, hi, hz0, hz1, hz2⟩ := info_parts info_str
  have h := run_make (P := Try.prog) W 27 9 i0 (.string ⟨#[]⟩) Try.underlying27 hi hz0 .i64 .i64 (S : Int) (S : Int) (by omega) (by omega) (by rw [hz2]; omega) (by omega)
  rw [hz1, Int.toNat_natCast, Nat.mul_one] at h
  exact h
theorem roomS_list (S : Nat) : (roomS S).toList = (List.replicate S ([] : List Int)).map encW := by
  have h : (roomS S).toList = List.replicate S (Value.string ⟨#[]⟩) := toList_madeCells_one _ _
  rw [h, List.map_replicate]
  rfl
theorem seg_madeS (C : Nat) (hC : C ≤ 65536) (w : World) : Ss.Seg (w.alloc (.cells (roomS C) 9)) (some ⟨w.heap.size, 0, none⟩) C C (List.replicate C []) := by
  refine ⟨by simp, Nat.le_refl _, by unfold maxLen; omega, (fun e => by cases e), fun ad had j u hu => ?_⟩
  cases had
  rw [Addr.add_lit, Nat.zero_add]
  refine (World.cell?_alloc_at _ _ _ _ rfl).trans ?_
  rw [← Array.getElem?_toList, roomS_list]
  exact hu
theorem many_no (C : Nat) (hC : 4096 < C) (b : List Int) : formR b (List.replicate C []) = (3, []) :=
  form_no (Bool.eq_false_iff.2 fun h => by have := ((okB_iff _).1 h).1; rw [List.length_replicate] at this; omega)
theorem long_no (X : List Int) (hX : 65536 < X.length) (b : List Int) : formR b [X] = (3, []) :=
  form_no (Bool.eq_false_iff.2 fun h => by have := ((okB_iff _).1 h).2 X (by simp); omega)
theorem isS_of (l : List (List Int)) (h : (l.all fun s => s.all (fun x => decide (0 ≤ x) && decide (x < 256)) && decide (s.length ≤ 1000)) = true) : IsS l := fun s hs => by
  have := List.all_eq_true.1 h s hs
  rw [Bool.and_eq_true] at this
  exact ⟨Bs.isB_of s this.1, by have := of_decide_eq_true this.2; omega⟩

set_option maxRecDepth 100000 in
set_option maxHeartbeats 4000000 in
theorem names_any (w : World) : Calls Try.prog 3 #[] w fun e w' => e = .returned (.bool true) ∧ Below w.heap.size w w' := by
  have HI : Hid (AllB [] ∧ AllB [[98], [97], [98], []] ∧ AllB (List.replicate 4097 []) ∧ AllB [[120, 121], []]) := Lib.hid ⟨isB_of _ (by decide), isB_of _ (by decide), (fun x hx => by rw [List.eq_of_mem_replicate hx]; intro y hy; cases hy), isB_of _ (by decide)⟩
  have HB : Hid (Oct.IsB [2, 4, 3, 0, 1, 97, 1, 98, 2, 38] ∧ Oct.IsB [3, 0] ∧ Oct.IsB [2, 2, 2, 1, 98, 1, 97, 1, 2] ∧ Oct.IsB [2, 1, 2, 1, 97, 1, 98, 1, 0]) := Lib.hid ⟨Bs.isB_of _ (by decide), Bs.isB_of _ (by decide), Bs.isB_of _ (by decide), Bs.isB_of _ (by decide)⟩
  have HS4 : Hid (IsS [[98], [97], [98], []] ∧ IsS [[98], [97], [98]] ∧ IsS [[97], [98]] ∧ IsS []) := Lib.hid ⟨isS_of _ (by decide), isS_of _ (by decide), isS_of _ (by decide), isS_of _ (by decide)⟩
  have hcv := fun (w : World) (C : Array Value) (n c : Nat) => Lib.run_convert_bytes_const (P := Try.prog) w 23 5 C n c Try.underlying23 Try.underlying5
  have hmk : ∀ W : World, (Instr.makeSlice 27 (.int .i64 4097) (.int .i64 4097)).run Try.prog W = .ok (.slice (some ⟨W.heap.size, 0, none⟩) 4097 4097) (W.alloc (.cells (roomS 4097) 9)) := make_fullS 4097 (by decide)
  obtain ⟨X, hX⟩ : ∃ X, Dv.rep 65537 97 = X := ⟨_, rfl⟩
  have hXl : 65536 < X.length := by rw [← hX, Dv.rep_len]; decide
  have HTi : Hid (∀ W, Calls Try.prog 12 #[.string ⟨#[97]⟩, .int .i64 65537] W fun e w' => e = .returned (.string (strOfNums X)) ∧ W = w') := Lib.hid fun W => by
    rw [← hX]
    exact Dv.times_any 97 65537 W (by decide)
  have HXB : Hid (AllB [X]) := Lib.hid fun s hs => by rw [List.mem_singleton.1 hs, ← hX]; exact Dv.rep_isB _ _ (by decide)
  have HXl := Lib.hid hXl
  clear hX hXl
  go_enter Try.func3, Try.ntmps3
  go_wp2_with fail
  refine (lives_any _).mono ?_
  rintro e w0 ⟨rfl, hg1⟩
  have T0 := Lib.hid hg1
  clear hg1
  dsimp only
  go_wp2_with fail
  refine (put_form (l := []) (E := 0) (B := [1, 0]) (m := 2) (by decide +kernel) rfl HI.out.1 _ _ _ _ (Ss.Seg.nil w0)).mono ?_
  rintro e w1 ⟨x1, k1, rfl, hs1, hT⟩
  have T1 := Lib.hid (Turn.then T0.out hT)
  have S1 := Lib.hid hs1
  clear hT hs1
  dsimp only
  have R1a := Lib.hid (Turn.alloc w1 (.cells #[.string ⟨#[98]⟩, .string ⟨#[97]⟩, .string ⟨#[98]⟩, .string ⟨#[]⟩] 9) nowhere)
  go_wp2_with fail
  refine (dict_form (l := [[98], [97], [98], []]) (E := 0) (B := [2, 4, 3, 0, 1, 97, 1, 98, 2, 38]) (m := 10) (by decide +kernel) rfl HI.out.2.1 _ _ _ _ (Ss.lit_seg w1 [[98], [97], [98], []] (by decide))).mono ?_
  rintro e w2 ⟨x2, k2, rfl, hs2, hT⟩
  have R2 := Lib.hid (Turn.then R1a.out hT)
  have T2 := Lib.hid (Turn.then T1.out R2.out)
  have S1 := Lib.hid (Pk.seg_stay S1.out R2.out)
  have S2 := Lib.hid hs2
  clear hT hs2 R2 R1a
  dsimp only
  go_wp2_with fail
  refine (got_form (bs := [2, 4, 3, 0, 1, 97, 1, 98, 2, 38]) (E := 0) (L := [[98], [97], [98], []]) (m := 4) (by decide +kernel) rfl HB.out.1 (by decide) _ _ _ _ S2.out).mono ?_
  rintro e w3 ⟨x3, k3, rfl, hs3, hT⟩
  have T3 := Lib.hid (Turn.then T2.out hT)
  have S1 := Lib.hid (Pk.seg_stay S1.out hT)
  have S2 := Lib.hid (Pk.seg_stay S2.out hT)
  have S3 := Lib.hid hs3
  clear hT hs3 T2
  dsimp only
  have R3a := Lib.hid (Turn.alloc w3 (.cells #[.int .u8 3, .int .u8 0] 5) nowhere)
  go_wp2_with fail
  refine (got_form (bs := [3, 0]) (E := 4) (L := []) (m := 0) (by decide +kernel) rfl HB.out.2.1 (by decide) _ _ _ _ (Bs.lit_seg w3 [3, 0] (by decide))).mono ?_
  rintro e w4 ⟨x4, k4, rfl, hs4, hT⟩
  have R4 := Lib.hid (Turn.then R3a.out hT)
  have T4 := Lib.hid (Turn.then T3.out R4.out)
  have S1 := Lib.hid (Pk.seg_stay S1.out R4.out)
  have S2 := Lib.hid (Pk.seg_stay S2.out R4.out)
  have S3 := Lib.hid (sseg_stay S3.out R4.out)
  clear hT hs4 R4 R3a T3
  dsimp only
  have R4a := Lib.hid (Turn.alloc w4 (.cells (roomS 4097) 9) nowhere)
  go_wp2_with fail
  refine (put_form (l := List.replicate 4097 []) (E := 3) (B := []) (m := 0) (many_no 4097 (by decide) _) rfl HI.out.2.2.1 _ _ _ _ (seg_madeS 4097 (by decide) w4)).mono ?_
  rintro e w5 ⟨x5, k5, rfl, hs5, hT⟩
  have R5 := Lib.hid (Turn.then R4a.out hT)
  have T5 := Lib.hid (Turn.then T4.out R5.out)
  have S1 := Lib.hid (Pk.seg_stay S1.out R5.out)
  have S2 := Lib.hid (Pk.seg_stay S2.out R5.out)
  have S3 := Lib.hid (sseg_stay S3.out R5.out)
  clear hT hs5 R5 R4a T4 hmk
  dsimp only
  go_wp2_with fail
  refine (HTi.out _).mono ?_
  rintro e w' ⟨rfl, rfl⟩
  dsimp only
  have R5a := Lib.hid (Turn.alloc w5 (.cells #[.string (strOfNums X)] 9) nowhere)
  go_wp2_with fail
  refine (put_form (l := [X]) (E := 3) (B := []) (m := 0) (long_no X HXl.out _) rfl HXB.out _ _ _ _ (Ss.lit_seg w5 [X] (by simp))).mono ?_
  rintro e w6 ⟨x6, k6, rfl, hs6, hT⟩
  have R6 := Lib.hid (Turn.then R5a.out hT)
  have T6 := Lib.hid (Turn.then T5.out R6.out)
  have S1 := Lib.hid (Pk.seg_stay S1.out R6.out)
  have S2 := Lib.hid (Pk.seg_stay S2.out R6.out)
  have S3 := Lib.hid (sseg_stay S3.out R6.out)
  clear hT hs6 R6 R5a T5
  dsimp only
  have R6a := Lib.hid (Turn.alloc w6 (.cells #[.int .u8 2, .int .u8 2, .int .u8 2, .int .u8 1, .int .u8 98, .int .u8 1, .int .u8 97, .int .u8 1, .int .u8 2] 5 (9, 10)) nowhere)
  go_wp2_with fail
  refine (got_form (bs := [2, 2, 2, 1, 98, 1, 97, 1, 2]) (E := 4) (L := []) (m := 0) (by decide +kernel) rfl HB.out.2.2.1 (by decide) _ _ _ _ (Bs.lit_seg_mark w6 [2, 2, 2, 1, 98, 1, 97, 1, 2] (9, 10) (by decide))).mono ?_
  rintro e w7 ⟨x7, k7, rfl, hs7, hT⟩
  have R7 := Lib.hid (Turn.then R6a.out hT)
  have T7 := Lib.hid (Turn.then T6.out R7.out)
  have S1 := Lib.hid (Pk.seg_stay S1.out R7.out)
  have S2 := Lib.hid (Pk.seg_stay S2.out R7.out)
  have S3 := Lib.hid (sseg_stay S3.out R7.out)
  clear hT hs7 R7 R6a T6
  dsimp only
  have R7a := Lib.hid (Turn.alloc w7 (.cells #[.int .u8 2, .int .u8 1, .int .u8 2, .int .u8 1, .int .u8 97, .int .u8 1, .int .u8 98, .int .u8 1, .int .u8 0] 5 (9, 10)) nowhere)
  go_wp2_with fail
  refine (got_form (bs := [2, 1, 2, 1, 97, 1, 98, 1, 0]) (E := 4) (L := []) (m := 0) (by decide +kernel) rfl HB.out.2.2.2 (by decide) _ _ _ _ (Bs.lit_seg_mark w7 [2, 1, 2, 1, 97, 1, 98, 1, 0] (9, 10) (by decide))).mono ?_
  rintro e w8 ⟨x8, k8, rfl, hs8, hT⟩
  have R8 := Lib.hid (Turn.then R7a.out hT)
  have T8 := Lib.hid (Turn.then T7.out R8.out)
  have S1 := Lib.hid (Pk.seg_stay S1.out R8.out)
  have S2 := Lib.hid (Pk.seg_stay S2.out R8.out)
  have S3 := Lib.hid (sseg_stay S3.out R8.out)
  clear hT hs8 R8 R7a T7
  dsimp only
  have R8a := Lib.hid (Turn.alloc w8 (.cells #[.string ⟨#[120, 121]⟩, .string ⟨#[]⟩] 9) nowhere)
  go_wp2_with fail
  refine (plain_form (l := [[120, 121], []]) (E := 0) (B := [1, 2, 2, 120, 121, 0]) (m := 6) (by decide +kernel) rfl HI.out.2.2.2 _ _ _ _ (Ss.lit_seg w8 [[120, 121], []] (by decide))).mono ?_
  rintro e w9 ⟨x9, k9, rfl, hs9, hT⟩
  have R9 := Lib.hid (Turn.then R8a.out hT)
  have T9 := Lib.hid (Turn.then T8.out R9.out)
  have S1 := Lib.hid (Pk.seg_stay S1.out R9.out)
  have S2 := Lib.hid (Pk.seg_stay S2.out R9.out)
  have S3 := Lib.hid (sseg_stay S3.out R9.out)
  have S9 := Lib.hid hs9
  clear hT hs9 R9 R8a T8
  dsimp only
  have hc1 : (convert 23 9 (.slice x1 2 k1)).run Try.prog w9 = .ok (.string ⟨#[1, 0]⟩) w9 := conv_any S1.out (by decide)
  have hc2 : (convert 23 9 (.slice x2 10 k2)).run Try.prog w9 = .ok (.string ⟨#[2, 4, 3, 0, 1, 97, 1, 98, 2, 38]⟩) w9 := conv_any S2.out (by decide)
  have RA := Lib.hid (Turn.alloc w9 (.cells #[.string ⟨#[98]⟩, .string ⟨#[97]⟩, .string ⟨#[98]⟩, .string ⟨#[]⟩] 9) nowhere)
  have HSa := Lib.hid (ssame_form x3 (some ⟨w9.heap.size, 0, none⟩) 4 4 k3 4 [[98], [97], [98], []] [[98], [97], [98], []] (w9.alloc (.cells #[.string ⟨#[98]⟩, .string ⟨#[97]⟩, .string ⟨#[98]⟩, .string ⟨#[]⟩] 9)) (sseg_stay S3.out RA.out) (Ss.lit_seg w9 [[98], [97], [98], []] (by decide)) HS4.out.1 HS4.out.1 true (by decide))
  go_wp2_with fail
  refine HSa.out.mono ?_
  rintro e wB ⟨rfl, hT⟩
  have RB := Lib.hid (Turn.then RA.out hT)
  have TB := Lib.hid (Turn.then T9.out RB.out)
  have S9 := Lib.hid (Pk.seg_stay S9.out RB.out)
  clear hT RB RA HSa T9 hc1 hc2
  dsimp only
  have hc3 : (convert 23 9 (.slice x9 6 k9)).run Try.prog wB = .ok (.string ⟨#[1, 2, 2, 120, 121, 0]⟩) wB := conv_any S9.out (by decide)
  have RC := Lib.hid (Turn.alloc wB (.cells #[.string ⟨#[98]⟩, .string ⟨#[97]⟩, .string ⟨#[98]⟩] 9) nowhere)
  have HWd := Lib.hid (words_form (l := [[98], [97], [98]]) (L := [[97], [98]]) (m := 2) (by decide +kernel) rfl HS4.out.2.1 (by decide) _ _ _ _ (Ss.lit_seg wB [[98], [97], [98]] (by decide)))
  go_wp2_with fail
  refine HWd.out.mono ?_
  rintro e wC ⟨xC, kC, rfl, hsC, hT⟩
  have TC := Lib.hid (Turn.then (Turn.then TB.out RC.out) hT)
  have SC := Lib.hid hsC
  clear hT hsC RC HWd TB hc3
  dsimp only
  have RD := Lib.hid (Turn.alloc wC (.cells #[.string ⟨#[97]⟩, .string ⟨#[98]⟩] 9) nowhere)
  have HSd := Lib.hid (ssame_form xC (some ⟨wC.heap.size, 0, none⟩) 2 2 kC 2 [[97], [98]] [[97], [98]] (wC.alloc (.cells #[.string ⟨#[97]⟩, .string ⟨#[98]⟩] 9)) (sseg_stay SC.out RD.out) (Ss.lit_seg wC [[97], [98]] (by decide)) HS4.out.2.2.1 HS4.out.2.2.1 true (by decide))
  go_wp2_with fail
  refine HSd.out.mono ?_
  rintro e wD ⟨rfl, hT⟩
  have TD := Lib.hid (Turn.then (Turn.then TC.out RD.out) hT)
  clear hT RD HSd TC
  dsimp only
  have HWe := Lib.hid (words_form (l := []) (L := []) (m := 0) (by decide +kernel) rfl HS4.out.2.2.2 (by decide) _ _ _ _ (Ss.Seg.nil wD))
  go_wp2_with fail
  refine HWe.out.mono ?_
  rintro e wE ⟨xE, kE, rfl, hsE, hT⟩
  have TE := Lib.hid (Turn.then TD.out hT)
  clear hT hsE HWe TD
  dsimp only
  go_wp2
  go_ret
  exact ⟨rfl, below_of TE.out⟩
end Go.Proofs.Ytgbpmpeknbaccaa.Tx
