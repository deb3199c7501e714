/-
  IntsNames: the chapter's examples.
-/
import Derived.Test.YteolpjlpjjjchaaInLaw
import Derived.Lib.SlBytesConst
namespace Go.Proofs.Yteolpjlpjjjchaa.In
open Go.RowKit Go.Joins
open Is (IsI)
open Pk (PutF Turn.then below_of)
open Dv (Turn nowhere)

theorem seg_made (C : Nat) (hC : C ≤ 65536) (w : World) : Is.Seg (w.alloc (.cells (roomI C) 2)) (some ⟨w.heap.size, 0, none⟩) C C (List.replicate C 0) := by
  have h : (w.alloc (.cells (roomI C) 2)).ownsRow w.heap.size 2 1 (.slice (some ⟨w.heap.size, 0, none⟩) C C) C ((List.replicate C (0 : Int)).map (Value.int .i64)) := by
    have hh : (w.alloc (.cells (roomI C) 2)).heap[w.heap.size]? = some (.cells (roomI C) 2 (0, 0)) := heap_alloc_new w _
    have e : roomI C = (fillV C C 0).toArray := by
      have h1 := roomI_list C
      have h2 : fillV 0 C 0 = fillV C C 0 := by simp [fillV]
      rw [← h2, ← h1]
    rw [e] at hh ⊢
    rw [← fillV_full]
    refine ⟨by rw [fillV_len C C 0 (Nat.le_refl _), Nat.mul_one], .inr ⟨w.heap.size, C, _, rfl, Nat.le_refl _, hh, Nat.le_refl _, by unfold maxLen; omega, by simp [fillV_len C C 0], ?_⟩⟩
    simp only [Nat.mul_one]
    exact List.take_of_length_le (by rw [fillV_len C C 0 (Nat.le_refl _)]; exact Nat.le_refl _)
  exact Is.Seg.own h
theorem put_zeros (C : Nat) (hC : 4096 < C) (b : List Int) : tooMany (List.replicate C 0) b = (3, []) := by
  unfold tooMany; rw [if_pos (by rw [List.length_replicate]; exact hC)]

set_option maxRecDepth 100000 in
set_option maxHeartbeats 4000000 in
theorem names_any (w : World) : Calls Try.prog 3 #[] w fun e w' => e = .returned (.bool true) ∧ Below w.heap.size w w' := by
  have HI : Hid (IsI [] ∧ IsI [1, 1, -1] ∧ IsI (List.replicate 4097 0) ∧ IsI [-9223372036854775808, 9223372036854775807]) := Lib.hid ⟨isI_of _ (by decide), isI_of _ (by decide), fun x hx => by rw [List.eq_of_mem_replicate hx]; decide, isI_of _ (by decide)⟩
  have HB : Hid (Oct.IsB [4, 0] ∧ Oct.IsB [] ∧ Oct.IsB [2, 3, 2, 1, 0, 0, 0, 0, 0, 0, 0, 1, 255, 255, 255, 255, 255, 255, 255, 255] ∧ Oct.IsB [3, 2, 5, 0, 0, 0, 0, 0, 0, 0, 2, 4] ∧ Oct.IsB [2, 2, 1, 5, 0, 0, 0, 0, 0, 0, 0, 1, 5, 0, 0, 0, 0, 0, 0, 0]) := Lib.hid ⟨Bs.isB_of _ (by decide), Bs.isB_of _ (by decide), Bs.isB_of _ (by decide), Bs.isB_of _ (by decide), Bs.isB_of _ (by decide)⟩
  have hcv := fun (w : World) (C : Array Value) (n c : Nat) => Lib.run_convert_bytes_const (P := Try.prog) w 23 5 C n c Try.underlying23 Try.underlying5
  have hmk : ∀ W : World, (Instr.makeSlice 27 (.int .i64 4097) (.int .i64 4097)).run Try.prog W = .ok (.slice (some ⟨W.heap.size, 0, none⟩) 4097 4097) (W.alloc (.cells (roomI 4097) 2)) := make_fullI 4097 (by decide)
  go_enter Try.func3, Try.ntmps3
  go_wp2_with fail
  refine (lives_any _).mono ?_
  rintro e w0 ⟨rfl, hg1⟩
  have T0 := Lib.hid hg1
  clear hg1
  dsimp only
  go_wp2_with fail
  refine (put_form (l := []) (E := 0) (B := [1, 0]) (m := 2) (by decide +kernel) rfl HI.out.1 _ _ _ _ (Is.Seg.nil w0)).mono ?_
  rintro e w1 ⟨x1, k1, rfl, hs1, hT⟩
  have T1 := Lib.hid (Turn.then T0.out hT)
  have S1 := Lib.hid hs1
  clear hT hs1
  dsimp only
  have T1a := Lib.hid (Turn.then T1.out (Turn.alloc w1 (.cells #[.int .i64 1, .int .i64 1, .int .i64 (-1)] 2) nowhere))
  have R1a := Lib.hid (Turn.alloc w1 (.cells #[.int .i64 1, .int .i64 1, .int .i64 (-1)] 2) nowhere)
  go_wp2_with fail
  refine (runs_form (l := [1, 1, -1]) (E := 0) (B := [2, 3, 2, 1, 0, 0, 0, 0, 0, 0, 0, 1, 255, 255, 255, 255, 255, 255, 255, 255]) (m := 20) (by decide +kernel) rfl HI.out.2.1 _ _ _ _ (Is.lit_seg w1 [1, 1, -1] (by decide))).mono ?_
  rintro e w2 ⟨x2, k2, rfl, hs2, hT⟩
  have T2 := Lib.hid (Turn.then T1a.out hT)
  have R2 := Lib.hid (Turn.then R1a.out hT)
  have S1 := Lib.hid (Pk.seg_stay S1.out R2.out)
  have S2 := Lib.hid hs2
  clear hT hs2 R2 R1a T1a
  dsimp only
  have R2a := Lib.hid (Turn.alloc w2 (.cells #[.int .u8 4, .int .u8 0] 5) nowhere)
  go_wp2_with fail
  refine (got_form (bs := [4, 0]) (E := 4) (L := []) (m := 0) (by decide +kernel) rfl HB.out.1 (by decide) _ _ _ _ (Bs.lit_seg w2 [4, 0] (by decide))).mono ?_
  rintro e w3 ⟨x3, k3, rfl, hs3, hT⟩
  have R3 := Lib.hid (Turn.then R2a.out hT)
  have T3 := Lib.hid (Turn.then T2.out R3.out)
  have S1 := Lib.hid (Pk.seg_stay S1.out R3.out)
  have S2 := Lib.hid (Pk.seg_stay S2.out R3.out)
  clear hT hs3 R3 R2a T2
  dsimp only
  go_wp2_with fail
  refine (got_form (bs := []) (E := 4) (L := []) (m := 0) (by decide +kernel) rfl HB.out.2.1 (by decide) _ _ _ _ (Bs.Seg.nil w3)).mono ?_
  rintro e w4 ⟨x4, k4, rfl, hs4, hT⟩
  have T4 := Lib.hid (Turn.then T3.out hT)
  have S1 := Lib.hid (Pk.seg_stay S1.out hT)
  have S2 := Lib.hid (Pk.seg_stay S2.out hT)
  clear hT hs4 T3
  dsimp only
  go_wp2_with fail
  refine (got_form (bs := [2, 3, 2, 1, 0, 0, 0, 0, 0, 0, 0, 1, 255, 255, 255, 255, 255, 255, 255, 255]) (E := 0) (L := [1, 1, -1]) (m := 3) (by decide +kernel) rfl HB.out.2.2.1 (by decide) _ _ _ _ S2.out).mono ?_
  rintro e w5 ⟨x5, k5, rfl, hs5, hT⟩
  have T5 := Lib.hid (Turn.then T4.out hT)
  have S1 := Lib.hid (Pk.seg_stay S1.out hT)
  have S2 := Lib.hid (Pk.seg_stay S2.out hT)
  have S5 := Lib.hid hs5
  clear hT hs5 T4
  dsimp only
  have R5a := Lib.hid (Turn.alloc w5 (.cells (roomI 4097) 2) nowhere)
  go_wp2_with fail
  refine (put_form (l := List.replicate 4097 0) (E := 3) (B := []) (m := 0) (put_zeros 4097 (by decide) _) rfl HI.out.2.2.1 _ _ _ _ (seg_made 4097 (by decide) w5)).mono ?_
  rintro e w6 ⟨x6, k6, rfl, hs6, hT⟩
  have R6 := Lib.hid (Turn.then R5a.out hT)
  have T6 := Lib.hid (Turn.then T5.out R6.out)
  have S1 := Lib.hid (Pk.seg_stay S1.out R6.out)
  have S2 := Lib.hid (Pk.seg_stay S2.out R6.out)
  have S5 := Lib.hid (iseg_stay S5.out R6.out)
  clear hT hs6 R6 R5a T5
  dsimp only
  go_wp2_with fail
  refine (count_form (bs := [2, 3, 2, 1, 0, 0, 0, 0, 0, 0, 0, 1, 255, 255, 255, 255, 255, 255, 255, 255]) (E := 0) (L := [1, 1, -1]) (m := 3) (by decide +kernel) rfl HB.out.2.2.1 (by decide) _ _ _ _ S2.out).mono ?_
  rintro e w7 ⟨rfl, hT⟩
  have T7 := Lib.hid (Turn.then T6.out hT)
  have S1 := Lib.hid (Pk.seg_stay S1.out hT)
  have S2 := Lib.hid (Pk.seg_stay S2.out hT)
  have S5 := Lib.hid (iseg_stay S5.out hT)
  clear hT T6
  dsimp only
  have R7a := Lib.hid (Turn.alloc w7 (.cells #[.int .u8 3, .int .u8 2, .int .u8 5, .int .u8 0, .int .u8 0, .int .u8 0, .int .u8 0, .int .u8 0, .int .u8 0, .int .u8 0, .int .u8 2, .int .u8 4] 5 (12, 13)) nowhere)
  go_wp2_with fail
  refine (got_form (bs := [3, 2, 5, 0, 0, 0, 0, 0, 0, 0, 2, 4]) (E := 4) (L := []) (m := 0) (by decide +kernel) rfl HB.out.2.2.2.1 (by decide) _ _ _ _ (Bs.lit_seg_mark w7 [3, 2, 5, 0, 0, 0, 0, 0, 0, 0, 2, 4] (12, 13) (by decide))).mono ?_
  rintro e w8 ⟨x8, k8, rfl, hs8, hT⟩
  have R8 := Lib.hid (Turn.then R7a.out hT)
  have T8 := Lib.hid (Turn.then T7.out R8.out)
  have S1 := Lib.hid (Pk.seg_stay S1.out R8.out)
  have S2 := Lib.hid (Pk.seg_stay S2.out R8.out)
  have S5 := Lib.hid (iseg_stay S5.out R8.out)
  clear hT hs8 R8 R7a T7
  dsimp only
  have R8a := Lib.hid (Turn.alloc w8 (.cells #[.int .u8 2, .int .u8 2, .int .u8 1, .int .u8 5, .int .u8 0, .int .u8 0, .int .u8 0, .int .u8 0, .int .u8 0, .int .u8 0, .int .u8 0, .int .u8 1, .int .u8 5, .int .u8 0, .int .u8 0, .int .u8 0, .int .u8 0, .int .u8 0, .int .u8 0, .int .u8 0] 5 (20, 21)) nowhere)
  go_wp2_with fail
  refine (got_form (bs := [2, 2, 1, 5, 0, 0, 0, 0, 0, 0, 0, 1, 5, 0, 0, 0, 0, 0, 0, 0]) (E := 4) (L := []) (m := 0) (by decide +kernel) rfl HB.out.2.2.2.2 (by decide) _ _ _ _ (Bs.lit_seg_mark w8 [2, 2, 1, 5, 0, 0, 0, 0, 0, 0, 0, 1, 5, 0, 0, 0, 0, 0, 0, 0] (20, 21) (by decide))).mono ?_
  rintro e w9 ⟨x9, k9, rfl, hs9, hT⟩
  have R9 := Lib.hid (Turn.then R8a.out hT)
  have T9 := Lib.hid (Turn.then T8.out R9.out)
  have S1 := Lib.hid (Pk.seg_stay S1.out R9.out)
  have S2 := Lib.hid (Pk.seg_stay S2.out R9.out)
  have S5 := Lib.hid (iseg_stay S5.out R9.out)
  clear hT hs9 R9 R8a T8
  dsimp only
  have R9a := Lib.hid (Turn.alloc w9 (.cells #[.int .i64 (-9223372036854775808), .int .i64 9223372036854775807] 2) nowhere)
  go_wp2_with fail
  refine (put_form (l := [-9223372036854775808, 9223372036854775807]) (E := 0) (B := bestB [-9223372036854775808, 9223372036854775807]) (m := 18) rfl (by decide +kernel) HI.out.2.2.2 _ _ _ _ (Is.lit_seg w9 [-9223372036854775808, 9223372036854775807] (by decide))).mono ?_
  rintro e wA ⟨xA, kA, rfl, hsA, hT⟩
  have RA := Lib.hid (Turn.then R9a.out hT)
  have TA := Lib.hid (Turn.then T9.out RA.out)
  have SA := Lib.hid hsA
  obtain ⟨gA, oA, rfl, hcA⟩ := hsA.addr (by decide)
  have cA := hcA 0 (by decide)
  rw [show (bestB [-9223372036854775808, 9223372036854775807]).getD 0 0 = 1 from by decide +kernel, Nat.add_zero] at cA
  have hc1 : (convert 23 9 (.slice x1 2 k1)).run Try.prog wA = .ok (.string ⟨#[1, 0]⟩) wA := conv_seg (Pk.seg_stay S1.out RA.out) (by decide)
  have hc2 : (convert 23 9 (.slice x2 20 k2)).run Try.prog wA = .ok (.string ⟨#[2, 3, 2, 1, 0, 0, 0, 0, 0, 0, 0, 1, 255, 255, 255, 255, 255, 255, 255, 255]⟩) wA := conv_seg (Pk.seg_stay S2.out RA.out) (by decide)
  have HS := Lib.hid (isame_form x5 (some ⟨wA.heap.size, 0, none⟩) 3 3 k5 3 [1, 1, -1] [1, 1, -1] (wA.alloc (.cells #[.int .i64 1, .int .i64 1, .int .i64 (-1)] 2)) (iseg_stay (iseg_stay S5.out RA.out) (Turn.alloc wA _ nowhere)) (Is.lit_seg wA [1, 1, -1] (by decide)) true (by decide))
  have RB := Lib.hid (Turn.alloc wA (.cells #[.int .i64 1, .int .i64 1, .int .i64 (-1)] 2) nowhere)
  have CA := Lib.hid cA
  clear hT hsA hcA R9a T9 cA
  dsimp only
  go_wp2_with fail
  refine HS.out.mono ?_
  rintro e wB ⟨rfl, hT⟩
  have cB : wB.cell? ⟨gA, oA, none⟩ = some (.int .u8 1) := hT.cell (RB.out.cell CA.out id) id
  have TB := Lib.hid (Turn.then (Turn.then TA.out RB.out) hT)
  clear hT
  dsimp only
  go_wp2
  go_ret
  exact ⟨rfl, below_of TB.out⟩
end Go.Proofs.Yteolpjlpjjjchaa.In
