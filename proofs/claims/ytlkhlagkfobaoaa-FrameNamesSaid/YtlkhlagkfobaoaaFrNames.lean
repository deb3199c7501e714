/-
  FrameNames: the chapter's example.
-/
import Derived.Test.YtlkhlagkfobaoaaFrLives
import Derived.Test.YtlkhlagkfobaoaaTimes
namespace Go.Proofs.Ytlkhlagkfobaoaa.Fr
open Go.RowKit Bs Dv
open Oct (putB)

theorem d112_ok (n : Nat) : Bs.IsB (rep n 97) := rep_isB n 97 (by decide)
def b7 : List Int := blk 128 7 0 (rep 112 97)
theorem b7_ok : FmOk (7, 0, rep 112 97) := ⟨by decide, by decide, d112_ok 112⟩
theorem b7_len : b7.length = 128 := blk_length 128 7 0 (rep 112 97) (by rw [rep_len]; decide)
theorem b7_isB : Bs.IsB b7 := blk_isB 128 7 0 (rep 112 97) (by decide) (d112_ok 112)
theorem b7_get : getF b7 = ((7, 0, rep 112 97), 0) := get_blk 128 (7, 0, rep 112 97) (by decide) b7_ok (by rw [rep_len]; decide)
theorem b7_flip : Crc.flip b7 0 3 6 = 1 :: b7.drop 1 := by
  unfold b7
  rw [blk_parts]
  generalize putB 2 ((rep 112 97).length : Int) ++ (putB 8 0 ++ (rep 112 97 ++ (List.replicate (128 - 16 - (rep 112 97).length) 0 ++ putB 4 (Crc.crc (body 128 7 0 (rep 112 97)) : Int)))) = X
  rfl
theorem b7_head : b7.getD 0 0 = 7 := by
  unfold b7
  rw [blk_parts]
  rfl
theorem b7_rot : getF (1 :: b7.drop 1) = (none3, 10) := by
  have h := rot 128 (7, 0, rep 112 97) 0 3 6 (by decide) b7_ok (by rw [rep_len]; decide) (by decide)
  have e : Crc.flip (blk 128 7 0 (rep 112 97)) 0 3 6 = 1 :: b7.drop 1 := b7_flip
  rw [e, if_neg] at h
  · exact h
  · intro h2
    have h3 := congrArg (fun l => l.getD 0 0) h2
    have h4 := b7_head
    unfold b7 at h4
    simp only [h4] at h3
    revert h3
    simp
theorem zero_get : getF (rep 128 0) = (none3, 10) := by
  have hB : Bs.IsB (rep 128 0) := rep_isB 128 0 (by decide)
  unfold getF
  rw [rep_len, if_neg (by decide), if_pos]
  unfold Good
  rw [rep_len]
  decide +kernel
theorem a_get : getF [97] = (none3, 2) := by
  unfold getF
  rw [if_pos (by decide)]

set_option maxRecDepth 100000 in
set_option maxHeartbeats 2000000 in
theorem names_any (w : World) :
    Calls Try.prog 3 #[] w fun e w' => e = .returned (.bool true) ∧ Below w.heap.size w w' := by
  obtain ⟨D3, hD3⟩ : ∃ D, D = strOfNums (rep 113 97) := ⟨_, rfl⟩
  obtain ⟨D2, hD2⟩ : ∃ D, D = strOfNums (rep 112 97) := ⟨_, rfl⟩
  obtain ⟨Z, hZ⟩ : ∃ Z, Z = strOfNums (rep 128 0) := ⟨_, rfl⟩
  obtain ⟨S, hS⟩ : ∃ S, S = strOfNums b7 := ⟨_, rfl⟩
  obtain ⟨S1, hS1⟩ : ∃ S1, S1 = strOfNums (1 :: b7.drop 1) := ⟨_, rfl⟩
  have hs2 : D2.size = 112 := by rw [hD2, strOfNums_size, rep_len]
  have hsz : S.size = 128 := by rw [hS, strOfNums_size, b7_len]
  have hcat : (⟨#[1]⟩ : ByteArray) ++ S.extract 1 128 = S1 := by
    rw [hS, hS1, str_extract, show (⟨#[1]⟩ : ByteArray) = strOfNums [1] from rfl, str_append, List.take_of_length_le (by rw [List.length_drop, b7_len]; decide)]
    rfl
  have HT3 := Lib.hid (fun W => (times_any 97 113 W (by decide)).mono fun e w' (h : _ ∧ _) => (show e = .returned (.string D3) ∧ W = w' from ⟨by rw [h.1, hD3]; rfl, h.2⟩))
  have HT2 := Lib.hid (fun W => (times_any 97 112 W (by decide)).mono fun e w' (h : _ ∧ _) => (show e = .returned (.string D2) ∧ W = w' from ⟨by rw [h.1, hD2]; rfl, h.2⟩))
  have HT0 := Lib.hid (fun W => (times_any 0 128 W (by decide)).mono fun e w' (h : _ ∧ _) => (show e = .returned (.string Z) ∧ W = w' from ⟨by rw [h.1, hZ]; rfl, h.2⟩))
  have HP1 := Lib.hid (fun W => (put_no 100 0 0 [] W (.inl (by decide))).mono fun e w' (h : _ ∧ _) => (show e = .returned (.tuple #[.string ⟨#[]⟩, .int .i64 2]) ∧ W.grownBy w' none from ⟨by rw [h.1]; rfl, h.2⟩))
  have HP2 := Lib.hid (fun W => (put_no 128 0 0 (rep 113 97) W (.inr ⟨by decide, by rw [rep_len]; decide⟩)).mono fun e w' (h : _ ∧ _) => (show e = .returned (.tuple #[.string ⟨#[]⟩, .int .i64 3]) ∧ W.grownBy w' none from ⟨by rw [h.1]; unfold putF; rw [if_neg (by decide), if_pos (by rw [rep_len]; decide)]; rfl, h.2⟩))
  have HP3 := Lib.hid (fun W => (put_yes 128 7 0 (rep 112 97) W (by decide) (by decide) (d112_ok 112) (by decide) (by rw [rep_len]; decide)).mono fun e w' (h : _ ∧ _) => (show e = .returned (.tuple #[.string S, .int .i64 0]) ∧ W.grownBy w' none from ⟨by rw [h.1, hS]; rfl, h.2⟩))
  have HG1 := Lib.hid (fun W => (get_any [97] W (isB_of _ (by decide)) (by decide)).mono fun e w' (h : _ ∧ _) => (show e = .returned (.tuple #[.agg #[.int .u8 0, .int .u64 0, .string ⟨#[]⟩], .int .i64 2]) ∧ W.grownBy w' none from ⟨by rw [h.1, a_get]; rfl, h.2⟩))
  have HG2 := Lib.hid (fun W => (get_any (rep 128 0) W (rep_isB 128 0 (by decide)) (by rw [rep_len]; decide)).mono fun e w' (h : _ ∧ _) => (show e = .returned (.tuple #[.agg #[.int .u8 0, .int .u64 0, .string ⟨#[]⟩], .int .i64 10]) ∧ W.grownBy w' none from ⟨by rw [h.1, zero_get]; rfl, h.2⟩))
  have HK6 := Lib.hid (fun W => (kind_any b7 6 W b7_isB (by rw [b7_len]; decide)).mono fun e w' (h : _ ∧ _) => (show e = .returned (.tuple #[.agg #[.int .u8 0, .int .u64 0, .string ⟨#[]⟩], .int .i64 11]) ∧ W.grownBy w' none from ⟨by rw [h.1]; unfold kindF; rw [b7_get]; rfl, h.2⟩))
  have HK7 := Lib.hid (fun W => (kind_any b7 7 W b7_isB (by rw [b7_len]; decide)).mono fun e w' (h : _ ∧ _) => (show e = .returned (.tuple #[.agg #[.int .u8 7, .int .u64 0, .string D2], .int .i64 0]) ∧ W.grownBy w' none from ⟨by rw [h.1, hD2]; unfold kindF; rw [b7_get]; rfl, h.2⟩))
  have HG3 := Lib.hid (fun W => (get_any (1 :: b7.drop 1) W (fun x hx => by rcases List.mem_cons.1 hx with rfl | h; decide; exact b7_isB x (List.mem_of_mem_drop h)) (by rw [List.length_cons, List.length_drop, b7_len]; decide)).mono fun e w' (h : _ ∧ _) => (show e = .returned (.tuple #[.agg #[.int .u8 0, .int .u64 0, .string ⟨#[]⟩], .int .i64 10]) ∧ W.grownBy w' none from ⟨by rw [h.1, b7_rot]; rfl, h.2⟩))
  rw [← hZ] at HG2
  rw [← hS] at HK6 HK7
  rw [← hS1] at HG3
  rw [← hD3] at HP2
  rw [← hD2] at HP3
  clear hZ hS hS1 hD3 hD2
  go_enter Try.func3, Try.ntmps3
  go_wp2_with fail
  refine (lives_any _).mono ?_
  rintro e w1 ⟨rfl, hg⟩
  have T1 := Lib.hid hg
  clear hg
  dsimp only
  go_wp2_with fail
  refine (HP1.out _).mono ?_
  rintro e w2 ⟨rfl, hg⟩
  have T2 := Lib.hid (grownBy_trans T1.out hg (fun _ e => by cases e))
  clear hg T1
  dsimp only
  go_wp2_with fail
  refine (HT3.out _).mono ?_
  rintro e w' ⟨rfl, rfl⟩
  dsimp only
  go_wp2_with fail
  refine (HP2.out _).mono ?_
  rintro e w3 ⟨rfl, hg⟩
  have T3 := Lib.hid (grownBy_trans T2.out hg (fun _ e => by cases e))
  clear hg T2
  dsimp only
  go_wp2_with fail
  refine (HT2.out _).mono ?_
  rintro e w' ⟨rfl, rfl⟩
  dsimp only
  go_wp2_with fail
  refine (HP3.out _).mono ?_
  rintro e w4 ⟨rfl, hg⟩
  have T4 := Lib.hid (grownBy_trans T3.out hg (fun _ e => by cases e))
  clear hg T3
  dsimp only
  go_wp2_with fail
  refine (HG1.out _).mono ?_
  rintro e w5 ⟨rfl, hg⟩
  have T5 := Lib.hid (grownBy_trans (grownBy_trans T4.out hg (fun _ e => by cases e)) (World.grownBy_alloc w5 (.cells #[.int .u8 0, .int .u64 0, .string ⟨#[]⟩] 28) none) (fun _ e => by cases e))
  clear hg T4
  dsimp only
  go_wp2_with fail
  refine (HT0.out _).mono ?_
  rintro e w' ⟨rfl, rfl⟩
  dsimp only
  go_wp2_with fail
  refine (HG2.out _).mono ?_
  rintro e w6 ⟨rfl, hg⟩
  have T6 := Lib.hid (grownBy_trans (grownBy_trans T5.out hg (fun _ e => by cases e)) (World.grownBy_alloc w6 (.cells #[.int .u8 0, .int .u64 0, .string ⟨#[]⟩] 28) none) (fun _ e => by cases e))
  clear hg T5
  dsimp only
  go_wp2_with fail
  refine (HK6.out _).mono ?_
  rintro e w7 ⟨rfl, hg⟩
  have T7 := Lib.hid (grownBy_trans (grownBy_trans T6.out hg (fun _ e => by cases e)) (World.grownBy_alloc w7 (.cells #[.int .u8 0, .int .u64 0, .string ⟨#[]⟩] 28) none) (fun _ e => by cases e))
  clear hg T6
  dsimp only
  go_wp2_with fail
  refine (HK7.out _).mono ?_
  rintro e w8 ⟨rfl, hg⟩
  have T8 := Lib.hid (grownBy_trans (grownBy_trans T7.out hg (fun _ e => by cases e)) (World.grownBy_alloc w8 (.cells #[.int .u8 7, .int .u64 0, .string D2] 28) none) (fun _ e => by cases e))
  have Q8 := Lib.hid (heap_alloc_new w8 (.cells #[.int .u8 7, .int .u64 0, .string D2] 28))
  clear hg T7
  have R1 := Lib.hid (fun W => (room_any 128 W).mono fun e w' (h : _ ∧ _) => (show e = .returned (.int .i64 112) ∧ W.grownBy w' none from ⟨by rw [h.1]; rfl, h.2⟩))
  have R2 := Lib.hid (fun W => (room_any 4096 W).mono fun e w' (h : _ ∧ _) => (show e = .returned (.int .i64 4080) ∧ W.grownBy w' none from ⟨by rw [h.1]; rfl, h.2⟩))
  have R3 := Lib.hid (fun W => (room_any 0 W).mono fun e w' (h : _ ∧ _) => (show e = .returned (.int .i64 0) ∧ W.grownBy w' none from ⟨by rw [h.1]; rfl, h.2⟩))
  have R4 := Lib.hid (fun W => (room_any 129 W).mono fun e w' (h : _ ∧ _) => (show e = .returned (.int .i64 0) ∧ W.grownBy w' none from ⟨by rw [h.1]; rfl, h.2⟩))
  dsimp only
  go_wp2_with fail
  refine (HG3.out _).mono ?_
  rintro e w9 ⟨rfl, hg⟩
  have T9 := Lib.hid (grownBy_trans (grownBy_trans T8.out hg (fun _ e => by cases e)) (World.grownBy_alloc w9 (.cells #[.int .u8 0, .int .u64 0, .string ⟨#[]⟩] 28) none) (fun _ e => by cases e))
  have q9 := block_turn Q8.out (Turn.of_grown hg (S := nowhere) (fun i e => by cases e)) id
  have X9 := block_lt q9
  obtain ⟨k0, k1, k2⟩ := fm_cells q9
  clear hg T8
  dsimp only
  go_wp2_with fail
  refine (R1.out _).mono ?_
  rintro e wa ⟨rfl, hg⟩
  have Ta := Lib.hid (grownBy_trans T9.out hg (fun _ e => by cases e))
  clear hg T9 k0 k1 k2 X9 q9
  dsimp only
  go_wp2_with fail
  refine (R2.out _).mono ?_
  rintro e wb ⟨rfl, hg⟩
  have Tb := Lib.hid (grownBy_trans Ta.out hg (fun _ e => by cases e))
  clear hg Ta
  dsimp only
  go_wp2_with fail
  refine (R3.out _).mono ?_
  rintro e wc ⟨rfl, hg⟩
  have Tc := Lib.hid (grownBy_trans Tb.out hg (fun _ e => by cases e))
  clear hg Tb
  dsimp only
  go_wp2_with fail
  refine (R4.out _).mono ?_
  rintro e wd ⟨rfl, hg⟩
  have Td := Lib.hid (grownBy_trans Tc.out hg (fun _ e => by cases e))
  clear hg Tc
  dsimp only
  go_wp2
  go_ret
  exact ⟨rfl, ⟨Td.out.os, Td.out.tape, Td.out.output, Td.out.size, fun k hk => Td.out.block k hk (by simp)⟩⟩
end Go.Proofs.Ytlkhlagkfobaoaa.Fr
