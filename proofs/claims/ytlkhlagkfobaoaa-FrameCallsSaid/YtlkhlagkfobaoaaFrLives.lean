/-
  What the statements of layer 4 begin with: 'lives'.
-/
import Derived.Test.YtlkhlagkfobaoaaFrEq
namespace Go.Proofs.Ytlkhlagkfobaoaa.Fr
open Go.RowKit Bs Dv
open Oct (putB)

def b128 : List Int := blk 128 3 1 [97, 98]
theorem b128_len : b128.length = 128 := blk_length 128 3 1 [97, 98] (by decide)
theorem b128_isB : Bs.IsB b128 := blk_isB 128 3 1 [97, 98] (by decide) (isB_of _ (by decide))
theorem b128_get : getF b128 = ((3, 1, [97, 98]), 0) := get_blk 128 (3, 1, [97, 98]) (by decide) ⟨by decide, by decide, isB_of _ (by decide)⟩ (by decide)
theorem b128_take : (strOfNums b128).extract 0 14 = ⟨#[3, 0, 2, 0, 1, 0, 0, 0, 0, 0, 0, 0, 97, 98]⟩ := by
  rw [str_extract]
  have e : (b128.drop 0).take 14 = [3, 0, 2, 0, 1, 0, 0, 0, 0, 0, 0, 0, 97, 98] := by
    unfold b128
    rw [blk_parts]
    rfl
  rw [show 14 - 0 = 14 from rfl, e]
  rfl

set_option maxRecDepth 100000 in
set_option maxHeartbeats 1000000 in
theorem lives_any (w : World) :
    Calls Try.prog 8 #[] w fun e w' => e = .returned (.bool true) ∧ w.grownBy w' none := by
  have q0 := Lib.hid (heap_alloc_new w (.cells #[.int .u8 3, .int .u64 1, .string ⟨#[97, 98]⟩] 28))
  have t0 := Lib.hid (World.grownBy_alloc w (.cells #[.int .u8 3, .int .u64 1, .string ⟨#[97, 98]⟩] 28) none)
  obtain ⟨S, hS⟩ : ∃ S, S = strOfNums b128 := ⟨_, rfl⟩
  have hsz : S.size = 128 := by rw [hS, strOfNums_size, b128_len]
  have hex : S.extract 0 14 = ⟨#[3, 0, 2, 0, 1, 0, 0, 0, 0, 0, 0, 0, 97, 98]⟩ := by rw [hS]; exact b128_take
  have HP := Lib.hid (fun W => (put_yes 128 3 1 [97, 98] W (by decide) (by decide) (isB_of _ (by decide)) (by decide) (by decide)).mono fun e w' (h : _ ∧ _) => (show e = .returned (.tuple #[.string S, .int .i64 0]) ∧ W.grownBy w' none from ⟨by rw [h.1, hS]; rfl, h.2⟩))
  have HG := Lib.hid (fun W => (get_any b128 W b128_isB (by rw [b128_len]; decide)).mono fun e w' (h : _ ∧ _) => (show e = .returned (.tuple #[.agg #[.int .u8 3, .int .u64 1, .string ⟨#[97, 98]⟩], .int .i64 0]) ∧ W.grownBy w' none from ⟨by rw [h.1, b128_get]; rfl, h.2⟩))
  rw [← hS] at HG
  clear hS
  have heq := fun W => eql_fm 3 1 ⟨#[97, 98]⟩ 3 1 ⟨#[97, 98]⟩ W
  simp only [fB_same] at heq
  have HEQ := Lib.hid heq
  clear heq
  go_enter Try.func8, Try.ntmps8
  go_wp2_with fail
  refine (HP.out _).mono ?_
  rintro e w1 ⟨rfl, hg1⟩
  have q1 := Lib.hid (block_turn q0.out (Turn.of_grown hg1 (S := nowhere) (fun i e => by cases e)) id)
  have t1 := Lib.hid (grownBy_trans t0.out hg1 (fun _ e => by cases e))
  clear hg1
  dsimp only
  go_wp2_with fail
  refine (HG.out _).mono ?_
  rintro e w2 ⟨rfl, hg2⟩
  have q2 := Lib.hid (block_turn q1.out (Turn.of_grown hg2 (S := nowhere) (fun i e => by cases e)) id)
  have t2 := Lib.hid (grownBy_trans t1.out hg2 (fun _ e => by cases e))
  clear hg2
  obtain ⟨a0, a1, a2⟩ := fm_cells q2.out
  have X := block_lt q2.out
  have heq := HEQ.out
  dsimp only
  have T3 := Lib.hid (grownBy_trans t2.out (World.grownBy_alloc w2 (.cells #[.int .u8 3, .int .u64 1, .string ⟨#[97, 98]⟩] 28) none) (fun _ e => by cases e))
  go_wp2
  go_ret
  exact ⟨rfl, T3.out⟩
end Go.Proofs.Ytlkhlagkfobaoaa.Fr
