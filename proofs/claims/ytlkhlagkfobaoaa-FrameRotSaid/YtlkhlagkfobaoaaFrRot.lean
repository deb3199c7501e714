/-
  FrameRot: bits turned within 32 side by side are told.
-/
import Derived.Test.YtlkhlagkfobaoaaFrAny
import Derived.Test.YtlkhlagkfobaoaaRFlip
namespace Go.Proofs.Ytlkhlagkfobaoaa.Fr
open Go.RowKit Bs Dv
open Oct (putB)

set_option maxRecDepth 100000 in
set_option maxHeartbeats 2000000 in
theorem rot_any (n : Int) (f : Fm) (bit m : Int) (mask : Nat) (w : World) (hf : FmOk f) (hm : f.2.2.length ≤ maxLen) :
    Calls Try.prog 6 #[.int .i64 n, .agg #[.int .u8 f.1, .int .u64 f.2.1, .string (strOfNums f.2.2)], .int .i64 bit, .int .i64 m, .int .u32 mask] w fun e w' => e = .returned (.bool true) ∧ Below w.heap.size w w' := by
  obtain ⟨t, g, d⟩ := f
  unfold maxLen at hm
  have HF := Lib.hid hf
  obtain ⟨D, hD⟩ : ∃ D, D = strOfNums d := ⟨_, rfl⟩
  have hdz : D.size = d.length := by rw [hD, strOfNums_size]
  have HD := Lib.hid hD
  simp only at hm
  simp only [← hD]
  clear hD hf
  have q0 := Lib.hid (heap_alloc_new w (.cells #[.int .u8 t, .int .u64 g, .string D] 28))
  have t0 := Lib.hid (World.grownBy_alloc w (.cells #[.int .u8 t, .int .u64 g, .string D] 28) none)
  by_cases hg : 4200 < d.length
  · have h1 : (4200 : Int) < d.length := by omega
    clear hg
    go_enter Try.func6, Try.ntmps6
    go_wp2_with fail
    refine (lives_any _).mono ?_
    rintro e w1 ⟨rfl, hg1⟩
    obtain ⟨c0, c1, c2⟩ := fm_cells (block_turn q0.out (Turn.of_grown hg1 (S := nowhere) (fun i e => by cases e)) id)
    have T1 := Lib.hid (grownBy_trans t0.out hg1 (fun _ e => by cases e))
    clear hg1
    dsimp only
    go_wp2
    go_ret
    exact ⟨rfl, below_of T1.out⟩
  · have g1 : (d.length : Int) ≤ 4200 := by omega
    clear hg
    obtain ⟨⟨s, e1⟩, hp⟩ : ∃ r, r = putF n (t, g, d) := ⟨_, rfl⟩
    obtain ⟨S, hS⟩ : ∃ S, S = strOfNums s := ⟨_, rfl⟩
    have HPF := Lib.hid (fun W => (put_any n (t, g, d) W HF.out).mono fun e w' (h : _ ∧ _) => (show e = .returned (.tuple #[.string S, .int .i64 e1]) ∧ W.grownBy w' none from ⟨by rw [h.1, ← hp, hS]; rfl, h.2⟩))
    simp only [← HD.out] at HPF
    have hgp := get_put n (t, g, d) HF.out
    have hpe := put_err n (t, g, d)
    rw [← hp] at hgp hpe
    simp only at hgp hpe
    go_enter Try.func6, Try.ntmps6
    go_wp2_with fail
    refine (lives_any _).mono ?_
    rintro e w1 ⟨rfl, hg1⟩
    have q1 := block_turn q0.out (Turn.of_grown hg1 (S := nowhere) (fun i e => by cases e)) id
    obtain ⟨c0, c1, c2⟩ := fm_cells q1
    have Q1 := Lib.hid q1
    have T1 := Lib.hid (grownBy_trans t0.out hg1 (fun _ e => by cases e))
    clear hg1 q1
    dsimp only
    go_wp2_with fail
    refine (HPF.out _).mono ?_
    rintro e w2 ⟨rfl, hg2⟩
    have q2 := Lib.hid (block_turn Q1.out (Turn.of_grown hg2 (S := nowhere) (fun i e => by cases e)) id)
    have T2 := Lib.hid (grownBy_trans T1.out hg2 (fun _ e => by cases e))
    clear hg2 c0 c1 c2
    by_cases he : e1 = 0
    · obtain ⟨k1, k2, k3, k4, k5, k6⟩ := hgp he
      subst he
      have kn : s = blk n.toNat t g d := k6
      have hn : ((n.toNat : Nat) : Int) = n := by unfold Fits at k3; omega
      have hroot := fun bi ni (h : bi < 8 * (n.toNat : Int)) => rot n.toNat (t, g, d) bi ni mask (by rw [hn]; exact k3) HF.out (by simp only at k4 ⊢; omega) h
      simp only [← kn] at hroot
      rw [hn] at hroot
      unfold Fits at k3
      have hsl : s.length ≤ 4096 := by omega
      have HSB := Lib.hid k5
      have HS := Lib.hid hS
      clear k1 k5 k6 kn hgp hpe hp HPF hS
      obtain ⟨cap, w3, hrun, hreg, ht3, hc1, hc2⟩ := conv_bytes s HSB.out (by omega) w2
      rw [← HS.out] at hrun
      dsimp only
      go_wp2_with fail
      refine (pick_any bit (8 * n) _ (by omega) (by omega)).mono ?_
      rintro e w' ⟨rfl, rfl⟩
      dsimp only
      go_wp2_with fail
      refine (pick_any m 33 _ (by omega) (by omega)).mono ?_
      rintro e w' ⟨rfl, rfl⟩
      have r1 := pick_range bit (8 * n) (by omega)
      generalize pick bit (8 * n) = bi at r1 ⊢
      generalize pick m 33 = ni at *
      have HR3 := Lib.hid (hreg.seg hc1 hc2)
      dsimp only
      go_wp2_with fail
      refine (Crc.rflip_any _ _ cap s bi ni mask w3 HR3.out HSB.out (by omega) (by omega)).mono ?_
      rintro e w6 ⟨fg, fc, rfl, hown, hgr⟩
      have HROT := Lib.hid (hroot bi ni (by omega))
      have HJB := Lib.hid (Crc.flip_isB s bi ni mask HSB.out)
      have HJL := Lib.hid (show (Crc.flip s bi ni mask).length = s.length from Crc.flip_length ..)
      have t6 := ht3.trans (Turn.of_grown hgr (S := nowhere) (fun i e => by cases e)) (fun _ _ e => e)
      have q6 := Lib.hid (block_turn q2.out t6 id)
      have T6 := Lib.hid ((Turn.of_grown T2.out (S := nowhere) (fun i e => by cases e)).trans t6 (fun _ _ e => e))
      have HRG := Lib.hid (Reg.own hown)
      clear hroot hown hgr t6 hrun hreg ht3 hc1 hc2 HR3 T2 q2
      generalize Crc.flip s bi ni mask = J at *
      obtain ⟨U, hU⟩ : ∃ U, U = strOfNums J := ⟨_, rfl⟩
      have HU := Lib.hid hU
      have HCV : Hid (∀ X', Turn w6 X' nowhere → (convert 37 9 (.slice (some ⟨fg, 0, none⟩) s.length fc)).run Try.prog X' = .ok (.string U) X') := Lib.hid (fun X' h => by rw [HU.out]; exact conv_any fg 0 s.length fc J X' (HRG.out.turn h id) HJL.out)
      clear hU HRG
      by_cases hj : J = s
      · have hus : U = S := by rw [HU.out, HS.out, hj]
        rw [if_pos hj] at HROT
        have eU : (S.toList == S.toList) = true := beq_self_eq_true _
        rw [hus] at HCV HU
        clear hj hus
        have HGE := Lib.hid (fun W => (get_any J W HJB.out (by rw [HJL.out]; omega)).mono fun e w' (h : _ ∧ _) => (show e = .returned (.tuple #[.agg #[.int .u8 t, .int .u64 g, .string D], .int .i64 0]) ∧ W.grownBy w' none from ⟨by rw [h.1, HROT.out]; rw [HD.out]; rfl, h.2⟩))
        have HKI := Lib.hid (fun W => (kind_any J t W HJB.out (by rw [HJL.out]; omega)).mono fun e w' (h : _ ∧ _) => (show e = .returned (.tuple #[.agg #[.int .u8 t, .int .u64 g, .string D], .int .i64 0]) ∧ W.grownBy w' none from ⟨by rw [h.1, kind_get J t _ HROT.out, if_pos rfl]; rw [HD.out]; rfl, h.2⟩))
        rw [← HU.out] at HGE HKI
        have hcv := HCV.out w6 (Turn.refl _ _)
        dsimp only
        go_wp2_with fail
        refine (HGE.out _).mono ?_
        rintro e w7 ⟨rfl, hg⟩
        have t7 := (Turn.of_grown hg (S := nowhere) (fun i e => by cases e)).trans (Turn.alloc w7 (.cells #[.int .u8 t, .int .u64 g, .string D] 28) nowhere) (fun _ _ e => e)
        have T7 := Lib.hid (T6.out.trans t7 (fun _ _ e => e))
        have HCV7 := Lib.hid (fun X' (h : Turn (w7.alloc (.cells #[.int .u8 t, .int .u64 g, .string D] 28)) X' nowhere) => HCV.out X' (t7.trans h (fun _ _ e => e)))
        have hcv7 := HCV7.out _ (Turn.refl _ _)
        have q7 := Lib.hid (block_turn q6.out t7 id)
        obtain ⟨c0, c1, c2⟩ := fm_cells q7.out
        clear hg t7 hcv
        dsimp only
        go_wp2_with fail
        refine (HKI.out _).mono ?_
        rintro e w8 ⟨rfl, hg⟩
        have t8 := (Turn.of_grown hg (S := nowhere) (fun i e => by cases e)).trans (Turn.alloc w8 (.cells #[.int .u8 t, .int .u64 g, .string D] 28) nowhere) (fun _ _ e => e)
        have T8 := Lib.hid (T7.out.trans t8 (fun _ _ e => e))
        have hcv8 := HCV7.out _ t8
        clear hg t8 hcv7 c0 c1 c2
        dsimp only
        go_wp2
        go_ret
        exact ⟨rfl, below_of T8.out.grown⟩
      · have hus : ¬ U = S := fun e => hj (str_inj HJB.out HSB.out (by rw [← HU.out, ← HS.out, e]))
        rw [if_neg hj] at HROT
        have eU : (U.toList == S.toList) = false := toList_ne hus
        clear hj hus
        have HGE := Lib.hid (fun W => (get_any J W HJB.out (by rw [HJL.out]; omega)).mono fun e w' (h : _ ∧ _) => (show e = .returned (.tuple #[.agg #[.int .u8 0, .int .u64 0, .string ⟨#[]⟩], .int .i64 10]) ∧ W.grownBy w' none from ⟨by rw [h.1, HROT.out]; rfl, h.2⟩))
        have HKI := Lib.hid (fun W => (kind_any J t W HJB.out (by rw [HJL.out]; omega)).mono fun e w' (h : _ ∧ _) => (show e = .returned (.tuple #[.agg #[.int .u8 0, .int .u64 0, .string ⟨#[]⟩], .int .i64 10]) ∧ W.grownBy w' none from ⟨by rw [h.1, kind_err J t 10 HROT.out (by decide)]; rfl, h.2⟩))
        rw [← HU.out] at HGE HKI
        have hcv := HCV.out w6 (Turn.refl _ _)
        dsimp only
        go_wp2_with fail
        refine (HGE.out _).mono ?_
        rintro e w7 ⟨rfl, hg⟩
        have t7 := (Turn.of_grown hg (S := nowhere) (fun i e => by cases e)).trans (Turn.alloc w7 (.cells #[.int .u8 0, .int .u64 0, .string ⟨#[]⟩] 28) nowhere) (fun _ _ e => e)
        have T7 := Lib.hid (T6.out.trans t7 (fun _ _ e => e))
        have HCV7 := Lib.hid (fun X' (h : Turn (w7.alloc (.cells #[.int .u8 0, .int .u64 0, .string ⟨#[]⟩] 28)) X' nowhere) => HCV.out X' (t7.trans h (fun _ _ e => e)))
        have hcv7 := HCV7.out _ (Turn.refl _ _)
        have q7 := Lib.hid (block_turn q6.out t7 id)
        obtain ⟨c0, c1, c2⟩ := fm_cells q7.out
        clear hg t7 hcv
        dsimp only
        go_wp2_with fail
        refine (HKI.out _).mono ?_
        rintro e w8 ⟨rfl, hg⟩
        have t8 := (Turn.of_grown hg (S := nowhere) (fun i e => by cases e)).trans (Turn.alloc w8 (.cells #[.int .u8 0, .int .u64 0, .string ⟨#[]⟩] 28) nowhere) (fun _ _ e => e)
        have T8 := Lib.hid (T7.out.trans t8 (fun _ _ e => e))
        have hcv8 := HCV7.out _ t8
        clear hg t8 hcv7 c0 c1 c2
        dsimp only
        go_wp2
        go_ret
        exact ⟨rfl, below_of T8.out.grown⟩
    · have e9 : (e1 != 0) = true := bne_iff_ne.2 he
      have hs0 : S = ⟨#[]⟩ := by rw [hS, hpe he]; rfl
      clear hS hgp hpe hp he HPF
      subst hs0
      dsimp only
      go_wp2
      go_ret
      exact ⟨rfl, below_of T2.out⟩

theorem rot_int (n : Int) (f : Fm) (bit m mask : Int) (w : World) (hf : FmOk f) (hm : f.2.2.length ≤ maxLen) (h0 : 0 ≤ mask) :
    Calls Try.prog 6 #[.int .i64 n, .agg #[.int .u8 f.1, .int .u64 f.2.1, .string (strOfNums f.2.2)], .int .i64 bit, .int .i64 m, .int .u32 mask] w fun e w' => e = .returned (.bool true) ∧ Below w.heap.size w w' := by
  obtain ⟨M, rfl⟩ := Int.eq_ofNat_of_zero_le h0
  exact rot_any n f bit m M w hf hm
end Go.Proofs.Ytlkhlagkfobaoaa.Fr
