/-
  FrameBack: what was put is got; what is got is put the same.
-/
import Derived.Test.YtlkhlagkfobaoaaFrAny
namespace Go.Proofs.Ytlkhlagkfobaoaa.Fr
open Go.RowKit Bs Dv
open Oct (putB)

set_option maxRecDepth 100000 in
set_option maxHeartbeats 2000000 in
theorem back_any (n : Int) (f : Fm) (l : List Int) (w : World) (hf : FmOk f) (hl : Bs.IsB l) (hm : f.2.2.length ≤ maxLen) (hlm : l.length ≤ maxLen) :
    Calls Try.prog 5 #[.int .i64 n, .agg #[.int .u8 f.1, .int .u64 f.2.1, .string (strOfNums f.2.2)], .string (strOfNums l)] w fun e w' => e = .returned (.bool true) ∧ Below w.heap.size w w' := by
  obtain ⟨t, g, d⟩ := f
  unfold maxLen at hm hlm
  have HF := Lib.hid hf
  have HL := Lib.hid hl
  obtain ⟨D, hD⟩ : ∃ D, D = strOfNums d := ⟨_, rfl⟩
  obtain ⟨L, hL⟩ : ∃ L, L = strOfNums l := ⟨_, rfl⟩
  have hdz : D.size = d.length := by rw [hD, strOfNums_size]
  have hlz : L.size = l.length := by rw [hL, strOfNums_size]
  have HD := Lib.hid hD
  have HLL := Lib.hid hL
  simp only at hm
  simp only [← hD, ← hL]
  clear hD hL hf hl
  have q0 := Lib.hid (heap_alloc_new w (.cells #[.int .u8 t, .int .u64 g, .string D] 28))
  have t0 := Lib.hid (World.grownBy_alloc w (.cells #[.int .u8 t, .int .u64 g, .string D] 28) none)
  by_cases hg : 4200 < d.length ∨ 600 < l.length
  · have hg2 : (4200 : Int) < d.length ∨ ((d.length : Int) ≤ 4200 ∧ (600 : Int) < l.length) := by omega
    clear hg
    rcases hg2 with h1 | ⟨h1, h2⟩
    all_goals
      go_enter Try.func5, Try.ntmps5
      go_wp2_with fail
      refine (lives_any _).mono ?_
      rintro e w1 ⟨rfl, hg1⟩
      obtain ⟨c0, c1, c2⟩ := fm_cells (block_turn q0.out (Turn.of_grown hg1 (S := nowhere) (fun i e => by cases e)) id)
      have T1 := Lib.hid (grownBy_trans t0.out hg1 (fun _ e => by cases e))
      clear hg1
      dsimp only
      go_wp2
      go_ret
      exact ⟨rfl, below_of T1.out⟩
  · have g1 : (d.length : Int) ≤ 4200 := by omega
    have g2 : (l.length : Int) ≤ 600 := by omega
    have hl3 : l.length ≤ 1000000 := by omega
    clear hg
    -- what Get answers of the block, and Put of that
    obtain ⟨⟨⟨x, gx, dx⟩, ex⟩, hr⟩ : ∃ r, r = getF l := ⟨_, rfl⟩
    have hok := get_ok l HL.out
    have herr := get_err l
    have hpg := put_get l HL.out
    rw [← hr] at hok herr hpg
    obtain ⟨Dx, hDx⟩ : ∃ Dx, Dx = strOfNums dx := ⟨_, rfl⟩
    have HGB := Lib.hid (fun W => (get_any l W HL.out hl3).mono fun e w' (h : _ ∧ _) => (show e = .returned (.tuple #[.agg #[.int .u8 x, .int .u64 gx, .string Dx], .int .i64 ex]) ∧ W.grownBy w' none from ⟨by rw [h.1, ← hr, hDx]; rfl, h.2⟩))
    rw [← HLL.out] at HGB
    have HCASE : Hid ((ex ≠ 0 ∧ x = 0 ∧ gx = 0 ∧ Dx = ⟨#[]⟩) ∨ (ex = 0 ∧ ∀ W, Calls Try.prog 9 #[.int .i64 (l.length : Int), .agg #[.int .u8 x, .int .u64 gx, .string Dx]] W fun e w' => e = .returned (.tuple #[.string L, .int .i64 0]) ∧ W.grownBy w' none)) := Lib.hid (by
      by_cases he : ex = 0
      · right
        refine ⟨he, fun W => ?_⟩
        have h := put_any (l.length : Int) (x, gx, dx) W hok
        rw [hpg he] at h
        rw [hDx, HLL.out]
        exact h
      · left
        have h := herr he
        simp only [none3, Prod.mk.injEq] at h
        refine ⟨he, h.1, h.2.1, ?_⟩
        rw [hDx, h.2.2]
        rfl)
    clear hok herr hpg hr hDx
    -- what Put answers of the frame
    obtain ⟨⟨s, e1⟩, hp⟩ : ∃ r, r = putF n (t, g, d) := ⟨_, rfl⟩
    obtain ⟨S, hS⟩ : ∃ S, S = strOfNums s := ⟨_, rfl⟩
    have HPF := Lib.hid (fun W => (put_any n (t, g, d) W HF.out).mono fun e w' (h : _ ∧ _) => (show e = .returned (.tuple #[.string S, .int .i64 e1]) ∧ W.grownBy w' none from ⟨by rw [h.1, ← hp, hS]; rfl, h.2⟩))
    simp only [← HD.out] at HPF
    have hgp := get_put n (t, g, d) HF.out
    rw [← hp] at hgp
    simp only at hgp
    go_enter Try.func5, Try.ntmps5
    go_wp2_with fail
    refine (lives_any _).mono ?_
    rintro e w1 ⟨rfl, hg1⟩
    have q1 := block_turn q0.out (Turn.of_grown hg1 (S := nowhere) (fun i e => by cases e)) id
    obtain ⟨c0, c1, c2⟩ := fm_cells q1
    have Q1 := Lib.hid q1
    have T1 := Lib.hid (grownBy_trans t0.out hg1 (fun _ e => by cases e))
    clear hg1 q1
    dsimp only
    go_wp2_with fail
    refine (HPF.out _).mono ?_
    rintro e w2 ⟨rfl, hg2⟩
    have q2 := block_turn Q1.out (Turn.of_grown hg2 (S := nowhere) (fun i e => by cases e)) id
    have T2 := Lib.hid (grownBy_trans T1.out hg2 (fun _ e => by cases e))
    clear hg2 c0 c1 c2
    by_cases he : e1 = 0
    · obtain ⟨k1, k2, k3, k4, k5, k6⟩ := hgp he
      subst he
      have hS3 : s.length ≤ 1000000 := by unfold Fits at k3; omega
      have hsz : S.size = s.length := by rw [hS, strOfNums_size]
      have HGS := Lib.hid (fun W => (get_any s W k5 hS3).mono fun e w' (h : _ ∧ _) => (show e = .returned (.tuple #[.agg #[.int .u8 t, .int .u64 g, .string D], .int .i64 0]) ∧ W.grownBy w' none from ⟨by rw [h.1, k1, HD.out]; rfl, h.2⟩))
      rw [← hS] at HGS
      have HRM := Lib.hid (fun W => (room_any n W).mono fun e w' (h : _ ∧ _) => (show e = .returned (.int .i64 (n - 16)) ∧ W.grownBy w' none from ⟨by rw [h.1]; unfold room; rw [if_pos k3], h.2⟩))
      have k7 : ((s.length : Int) != n) = false := by rw [k2]; exact bne_self_eq_false _
      have k8 : ¬ n - 16 < (d.length : Int) := by omega
      unfold Fits at k3
      have hneq := fun W => neq_fm t g D t g D W
      simp only [fB_same, Bool.not_true] at hneq
      clear hS hp k1 k5 k6 hgp
      have Q2 := Lib.hid q2
      clear q2
      dsimp only
      go_wp2_with fail
      refine (HGS.out _).mono ?_
      rintro e w3 ⟨rfl, hg3⟩
      have q3 := block_turn Q2.out (Turn.of_grown hg3 (S := nowhere) (fun i e => by cases e)) id
      have Z3 := Lib.hid (block_lt q3)
      have p4 := block_turn q3 (Turn.alloc w3 (.cells #[.int .u8 t, .int .u64 g, .string D] 28) nowhere) id
      have g4 := heap_alloc_new w3 (.cells #[.int .u8 t, .int .u64 g, .string D] 28)
      have T4 := Lib.hid (grownBy_trans (grownBy_trans T2.out hg3 (fun _ e => by cases e)) (World.grownBy_alloc w3 (.cells #[.int .u8 t, .int .u64 g, .string D] 28) none) (fun _ e => by cases e))
      clear hg3 q3
      dsimp only
      go_wp2_with fail
      obtain ⟨gp, hgp⟩ : ∃ gp, gp = w3.heap.size := ⟨_, rfl⟩
      rw [← hgp] at g4 ⊢
      clear hgp
      generalize w3.alloc (.cells #[.int .u8 t, .int .u64 g, .string D] 28) = X at *
      obtain ⟨a0, a1, a2⟩ := fm_cells p4
      obtain ⟨b0, b1, b2⟩ := fm_cells g4
      clear p4 g4
      go_region_held3 (fun w' => w'.cell? ⟨w.heap.size, 0, none⟩ = some (.int .u8 t) ∧ w'.cell? ⟨w.heap.size, 1, none⟩ = some (.int .u64 g) ∧ w'.cell? ⟨w.heap.size, 2, none⟩ = some (.string D) ∧ w'.cell? ⟨gp, 0, none⟩ = some (.int .u8 t) ∧ w'.cell? ⟨gp, 1, none⟩ = some (.int .u64 g) ∧ w'.cell? ⟨gp, 2, none⟩ = some (.string D)) (go_keep)
        (first
          | (go_at_call 13
             (with_reducible refine (HRM.out _).mono ?_)
             rintro e wr ⟨rfl, hgr⟩
             have Tr := Lib.hid (Turn.of_grown hgr (S := nowhere) (fun i e => by cases e))
             have f0 := Tr.out.cell (p := ⟨w.heap.size, 0, none⟩) (by exact a0) id
             have f1 := Tr.out.cell (p := ⟨w.heap.size, 1, none⟩) (by exact a1) id
             have f2 := Tr.out.cell (p := ⟨w.heap.size, 2, none⟩) (by exact a2) id
             have f3 := Tr.out.cell (p := ⟨gp, 0, none⟩) (by exact b0) id
             have f4 := Tr.out.cell (p := ⟨gp, 1, none⟩) (by exact b1) id
             have f5 := Tr.out.cell (p := ⟨gp, 2, none⟩) (by exact b2) id
             clear hgr)
          | fail)
      have TX := Lib.hid (grownBy_trans T4.out ((Turn.drew X nowhere).trans Tr.out (fun _ _ e => e)).grown (fun _ e => by cases e))
      clear f0 f1 f2 f3 f4 f5 a0 a1 a2 b0 b1 b2
      go_wp2_with fail
      refine (HGB.out _).mono ?_
      rintro e wb ⟨rfl, hg⟩
      have Tb := Lib.hid (grownBy_trans (grownBy_trans TX.out hg (fun _ e => by cases e)) (World.grownBy_alloc wb (.cells #[.int .u8 x, .int .u64 gx, .string Dx] 28) none) (fun _ e => by cases e))
      have QB := Lib.hid (heap_alloc_new wb (.cells #[.int .u8 x, .int .u64 gx, .string Dx] 28))
      have YB := Lib.hid (show wb.heap.size < (wb.alloc (.cells #[.int .u8 x, .int .u64 gx, .string Dx] 28)).heap.size from block_lt QB.out)
      clear hg
      rcases HCASE.out with ⟨hne, rfl, rfl, rfl⟩ | ⟨rfl, HPB⟩
      · have e9 : (ex != 0) = true := bne_iff_ne.2 hne
        have heq := fun W => eql_fm 0 0 ⟨#[]⟩ 0 0 ⟨#[]⟩ W
        simp only [fB_same] at heq
        clear hne
        dsimp only
        go_wp2
        go_ret
        exact ⟨rfl, below_of Tb.out⟩
      · have HPB := Lib.hid HPB
        dsimp only
        go_wp2_with fail
        refine (HPB.out _).mono ?_
        rintro e wc ⟨rfl, hg⟩
        have Tc := Lib.hid (grownBy_trans Tb.out hg (fun _ e => by cases e))
        have eL : (L.toList == L.toList) = true := beq_self_eq_true _
        clear hg
        dsimp only
        go_wp2
        go_ret
        exact ⟨rfl, below_of Tc.out⟩
    · have e9 : (e1 == 0) = false := beq_eq_false_iff_ne.2 he
      have TX := T2
      clear hgp he hp hS q2
      dsimp only
      go_wp2_with fail
      refine (HGB.out _).mono ?_
      rintro e wb ⟨rfl, hg⟩
      have Tb := Lib.hid (grownBy_trans (grownBy_trans TX.out hg (fun _ e => by cases e)) (World.grownBy_alloc wb (.cells #[.int .u8 x, .int .u64 gx, .string Dx] 28) none) (fun _ e => by cases e))
      have QB := Lib.hid (heap_alloc_new wb (.cells #[.int .u8 x, .int .u64 gx, .string Dx] 28))
      have YB := Lib.hid (show wb.heap.size < (wb.alloc (.cells #[.int .u8 x, .int .u64 gx, .string Dx] 28)).heap.size from block_lt QB.out)
      clear hg
      rcases HCASE.out with ⟨hne, rfl, rfl, rfl⟩ | ⟨rfl, HPB⟩
      · have e9 : (ex != 0) = true := bne_iff_ne.2 hne
        have heq := fun W => eql_fm 0 0 ⟨#[]⟩ 0 0 ⟨#[]⟩ W
        simp only [fB_same] at heq
        clear hne
        dsimp only
        go_wp2
        go_ret
        exact ⟨rfl, below_of Tb.out⟩
      · have HPB := Lib.hid HPB
        dsimp only
        go_wp2_with fail
        refine (HPB.out _).mono ?_
        rintro e wc ⟨rfl, hg⟩
        have Tc := Lib.hid (grownBy_trans Tb.out hg (fun _ e => by cases e))
        have eL : (L.toList == L.toList) = true := beq_self_eq_true _
        clear hg
        dsimp only
        go_wp2
        go_ret
        exact ⟨rfl, below_of Tc.out⟩
end Go.Proofs.Ytlkhlagkfobaoaa.Fr
