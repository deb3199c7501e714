/-
  FrameCalls: blocks are put and got as the document says.
-/
import Derived.Test.YtlkhlagkfobaoaaFrRKind
namespace Go.Proofs.Ytlkhlagkfobaoaa.Fr
open Go.RowKit Bs Dv

set_option maxRecDepth 100000 in
set_option maxHeartbeats 4000000 in
theorem calls_any (n : Int) (f : Fm) (l : List Int) (tag : Int) (w : World) (hf : FmOk f) (hl : Bs.IsB l) (hm : f.2.2.length ≤ maxLen) (hlm : l.length ≤ maxLen) :
    Calls Try.prog 4 #[.int .i64 n, .agg #[.int .u8 f.1, .int .u64 f.2.1, .string (strOfNums f.2.2)], .string (strOfNums l), .int .u8 tag] w fun e w' => e = .returned (.bool true) ∧ Below w.heap.size w w' := by
  have HPA := Lib.hid (fun W => put_any n f W hf)
  have HPB := Lib.hid (fun W => rput_any n f W hf)
  obtain ⟨t, g, d⟩ := f
  unfold maxLen at hm hlm
  have HL := Lib.hid hl
  obtain ⟨D, hD⟩ : ∃ D, D = strOfNums d := ⟨_, rfl⟩
  obtain ⟨L, hL⟩ : ∃ L, L = strOfNums l := ⟨_, rfl⟩
  have hdz : D.size = d.length := by rw [hD, strOfNums_size]
  have hlz : L.size = l.length := by rw [hL, strOfNums_size]
  have HLL := Lib.hid hL
  simp only at hm
  simp only [← hD, ← hL] at HPA HPB ⊢
  clear hD hL hf hl
  have p0 := Lib.hid (heap_alloc_new w (.cells #[.int .u8 t, .int .u64 g, .string D] 28))
  have T0 := Lib.hid (Turn.alloc w (.cells #[.int .u8 t, .int .u64 g, .string D] 28) nowhere)
  by_cases hg : 4200 < d.length ∨ 600 < l.length
  · have hg2 : (4200 : Int) < d.length ∨ ((d.length : Int) ≤ 4200 ∧ (600 : Int) < l.length) := by omega
    clear hg
    rcases hg2 with h1 | ⟨h1, h2⟩
    all_goals
      go_enter Try.func4, Try.ntmps4
      go_wp2_with fail
      refine (lives_any _).mono ?_
      rintro e w1 ⟨rfl, hg1⟩
      have t1 := Turn.of_grown hg1 (S := nowhere) (fun i e => by cases e)
      obtain ⟨c0, c1, c2⟩ := fm_cells (block_turn p0.out t1 id)
      have T1 := Lib.hid (T0.out.trans t1 (fun _ _ e => e))
      clear hg1 t1
      dsimp only
      go_wp2
      go_ret
      exact ⟨rfl, below_of T1.out.grown⟩
  · have g1 : (d.length : Int) ≤ 4200 := by omega
    have g2 : (l.length : Int) ≤ 600 := by omega
    have hl3 : l.length ≤ 1000000 := by omega
    clear hg
    obtain ⟨⟨s, e1⟩, hp⟩ : ∃ r, r = putF n (t, g, d) := ⟨_, rfl⟩
    obtain ⟨S, hS⟩ : ∃ S, S = strOfNums s := ⟨_, rfl⟩
    obtain ⟨⟨⟨x, gx, dx⟩, ex⟩, hr⟩ : ∃ r, r = getF l := ⟨_, rfl⟩
    obtain ⟨X, hX⟩ : ∃ X, X = strOfNums dx := ⟨_, rfl⟩
    obtain ⟨⟨⟨y, gy, dy⟩, ey⟩, hk⟩ : ∃ r, r = kindF l tag := ⟨_, rfl⟩
    obtain ⟨Y, hY⟩ : ∃ Y, Y = strOfNums dy := ⟨_, rfl⟩
    have H1 := Lib.hid (fun W => (HPA.out W).mono fun e w' (h : _ ∧ _) => (show e = .returned (.tuple #[.string S, .int .i64 e1]) ∧ W.grownBy w' none from ⟨by rw [h.1, ← hp, hS]; rfl, h.2⟩))
    have H2 := Lib.hid (fun W => (HPB.out W).mono fun e w' (h : _ ∧ _) => (show e = .returned (.tuple #[.string S, .int .i64 e1]) ∧ W.grownBy w' none from ⟨by rw [h.1, ← hp, hS]; rfl, h.2⟩))
    have H3 := Lib.hid (fun W => (get_any l W HL.out hl3).mono fun e w' (h : _ ∧ _) => (show e = .returned (.tuple #[.agg #[.int .u8 x, .int .u64 gx, .string X], .int .i64 ex]) ∧ W.grownBy w' none from ⟨by rw [h.1, ← hr, hX]; rfl, h.2⟩))
    have H4 := Lib.hid (fun W => (rget_any l W HL.out hl3).mono fun e w' (h : _ ∧ _) => (show e = .returned (.tuple #[.agg #[.int .u8 x, .int .u64 gx, .string X], .int .i64 ex]) ∧ W.grownBy w' none from ⟨by rw [h.1, ← hr, hX]; rfl, h.2⟩))
    have H5 := Lib.hid (fun W => (kind_any l tag W HL.out hl3).mono fun e w' (h : _ ∧ _) => (show e = .returned (.tuple #[.agg #[.int .u8 y, .int .u64 gy, .string Y], .int .i64 ey]) ∧ W.grownBy w' none from ⟨by rw [h.1, ← hk, hY]; rfl, h.2⟩))
    have H6 := Lib.hid (fun W => (rkind_any l tag W HL.out hl3).mono fun e w' (h : _ ∧ _) => (show e = .returned (.tuple #[.agg #[.int .u8 y, .int .u64 gy, .string Y], .int .i64 ey]) ∧ W.grownBy w' none from ⟨by rw [h.1, ← hk, hY]; rfl, h.2⟩))
    simp only [← HLL.out] at H3 H4 H5 H6
    obtain ⟨R, hR⟩ : ∃ R, R = room n := ⟨_, rfl⟩
    have H7 := Lib.hid (fun W => room_any n W)
    have H8 := Lib.hid (fun W => rroom_any n W)
    simp only [← hR] at H7 H8
    have HLV := Lib.hid (fun W => lives_any W)
    clear hp hS hr hX hk hY hR HPA HPB hl3
    go_enter Try.func4, Try.ntmps4
    try dsimp only
    go_wp2_with fail
    refine (HLV.out _).mono ?_
    rintro e w1 ⟨rfl, hg⟩
    have t1 := Turn.of_grown hg (S := nowhere) (fun i e => by cases e)
    have T1 := Lib.hid (T0.out.trans t1 (fun _ _ e => e))
    have p1 := Lib.hid (block_turn p0.out t1 id)
    clear hg t1
    obtain ⟨c0, c1, c2⟩ := fm_cells p1.out
    try dsimp only
    go_wp2_with fail
    refine (H1.out _).mono ?_
    rintro e w2 ⟨rfl, hg⟩
    have t2 := Turn.of_grown hg (S := nowhere) (fun i e => by cases e)
    have T2 := Lib.hid (T1.out.trans t2 (fun _ _ e => e))
    have p2 := Lib.hid (block_turn p1.out t2 id)
    clear hg t2
    clear c0 c1 c2
    obtain ⟨c0, c1, c2⟩ := fm_cells p2.out
    try dsimp only
    go_wp2_with fail
    refine (H2.out _).mono ?_
    rintro e w3 ⟨rfl, hg⟩
    have t3 := Turn.of_grown hg (S := nowhere) (fun i e => by cases e)
    have T3 := Lib.hid (T2.out.trans t3 (fun _ _ e => e))
    clear hg t3
    clear c0 c1 c2
    try dsimp only
    go_wp2_with fail
    refine (H3.out _).mono ?_
    rintro e w4 ⟨rfl, hg⟩
    have t4 := (Turn.of_grown hg (S := nowhere) (fun i e => by cases e)).trans (Turn.alloc w4 (.cells #[.int .u8 x, .int .u64 gx, .string X] 28) nowhere) (fun _ _ e => e)
    have v4 := Lib.hid (heap_alloc_new w4 (.cells #[.int .u8 x, .int .u64 gx, .string X] 28))
    have T4 := Lib.hid (T3.out.trans t4 (fun _ _ e => e))
    clear hg t4
    try dsimp only
    go_wp2_with fail
    refine (H4.out _).mono ?_
    rintro e w5 ⟨rfl, hg⟩
    have t5 := (Turn.of_grown hg (S := nowhere) (fun i e => by cases e)).trans (Turn.alloc w5 (.cells #[.int .u8 x, .int .u64 gx, .string X] 28) nowhere) (fun _ _ e => e)
    have v5 := Lib.hid (heap_alloc_new w5 (.cells #[.int .u8 x, .int .u64 gx, .string X] 28))
    have T5 := Lib.hid (T4.out.trans t5 (fun _ _ e => e))
    have a5 := Lib.hid (block_turn v4.out t5 id)
    have b5 := v5
    clear hg t5
    try dsimp only
    go_wp2_with fail
    refine (H5.out _).mono ?_
    rintro e w6 ⟨rfl, hg⟩
    have t6 := (Turn.of_grown hg (S := nowhere) (fun i e => by cases e)).trans (Turn.alloc w6 (.cells #[.int .u8 y, .int .u64 gy, .string Y] 28) nowhere) (fun _ _ e => e)
    have v6 := Lib.hid (heap_alloc_new w6 (.cells #[.int .u8 y, .int .u64 gy, .string Y] 28))
    have T6 := Lib.hid (T5.out.trans t6 (fun _ _ e => e))
    have a6 := Lib.hid (block_turn a5.out t6 id)
    have b6 := Lib.hid (block_turn b5.out t6 id)
    have c6 := v6
    clear hg t6
    try dsimp only
    go_wp2_with fail
    refine (H6.out _).mono ?_
    rintro e w7 ⟨rfl, hg⟩
    have t7 := (Turn.of_grown hg (S := nowhere) (fun i e => by cases e)).trans (Turn.alloc w7 (.cells #[.int .u8 y, .int .u64 gy, .string Y] 28) nowhere) (fun _ _ e => e)
    have v7 := Lib.hid (heap_alloc_new w7 (.cells #[.int .u8 y, .int .u64 gy, .string Y] 28))
    have T7 := Lib.hid (T6.out.trans t7 (fun _ _ e => e))
    have a7 := Lib.hid (block_turn a6.out t7 id)
    have b7 := Lib.hid (block_turn b6.out t7 id)
    have c7 := Lib.hid (block_turn c6.out t7 id)
    have s7 := Turn.of_grown hg (S := nowhere) (fun i e => by cases e)
    have a7' := block_turn a6.out s7 id
    have b7' := block_turn b6.out s7 id
    have c7' := block_turn c6.out s7 id
    clear hg t7 s7
    obtain ⟨a0, a1, a2⟩ := fm_cells a7'
    obtain ⟨b0, b1, b2⟩ := fm_cells b7'
    obtain ⟨c0, c1, c2⟩ := fm_cells c7'
    have za := block_lt a7'
    have zb := block_lt b7'
    have zc := block_lt c7'
    have heq1 := fun W => eql_fm x gx X x gx X W
    have heq2 := fun W => eql_fm y gy Y y gy Y W
    simp only [fB_same] at heq1 heq2
    have eS : (S.toList == S.toList) = true := beq_self_eq_true _
    have ee1 : (e1 == e1) = true := beq_self_eq_true _
    have ee2 : (ex == ex) = true := beq_self_eq_true _
    have ee3 : (ey == ey) = true := beq_self_eq_true _
    clear a7' b7' c7'
    try dsimp only
    go_wp2_with fail
    refine (H7.out _).mono ?_
    rintro e w8 ⟨rfl, hg⟩
    have t8 := Turn.of_grown hg (S := nowhere) (fun i e => by cases e)
    have T8 := Lib.hid (T7.out.trans t8 (fun _ _ e => e))
    clear hg t8
    clear a0 a1 a2 b0 b1 b2 c0 c1 c2 za zb zc heq1 heq2
    have eR : (R == R) = true := beq_self_eq_true _
    try dsimp only
    go_wp2_with fail
    refine (H8.out _).mono ?_
    rintro e w9 ⟨rfl, hg⟩
    have t9 := Turn.of_grown hg (S := nowhere) (fun i e => by cases e)
    have T9 := Lib.hid (T8.out.trans t9 (fun _ _ e => e))
    clear hg t9
    try dsimp only
    go_wp2
    go_ret
    exact ⟨rfl, below_of T9.out.grown⟩
end Go.Proofs.Ytlkhlagkfobaoaa.Fr
