/-
  FrameApart: frames that are unlike have blocks that are unlike; of another tag alone a block is refused by Kind.
-/
import Derived.Test.YtlkhlagkfobaoaaFrAny
namespace Go.Proofs.Ytlkhlagkfobaoaa.Fr
open Go.RowKit Bs Dv
open Oct (putB)

set_option maxRecDepth 100000 in
set_option maxHeartbeats 2000000 in
theorem apart_any (n : Int) (f h : Fm) (w : World) (hf : FmOk f) (hh : FmOk h) (hm : f.2.2.length ≤ maxLen) (hm2 : h.2.2.length ≤ maxLen) :
    Calls Try.prog 7 #[.int .i64 n, .agg #[.int .u8 f.1, .int .u64 f.2.1, .string (strOfNums f.2.2)], .agg #[.int .u8 h.1, .int .u64 h.2.1, .string (strOfNums h.2.2)]] w fun e w' => e = .returned (.bool true) ∧ Below w.heap.size w w' := by
  have HFG0 := Lib.hid (fB_iff hf hh)
  have HINJ := Lib.hid (fun (m : Nat) (hn : Fits m) => blk_inj m f h hn hf hh)
  have HP1 := Lib.hid (fun W => put_any n f W hf)
  have HP2 := Lib.hid (fun W => put_any n h W hh)
  have HG1 := Lib.hid (get_put n f hf)
  have HG2 := Lib.hid (get_put n h hh)
  obtain ⟨t, g, d⟩ := f
  obtain ⟨t', g', d'⟩ := h
  unfold maxLen at hm hm2
  obtain ⟨D, hD⟩ : ∃ D, D = strOfNums d := ⟨_, rfl⟩
  obtain ⟨D', hD'⟩ : ∃ D, D = strOfNums d' := ⟨_, rfl⟩
  have hdz : D.size = d.length := by rw [hD, strOfNums_size]
  have hdz' : D'.size = d'.length := by rw [hD', strOfNums_size]
  have HD := Lib.hid hD
  simp only at hm hm2
  simp only [← hD, ← hD'] at HP1 HP2 HFG0 ⊢
  clear hD hD' hf hh
  have q0 := heap_alloc_new w (.cells #[.int .u8 t, .int .u64 g, .string D] 28)
  have t0 := (Turn.alloc w (.cells #[.int .u8 t, .int .u64 g, .string D] 28) nowhere).trans (Turn.alloc (w.alloc (.cells #[.int .u8 t, .int .u64 g, .string D] 28)) (.cells #[.int .u8 t', .int .u64 g', .string D'] 28) nowhere) (fun _ _ e => e)
  have p0 := Lib.hid (block_turn q0 (Turn.alloc (w.alloc (.cells #[.int .u8 t, .int .u64 g, .string D] 28)) (.cells #[.int .u8 t', .int .u64 g', .string D'] 28) nowhere) id)
  have r0 := Lib.hid (show ((w.alloc (.cells #[.int .u8 t, .int .u64 g, .string D] 28)).alloc (.cells #[.int .u8 t', .int .u64 g', .string D'] 28)).heap[w.heap.size + 1]? = _ from heap_alloc2_new w _ _)
  have T0 := Lib.hid t0
  clear q0 t0
  by_cases hg : 4200 < d.length ∨ 4200 < d'.length
  · have hg2 : (4200 : Int) < d.length ∨ ((d.length : Int) ≤ 4200 ∧ (4200 : Int) < d'.length) := by omega
    clear hg
    rcases hg2 with h1 | ⟨h1, h2⟩
    all_goals
      go_enter Try.func7, Try.ntmps7
      go_wp2_with fail
      refine (lives_any _).mono ?_
      rintro e w1 ⟨rfl, hg1⟩
      have t1 := Turn.of_grown hg1 (S := nowhere) (fun i e => by cases e)
      obtain ⟨c0, c1, c2⟩ := fm_cells (block_turn p0.out t1 id)
      obtain ⟨d0, d1, d2⟩ := fm_cells (block_turn r0.out t1 id)
      have T1 := Lib.hid (T0.out.trans t1 (fun _ _ e => e))
      clear hg1 t1
      dsimp only
      go_wp2
      go_ret
      exact ⟨rfl, below_of T1.out.grown⟩
  · have g1 : (d.length : Int) ≤ 4200 := by omega
    have g2 : (d'.length : Int) ≤ 4200 := by omega
    clear hg
    obtain ⟨⟨s, e1⟩, hp⟩ : ∃ r, r = putF n (t, g, d) := ⟨_, rfl⟩
    obtain ⟨⟨s', e2⟩, hp'⟩ : ∃ r, r = putF n (t', g', d') := ⟨_, rfl⟩
    obtain ⟨S, hS⟩ : ∃ S, S = strOfNums s := ⟨_, rfl⟩
    obtain ⟨S', hS'⟩ : ∃ S, S = strOfNums s' := ⟨_, rfl⟩
    have HPA := Lib.hid (fun W => (HP1.out W).mono fun e w' (h : _ ∧ _) => (show e = .returned (.tuple #[.string S, .int .i64 e1]) ∧ W.grownBy w' none from ⟨by rw [h.1, ← hp, hS]; rfl, h.2⟩))
    have HPB := Lib.hid (fun W => (HP2.out W).mono fun e w' (h : _ ∧ _) => (show e = .returned (.tuple #[.string S', .int .i64 e2]) ∧ W.grownBy w' none from ⟨by rw [h.1, ← hp', hS']; rfl, h.2⟩))
    rw [← hp] at HG1
    rw [← hp'] at HG2
    have HS := Lib.hid hS
    have HS' := Lib.hid hS'
    clear hp hp' hS hS' HP1 HP2
    go_enter Try.func7, Try.ntmps7
    go_wp2_with fail
    refine (lives_any _).mono ?_
    rintro e w1 ⟨rfl, hg1⟩
    have t1 := Turn.of_grown hg1 (S := nowhere) (fun i e => by cases e)
    have p1 := Lib.hid (block_turn p0.out t1 id)
    have r1 := Lib.hid (block_turn r0.out t1 id)
    have T1 := Lib.hid (T0.out.trans t1 (fun _ _ e => e))
    obtain ⟨c0, c1, c2⟩ := fm_cells p1.out
    obtain ⟨d0, d1, d2⟩ := fm_cells r1.out
    clear hg1 t1
    dsimp only
    go_wp2_with fail
    refine (HPA.out _).mono ?_
    rintro e w2 ⟨rfl, hg⟩
    have t2 := Turn.of_grown hg (S := nowhere) (fun i e => by cases e)
    have p2 := Lib.hid (block_turn p1.out t2 id)
    have r2 := Lib.hid (block_turn r1.out t2 id)
    have T2 := Lib.hid (T1.out.trans t2 (fun _ _ e => e))
    clear hg t2 c0 c1 c2 d0 d1 d2
    obtain ⟨c0, c1, c2⟩ := fm_cells p2.out
    obtain ⟨d0, d1, d2⟩ := fm_cells r2.out
    dsimp only
    go_wp2_with fail
    refine (HPB.out _).mono ?_
    rintro e w3 ⟨rfl, hg⟩
    have t3 := Turn.of_grown hg (S := nowhere) (fun i e => by cases e)
    have p3 := Lib.hid (block_turn p2.out t3 id)
    have r3 := Lib.hid (block_turn r2.out t3 id)
    have T3 := Lib.hid (T2.out.trans t3 (fun _ _ e => e))
    clear hg t3 c0 c1 c2 d0 d1 d2
    obtain ⟨c0, c1, c2⟩ := fm_cells p3.out
    obtain ⟨d0, d1, d2⟩ := fm_cells r3.out
    by_cases h1 : e1 = 0
    · by_cases h2 : e2 = 0
      · obtain ⟨k1, k2, k3, k4, k5, k6⟩ := HG1.out h1
        obtain ⟨j1, j2, j3, j4, j5, j6⟩ := HG2.out h2
        subst h1
        subst h2
        try dsimp only at k1 k2 k4 k5 k6 j2 j4 j5 j6
        have hn : ((n.toNat : Nat) : Int) = n := by unfold Fits at k3; omega
        have hinj := HINJ.out n.toNat (by rw [hn]; exact k3) (by omega) (by omega)
        try dsimp only at hinj
        rw [← k6, ← j6] at hinj
        have hsl : s.length ≤ 1000000 := by unfold Fits at k3; omega
        obtain ⟨z, hz⟩ : ∃ z, z = decide (((t, g, d) : Fm) = (t', g', d')) := ⟨_, rfl⟩
        have HAB : Hid ((S.toList == S'.toList) = z) := Lib.hid (by
          rw [hz]
          by_cases e : s = s'
          · rw [decide_eq_true (hinj.1 e), HS.out, HS'.out, e]
            exact beq_self_eq_true _
          · rw [decide_eq_false (fun e2 => e (hinj.2 e2))]
            exact toList_ne (fun e2 => e (str_inj k5 j5 (by rw [← HS.out, ← HS'.out, e2]))))
        have HFG := Lib.hid (fun W => (eql_fm t g D t' g' D' W))
        rw [HFG0.out, ← hz] at HFG
        have hzz : (z == z) = true := beq_self_eq_true _
        have HSB := Lib.hid k5
        have HGT := Lib.hid k1
        have HGE := Lib.hid (fun W => (get_any s W HSB.out hsl).mono fun e w' (h : _ ∧ _) => (show e = .returned (.tuple #[.agg #[.int .u8 t, .int .u64 g, .string D], .int .i64 0]) ∧ W.grownBy w' none from ⟨by rw [h.1, HGT.out, HD.out]; rfl, h.2⟩))
        rw [← HS.out] at HGE
        clear hz hinj k1 k2 k3 k4 k5 k6 j1 j2 j3 j4 j5 j6 hn HPA HPB HG1 HG2 HINJ
        by_cases ht : t = t'
        · have HKI := Lib.hid (fun W => (kind_any s t' W HSB.out hsl).mono fun e w' (h : _ ∧ _) => (show e = .returned (.tuple #[.agg #[.int .u8 t, .int .u64 g, .string D], .int .i64 0]) ∧ W.grownBy w' none from ⟨by rw [h.1, kind_get s t' _ HGT.out]; rw [if_pos ht, HD.out]; rfl, h.2⟩))
          rw [← HS.out] at HKI
          have e5 : (t == t') = true := beq_iff_eq.2 ht
          have e6 : (t != t') = false := by rw [ht]; exact bne_self_eq_false _
          have heq := fun W => eql_fm t g D t g D W
          simp only [fB_same] at heq
          clear ht
          dsimp only
          go_wp2_with fail
          refine (HKI.out _).mono ?_
          rintro e w4 ⟨rfl, hg⟩
          have t4 := (Turn.of_grown hg (S := nowhere) (fun i e => by cases e)).trans (Turn.alloc w4 (.cells #[.int .u8 t, .int .u64 g, .string D] 28) nowhere) (fun _ _ e => e)
          have T4 := Lib.hid (T3.out.trans t4 (fun _ _ e => e))
          have p4 := Lib.hid (block_turn p3.out t4 id)
          have r4 := Lib.hid (block_turn r3.out t4 id)
          have x4 := Lib.hid (heap_alloc_new w4 (.cells #[.int .u8 t, .int .u64 g, .string D] 28))
          clear hg t4 c0 c1 c2 d0 d1 d2
          dsimp only
          go_wp2_with fail
          refine (HGE.out _).mono ?_
          rintro e w5 ⟨rfl, hg⟩
          have t5 := (Turn.of_grown hg (S := nowhere) (fun i e => by cases e)).trans (Turn.alloc w5 (.cells #[.int .u8 t, .int .u64 g, .string D] 28) nowhere) (fun _ _ e => e)
          have T5 := Lib.hid (T4.out.trans t5 (fun _ _ e => e))
          have t5' := Turn.of_grown hg (S := nowhere) (fun i e => by cases e)
          have p5 := block_turn p4.out t5' id
          have r5 := block_turn r4.out t5' id
          have x5 := block_turn x4.out t5' id
          have Z1 := block_lt p5
          have Z2 := block_lt r5
          have Z3 := block_lt x5
          obtain ⟨c0, c1, c2⟩ := fm_cells p5
          obtain ⟨d0, d1, d2⟩ := fm_cells r5
          obtain ⟨k0, k1, k2⟩ := fm_cells x5
          clear hg t5 t5' p5 r5 x5
          have hab := HAB.out
          have hfg := HFG.out
          dsimp only
          go_wp2
          go_ret
          exact ⟨rfl, below_of T5.out.grown⟩
        · have HKI := Lib.hid (fun W => (kind_any s t' W HSB.out hsl).mono fun e w' (h : _ ∧ _) => (show e = .returned (.tuple #[.agg #[.int .u8 0, .int .u64 0, .string ⟨#[]⟩], .int .i64 11]) ∧ W.grownBy w' none from ⟨by rw [h.1, kind_get s t' _ HGT.out]; rw [if_neg ht]; rfl, h.2⟩))
          rw [← HS.out] at HKI
          have e5 : (t == t') = false := beq_eq_false_iff_ne.2 ht
          have e6 : (t != t') = true := bne_iff_ne.2 ht
          have heq := fun W => eql_fm 0 0 ⟨#[]⟩ 0 0 ⟨#[]⟩ W
          simp only [fB_same] at heq
          clear ht
          dsimp only
          go_wp2_with fail
          refine (HKI.out _).mono ?_
          rintro e w4 ⟨rfl, hg⟩
          have t4 := (Turn.of_grown hg (S := nowhere) (fun i e => by cases e)).trans (Turn.alloc w4 (.cells #[.int .u8 0, .int .u64 0, .string ⟨#[]⟩] 28) nowhere) (fun _ _ e => e)
          have T4 := Lib.hid (T3.out.trans t4 (fun _ _ e => e))
          have p4 := Lib.hid (block_turn p3.out t4 id)
          have r4 := Lib.hid (block_turn r3.out t4 id)
          have x4 := Lib.hid (heap_alloc_new w4 (.cells #[.int .u8 0, .int .u64 0, .string ⟨#[]⟩] 28))
          clear hg t4 c0 c1 c2 d0 d1 d2
          dsimp only
          go_wp2_with fail
          refine (HGE.out _).mono ?_
          rintro e w5 ⟨rfl, hg⟩
          have t5 := (Turn.of_grown hg (S := nowhere) (fun i e => by cases e)).trans (Turn.alloc w5 (.cells #[.int .u8 t, .int .u64 g, .string D] 28) nowhere) (fun _ _ e => e)
          have T5 := Lib.hid (T4.out.trans t5 (fun _ _ e => e))
          have t5' := Turn.of_grown hg (S := nowhere) (fun i e => by cases e)
          have p5 := block_turn p4.out t5' id
          have r5 := block_turn r4.out t5' id
          have x5 := block_turn x4.out t5' id
          have Z1 := block_lt p5
          have Z2 := block_lt r5
          have Z3 := block_lt x5
          obtain ⟨c0, c1, c2⟩ := fm_cells p5
          obtain ⟨d0, d1, d2⟩ := fm_cells r5
          obtain ⟨k0, k1, k2⟩ := fm_cells x5
          clear hg t5 t5' p5 r5 x5
          have hab := HAB.out
          have hfg := HFG.out
          dsimp only
          go_wp2
          go_ret
          exact ⟨rfl, below_of T5.out.grown⟩
      · have e9 : (e2 != 0) = true := bne_iff_ne.2 h2
        subst h1
        clear h2 HG1 HG2
        dsimp only
        go_wp2
        go_ret
        exact ⟨rfl, below_of T3.out.grown⟩
    · have e9 : (e1 != 0) = true := bne_iff_ne.2 h1
      clear h1 HG1 HG2
      dsimp only
      go_wp2
      go_ret
      exact ⟨rfl, below_of T3.out.grown⟩
end Go.Proofs.Ytlkhlagkfobaoaa.Fr
