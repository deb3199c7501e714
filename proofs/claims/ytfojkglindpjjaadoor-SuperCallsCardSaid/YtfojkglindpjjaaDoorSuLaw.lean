/-
  What the statements of layer 11 share: Same, small, put, nought, lives.
-/
import Derived.Test.YtfojkglindpjjaaDoorSuChoose
import Derived.Test.YtfojkglindpjjaaDoorTimes
namespace Go.Proofs.YtfojkglindpjjaaDoor.Su
open Go.RowKit Bs Dv Gr
open Fr (getF kindF none3 strE blk)

set_option maxRecDepth 100000 in
set_option maxHeartbeats 2000000 in
theorem same_yes (s : Sup) (a p : Option Addr) (n c m q : Nat) (w : World) (hs : Ws.Seg w a n c s.pages) (ht : Ws.Seg w p m q s.pages) :
    Calls Tryd.prog 15 #[.agg #[.int .u64 s.gen, .int .i64 s.size, .int .i64 s.blocks, .int .u32 s.root, .slice a n c], .agg #[.int .u64 s.gen, .int .i64 s.size, .int .i64 s.blocks, .int .u32 s.root, .slice p m q]] w fun e w' => e = .returned (.bool true) ∧ w.grownBy w' none := by
  obtain rfl : n = m := hs.len.symm.trans ht.len
  have g1 := grown_alloc w (.cells #[.int .u64 s.gen, .int .i64 s.size, .int .i64 s.blocks, .int .u32 s.root, .slice a n c] 29)
  have s1 := SB.new w s a n c
  obtain ⟨W1, hW1⟩ : ∃ X, w.alloc (.cells #[.int .u64 s.gen, .int .i64 s.size, .int .i64 s.blocks, .int .u32 s.root, .slice a n c] 29) = X := ⟨_, rfl⟩
  rw [hW1] at g1 s1
  have g2 := grown_alloc W1 (.cells #[.int .u64 s.gen, .int .i64 s.size, .int .i64 s.blocks, .int .u32 s.root, .slice p n q] 29)
  have s2 := SB.new W1 s p n q
  have s3 := s1.old g2
  obtain ⟨W2, hW2⟩ : ∃ X, W1.alloc (.cells #[.int .u64 s.gen, .int .i64 s.size, .int .i64 s.blocks, .int .u32 s.root, .slice p n q] 29) = X := ⟨_, rfl⟩
  rw [hW2] at g2 s2 s3
  have HG := Lib.hid (grown_then g1 g2)
  have HA := Lib.hid (hs.grown HG.out)
  have HP := Lib.hid (ht.grown HG.out)
  obtain ⟨c0, c1, c2, c3, c4⟩ := s3.cells
  obtain ⟨d0, d1, d2, d3, d4⟩ := s2.cells
  have hle := hs.le
  have hcap := hs.cap
  unfold maxLen at hcap
  have k0 : (s.gen != s.gen) = false := by simp
  have k3 : (s.root != s.root) = false := by simp
  clear hs ht g1 g2 s1 s2 s3
  go_enter Tryd.func15, Tryd.ntmps15
  go_wp2
  go_loopw [5] (fun si wr => ∃ k m : Nat, k ≤ n ∧ si = .int .i64 k ∧ wr = W2.drewN m) (fun si _ => n - (intOf si).toNat)
  case atStart => exact ⟨0, 0, Nat.zero_le _, rfl, rfl⟩
  case round =>
    obtain ⟨k, m, hk, rfl, rfl⟩ := hrel
    by_cases hlt : k < n
    · obtain ⟨ga, oa, rfl, hc⟩ := HA.out.addr (by omega)
      obtain ⟨gp, op, rfl, hd⟩ := HP.out.addr (by omega)
      have e1 := hc k hlt
      have e2 := hd k hlt
      obtain ⟨x, hx⟩ : ∃ x, s.pages.getD k 0 = x := ⟨_, rfl⟩
      rw [hx] at e1 e2
      have q1 : (x != x) = false := by simp
      clear hc hd hx c0 c1 c2 c3 d0 d1 d2 d3
      go_wp2
      go_quiet (fail)
      go_wp2
      go_roundw
      case rel => exact ⟨k + 1, m + nq, by omega, by go_num, by simp⟩
      case measure => simp [intOf]; omega
    · obtain rfl : k = n := by omega
      go_wp2
      go_ret
      exact ⟨rfl, HG.out.os, HG.out.tape, HG.out.output, HG.out.size, HG.out.block⟩

def smS (gen root : Int) : Sup := ⟨gen, 128, 8, root, [2]⟩
theorem results_small {fn : Func} {p : Tmp} (h : fn.results = #[.cell p 29]) (tmps : Array Value) (w : World) (g : Nat) (s : Sup) (a : Option Addr) (n c : Nat) (hp : tmps.getD p undef = .pointer (some ⟨g, 0, none⟩))
    (hg : SB w g s a n c) : (results fn tmps).run Tryd.prog w = .ok (.agg #[.int .u64 s.gen, .int .i64 s.size, .int .i64 s.blocks, .int .u32 s.root, .slice a n c]) w :=
  run_results_row h tmps w g _ _ _ _ hp hg Tryd.underlying29 rfl info_super
set_option maxHeartbeats 1000000 in
theorem small_any (gen root : Int) (w : World) :
    Calls Tryd.prog 11 #[.int .u64 gen, .int .u32 root] w fun e w' => ∃ g, e = .returned (.agg #[.int .u64 gen, .int .i64 128, .int .i64 8, .int .u32 root, .slice (some ⟨g, 0, none⟩) 1 1]) ∧ Ws.Seg w' (some ⟨g, 0, none⟩) 1 1 [2] ∧ w.heap.size ≤ g ∧ w.grownBy w' none := by
  have S0 : SB (w.alloc (.cells #[.int .u64 0, .int .i64 0, .int .i64 0, .int .u32 0, .slice none 0 0] 29)) w.heap.size zeroS none 0 0 := SB.new w zeroS none 0 0
  have G0 := grown_alloc w (.cells #[.int .u64 0, .int .i64 0, .int .i64 0, .int .u32 0, .slice none 0 0] 29)
  have hs0 : (w.alloc (.cells #[.int .u64 0, .int .i64 0, .int .i64 0, .int .u32 0, .slice none 0 0] 29)).heap.size = w.heap.size + 1 := by simp
  obtain ⟨W0, hW0⟩ : ∃ X, w.alloc (.cells #[.int .u64 0, .int .i64 0, .int .i64 0, .int .u32 0, .slice none 0 0] 29) = X := ⟨_, rfl⟩
  rw [hW0] at S0 G0 hs0
  have G1 := grown_alloc W0 (.cells #[.int .u32 2] 26)
  have S1 := S0.old G1
  have P1 : Ws.Seg (W0.alloc (.cells #[.int .u32 2] 26)) (some ⟨W0.heap.size, 0, none⟩) 1 1 [2] := Ws.lit_seg W0 [2] (by decide)
  have HS1 := Lib.hid S1
  have HG1 := Lib.hid (grown_then G0 G1)
  have HP1 := Lib.hid P1
  have hlt : w.heap.size < W0.heap.size := by omega
  clear S0 G0 hs0 G1 S1 P1
  go_enter Tryd.func11, Tryd.ntmps11
  go_wp2_with (first
    | (with_reducible refine wpList_store_super rfl (.tmp 4) (.tmp 9) rfl w.heap.size rfl (smS gen root) (some ⟨W0.heap.size, 0, none⟩) 1 1 rfl zeroS none 0 0 HS1.out ?_; intro w6 hq6 ht6)
    | fail)
  refine bodyPost_ret (results_small rfl _ _ _ _ _ _ _ rfl hq6) rfl ⟨W0.heap.size, rfl, HP1.out.kept (grown_some ht6) (fun ad had e => by cases had; have h2 := Option.some.inj e; simp at h2; omega), by omega, grown_put HG1.out ht6 (Nat.le_refl _)⟩

set_option maxHeartbeats 1000000 in
theorem put_law (s : Sup) (a : Option Addr) (n c : Nat) (w : World) (hs : Ws.Seg w a n c s.pages) (ho : SupOk s) (hT : T4 w) :
    Calls Tryd.prog 10 #[.agg #[.int .u64 s.gen, .int .i64 s.size, .int .i64 s.blocks, .int .u32 s.root, .slice a n c]] w fun e w' => e = .returned (.string (strOfNums (putS s).1)) ∧ w.grownBy w' none := by
  have HB0 := Lib.hid (SB.new w s a n c)
  have HG0 := Lib.hid (grown_alloc w (.cells #[.int .u64 s.gen, .int .i64 s.size, .int .i64 s.blocks, .int .u32 s.root, .slice a n c] 29))
  obtain ⟨W0, hW0⟩ : ∃ X, w.alloc (.cells #[.int .u64 s.gen, .int .i64 s.size, .int .i64 s.blocks, .int .u32 s.root, .slice a n c] 29) = X := ⟨_, rfl⟩
  rw [hW0] at HB0 HG0
  have HP := Lib.hid (put_sup s a n c W0 (hs.grown HG0.out) ho (hT.grown HG0.out))
  obtain ⟨q0, q1, q2, q3, q4⟩ := HB0.out.cells
  unfold strE at HP
  obtain ⟨S, hS⟩ : ∃ S, strOfNums (putS s).1 = S := ⟨_, rfl⟩
  obtain ⟨E, hE⟩ : ∃ E, (putS s).2 = E := ⟨_, rfl⟩
  rw [hS, hE] at HP
  rw [hS]
  clear hs ho hT hS hE
  go_enter Tryd.func10, Tryd.ntmps10
  go_wp2_with fail
  refine HP.out.mono ?_
  rintro e w1 ⟨rfl, hg⟩
  have HG1 := Lib.hid (grown_then HG0.out hg)
  clear hg q0 q1 q2 q3 q4 HP HB0 HG0 hW0
  dsimp only
  go_wp2
  go_ret
  exact ⟨rfl, HG1.out⟩

theorem nought_any (w : World) : Calls Tryd.prog 13 #[] w fun e w' => e = .returned (.string (strOfNums (rep 128 0))) ∧ w = w' := by
  have HT := Lib.hid (times_any 0 128 w (by decide))
  obtain ⟨Z, hZ⟩ : ∃ Z, strOfNums (rep 128 0) = Z := ⟨_, rfl⟩
  have HT0 := Lib.hid (fun W => (times_any 0 128 W (by decide)).mono fun e w' (h : _ ∧ _) => (show e = .returned (.string Z) ∧ W = w' from ⟨by rw [h.1, ← hZ]; rfl, h.2⟩))
  rw [hZ]
  clear hZ HT
  go_enter Tryd.func13, Tryd.ntmps13
  go_wp2_with fail
  refine (HT0.out _).mono ?_
  rintro e w1 ⟨rfl, rfl⟩
  go_wp2
  go_ret
  exact ⟨rfl, rfl⟩

/-! ### what the examples come to -/
theorem zero_get : getF (rep 128 0) = (none3, 10) := by
  have hB : Bs.IsB (rep 128 0) := rep_isB 128 0 (by decide)
  unfold getF
  rw [rep_len, if_neg (by decide), if_pos]
  unfold Fr.Good
  rw [rep_len]
  decide +kernel
theorem nought_get : getS (rep 128 0) = (zeroS, 10) := by
  have h : kindF (rep 128 0) 1 = (none3, 10) := Fr.kind_err _ _ _ zero_get (by decide)
  unfold getS
  rw [h, if_pos (by decide)]
theorem sm_ok {gen root : Int} (h1 : 0 ≤ gen ∧ gen < 18446744073709551616) (h2 : 0 ≤ root ∧ root < 4294967296) : SupOk (smS gen root) := ⟨h1, h2, fun p hp => by
  have : p = 2 := by simpa [smS] using hp
  omega⟩
theorem sm_put {gen root : Int} (h1 : 0 ≤ gen ∧ gen < 18446744073709551616) (h2 : 0 ≤ root ∧ root < 4294967296) (h : supE (smS gen root) = 0) : getS (putS (smS gen root)).1 = (smS gen root, 0) := get_put h (sm_ok h1 h2)
theorem put_isB {s : Sup} : Bs.IsB (putS s).1 := by
  by_cases h : supE s = 0
  · rw [put_yes h]
    exact Fr.blk_isB _ _ _ _ ⟨by decide, by decide⟩ (data_isB s)
  · rw [put_no h]
    exact fun x hx => by cases hx
theorem put_size {s : Sup} (h : supE s = 0) : ((putS s).1.length : Int) = s.size := by
  obtain ⟨hv, hr⟩ := sup_ok h
  have hg := geo_room hv.1
  have hf := geo_fits hv.1
  have hl := data_len s
  unfold Fr.Fits at hf
  rw [put_yes h]
  show ((blk s.size.toNat 1 s.gen (dataS s)).length : Int) = _
  rw [Fr.blk_length _ _ _ _ (by omega)]
  omega
theorem put_short (s : Sup) : (putS s).1.length ≤ 4096 := by
  by_cases h : supE s = 0
  · have h1 := put_size h
    have h2 := (sup_ok h).1.1.2.1
    omega
  · rw [put_no h]; show (0 : Nat) ≤ 4096; decide

set_option maxRecDepth 100000 in
set_option maxHeartbeats 4000000 in
theorem lives_any (w : World) (hT : T4 w) : Calls Tryd.prog 8 #[] w fun e w' => e = .returned (.bool true) ∧ w.grownBy w' none := by
  have e40 : supE (smS 4 0) = 0 := by decide +kernel
  have e53 : supE (smS 5 3) = 0 := by decide +kernel
  have k4 := sm_ok (gen := 4) (root := 0) (by decide) (by decide)
  have k5 := sm_ok (gen := 5) (root := 3) (by decide) (by decide)
  have g4 := get_put e40 k4
  have g5 := get_put e53 k5
  have HC1 : Hid (chooseS (putS (smS 4 0)).1 (putS (smS 5 3)).1 = (1, smS 5 3, 0)) := Lib.hid (choose_second g5 (.inr (by rw [g4]; decide)))
  have HC2 : Hid (chooseS (putS (smS 4 0)).1 (rep 128 0) = (0, smS 4 0, 0)) := Lib.hid (choose_first g4 (fun h => by rw [nought_get] at h; cases h))
  have HT := Lib.hid hT
  have HS := Lib.hid (fun gen root W => small_any gen root W)
  have HP4 := Lib.hid (fun a n c W hs hT => put_law (smS 4 0) a n c W hs k4 hT)
  have HP5 := Lib.hid (fun a n c W hs hT => put_law (smS 5 3) a n c W hs k5 hT)
  have HN := Lib.hid nought_any
  have HCA := Lib.hid (fun W (hT : T4 W) => choose_any (putS (smS 4 0)).1 (putS (smS 5 3)).1 W put_isB put_isB (Nat.le_trans (put_short _) (by decide)) (Nat.le_trans (put_short _) (by decide)) hT)
  have HCB := Lib.hid (fun W (hT : T4 W) => choose_any (putS (smS 4 0)).1 (rep 128 0) W put_isB (rep_isB 128 0 (by decide)) (Nat.le_trans (put_short _) (by decide)) (by rw [rep_len]; decide) hT)
  rw [HC1.out] at HCA
  rw [HC2.out] at HCB
  obtain ⟨B4, hB4⟩ : ∃ S, strOfNums (putS (smS 4 0)).1 = S := ⟨_, rfl⟩
  obtain ⟨B5, hB5⟩ : ∃ S, strOfNums (putS (smS 5 3)).1 = S := ⟨_, rfl⟩
  obtain ⟨B0, hB0⟩ : ∃ S, strOfNums (rep 128 0) = S := ⟨_, rfl⟩
  rw [hB4] at HP4 HCA HCB
  rw [hB5] at HP5 HCA
  rw [hB0] at HN HCB
  have r1 : (smS 4 0).gen = 4 ∧ (smS 4 0).size = 128 ∧ (smS 4 0).blocks = 8 ∧ (smS 4 0).root = 0 := ⟨rfl, rfl, rfl, rfl⟩
  clear e40 e53 k4 k5 g4 g5 hT hB4 hB5 hB0 HC1 HC2 r1
  go_enter Tryd.func8, Tryd.ntmps8
  go_wp2_with fail
  refine (HS.out _ _ _).mono ?_
  rintro e w1 ⟨g, rfl, hs, -, hg⟩
  have G1 := Lib.hid hg
  have HPA := Lib.hid (HP4.out _ _ _ _ hs (HT.out.grown hg))
  clear hg hs
  dsimp only
  go_wp2_with fail
  refine HPA.out.mono ?_
  rintro e w2 ⟨rfl, hg⟩
  have G2 := Lib.hid (grown_then G1.out hg)
  clear hg HPA G1
  dsimp only
  go_wp2_with fail
  refine (HS.out _ _ _).mono ?_
  rintro e w3 ⟨g3, rfl, hs, -, hg⟩
  have G3 := Lib.hid (grown_then G2.out hg)
  have HPA := Lib.hid (HP5.out _ _ _ _ hs (HT.out.grown G3.out))
  clear hg hs G2
  dsimp only
  go_wp2_with fail
  refine HPA.out.mono ?_
  rintro e w4 ⟨rfl, hg⟩
  have G4 := Lib.hid (grown_then G3.out hg)
  clear hg HPA G3
  dsimp only
  go_wp2_with fail
  refine (HCA.out _ (HT.out.grown G4.out)).mono ?_
  rintro e w5 ⟨hg, a, n, c, rfl, -, -⟩
  have G5 := Lib.hid (grown_then G4.out (grown_then hg (grown_alloc w5 (.cells #[.int .u64 (smS 5 3).gen, .int .i64 (smS 5 3).size, .int .i64 (smS 5 3).blocks, .int .u32 (smS 5 3).root, .slice a n c] 29))))
  clear hg G4
  dsimp only
  go_upto_region 2 with (fail)
  obtain ⟨W5, hW5⟩ : ∃ X, w5.alloc (.cells #[.int .u64 (smS 5 3).gen, .int .i64 (smS 5 3).size, .int .i64 (smS 5 3).blocks, .int .u32 (smS 5 3).root, .slice a n c] 29) = X := ⟨_, rfl⟩
  rw [hW5] at G5 ⊢
  clear hW5
  go_wp2_with fail
  refine (HS.out _ _ _).mono ?_
  rintro e w6 ⟨g6, rfl, hs, -, hg⟩
  have G6 := Lib.hid (grown_then G5.out hg)
  have HPA := Lib.hid (HP4.out _ _ _ _ hs (HT.out.grown G6.out))
  clear hg hs G5
  dsimp only
  go_wp2_with fail
  refine HPA.out.mono ?_
  rintro e w7 ⟨rfl, hg⟩
  have G7 := Lib.hid (grown_then G6.out hg)
  clear hg HPA G6
  dsimp only
  go_wp2_with fail
  refine (HN.out _).mono ?_
  rintro e w8 ⟨rfl, rfl⟩
  dsimp only
  go_wp2_with fail
  refine (HCB.out _ (HT.out.grown G7.out)).mono ?_
  rintro e w9 ⟨hg, a9, n9, c9, rfl, -, -⟩
  have G9 := Lib.hid (grown_then G7.out (grown_then hg (grown_alloc w9 (.cells #[.int .u64 (smS 4 0).gen, .int .i64 (smS 4 0).size, .int .i64 (smS 4 0).blocks, .int .u32 (smS 4 0).root, .slice a9 n9 c9] 29))))
  clear hg G7
  dsimp only
  go_upto_region 3 with (fail)
  obtain ⟨W9, hW9⟩ : ∃ X, w9.alloc (.cells #[.int .u64 (smS 4 0).gen, .int .i64 (smS 4 0).size, .int .i64 (smS 4 0).blocks, .int .u32 (smS 4 0).root, .slice a9 n9 c9] 29) = X := ⟨_, rfl⟩
  rw [hW9] at G9 ⊢
  clear hW9
  go_wp2
  go_ret
  exact ⟨rfl, G9.out⟩
end Go.Proofs.YtfojkglindpjjaaDoor.Su
