/-
  CrcCalls: checks are reckoned, and bits turned, as the document says.
-/
import Derived.Test.YtdkcieojfkfaiaaCrcBehind
import Derived.Test.YtdkcieojfkfaiaaCrcOpen
namespace Go.Proofs.Ytdkcieojfkfaiaa.Crc
open Go.RowKit Bs

theorem eql_tab (w : World) : (binOp .eql 24 (.agg (tab entry)) (.agg (tab entry))).run Try.prog w = .ok (.bool true) w := by kernel_rfl

set_option linter.unusedSimpArgs false in
set_option maxRecDepth 100000 in
set_option maxHeartbeats 4000000 in
theorem calls_law (t : Nat → Nat) (s : Int) (a0 : Option Addr) (n0 c0 : Nat) (l0 : List Int) (bit m mask : Int) (w : World) (ht : ∀ i, i < 256 → t i < 4294967296) (hs : 0 ≤ s ∧ s ≤ 4294967295) (h0 : Seg w a0 n0 c0 l0) (b0 : Bs.IsB l0) (hbit : bit ≤ 9223372036854775807) (hm : 0 ≤ mask ∧ mask ≤ 4294967295) :
    Calls Try.prog 4 #[.agg (tab t), .int .u32 s, .slice a0 n0 c0, .int .i64 bit, .int .i64 m, .int .u32 mask] w fun e w' => e = .returned (.bool true) ∧ Below w.heap.size w w' := by
  by_cases hn : 300 < n0
  · go_enter Try.func4, Try.ntmps4
    go_wp2_with fail
    refine (lives_any _).mono ?_
    rintro e w1 ⟨rfl, hg1⟩
    have HG := Lib.hid (below_of (grownBy_trans (World.grownBy_alloc w _ none) hg1 (fun _ e => by cases e)))
    clear hg1
    go_wp2
    go_ret
    exact ⟨rfl, HG.out⟩
  · obtain ⟨M, rfl⟩ := Int.eq_ofNat_of_zero_le hm.1
    obtain ⟨S, rfl⟩ := Int.eq_ofNat_of_zero_le hs.1
    have m0 : (n0 : Int) ≤ 300 := by omega
    have HM : Hid (M < 4294967296) := Lib.hid (by omega)
    have HS : Hid (S < 4294967296) := Lib.hid (by omega)
    have H0 := Lib.hid h0
    have B0 := Lib.hid b0
    obtain ⟨cs, hcs⟩ : ∃ cs : List Value, tab t = cs.toArray := ⟨(tab t).toList, by simp⟩
    have HC := Lib.hid hcs
    have HU := Lib.hid (fun (w : World) (h : Seg w a0 n0 c0 l0) => (hcs ▸ update_any t S a0 n0 c0 l0 w h b0 (by omega) ht : Calls Try.prog 14 #[.agg cs.toArray, .int .u32 S, .slice a0 n0 c0] w fun e w' => e = .returned (.int .u32 (upd t S l0)) ∧ w.grownBy w' none))
    have HV := Lib.hid (fun (w : World) (h : Seg w a0 n0 c0 l0) => (hcs ▸ rupdate_any t S a0 n0 c0 l0 w h b0 (by omega) ht : Calls Try.prog 17 #[.agg cs.toArray, .int .u32 S, .slice a0 n0 c0] w fun e w' => e = .returned (.int .u32 (upd t S l0)) ∧ w.grownBy w' none))
    have HX := Lib.hid (fun (w : World) (h : Seg w a0 n0 c0 l0) => (hcs ▸ sum_any t a0 n0 c0 l0 w h b0 ht : Calls Try.prog 13 #[.agg cs.toArray, .slice a0 n0 c0] w fun e w' => e = .returned (.int .u32 (sum t l0)) ∧ w.grownBy w' none))
    have HY := Lib.hid (fun (w : World) (h : Seg w a0 n0 c0 l0) => (hcs ▸ rsum_any t a0 n0 c0 l0 w h b0 ht : Calls Try.prog 18 #[.agg cs.toArray, .slice a0 n0 c0] w fun e w' => e = .returned (.int .u32 (sum t l0)) ∧ w.grownBy w' none))
    rw [hcs]
    clear h0 b0 hn hm hs ht hcs
    go_enter Try.func4, Try.ntmps4
    go_wp2_with fail
    refine (lives_any _).mono ?_
    rintro e w0 ⟨rfl, hg1⟩
    have R0 : Hid (w0.rangeAt w.heap.size 0 cs) := Lib.hid (fun j v hv => by
      rw [Nat.zero_add]
      refine hg1.cell ?_ (by simp)
      rw [World.cell?_alloc_new]
      simpa using hv)
    have T0 := Lib.hid (grownBy_trans (grownBy_trans (World.grownBy_alloc w _ none) hg1 (fun _ e => by cases e)) (show w0.grownBy w0.drew none from ⟨rfl, rfl, rfl, Nat.le_refl _, fun _ _ _ => rfl⟩) (fun _ e => by cases e))
    clear hg1
    have hu := Try.underlying24
    have hi : (Try.prog.info? 24).map (·.size) = some cs.length := by
      rw [info_tab t, HC.out]
      simp
    have hr0 : w0.rangeAt w.heap.size 0 cs := R0.out
    have ht0 := eql_tab
    go_wp2_with fail
    refine wp_region_held_drew (S := fun w' => w'.rangeAt w.heap.size 0 cs) (by kernel_rfl) (by simp only [World.rangeAt_drew]; exact hr0) (fun hH => ?_)
    refine wpAnyH_ready (rs := [0]) (by kernel_rfl) (by simp) ?_
    refine AllReadyH.cons (o := _) rfl (fun K hK => ?_) AllReadyH.nil
    rw [if_pos (by rfl)]
    go_simp
    refine (table_any _).mono ?_
    rintro e w1 ⟨rfl, hg⟩
    have T1 := Lib.hid (grownBy_trans T0.out hg (fun _ e => by cases e))
    have R1 : w1.rangeAt w.heap.size 0 cs := fun j v hv => hg.cell (hH j v hv) (by simp)
    clear hg
    go_wp2_with fail
    refine hK.out _ _ R1 (fun hH => ?_)
    clear hK K
    refine wpAnyH_ready (rs := [1]) (by kernel_rfl) (by simp) ?_
    refine AllReadyH.cons (o := _) rfl (fun K hK => ?_) AllReadyH.nil
    rw [if_pos (by rfl)]
    go_simp
    refine (rtable_any _).mono ?_
    rintro e w2 ⟨rfl, hg⟩
    have T2 := Lib.hid (grownBy_trans T1.out hg (fun _ e => by cases e))
    have R2 : w2.rangeAt w.heap.size 0 cs := fun j v hv => hg.cell (hH j v hv) (by simp)
    clear hg
    go_wp2_with fail
    refine hK.out _ _ R2 (fun hH => ?_)
    clear hK K
    refine wpAnyH_take (i := 2) (v := ?_) rfl (by kernel_rfl) (by kernel_rfl) (by kernel_rfl) (fun _ _ _ h => h) (Or.inl ⟨by rfl, ?_⟩) hH ?_
    rotate_left
    · intro w hSw
      go_simp
      try with_reducible rfl
    simp only [Act.put, List.getElem_toArray, List.getElem_cons_succ, List.getElem_cons_zero, List.setIfInBounds_toArray, List.set_cons_zero, List.set_cons_succ]
    refine wpAnyH_take (i := 3) (v := ?_) rfl (by kernel_rfl) (by kernel_rfl) (by kernel_rfl) (fun _ _ _ h => h) (Or.inl ⟨by rfl, ?_⟩) hH ?_
    rotate_left
    · intro w hSw
      go_simp
      try with_reducible rfl
    simp only [Act.put, List.getElem_toArray, List.getElem_cons_succ, List.getElem_cons_zero, List.setIfInBounds_toArray, List.set_cons_zero, List.set_cons_succ]
    refine wpAnyH_take (i := 4) (v := .agg cs.toArray) rfl (by kernel_rfl) (by kernel_rfl) (by kernel_rfl) (fun _ _ _ h => h) (yieldsIf_load_mid (by rfl) _ _ rfl _ _ rfl cs _ (fun _ h => h) hu rfl hi) hH ?_
    simp only [Act.put, List.getElem_toArray, List.getElem_cons_succ, List.getElem_cons_zero, List.setIfInBounds_toArray, List.set_cons_zero, List.set_cons_succ]
    refine wpAnyH_take (i := 5) (v := ?_) rfl (by kernel_rfl) (by kernel_rfl) (by kernel_rfl) (fun _ _ _ h => h) (Or.inl ⟨by rfl, ?_⟩) hH ?_
    rotate_left
    · intro w hSw
      go_simp
      try with_reducible rfl
    simp only [Act.put, List.getElem_toArray, List.getElem_cons_succ, List.getElem_cons_zero, List.setIfInBounds_toArray, List.set_cons_zero, List.set_cons_succ]
    refine wpAnyH_take (i := 6) (v := ?_) rfl (by kernel_rfl) (by kernel_rfl) (by kernel_rfl) (fun _ _ _ h => h) (Or.inl ⟨by rfl, ?_⟩) hH ?_
    rotate_left
    · intro w hSw
      go_simp
      try with_reducible rfl
    simp only [Act.put, List.getElem_toArray, List.getElem_cons_succ, List.getElem_cons_zero, List.setIfInBounds_toArray, List.set_cons_zero, List.set_cons_succ]
    refine wpAnyH_take (i := 8) (v := .agg cs.toArray) rfl (by kernel_rfl) (by kernel_rfl) (by kernel_rfl) (fun _ _ _ h => h) (yieldsIf_load_mid (by rfl) _ _ rfl _ _ rfl cs _ (fun _ h => h) hu rfl hi) hH ?_
    simp only [Act.put, List.getElem_toArray, List.getElem_cons_succ, List.getElem_cons_zero, List.setIfInBounds_toArray, List.set_cons_zero, List.set_cons_succ]
    refine wpAnyH_take (i := 9) (v := ?_) rfl (by kernel_rfl) (by kernel_rfl) (by kernel_rfl) (fun _ _ _ h => h) (Or.inl ⟨by rfl, ?_⟩) hH ?_
    rotate_left
    · intro w hSw
      go_simp
      try with_reducible rfl
    simp only [Act.put, List.getElem_toArray, List.getElem_cons_succ, List.getElem_cons_zero, List.setIfInBounds_toArray, List.set_cons_zero, List.set_cons_succ]
    refine wpAnyH_take (i := 10) (v := ?_) rfl (by kernel_rfl) (by kernel_rfl) (by kernel_rfl) (fun _ _ _ h => h) (Or.inl ⟨by rfl, ?_⟩) hH ?_
    rotate_left
    · intro w hSw
      go_simp
      try with_reducible rfl
    simp only [Act.put, List.getElem_toArray, List.getElem_cons_succ, List.getElem_cons_zero, List.setIfInBounds_toArray, List.set_cons_zero, List.set_cons_succ]
    refine wpAnyH_ready (rs := [7]) (by kernel_rfl) (by simp) ?_
    refine AllReadyH.cons (o := _) rfl (fun K hK => ?_) AllReadyH.nil
    rw [if_pos (by rfl)]
    go_simp
    refine (HU.out _ (H0.out.grown T2.out)).mono ?_
    rintro e w3 ⟨rfl, hg⟩
    have T3 := Lib.hid (grownBy_trans T2.out hg (fun _ e => by cases e))
    have R3 : w3.rangeAt w.heap.size 0 cs := fun j v hv => hg.cell (hH j v hv) (by simp)
    clear hg
    go_wp2_with fail
    refine hK.out _ _ R3 (fun hH => ?_)
    clear hK K
    refine wpAnyH_ready (rs := [11]) (by kernel_rfl) (by simp) ?_
    refine AllReadyH.cons (o := _) rfl (fun K hK => ?_) AllReadyH.nil
    rw [if_pos (by rfl)]
    go_simp
    refine (HV.out _ (H0.out.grown T3.out)).mono ?_
    rintro e w4 ⟨rfl, hg⟩
    have T4 := Lib.hid (grownBy_trans T3.out hg (fun _ e => by cases e))
    have R4 : w4.rangeAt w.heap.size 0 cs := fun j v hv => hg.cell (hH j v hv) (by simp)
    clear hg
    go_wp2_with fail
    refine hK.out _ _ R4 (fun hH => ?_)
    clear hK K
    refine wpAnyH_take (i := 12) (v := ?_) rfl (by kernel_rfl) (by kernel_rfl) (by kernel_rfl) (fun _ _ _ h => h) (Or.inl ⟨by rfl, ?_⟩) hH ?_
    rotate_left
    · intro w hSw
      go_simp
      try with_reducible rfl
    simp only [Act.put, List.getElem_toArray, List.getElem_cons_succ, List.getElem_cons_zero, List.setIfInBounds_toArray, List.set_cons_zero, List.set_cons_succ]
    refine wpAnyH_take (i := 13) (v := ?_) rfl (by kernel_rfl) (by kernel_rfl) (by kernel_rfl) (fun _ _ _ h => h) (Or.inl ⟨by rfl, ?_⟩) hH ?_
    rotate_left
    · intro w hSw
      go_simp
      try with_reducible rfl
    simp only [Act.put, List.getElem_toArray, List.getElem_cons_succ, List.getElem_cons_zero, List.setIfInBounds_toArray, List.set_cons_zero, List.set_cons_succ]
    refine wpAnyH_take (i := 14) (v := ?_) rfl (by kernel_rfl) (by kernel_rfl) (by kernel_rfl) (fun _ _ _ h => h) (Or.inl ⟨by rfl, ?_⟩) hH ?_
    rotate_left
    · intro w hSw
      go_simp
      try with_reducible rfl
    simp only [Act.put, List.getElem_toArray, List.getElem_cons_succ, List.getElem_cons_zero, List.setIfInBounds_toArray, List.set_cons_zero, List.set_cons_succ]
    refine wpAnyH_take (i := 15) (v := .agg cs.toArray) rfl (by kernel_rfl) (by kernel_rfl) (by kernel_rfl) (fun _ _ _ h => h) (yieldsIf_load_mid (by rfl) _ _ rfl _ _ rfl cs _ (fun _ h => h) hu rfl hi) hH ?_
    simp only [Act.put, List.getElem_toArray, List.getElem_cons_succ, List.getElem_cons_zero, List.setIfInBounds_toArray, List.set_cons_zero, List.set_cons_succ]
    refine wpAnyH_take (i := 16) (v := ?_) rfl (by kernel_rfl) (by kernel_rfl) (by kernel_rfl) (fun _ _ _ h => h) (Or.inl ⟨by rfl, ?_⟩) hH ?_
    rotate_left
    · intro w hSw
      go_simp
      try with_reducible rfl
    simp only [Act.put, List.getElem_toArray, List.getElem_cons_succ, List.getElem_cons_zero, List.setIfInBounds_toArray, List.set_cons_zero, List.set_cons_succ]
    refine wpAnyH_take (i := 18) (v := .agg cs.toArray) rfl (by kernel_rfl) (by kernel_rfl) (by kernel_rfl) (fun _ _ _ h => h) (yieldsIf_load_mid (by rfl) _ _ rfl _ _ rfl cs _ (fun _ h => h) hu rfl hi) hH ?_
    simp only [Act.put, List.getElem_toArray, List.getElem_cons_succ, List.getElem_cons_zero, List.setIfInBounds_toArray, List.set_cons_zero, List.set_cons_succ]
    refine wpAnyH_take (i := 19) (v := ?_) rfl (by kernel_rfl) (by kernel_rfl) (by kernel_rfl) (fun _ _ _ h => h) (Or.inl ⟨by rfl, ?_⟩) hH ?_
    rotate_left
    · intro w hSw
      go_simp
      try with_reducible rfl
    simp only [Act.put, List.getElem_toArray, List.getElem_cons_succ, List.getElem_cons_zero, List.setIfInBounds_toArray, List.set_cons_zero, List.set_cons_succ]
    refine wpAnyH_ready (rs := [17]) (by kernel_rfl) (by simp) ?_
    refine AllReadyH.cons (o := _) rfl (fun K hK => ?_) AllReadyH.nil
    rw [if_pos (by rfl)]
    go_simp
    refine (HX.out _ (H0.out.grown T4.out)).mono ?_
    rintro e w5 ⟨rfl, hg⟩
    have T5 := Lib.hid (grownBy_trans T4.out hg (fun _ e => by cases e))
    have R5 : w5.rangeAt w.heap.size 0 cs := fun j v hv => hg.cell (hH j v hv) (by simp)
    clear hg
    go_wp2_with fail
    refine hK.out _ _ R5 (fun hH => ?_)
    clear hK K
    refine wpAnyH_ready (rs := [20]) (by kernel_rfl) (by simp) ?_
    refine AllReadyH.cons (o := _) rfl (fun K hK => ?_) AllReadyH.nil
    rw [if_pos (by rfl)]
    go_simp
    refine (HY.out _ (H0.out.grown T5.out)).mono ?_
    rintro e w6 ⟨rfl, hg⟩
    have T6 := Lib.hid (grownBy_trans T5.out hg (fun _ e => by cases e))
    have R6 : w6.rangeAt w.heap.size 0 cs := fun j v hv => hg.cell (hH j v hv) (by simp)
    clear hg
    go_wp2_with fail
    refine hK.out _ _ R6 (fun hH => ?_)
    clear hK K
    refine wpAnyH_take (i := 21) (v := ?_) rfl (by kernel_rfl) (by kernel_rfl) (by kernel_rfl) (fun _ _ _ h => h) (Or.inl ⟨by rfl, ?_⟩) hH ?_
    rotate_left
    · intro w hSw
      go_simp
      try with_reducible rfl
    simp only [Act.put, List.getElem_toArray, List.getElem_cons_succ, List.getElem_cons_zero, List.setIfInBounds_toArray, List.set_cons_zero, List.set_cons_succ]
    refine wpAnyH_take (i := 22) (v := ?_) rfl (by kernel_rfl) (by kernel_rfl) (by kernel_rfl) (fun _ _ _ h => h) (Or.inl ⟨by rfl, ?_⟩) hH ?_
    rotate_left
    · intro w hSw
      go_simp
      try with_reducible rfl
    simp only [Act.put, List.getElem_toArray, List.getElem_cons_succ, List.getElem_cons_zero, List.setIfInBounds_toArray, List.set_cons_zero, List.set_cons_succ]
    refine wpAnyH_take (i := 23) (v := ?_) rfl (by kernel_rfl) (by kernel_rfl) (by kernel_rfl) (fun _ _ _ h => h) (Or.inl ⟨by rfl, ?_⟩) hH ?_
    rotate_left
    · intro w hSw
      go_simp
      try with_reducible rfl
    simp only [Act.put, List.getElem_toArray, List.getElem_cons_succ, List.getElem_cons_zero, List.setIfInBounds_toArray, List.set_cons_zero, List.set_cons_succ]
    refine wpAnyH_take (i := 24) (v := ?_) rfl (by kernel_rfl) (by kernel_rfl) (by kernel_rfl) (fun _ _ _ h => h) (Or.inl ⟨by rfl, ?_⟩) hH ?_
    rotate_left
    · intro w hSw
      go_simp
      try with_reducible rfl
    simp only [Act.put, List.getElem_toArray, List.getElem_cons_succ, List.getElem_cons_zero, List.setIfInBounds_toArray, List.set_cons_zero, List.set_cons_succ]
    refine wpAnyH_take (i := 26) (v := ?_) rfl (by kernel_rfl) (by kernel_rfl) (by kernel_rfl) (fun _ _ _ h => h) (Or.inl ⟨by rfl, ?_⟩) hH ?_
    rotate_left
    · intro w hSw
      go_simp
      try with_reducible rfl
    simp only [Act.put, List.getElem_toArray, List.getElem_cons_succ, List.getElem_cons_zero, List.setIfInBounds_toArray, List.set_cons_zero, List.set_cons_succ]
    refine wpAnyH_ready (rs := [25]) (by kernel_rfl) (by simp) ?_
    refine AllReadyH.cons (o := _) rfl (fun K hK => ?_) AllReadyH.nil
    rw [if_pos (by rfl)]
    go_simp
    refine (of_any _ _ _ _ _ (H0.out.grown T6.out) B0.out).mono ?_
    rintro e w7 ⟨rfl, hg⟩
    have T7 := Lib.hid (grownBy_trans T6.out hg (fun _ e => by cases e))
    have R7 : w7.rangeAt w.heap.size 0 cs := fun j v hv => hg.cell (hH j v hv) (by simp)
    clear hg
    go_wp2_with fail
    refine hK.out _ _ R7 (fun hH => ?_)
    clear hK K
    refine wpAnyH_ready (rs := [27]) (by kernel_rfl) (by simp) ?_
    refine AllReadyH.cons (o := _) rfl (fun K hK => ?_) AllReadyH.nil
    rw [if_pos (by rfl)]
    go_simp
    refine (rof_any _ _ _ _ _ (H0.out.grown T7.out) B0.out).mono ?_
    rintro e w8 ⟨rfl, hg⟩
    have T8 := Lib.hid (grownBy_trans T7.out hg (fun _ e => by cases e))
    have R8 : w8.rangeAt w.heap.size 0 cs := fun j v hv => hg.cell (hH j v hv) (by simp)
    clear hg
    go_wp2_with fail
    refine hK.out _ _ R8 (fun hH => ?_)
    clear hK K
    refine wpAnyH_take (i := 28) (v := ?_) rfl (by kernel_rfl) (by kernel_rfl) (by kernel_rfl) (fun _ _ _ h => h) (Or.inl ⟨by rfl, ?_⟩) hH ?_
    rotate_left
    · intro w hSw
      go_simp
      try with_reducible rfl
    simp only [Act.put, List.getElem_toArray, List.getElem_cons_succ, List.getElem_cons_zero, List.setIfInBounds_toArray, List.set_cons_zero, List.set_cons_succ]
    refine wpAnyH_take (i := 29) (v := ?_) rfl (by kernel_rfl) (by kernel_rfl) (by kernel_rfl) (fun _ _ _ h => h) (Or.inl ⟨by rfl, ?_⟩) hH ?_
    rotate_left
    · intro w hSw
      go_simp
      try with_reducible rfl
    simp only [Act.put, List.getElem_toArray, List.getElem_cons_succ, List.getElem_cons_zero, List.setIfInBounds_toArray, List.set_cons_zero, List.set_cons_succ]
    refine wpAnyH_take (i := 30) (v := ?_) rfl (by kernel_rfl) (by kernel_rfl) (by kernel_rfl) (fun _ _ _ h => h) (Or.inl ⟨by rfl, ?_⟩) hH ?_
    rotate_left
    · intro w hSw
      go_simp
      try with_reducible rfl
    simp only [Act.put, List.getElem_toArray, List.getElem_cons_succ, List.getElem_cons_zero, List.setIfInBounds_toArray, List.set_cons_zero, List.set_cons_succ]
    refine wpAnyH_take (i := 31) (v := ?_) rfl (by kernel_rfl) (by kernel_rfl) (by kernel_rfl) (fun _ _ _ h => h) (Or.inl ⟨by rfl, ?_⟩) hH ?_
    rotate_left
    · intro w hSw
      go_simp
      try with_reducible rfl
    simp only [Act.put, List.getElem_toArray, List.getElem_cons_succ, List.getElem_cons_zero, List.setIfInBounds_toArray, List.set_cons_zero, List.set_cons_succ]
    refine wpAnyH_take (i := 32) (v := ?_) rfl (by kernel_rfl) (by kernel_rfl) (by kernel_rfl) (fun _ _ _ h => h) (Or.inl ⟨by rfl, ?_⟩) hH ?_
    rotate_left
    · intro w hSw
      go_simp
      try with_reducible rfl
    simp only [Act.put, List.getElem_toArray, List.getElem_cons_succ, List.getElem_cons_zero, List.setIfInBounds_toArray, List.set_cons_zero, List.set_cons_succ]
    refine wpAnyH_take (i := 33) (v := ?_) rfl (by kernel_rfl) (by kernel_rfl) (by kernel_rfl) (fun _ _ _ h => h) (Or.inl ⟨by rfl, ?_⟩) hH ?_
    rotate_left
    · intro w hSw
      go_simp
      try with_reducible rfl
    simp only [Act.put, List.getElem_toArray, List.getElem_cons_succ, List.getElem_cons_zero, List.setIfInBounds_toArray, List.set_cons_zero, List.set_cons_succ]
    refine wpAnyH_take (i := 34) (v := ?_) rfl (by kernel_rfl) (by kernel_rfl) (by kernel_rfl) (fun _ _ _ h => h) (Or.inl ⟨by rfl, ?_⟩) hH ?_
    rotate_left
    · intro w hSw
      go_simp
      try with_reducible rfl
    simp only [Act.put, List.getElem_toArray, List.getElem_cons_succ, List.getElem_cons_zero, List.setIfInBounds_toArray, List.set_cons_zero, List.set_cons_succ]
    refine wpAnyH_take (i := 36) (v := ?_) rfl (by kernel_rfl) (by kernel_rfl) (by kernel_rfl) (fun _ _ _ h => h) (Or.inl ⟨by rfl, ?_⟩) hH ?_
    rotate_left
    · intro w hSw
      go_simp
      try with_reducible rfl
    simp only [Act.put, List.getElem_toArray, List.getElem_cons_succ, List.getElem_cons_zero, List.setIfInBounds_toArray, List.set_cons_zero, List.set_cons_succ]
    refine wpAnyH_take (i := 37) (v := ?_) rfl (by kernel_rfl) (by kernel_rfl) (by kernel_rfl) (fun _ _ _ h => h) (Or.inl ⟨by rfl, ?_⟩) hH ?_
    rotate_left
    · intro w hSw
      go_simp
      try with_reducible rfl
    simp only [Act.put, List.getElem_toArray, List.getElem_cons_succ, List.getElem_cons_zero, List.setIfInBounds_toArray, List.set_cons_zero, List.set_cons_succ]
    refine wpAnyH_take (i := 38) (v := ?_) rfl (by kernel_rfl) (by kernel_rfl) (by kernel_rfl) (fun _ _ _ h => h) (Or.inl ⟨by rfl, ?_⟩) hH ?_
    rotate_left
    · intro w hSw
      go_simp
      try with_reducible rfl
    simp only [Act.put, List.getElem_toArray, List.getElem_cons_succ, List.getElem_cons_zero, List.setIfInBounds_toArray, List.set_cons_zero, List.set_cons_succ]
    refine wpAnyH_take (i := 39) (v := ?_) rfl (by kernel_rfl) (by kernel_rfl) (by kernel_rfl) (fun _ _ _ h => h) (Or.inl ⟨by rfl, ?_⟩) hH ?_
    rotate_left
    · intro w hSw
      go_simp
      try with_reducible rfl
    simp only [Act.put, List.getElem_toArray, List.getElem_cons_succ, List.getElem_cons_zero, List.setIfInBounds_toArray, List.set_cons_zero, List.set_cons_succ]
    refine wpAnyH_ready (rs := [35]) (by kernel_rfl) (by simp) ?_
    refine AllReadyH.cons (o := _) rfl (fun K hK => ?_) AllReadyH.nil
    rw [if_pos (by rfl)]
    go_simp
    refine (flip_any a0 n0 c0 l0 bit m M _ (H0.out.grown T8.out) B0.out (by omega) hbit HM.out).mono ?_
    rintro e w9 ⟨g9, c9, rfl, hown, hg⟩
    have S9 := Lib.hid (Seg.own hown)
    have D9 := Lib.hid hg
    have T9 := Lib.hid (grownBy_trans T8.out hg (fun _ e => by cases e))
    have R9 : w9.rangeAt w.heap.size 0 cs := fun j v hv => hg.cell (hH j v hv) (by simp)
    clear hown hg
    go_wp2_with fail
    refine hK.out _ _ R9 (fun hH => ?_)
    clear hK K
    refine wpAnyH_ready (rs := [40]) (by kernel_rfl) (by simp) ?_
    refine AllReadyH.cons (o := _) rfl (fun K hK => ?_) AllReadyH.nil
    rw [if_pos (by rfl)]
    go_simp
    refine (rflip_any a0 n0 c0 l0 bit m M _ (H0.out.grown T9.out) B0.out (by omega) hbit).mono ?_
    rintro e w10 ⟨g10, c10, rfl, hown, hg⟩
    have S10 := Lib.hid (Seg.own hown)
    have D10 := Lib.hid hg
    have T10 := Lib.hid (grownBy_trans T9.out hg (fun _ e => by cases e))
    have R10 : w10.rangeAt w.heap.size 0 cs := fun j v hv => hg.cell (hH j v hv) (by simp)
    clear hown hg
    go_wp2_with fail
    refine hK.out _ _ R10 (fun hH => ?_)
    clear hK K
    refine wpAnyH_ready (rs := [41]) (by kernel_rfl) (by simp) ?_
    refine AllReadyH.cons (o := _) rfl (fun K hK => ?_) AllReadyH.nil
    rw [if_pos (by rfl)]
    go_simp
    refine (same_yes _ _ n0 c9 c10 _ _ (S9.out.grown D10.out) S10.out).mono ?_
    rintro e w11 ⟨rfl, mm, rfl⟩
    have R11 : (w10.drewN mm).rangeAt w.heap.size 0 cs := hH
    go_wp2_with fail
    refine hK.out _ _ R11 (fun hH => ?_)
    clear hK K
    refine wpAnyH_take (i := 42) (v := ?_) rfl (by kernel_rfl) (by kernel_rfl) (by kernel_rfl) (fun _ _ _ h => h) (Or.inl ⟨by rfl, ?_⟩) hH ?_
    rotate_left
    · intro w hSw
      go_simp
      try with_reducible rfl
    simp only [Act.put, List.getElem_toArray, List.getElem_cons_succ, List.getElem_cons_zero, List.setIfInBounds_toArray, List.set_cons_zero, List.set_cons_succ]
    refine wpAnyH_take (i := 43) (v := ?_) rfl (by kernel_rfl) (by kernel_rfl) (by kernel_rfl) (fun _ _ _ h => h) (Or.inl ⟨by rfl, ?_⟩) hH ?_
    rotate_left
    · intro w hSw
      go_simp
      try with_reducible rfl
    simp only [Act.put, List.getElem_toArray, List.getElem_cons_succ, List.getElem_cons_zero, List.setIfInBounds_toArray, List.set_cons_zero, List.set_cons_succ]
    refine wpAnyH_done (by kernel_rfl) ?_ _
    have HB := Lib.hid (Bs.below_drewN mm (below_of T10.out))
    clear hH
    go_wp2
    go_ret
    exact ⟨rfl, HB.out⟩
end Go.Proofs.Ytdkcieojfkfaiaa.Crc
