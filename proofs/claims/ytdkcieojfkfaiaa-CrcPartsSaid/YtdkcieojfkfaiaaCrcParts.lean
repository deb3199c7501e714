/-
  CrcParts: a state behind two parts; turned twice.
-/
import Derived.Test.YtdkcieojfkfaiaaCrcBehind
import Derived.Test.YtdkcieojfkfaiaaCrcOpen
namespace Go.Proofs.Ytdkcieojfkfaiaa.Crc
open Go.RowKit Bs

set_option linter.unusedSimpArgs false in
set_option maxRecDepth 100000 in
set_option maxHeartbeats 1000000 in
theorem parts_law (t : Nat → Nat) (s : Int) (a0 : Option Addr) (n0 c0 : Nat) (l0 : List Int) (cut bit mask : Int) (w : World) (ht : ∀ i, i < 256 → t i < 4294967296) (hs : 0 ≤ s ∧ s ≤ 4294967295) (h0 : Seg w a0 n0 c0 l0) (b0 : Bs.IsB l0) (hbit : bit ≤ 9223372036854775807) (hm : 0 ≤ mask ∧ mask ≤ 4294967295) :
    Calls Try.prog 6 #[.agg (tab t), .int .u32 s, .slice a0 n0 c0, .int .i64 cut, .int .i64 bit, .int .u32 mask] w fun e w' => e = .returned (.bool true) ∧ Below w.heap.size w w' := by
  by_cases hn : 300 < n0
  · go_enter Try.func6, Try.ntmps6
    go_wp2_with fail
    refine (lives_any _).mono ?_
    rintro e w1 ⟨rfl, hg1⟩
    have HG := Lib.hid (below_of (grownBy_trans (World.grownBy_alloc w _ none) hg1 (fun _ e => by cases e)))
    clear hg1
    go_wp2
    go_ret
    exact ⟨rfl, HG.out⟩
  · obtain ⟨M, rfl⟩ := Int.eq_ofNat_of_zero_le hm.1
    obtain ⟨S, rfl⟩ := Int.eq_ofNat_of_zero_le hs.1
    have m0 : (n0 : Int) ≤ 300 := by omega
    have HM : Hid (M < 4294967296) := Lib.hid (by omega)
    have HS : Hid (S < 4294967296) := Lib.hid (by omega)
    have H0 := Lib.hid h0
    have B0 := Lib.hid b0
    have HT := Lib.hid ht
    obtain ⟨cs, hcs⟩ : ∃ cs : List Value, tab t = cs.toArray := ⟨(tab t).toList, by simp⟩
    have HC := Lib.hid hcs
    have HU := Lib.hid (fun (s : Nat) (hs : s < 4294967296) (a : Option Addr) (n c : Nat) (l : List Int) (w : World) (h : Seg w a n c l) (hb : Bs.IsB l) => (hcs ▸ update_any t s a n c l w h hb hs ht : Calls Try.prog 14 #[.agg cs.toArray, .int .u32 s, .slice a n c] w fun e w' => e = .returned (.int .u32 (upd t s l)) ∧ w.grownBy w' none))
    rw [hcs]
    clear h0 b0 hn hm hs ht hcs
    go_enter Try.func6, Try.ntmps6
    go_wp2_with fail
    refine (lives_any _).mono ?_
    rintro e w1 ⟨rfl, hg1⟩
    have hR := hg1
    have T1 := Lib.hid (grownBy_trans (World.grownBy_alloc w _ none) hg1 (fun _ e => by cases e))
    have R1 : Hid (w1.rangeAt w.heap.size 0 cs) := Lib.hid (fun j v hv => by
      rw [Nat.zero_add]
      refine hg1.cell ?_ (by simp)
      rw [World.cell?_alloc_new]
      simpa using hv)
    clear hg1 hR
    go_wp2_with fail
    refine (pick_any _ _ _ (by omega) (by omega)).mono ?_
    rintro e w' ⟨rfl, rfl⟩
    have r1 := pick_range cut ((n0 : Int) + 1) (by omega)
    generalize pick cut ((n0 : Int) + 1) = k at r1
    obtain ⟨k, rfl⟩ := Int.eq_ofNat_of_zero_le r1.1
    go_wp2_with fail
    have hu := Try.underlying24
    have hi : (Try.prog.info? 24).map (·.size) = some cs.length := by
      rw [info_tab t, HC.out]
      simp
    have GD : Hid (w1.grownBy w1.drew none) := Lib.hid ⟨rfl, rfl, rfl, Nat.le_refl _, fun _ _ _ => rfl⟩
    have hr0 : w1.rangeAt w.heap.size 0 cs := R1.out
    have p0 : (k : Int) ≤ (n0 : Int) := by omega
    have p1 : (k : Int) ≤ (c0 : Int) := by have := H0.out.le; omega
    refine wp_region_held_drew (S := fun w' => w'.rangeAt w.heap.size 0 cs) (by kernel_rfl) (by simp only [World.rangeAt_drew]; exact hr0) (fun hH => ?_)
    refine wpAnyH_take (i := 0) (v := .agg cs.toArray) rfl (by kernel_rfl) (by kernel_rfl) (by kernel_rfl) (fun _ _ _ h => h) (yieldsIf_load_mid (by rfl) _ _ rfl _ _ rfl cs _ (fun _ h => h) hu rfl hi) hH ?_
    simp only [Act.put, List.getElem_toArray, List.getElem_cons_succ, List.getElem_cons_zero, List.setIfInBounds_toArray, List.set_cons_zero, List.set_cons_succ]
    refine wpAnyH_take (i := 1) (v := .agg cs.toArray) rfl (by kernel_rfl) (by kernel_rfl) (by kernel_rfl) (fun _ _ _ h => h) (yieldsIf_load_mid (by rfl) _ _ rfl _ _ rfl cs _ (fun _ h => h) hu rfl hi) hH ?_
    simp only [Act.put, List.getElem_toArray, List.getElem_cons_succ, List.getElem_cons_zero, List.setIfInBounds_toArray, List.set_cons_zero, List.set_cons_succ]
    refine wpAnyH_take (i := 2) (v := ?_) rfl (by kernel_rfl) (by kernel_rfl) (by kernel_rfl) (fun _ _ _ h => h) (Or.inl ⟨by rfl, ?_⟩) hH ?_
    rotate_left
    · intro w hSw
      go_simp
      try with_reducible rfl
    simp only [Act.put, List.getElem_toArray, List.getElem_cons_succ, List.getElem_cons_zero, List.setIfInBounds_toArray, List.set_cons_zero, List.set_cons_succ]
    refine wpAnyH_take (i := 3) (v := ?_) rfl (by kernel_rfl) (by kernel_rfl) (by kernel_rfl) (fun _ _ _ h => h) (Or.inl ⟨by rfl, ?_⟩) hH ?_
    rotate_left
    · intro w hSw
      go_simp
      try with_reducible rfl
    simp only [Act.put, List.getElem_toArray, List.getElem_cons_succ, List.getElem_cons_zero, List.setIfInBounds_toArray, List.set_cons_zero, List.set_cons_succ]
    refine wpAnyH_take (i := 4) (v := ?_) rfl (by kernel_rfl) (by kernel_rfl) (by kernel_rfl) (fun _ _ _ h => h) (Or.inl ⟨by rfl, ?_⟩) hH ?_
    rotate_left
    · intro w hSw
      go_simp
      try with_reducible rfl
    simp only [Act.put, List.getElem_toArray, List.getElem_cons_succ, List.getElem_cons_zero, List.setIfInBounds_toArray, List.set_cons_zero, List.set_cons_succ]
    refine wpAnyH_take (i := 5) (v := ?_) rfl (by kernel_rfl) (by kernel_rfl) (by kernel_rfl) (fun _ _ _ h => h) (Or.inl ⟨by rfl, ?_⟩) hH ?_
    rotate_left
    · intro w hSw
      go_simp
      try with_reducible rfl
    simp only [Act.put, List.getElem_toArray, List.getElem_cons_succ, List.getElem_cons_zero, List.setIfInBounds_toArray, List.set_cons_zero, List.set_cons_succ]
    refine wpAnyH_take (i := 7) (v := ?_) rfl (by kernel_rfl) (by kernel_rfl) (by kernel_rfl) (fun _ _ _ h => h) (Or.inl ⟨by rfl, ?_⟩) hH ?_
    rotate_left
    · intro w hSw
      go_simp
      try with_reducible rfl
    simp only [Act.put, List.getElem_toArray, List.getElem_cons_succ, List.getElem_cons_zero, List.setIfInBounds_toArray, List.set_cons_zero, List.set_cons_succ]
    refine wpAnyH_take (i := 8) (v := ?_) rfl (by kernel_rfl) (by kernel_rfl) (by kernel_rfl) (fun _ _ _ h => h) (Or.inl ⟨by rfl, ?_⟩) hH ?_
    rotate_left
    · intro w hSw
      go_simp
      try with_reducible rfl
    simp only [Act.put, List.getElem_toArray, List.getElem_cons_succ, List.getElem_cons_zero, List.setIfInBounds_toArray, List.set_cons_zero, List.set_cons_succ]
    refine wpAnyH_take (i := 9) (v := ?_) rfl (by kernel_rfl) (by kernel_rfl) (by kernel_rfl) (fun _ _ _ h => h) (Or.inl ⟨by rfl, ?_⟩) hH ?_
    rotate_left
    · intro w hSw
      go_simp
      try with_reducible rfl
    simp only [Act.put, List.getElem_toArray, List.getElem_cons_succ, List.getElem_cons_zero, List.setIfInBounds_toArray, List.set_cons_zero, List.set_cons_succ]
    have H1 := Lib.hid (H0.out.grown (grownBy_trans T1.out GD.out (fun _ e => by cases e)))
    have hx : IsB (l0.take k) := fun x hx => B0.out x (List.mem_of_mem_take hx)
    have hy : IsB (l0.drop k) := fun x hx => B0.out x (List.mem_of_mem_drop hx)
    have hU1 : upd t S (l0.take k) < 4294967296 := upd_lt t HT.out _ _ hx HS.out
    have hA : Seg w1.drew (if c0 = k then a0 else Option.map (fun x => x.add k) a0) (n0 - k) (c0 - k) (l0.drop k) := H1.out.from_ (by omega)
    generalize (if c0 = k then a0 else Option.map (fun x => x.add k) a0) = aa at hA ⊢
    have HA := Lib.hid hA
    clear hA
    have HE := Lib.hid (show upd t (upd t S (l0.take k)) (l0.drop k) = upd t S l0 by rw [← upd_append, List.take_append_drop])
    refine wpAnyH_ready (rs := [6]) (by kernel_rfl) (by simp) ?_
    refine AllReadyH.cons (o := _) rfl (fun K hK => ?_) AllReadyH.nil
    rw [if_pos (by rfl)]
    go_simp
    refine (HU.out S HS.out a0 k c0 (l0.take k) _ (H1.out.take (by omega)) hx).mono ?_
    rintro e w2 ⟨rfl, hg⟩
    have G2 := Lib.hid hg
    have R2 : w2.rangeAt w.heap.size 0 cs := fun j v hv => hg.cell (hH j v hv) (by simp)
    clear hg
    go_wp2_with fail
    refine hK.out _ _ R2 (fun hH => ?_)
    clear hK K
    refine wpAnyH_ready (rs := [10]) (by kernel_rfl) (by simp) ?_
    refine AllReadyH.cons (o := _) rfl (fun K hK => ?_) AllReadyH.nil
    rw [if_pos (by rfl)]
    go_simp
    refine (HU.out _ hU1 _ _ _ (l0.drop k) _ (HA.out.grown G2.out) hy).mono ?_
    rw [HE.out]
    rintro e w3 ⟨rfl, hg⟩
    have G3 := Lib.hid (grownBy_trans G2.out hg (fun _ e => by cases e))
    have R3 : w3.rangeAt w.heap.size 0 cs := fun j v hv => hg.cell (hH j v hv) (by simp)
    clear hg
    go_wp2_with fail
    refine hK.out _ _ R3 (fun hH => ?_)
    clear hK K
    refine wpAnyH_take (i := 11) (v := ?_) rfl (by kernel_rfl) (by kernel_rfl) (by kernel_rfl) (fun _ _ _ h => h) (Or.inl ⟨by rfl, ?_⟩) hH ?_
    rotate_left
    · intro w hSw
      go_simp
      try with_reducible rfl
    simp only [Act.put, List.getElem_toArray, List.getElem_cons_succ, List.getElem_cons_zero, List.setIfInBounds_toArray, List.set_cons_zero, List.set_cons_succ]
    refine wpAnyH_done (by kernel_rfl) ?_ _
    have R4 := Lib.hid hH
    have T4 := Lib.hid (grownBy_trans (grownBy_trans T1.out GD.out (fun _ e => by cases e)) G3.out (fun _ e => by cases e))
    clear hH hr0 hx hy
    have hq : ((upd t S l0 : Int) == (upd t S l0 : Int)) = true := beq_self_eq_true _
    go_wp2_with (first
      | (refine wpList_load_mid rfl _ _ rfl w.heap.size 0 rfl cs _ R4.out hu rfl hi ?_)
      | fail)
    refine (HU.out S HS.out a0 n0 c0 l0 _ (H0.out.grown T4.out) B0.out).mono ?_
    rintro e w4 ⟨rfl, hg⟩
    have T5 := Lib.hid (grownBy_trans T4.out hg (fun _ e => by cases e))
    clear hg
    generalize upd t S l0 = z at hq
    go_wp2_with fail
    refine (flip_any a0 n0 c0 l0 bit 32 M w4 (H0.out.grown T5.out) B0.out (by omega) hbit HM.out).mono ?_
    rintro e w5 ⟨g5, c5, rfl, hown, hg⟩
    have S5 := Lib.hid (Seg.own hown)
    have T6 := Lib.hid (grownBy_trans T5.out hg (fun _ e => by cases e))
    have B5 := Lib.hid (flip_isB l0 bit 32 M B0.out)
    have HF := Lib.hid (flip_twice l0 bit 32 M B0.out)
    clear hown hg
    go_wp2_with fail
    refine (flip_any _ n0 c5 (flip l0 bit 32 M) bit 32 M w5 S5.out B5.out (by omega) hbit HM.out).mono ?_
    rw [HF.out]
    rintro e w6 ⟨g6, c6, rfl, hown, hg⟩
    have S6 := Lib.hid (Seg.own hown)
    have T7 := Lib.hid (grownBy_trans T6.out hg (fun _ e => by cases e))
    clear hown hg
    go_wp2_with fail
    refine (same_yes _ _ n0 c6 c0 l0 w6 S6.out (H0.out.grown T7.out)).mono ?_
    rintro e w7 ⟨rfl, mm, rfl⟩
    have HB := Lib.hid (Bs.below_drewN mm (below_of T7.out))
    go_wp2
    go_ret
    exact ⟨rfl, HB.out⟩
end Go.Proofs.Ytdkcieojfkfaiaa.Crc
