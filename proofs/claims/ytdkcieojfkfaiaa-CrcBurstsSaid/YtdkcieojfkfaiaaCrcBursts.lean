/-
  CrcBursts: bits turned within 32 side by side are told.
-/
import Derived.Test.YtdkcieojfkfaiaaCrcBehind
namespace Go.Proofs.Ytdkcieojfkfaiaa.Crc
open Go.RowKit Bs Ref1

set_option maxRecDepth 100000 in
set_option maxHeartbeats 1000000 in
theorem bursts_law (a0 : Option Addr) (n0 c0 : Nat) (l0 : List Int) (bit m mask : Int) (w : World) (h0 : Seg w a0 n0 c0 l0) (b0 : Bs.IsB l0) (hm : 0 ≤ mask ∧ mask ≤ 4294967295) :
    Calls Try.prog 5 #[.slice a0 n0 c0, .int .i64 bit, .int .i64 m, .int .u32 mask] w fun e w' => e = .returned (.bool true) ∧ Below w.heap.size w w' := by
  by_cases hn : 300 < n0
  · go_enter Try.func5, Try.ntmps5
    go_wp2_with fail
    refine (lives_any w).mono ?_
    rintro e w1 ⟨rfl, hg1⟩
    have HG := Lib.hid (below_of hg1)
    clear hg1
    go_wp2
    go_ret
    exact ⟨rfl, HG.out⟩
  · obtain ⟨M, rfl⟩ := Int.eq_ofNat_of_zero_le hm.1
    have m0 : (n0 : Int) ≤ 300 := by omega
    have hM : M < 4294967296 := by omega
    have HM := Lib.hid hM
    have H0 := Lib.hid h0
    have B0 := Lib.hid b0
    clear h0 b0 hn hM hm
    go_enter Try.func5, Try.ntmps5
    go_wp2_with fail
    refine (lives_any w).mono ?_
    rintro e w1 ⟨rfl, hg1⟩
    have T1 := Lib.hid hg1
    clear hg1
    go_wp2_with fail
    refine (own_any a0 n0 c0 l0 w1 (H0.out.grown T1.out) (by omega)).mono ?_
    rintro e w2 ⟨g2, c2, rfl, hown, hg⟩
    have O2 := Lib.hid hown
    have G2 := Lib.hid hg
    clear hown hg
    go_wp2_with fail
    refine (of_any a0 n0 c0 l0 w2 ((H0.out.grown T1.out).grown G2.out) B0.out).mono ?_
    rintro e w3 ⟨rfl, hg⟩
    have G3 := Lib.hid hg
    clear hg
    go_wp2_with fail
    rw [wrap_crc l0 B0.out]
    refine (rput4_any w1.heap.size _ n0 l0 l0 w3 (O2.out.kept G3.out (.inr (by simp [Value.ownBlock]))) (Nat.le_trans G2.out.size G3.out.size) B0.out (by omega)).mono ?_
    rintro e w4 h4
    obtain ⟨g4, c4, rfl, S4, hg⟩ := own_put G2.out G3.out h4
    have S4 := Lib.hid S4
    have T4 := Lib.hid (grownBy_trans T1.out hg (fun _ e => by cases e))
    clear h4 hg
    go_wp2_with fail
    refine (pick_any _ _ _ (by omega) (by omega)).mono ?_
    rintro e w' ⟨rfl, rfl⟩
    go_wp2_with fail
    refine (pick_any _ _ _ (by omega) (by omega)).mono ?_
    rintro e w' ⟨rfl, rfl⟩
    have r1 := pick_range bit (8 * ((n0 : Int) + 4)) (by omega)
    have r2 := pick_range m 33 (by omega)
    have HBG := Lib.hid (burst_good l0 (Oct.putB 4 (crc l0 : Int)) _ (pick bit (8 * ((n0 : Int) + 4))) (pick m 33) M B0.out (Oct.putB_isB 4 _) (Oct.putB_length 4 _) (num_putB _ (crc_lt l0 B0.out)) (by rw [List.length_append, Oct.putB_length, H0.out.len]; omega) rfl)
    generalize pick bit (8 * ((n0 : Int) + 4)) = bi at r1 HBG
    generalize pick m 33 = ni at r2 HBG
    go_wp2_with fail
    refine (flip_any _ (n0 + 4) c4 (behindC l0) bi ni M w4 S4.out (behindC_isB l0 B0.out) (by omega) (by omega) HM.out).mono ?_
    rintro e w5 ⟨g5, c5, rfl, hown, hg⟩
    have S5 := Lib.hid (Seg.own hown)
    have D5 := Lib.hid hg
    have T5 := Lib.hid (grownBy_trans T4.out hg (fun _ e => by cases e))
    have BX := Lib.hid (flip_isB (behindC l0) bi ni M (behindC_isB l0 B0.out))
    have LX := Lib.hid (show (flip (behindC l0) bi ni M).length = n0 + 4 by rw [flip_length, behindC_length, H0.out.len])
    have HBG : Hid (crc ((flip (behindC l0) bi ni M).take n0) = num ((flip (behindC l0) bi ni M).drop n0) ↔ flip (behindC l0) bi ni M = behindC l0) := by
      have := HBG.out
      rw [H0.out.len] at this
      exact this
    clear hown hg
    generalize flip (behindC l0) bi ni M = X at S5 BX LX HBG
    have q5 : n0 + 4 ≤ c5 := S5.out.le
    have q6 : n0 < c5 := by omega
    have q7 : (((n0 + 4 : Nat) : Int) != ((n0 + 4 : Nat) : Int)) = false := by simp
    go_wp2_with fail
    have p5 : (n0 : Int) ≤ (c5 : Int) := by omega
    have p6 : (n0 : Int) ≤ (n0 : Int) + 4 := by omega
    have GD : Hid (w5.grownBy w5.drew none) := Lib.hid ⟨rfl, rfl, rfl, Nat.le_refl _, fun _ _ _ => rfl⟩
    have SA := Lib.hid ((S5.out.take (show n0 ≤ n0 + 4 by omega)).grown GD.out)
    have hsb := (S5.out.drop (show n0 ≤ n0 + 4 by omega)).grown GD.out
    rw [Nat.zero_add, Nat.add_sub_cancel_left] at hsb
    have SB := Lib.hid hsb
    clear hsb
    have EB := Lib.hid (num_ofB (X.drop n0) (fun x hx => BX.out x (List.mem_of_mem_drop hx)))
    have hgood : (IntKind.u64.wrap (crc (X.take n0) : Int) == Oct.ofB (X.drop n0)) = sameB X (behindC l0) := by
      rw [wrap_crc _ (fun x hx => BX.out x (List.mem_of_mem_take hx)), ← EB.out]
      by_cases e : X = behindC l0
      · rw [sameB_yes e, HBG.out.2 e]
        exact beq_self_eq_true _
      · rw [sameB_no e]
        refine beq_eq_false_iff_ne.2 fun h => e (HBG.out.1 ?_)
        omega
    have S5a := Lib.hid (S5.out.grown GD.out)
    have S4a := Lib.hid (((S4.out.grown D5.out)).grown GD.out)
    obtain ⟨z, hz⟩ : ∃ z, sameB X (behindC l0) = z := ⟨_, rfl⟩
    rw [hz] at hgood
    have HZ := Lib.hid hz
    clear hz
    have hzz : (z == z) = true := beq_self_eq_true _
    have CA : Hid (Bs.IsB (X.take n0)) := fun x hx => BX.out x (List.mem_of_mem_take hx)
    have CB : Hid (Oct.IsB (X.drop n0)) := fun x hx => BX.out x (List.mem_of_mem_drop hx)
    go_region_held3 (fun _ => True) (trivial)
      (first
        | (go_at_call 12; (with_reducible refine (of_any _ _ _ (X.take n0) _ SA.out CA.out).mono ?_); rintro e w6 ⟨rfl, hg6⟩; have G6 := Lib.hid hg6; have SB6 := Lib.hid (SB.out.grown hg6); clear hg6)
        | (go_at_call 24; (with_reducible refine (Ref1.rof_any _ _ _ _ (X.drop n0) _ SB6.out CB.out (by omega)).mono ?_); rintro e w' ⟨rfl, rfl⟩)
        | fail)
    go_wp2_with fail
    refine (same_any _ _ _ _ _ _ X (behindC l0) w6 (S5a.out.grown G6.out) (S4a.out.grown G6.out)).mono ?_
    rintro e w7 ⟨rfl, mm, rfl⟩
    rw [HZ.out]
    have hg := below_of (grownBy_trans (grownBy_trans T5.out GD.out (fun _ e => by cases e)) G6.out (fun _ e => by cases e))
    have HF := Lib.hid (Bs.below_drewN mm hg)
    clear hg
    go_wp2
    go_ret
    exact ⟨rfl, HF.out⟩
end Go.Proofs.Ytdkcieojfkfaiaa.Crc
