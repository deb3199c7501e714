/-
  PacksBack: what was packed is got; what is got is packed the same.
-/
import Derived.Test.YtpjiadoicpfhgaaPkLives
namespace Go.Proofs.Ytpjiadoicpfhgaa.Pk
open Go.RowKit Bs Dv

set_option maxRecDepth 100000 in
set_option maxHeartbeats 2000000 in
theorem back_any (a0 : Option Addr) (n0 c0 : Nat) (l0 : List Int) (v : Int) (a2 : Option Addr) (n2 c2 : Nat) (l2 : List Int) (cnt : Int) (w : World) (s0 : Us.Seg w a0 n0 c0 l0) (u0 : IsU l0) (s2 : Seg w a2 n2 c2 l2) (b2 : IsB l2) :
    Calls Try.prog 5 #[.slice a0 n0 c0, .int .i64 v, .slice a2 n2 c2, .int .i64 cnt] w fun e w' => e = .returned (.bool true) ∧ Below w.heap.size w w' := by
  have L0 := s0.len
  have S0 := Lib.hid s0
  have S2 := Lib.hid s2
  have U0 := Lib.hid u0
  by_cases hg : 100 < n0 ∨ 100 < n2 ∨ 1000 < cnt
  · have hg2 : (100 : Int) < n0 ∨ ((n0 : Int) ≤ 100 ∧ (100 : Int) < n2) ∨ ((n0 : Int) ≤ 100 ∧ (n2 : Int) ≤ 100 ∧ 1000 < cnt) := by omega
    clear hg L0 s0 s2 u0 b2
    rcases hg2 with h1 | ⟨h1, h2⟩ | ⟨h1, h2, h3⟩
    all_goals
      go_enter Try.func5, Try.ntmps5
      go_wp2_with fail
      refine (lives_any _).mono ?_
      rintro e w1 ⟨rfl, hg1⟩
      have T1 := Lib.hid hg1
      clear hg1
      dsimp only
      go_wp2
      go_ret
      exact ⟨rfl, below_of T1.out⟩
  · have g1 : (n0 : Int) ≤ 100 := by omega
    have g2 : (n2 : Int) ≤ 100 := by omega
    have g3 : cnt ≤ 1000 := by omega
    clear hg
    have hf2 : Fit 8 l2 := fit_isB b2
    -- the width of l0, and what Put answers of it
    obtain ⟨W, hW⟩ : ∃ W, wid l0 = W := ⟨_, rfl⟩
    have hWb := wid_bd u0
    have hc0 : canB l0.length (wid l0 : Int) = true := (canB_iff _ _).2 ⟨by omega, by omega, by omega, by omega⟩
    have hok1 : (putR l0 (wid l0 : Int)).1 = 0 := (put_ok _ _).2 ⟨hc0, by omega⟩
    have hgp1 := get_put l0 _ u0 hok1
    have hsz1 := put_size l0 _ hok1
    have hfb1 := put_isB l0 (wid l0 : Int)
    have HW := Lib.hid (fun W' (hs : Us.Seg W' a0 n0 c0 l0) => width_any a0 n0 c0 l0 W' hs u0)
    rw [hW] at hWb hok1 hgp1 hsz1 hfb1 HW
    obtain ⟨⟨E1, B1⟩, hR1⟩ : ∃ r, putR l0 (W : Int) = r := ⟨_, rfl⟩
    rw [hR1] at hok1 hgp1 hsz1 hfb1
    obtain rfl : E1 = 0 := hok1
    dsimp only at hgp1 hsz1 hfb1
    obtain ⟨m1, hm1⟩ : ∃ m, B1.length = m := ⟨_, rfl⟩
    have HP1 := Lib.hid (put_form hR1 hm1 u0 a0 n0 c0)
    have HG1 := Lib.hid (fun a k W' hs => get_form (m := n0) hgp1 L0 hfb1 a m1 k W' hs)
    rw [L0] at hgp1 hsz1 HG1
    have hm1b : m1 ≤ 524288 := by
      have := sizeF_bd n0 W; omega
    have HZ1 : Hid (∀ W', Calls Try.prog 13 #[.int .i64 n0, .int .i64 W] W' fun e w' => e = .returned (.int .i64 (m1 : Int)) ∧ W' = w') := Lib.hid (fun W' => by
      have h := size_any n0 W W'; rwa [← hsz1, hm1] at h)
    -- Put in the width that is asked
    obtain ⟨⟨E2, B2⟩, hR2⟩ : ∃ r, putR l0 v = r := ⟨_, rfl⟩
    have hok2 := put_ok l0 v
    have hgp2 := get_put l0 v u0
    have hfb2 := put_isB l0 v
    rw [hR2] at hok2 hgp2 hfb2
    dsimp only at hok2 hgp2 hfb2
    obtain ⟨m2, hm2⟩ : ∃ m, B2.length = m := ⟨_, rfl⟩
    have HP2 := Lib.hid (put_form hR2 hm2 u0 a0 n0 c0)
    rw [hW] at hok2
    have hE2 : (E2 = 0 ∧ (W : Int) ≤ v ∧ v ≤ 64) ∨ (E2 ≠ 0 ∧ v < (W : Int)) ∨ (E2 ≠ 0 ∧ (W : Int) ≤ v ∧ 64 < v) := by
      by_cases h : E2 = 0
      · have h2 := hok2.1 h
        have h3 := (canB_iff _ _).1 h2.1
        exact .inl ⟨h, h2.2, by omega⟩
      · have h2 : ¬ ((W : Int) ≤ v ∧ v ≤ 64) := fun k => h (hok2.2 ⟨(canB_iff _ _).2 ⟨by omega, by omega, by omega, by omega⟩, k.1⟩)
        by_cases h3 : (W : Int) ≤ v
        · exact .inr (.inr ⟨h, h3, by omega⟩)
        · exact .inr (.inl ⟨h, by omega⟩)
    have HG2 : Hid (E2 = 0 → ∀ a k W', Seg W' a m2 k B2 → Calls Try.prog 10 #[.slice a m2 k, .int .i64 n0, .int .i64 v] W' (GetF W' n0 0 l0)) := Lib.hid (fun h a k W' hs => by
      have h1 := hgp2 h
      rw [L0] at h1
      exact get_form h1 L0 hfb2 a m2 k W' hs)
    -- Get of the bytes
    obtain ⟨⟨E3, L3⟩, hR3⟩ : ∃ r, getR l2 cnt v = r := ⟨_, rfl⟩
    obtain ⟨m3, hm3⟩ : ∃ m, L3.length = m := ⟨_, rfl⟩
    have HG3 := Lib.hid (get_form hR3 hm3 hf2 a2 n2 c2)
    have hno3 := get_no l2 cnt v
    have hpg3 := put_get l2 cnt v hf2
    rw [hR3] at hno3 hpg3
    dsimp only at hno3 hpg3
    have L2 := s2.len
    have HP3 : Hid (E3 = 0 → (∀ a k W', Us.Seg W' a m3 k L3 → Calls Try.prog 9 #[.slice a m3 k, .int .i64 v] W' (PutF W' n2 0 l2)) ∧ (∀ a k W', Us.Seg W' a m3 k L3 → ∃ W3 : Nat, (W3 : Int) ≤ v ∧ Calls Try.prog 12 #[.slice a m3 k] W' fun e w' => e = .returned (.int .i64 (W3 : Int)) ∧ W' = w') ∧ (m3 : Int) = cnt) := Lib.hid (fun h => by
      obtain ⟨k1, k2, k3, k4⟩ := hpg3 h
      exact ⟨fun a k W' hs => put_form k1 L2 k4 a m3 k W' hs, fun a k W' hs => ⟨wid L3, k3, width_any a m3 k L3 W' hs k4⟩, by rw [← hm3]; exact k2⟩)
    have hE3 : E3 = 0 ∨ (E3 ≠ 0 ∧ m3 = 0) := by
      by_cases h : E3 = 0
      · exact .inl h
      · exact .inr ⟨h, by rw [← hm3, hno3 h]; rfl⟩
    clear hR1 hR2 hR3 hm1 hm2 hm3 hok2 hgp2 hno3 hpg3 hgp1 hsz1 hfb1 hfb2 hc0 hf2 hW s0 s2 u0 b2 L0 L2
    have HE3 := Lib.hid hE3
    clear hE3
    go_enter Try.func5, Try.ntmps5
    go_wp2_with fail
    refine (lives_any _).mono ?_
    rintro e w1 ⟨rfl, hg1⟩
    have T1 := Lib.hid hg1
    clear hg1
    dsimp only
    go_wp2_with fail
    refine (HW.out _ (useg_stay S0.out T1.out)).mono ?_
    rintro e w1 ⟨rfl, rfl⟩
    dsimp only
    go_wp2_with fail
    refine (HP1.out _ (useg_stay S0.out T1.out)).mono ?_
    rintro e w2 ⟨x1, k1, rfl, hs1, hT2⟩
    have T2 := Lib.hid (Turn.then T1.out hT2)
    have X1 := Lib.hid hs1
    clear hT2 hs1
    dsimp only
    go_wp2_with fail
    refine (HG1.out _ _ _ X1.out).mono ?_
    rintro e w3 ⟨y1, k2, rfl, hs2, hT3⟩
    have T3 := Lib.hid (Turn.then T2.out hT3)
    have Y1 := Lib.hid hs2
    clear hT3 hs2
    dsimp only
    go_wp2_with fail
    refine (usame_form _ _ _ _ _ _ _ _ w3 Y1.out (useg_stay S0.out T3.out) true (Us.sameB_yes rfl)).mono ?_
    rintro e w4 ⟨rfl, hT4⟩
    have T4 := Lib.hid (Turn.then T3.out hT4)
    clear hT4
    dsimp only
    go_wp2_with fail
    refine (HZ1.out _).mono ?_
    rintro e w4 ⟨rfl, rfl⟩
    have m1e : ((m1 : Int) != (m1 : Int)) = false := bne_self_eq_false _
    dsimp only
    go_wp2_with fail
    refine (HP2.out _ (useg_stay S0.out T4.out)).mono ?_
    rintro e w5 ⟨x2, k3, rfl, hs5, hT5⟩
    have T5 := Lib.hid (Turn.then T4.out hT5)
    have X2 := Lib.hid hs5
    clear hT5 hs5
    dsimp only
    rcases hE2 with ⟨rfl, q1, q2⟩ | ⟨q0, q1⟩ | ⟨q0, q1, q2⟩
    · go_wp2_with fail
      refine (HG2.out (by trivial) _ _ _ X2.out).mono ?_
      rintro e w6 ⟨y2, k6, rfl, hs6, hT6⟩
      have T6 := Lib.hid (Turn.then T5.out hT6)
      have Y2 := Lib.hid hs6
      clear hT6 hs6
      dsimp only
      go_wp2_with fail
      refine (usame_form _ _ _ _ _ _ _ _ w6 Y2.out (useg_stay S0.out T6.out) true (Us.sameB_yes rfl)).mono ?_
      rintro e w7 ⟨rfl, hT7⟩
      have T7 := Lib.hid (Turn.then T6.out hT7)
      clear hT7
      dsimp only
      go_wp2_with fail
      refine (HG3.out _ (seg_stay S2.out T7.out)).mono ?_
      rintro e w8 ⟨y3, k8, rfl, hs8, hT8⟩
      have T8 := Lib.hid (Turn.then T7.out hT8)
      have Y3 := Lib.hid hs8
      clear hT8 hs8
      dsimp only
      rcases HE3.out with rfl | ⟨n3, rfl⟩
      · obtain ⟨P3, V3, M3⟩ := HP3.out (by trivial)
        have HP3a := Lib.hid P3
        have m3e : ((m3 : Int) == cnt) = true := beq_iff_eq.2 M3
        have HV3 := Lib.hid V3
        clear P3 V3 M3
        go_wp2_with fail
        refine (HP3a.out _ _ _ Y3.out).mono ?_
        rintro e w9 ⟨x9, k9, rfl, hs9, hT9⟩
        have T9 := Lib.hid (Turn.then T8.out hT9)
        have X9 := Lib.hid hs9
        have Y9 := Lib.hid (useg_stay Y3.out hT9)
        clear hT9 hs9
        dsimp only
        go_wp2_with fail
        refine (same_form _ _ _ _ _ _ _ _ w9 X9.out (seg_stay S2.out T9.out) true (sameB_yes rfl)).mono ?_
        rintro e wa ⟨rfl, hTa⟩
        have Ta := Lib.hid (Turn.then T9.out hTa)
        obtain ⟨W3, hW3, HW3⟩ := HV3.out _ _ _ (useg_stay Y9.out hTa)
        have HW3a := Lib.hid HW3
        clear hTa HW3
        dsimp only
        go_wp2_with fail
        refine HW3a.out.mono ?_
        rintro e wb ⟨rfl, rfl⟩
        dsimp only
        go_wp2
        go_ret
        exact ⟨rfl, below_of Ta.out⟩
      · have n3a : (E3 == 0) = false := beq_eq_false_iff_ne.2 n3
        have n3b : (E3 != 0) = true := bne_iff_ne.2 n3
        clear n3
        go_wp2
        go_ret
        exact ⟨rfl, below_of T8.out⟩
    · have n2a : (E2 == 0) = false := beq_eq_false_iff_ne.2 q0
      have n2b : (E2 != 0) = true := bne_iff_ne.2 q0
      clear q0
      go_wp2_with fail
      refine (HG3.out _ (seg_stay S2.out T5.out)).mono ?_
      rintro e w8 ⟨y3, k8, rfl, hs8, hT8⟩
      have T8 := Lib.hid (Turn.then T5.out hT8)
      have Y3 := Lib.hid hs8
      clear hT8 hs8
      dsimp only
      rcases HE3.out with rfl | ⟨n3, rfl⟩
      · obtain ⟨P3, V3, M3⟩ := HP3.out (by trivial)
        have HP3a := Lib.hid P3
        have m3e : ((m3 : Int) == cnt) = true := beq_iff_eq.2 M3
        have HV3 := Lib.hid V3
        clear P3 V3 M3
        go_wp2_with fail
        refine (HP3a.out _ _ _ Y3.out).mono ?_
        rintro e w9 ⟨x9, k9, rfl, hs9, hT9⟩
        have T9 := Lib.hid (Turn.then T8.out hT9)
        have X9 := Lib.hid hs9
        have Y9 := Lib.hid (useg_stay Y3.out hT9)
        clear hT9 hs9
        dsimp only
        go_wp2_with fail
        refine (same_form _ _ _ _ _ _ _ _ w9 X9.out (seg_stay S2.out T9.out) true (sameB_yes rfl)).mono ?_
        rintro e wa ⟨rfl, hTa⟩
        have Ta := Lib.hid (Turn.then T9.out hTa)
        obtain ⟨W3, hW3, HW3⟩ := HV3.out _ _ _ (useg_stay Y9.out hTa)
        have HW3a := Lib.hid HW3
        clear hTa HW3
        dsimp only
        go_wp2_with fail
        refine HW3a.out.mono ?_
        rintro e wb ⟨rfl, rfl⟩
        dsimp only
        go_wp2
        go_ret
        exact ⟨rfl, below_of Ta.out⟩
      · have n3a : (E3 == 0) = false := beq_eq_false_iff_ne.2 n3
        have n3b : (E3 != 0) = true := bne_iff_ne.2 n3
        clear n3
        go_wp2
        go_ret
        exact ⟨rfl, below_of T8.out⟩
    · have n2a : (E2 == 0) = false := beq_eq_false_iff_ne.2 q0
      have n2b : (E2 != 0) = true := bne_iff_ne.2 q0
      clear q0
      go_wp2_with fail
      refine (HG3.out _ (seg_stay S2.out T5.out)).mono ?_
      rintro e w8 ⟨y3, k8, rfl, hs8, hT8⟩
      have T8 := Lib.hid (Turn.then T5.out hT8)
      have Y3 := Lib.hid hs8
      clear hT8 hs8
      dsimp only
      rcases HE3.out with rfl | ⟨n3, rfl⟩
      · obtain ⟨P3, V3, M3⟩ := HP3.out (by trivial)
        have HP3a := Lib.hid P3
        have m3e : ((m3 : Int) == cnt) = true := beq_iff_eq.2 M3
        have HV3 := Lib.hid V3
        clear P3 V3 M3
        go_wp2_with fail
        refine (HP3a.out _ _ _ Y3.out).mono ?_
        rintro e w9 ⟨x9, k9, rfl, hs9, hT9⟩
        have T9 := Lib.hid (Turn.then T8.out hT9)
        have X9 := Lib.hid hs9
        have Y9 := Lib.hid (useg_stay Y3.out hT9)
        clear hT9 hs9
        dsimp only
        go_wp2_with fail
        refine (same_form _ _ _ _ _ _ _ _ w9 X9.out (seg_stay S2.out T9.out) true (sameB_yes rfl)).mono ?_
        rintro e wa ⟨rfl, hTa⟩
        have Ta := Lib.hid (Turn.then T9.out hTa)
        obtain ⟨W3, hW3, HW3⟩ := HV3.out _ _ _ (useg_stay Y9.out hTa)
        have HW3a := Lib.hid HW3
        clear hTa HW3
        dsimp only
        go_wp2_with fail
        refine HW3a.out.mono ?_
        rintro e wb ⟨rfl, rfl⟩
        dsimp only
        go_wp2
        go_ret
        exact ⟨rfl, below_of Ta.out⟩
      · have n3a : (E3 == 0) = false := beq_eq_false_iff_ne.2 n3
        have n3b : (E3 != 0) = true := bne_iff_ne.2 n3
        clear n3
        go_wp2
        go_ret
        exact ⟨rfl, below_of T8.out⟩
end Go.Proofs.Ytpjiadoicpfhgaa.Pk
