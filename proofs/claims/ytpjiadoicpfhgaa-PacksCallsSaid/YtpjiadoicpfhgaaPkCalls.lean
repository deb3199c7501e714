/-
  PacksCalls: numbers are packed and got as the document says.
-/
import Derived.Test.YtpjiadoicpfhgaaPkLawEach
namespace Go.Proofs.Ytpjiadoicpfhgaa.Pk
open Go.RowKit Bs Dv

theorem rput_form {l : List Int} {v E : Int} {B : List Int} {m : Nat} (hR : putR l v = (E, B)) (hm : B.length = m) (hu : IsU l) (a : Option Addr) (n c : Nat) (W : World) (hs : Us.Seg W a n c l) :
    Calls Try.prog 14 #[.slice a n c, .int .i64 v] W (PutF W m E B) :=
  (rput_any a n c l v W hs hu).mono fun e w' h => by
    rw [hR] at h
    obtain ⟨a', k, he, h1, h2, _⟩ := h
    subst hm
    exact ⟨a', k, he, h1, turn_of h2⟩
theorem rget_form {l : List Int} {n v E : Int} {B : List Int} {m : Nat} (hR : getR l n v = (E, B)) (hm : B.length = m) (hb : Fit 8 l) (a : Option Addr) (len c : Nat) (W : World) (hs : Seg W a len c l) :
    Calls Try.prog 15 #[.slice a len c, .int .i64 n, .int .i64 v] W (GetF W m E B) :=
  (rget_any a len c l n v W hs hb).mono fun e w' h => by
    rw [hR] at h
    obtain ⟨a', k, he, h1, h2⟩ := h
    subst hm
    exact ⟨a', k, he, h1, turn_of h2⟩
theorem tell_form {l : List Int} {n v E : Int} {B : List Int} {m : Nat} (hR : getR l n v = (E, B)) (hm : B.length = m) (hb : Fit 8 l) (a : Option Addr) (len c : Nat) (W : World) (hs : Seg W a len c l) :
    Calls Try.prog 16 #[.slice a len c, .int .i64 n, .int .i64 v] W (TellX W m B) := by
  have h := tell_any a len c l n v W hs hb
  rw [hR] at h
  subst hm
  exact h

set_option maxRecDepth 100000 in
set_option maxHeartbeats 2000000 in
theorem calls_any (a0 : Option Addr) (n0 c0 : Nat) (l0 : List Int) (v : Int) (a2 : Option Addr) (n2 c2 : Nat) (l2 : List Int) (cnt : Int) (w : World) (s0 : Us.Seg w a0 n0 c0 l0) (u0 : IsU l0) (s2 : Seg w a2 n2 c2 l2) (b2 : IsB l2) :
    Calls Try.prog 4 #[.slice a0 n0 c0, .int .i64 v, .slice a2 n2 c2, .int .i64 cnt] w fun e w' => e = .returned (.bool true) ∧ Below w.heap.size w w' := by
  have S0 := Lib.hid s0
  have S2 := Lib.hid s2
  by_cases hg : 100 < n0 ∨ 100 < n2 ∨ (10000 < cnt ∧ cnt ≤ 65536)
  · have hg2 : (100 : Int) < n0 ∨ ((n0 : Int) ≤ 100 ∧ (100 : Int) < n2) ∨ ((n0 : Int) ≤ 100 ∧ (n2 : Int) ≤ 100 ∧ 10000 < cnt ∧ cnt ≤ 65536) := by omega
    clear hg s0 s2 u0 b2
    rcases hg2 with h1 | ⟨h1, h2⟩ | ⟨h1, h2, h3, h4⟩
    all_goals
      go_enter Try.func4, Try.ntmps4
      go_wp2_with fail
      refine (lives_any _).mono ?_
      rintro e w1 ⟨rfl, hg1⟩
      have T1 := Lib.hid hg1
      clear hg1
      dsimp only
      go_wp2
      go_ret
      exact ⟨rfl, below_of T1.out⟩
  · have hg2 : ((n0 : Int) ≤ 100 ∧ (n2 : Int) ≤ 100 ∧ cnt ≤ 10000) ∨ ((n0 : Int) ≤ 100 ∧ (n2 : Int) ≤ 100 ∧ 10000 < cnt ∧ 65536 < cnt) := by omega
    clear hg
    have hf2 : Fit 8 l2 := fit_isB b2
    obtain ⟨⟨E1, B1⟩, hR1⟩ : ∃ r, putR l0 v = r := ⟨_, rfl⟩
    obtain ⟨m1, hm1⟩ : ∃ m, B1.length = m := ⟨_, rfl⟩
    obtain ⟨⟨E3, L3⟩, hR3⟩ : ∃ r, getR l2 cnt v = r := ⟨_, rfl⟩
    obtain ⟨m3, hm3⟩ : ∃ m, L3.length = m := ⟨_, rfl⟩
    have HP := Lib.hid (put_form hR1 hm1 u0 a0 n0 c0)
    have HPR := Lib.hid (rput_form hR1 hm1 u0 a0 n0 c0)
    have HG := Lib.hid (get_form hR3 hm3 hf2 a2 n2 c2)
    have HGR := Lib.hid (rget_form hR3 hm3 hf2 a2 n2 c2)
    have HT := Lib.hid (tell_form hR3 hm3 hf2 a2 n2 c2)
    have HW := Lib.hid (fun W (hs : Us.Seg W a0 n0 c0 l0) => width_any a0 n0 c0 l0 W hs u0)
    have HWR := Lib.hid (fun W (hs : Us.Seg W a0 n0 c0 l0) => rwidth_any a0 n0 c0 l0 W hs u0)
    have HZ := Lib.hid (fun W => size_any cnt v W)
    have HZR := Lib.hid (fun W => rsize_any cnt v W)
    generalize wid l0 = W0 at HW HWR
    generalize sizeF cnt v = Z0 at HZ HZR
    have e1 : (E1 == E1) = true := beq_self_eq_true _
    have e3 : (E3 == E3) = true := beq_self_eq_true _
    have e5 : ((W0 : Int) == (W0 : Int)) = true := beq_self_eq_true _
    have e7 : (Z0 == Z0) = true := beq_self_eq_true _
    clear hR1 hm1 hR3 hm3 hf2 s0 s2 u0 b2
    rcases hg2 with ⟨g1, g2, g3⟩ | ⟨g1, g2, g3, g4⟩
    all_goals
      go_enter Try.func4, Try.ntmps4
      go_wp2_with fail
      refine (lives_any _).mono ?_
      rintro e w1 ⟨rfl, hg1⟩
      have T1 := Lib.hid hg1
      clear hg1
      dsimp only
      go_wp2_with fail
      refine (HP.out _ (useg_stay S0.out T1.out)).mono ?_
      rintro e w2 ⟨x2, k2, rfl, hs2, hT⟩
      have T2 := Lib.hid (Turn.then T1.out hT)
      have X2 := Lib.hid hs2
      clear hT hs2
      dsimp only
      go_wp2_with fail
      refine (HPR.out _ (useg_stay S0.out T2.out)).mono ?_
      rintro e w3 ⟨x3, k3, rfl, hs3, hT⟩
      have R3 := Lib.hid hT
      have T3 := Lib.hid (Turn.then T2.out hT)
      have X3 := Lib.hid hs3
      clear hT hs3
      dsimp only
      go_wp2_with fail
      refine (HG.out _ (seg_stay S2.out T3.out)).mono ?_
      rintro e w4 ⟨x4, k4, rfl, hs4, hT⟩
      have R4 := Lib.hid hT
      have T4 := Lib.hid (Turn.then T3.out hT)
      have X4 := Lib.hid hs4
      clear hT hs4
      dsimp only
      go_wp2_with fail
      refine (HGR.out _ (seg_stay S2.out T4.out)).mono ?_
      rintro e w5 ⟨x5, k5, rfl, hs5, hT⟩
      have R5 := Lib.hid hT
      have T5 := Lib.hid (Turn.then T4.out hT)
      have X5 := Lib.hid hs5
      clear hT hs5
      dsimp only
      go_wp2_with fail
      refine (HT.out _ (seg_stay S2.out T5.out)).mono ?_
      rintro e w6 ⟨x6, k6, rfl, hs6, hT⟩
      have R6 := Lib.hid hT
      have T6 := Lib.hid (Turn.then T5.out hT)
      have X6 := Lib.hid hs6
      clear hT hs6
      dsimp only
      have R36 := Lib.hid (Turn.then R4.out (Turn.then R5.out R6.out))
      have R56 := Lib.hid (Turn.then R5.out R6.out)
      go_wp2_with fail
      refine (same_form _ _ _ _ _ _ _ _ w6 (seg_stay (seg_stay X2.out R3.out) R36.out) (seg_stay X3.out R36.out) true (sameB_yes rfl)).mono ?_
      rintro e w7 ⟨rfl, hT⟩
      have R7 := Lib.hid hT
      have T7 := Lib.hid (Turn.then T6.out hT)
      clear hT
      dsimp only
      go_wp2_with fail
      refine (usame_form _ _ _ _ _ _ _ _ w7 (useg_stay (useg_stay X4.out R56.out) R7.out) (useg_stay (useg_stay X5.out R6.out) R7.out) true (Us.sameB_yes rfl)).mono ?_
      rintro e w8 ⟨rfl, hT⟩
      have R8 := Lib.hid (Turn.then R7.out hT)
      have T8 := Lib.hid (Turn.then T7.out hT)
      clear hT
      dsimp only
      go_wp2_with fail
      refine (usame_form _ _ _ _ _ _ _ _ w8 (useg_stay X6.out R8.out) (useg_stay (useg_stay X5.out R6.out) R8.out) true (Us.sameB_yes rfl)).mono ?_
      rintro e w9 ⟨rfl, hT⟩
      have T9 := Lib.hid (Turn.then T8.out hT)
      clear hT
      dsimp only
      go_wp2_with fail
      refine (HW.out _ (useg_stay S0.out T9.out)).mono ?_
      rintro e w9 ⟨rfl, rfl⟩
      dsimp only
      go_wp2_with fail
      refine (HWR.out _ (useg_stay S0.out T9.out)).mono ?_
      rintro e w9 ⟨rfl, rfl⟩
      dsimp only
      go_wp2_with fail
      refine (HZ.out _).mono ?_
      rintro e w9 ⟨rfl, rfl⟩
      dsimp only
      go_wp2_with fail
      refine (HZR.out _).mono ?_
      rintro e w9 ⟨rfl, rfl⟩
      dsimp only
      go_wp2
      go_ret
      exact ⟨rfl, below_of T9.out⟩
end Go.Proofs.Ytpjiadoicpfhgaa.Pk
