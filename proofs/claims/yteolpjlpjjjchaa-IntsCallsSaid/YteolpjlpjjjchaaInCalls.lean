/-
  IntsCalls: columns of numbers are put and got as the document says.
-/
import Derived.Test.YteolpjlpjjjchaaInRefC
namespace Go.Proofs.Yteolpjlpjjjchaa.In
open Go.RowKit Go.Joins
open Is (IsI)
open Pk (PutF Turn.then below_of)
open Dv (Turn nowhere)

theorem rplain_form {l : List Int} {E : Int} {B : List Int} {m : Nat} (hR : tooMany l (encB 1 l) = (E, B)) (hm : B.length = m) (a : Option Addr) (n c : Nat) (W : World) (hs : Is.Seg W a n c l) :
    Calls Try.prog 15 #[.slice a n c] W (PutF W m E B) :=
  (rplain_any a n c l W hs).mono fun e w' h => by unfold PutE at h; rw [hR] at h; exact putf_of hm h
theorem rruns_form {l : List Int} {E : Int} {B : List Int} {m : Nat} (hR : tooMany l (encB 2 l) = (E, B)) (hm : B.length = m) (a : Option Addr) (n c : Nat) (W : World) (hs : Is.Seg W a n c l) :
    Calls Try.prog 16 #[.slice a n c] W (PutF W m E B) :=
  (rruns_any a n c l W hs).mono fun e w' h => by unfold PutE at h; rw [hR] at h; exact putf_of hm h
theorem rpacked_form {l : List Int} {E : Int} {B : List Int} {m : Nat} (hR : tooMany l (encB 3 l) = (E, B)) (hm : B.length = m) (a : Option Addr) (n c : Nat) (W : World) (hs : Is.Seg W a n c l) :
    Calls Try.prog 18 #[.slice a n c] W (PutF W m E B) :=
  (rpacked_any a n c l W hs).mono fun e w' h => by unfold PutE at h; rw [hR] at h; exact putf_of hm h
theorem rbest_form {l : List Int} {E : Int} {B : List Int} {m : Nat} (hR : tooMany l (bestB l) = (E, B)) (hm : B.length = m) (a : Option Addr) (n c : Nat) (W : World) (hs : Is.Seg W a n c l) :
    Calls Try.prog 19 #[.slice a n c] W (PutF W m E B) :=
  (rbest_any a n c l W hs).mono fun e w' h => by unfold PutE at h; rw [hR] at h; exact putf_of hm h
theorem rgot_form {bs : List Int} {E : Int} {L : List Int} {m : Nat} (hR : getI bs = (E, L)) (hm : L.length = m) (hb : Oct.IsB bs) (hn : bs.length ≤ 100000000) (a : Option Addr) (n c : Nat) (W : World) (hs : Bs.Seg W a n c bs) :
    Calls Try.prog 20 #[.slice a n c] W (GotF W m E L) :=
  (rget06_any a n c bs W hs hb (by rw [← hs.len]; exact hn)).mono fun e w' h => by
    rw [rget_eq bs hb, hR] at h
    obtain ⟨a', k, he, h1, h2⟩ := h
    subst hm
    exact ⟨a', k, he, h1, turn_below h2⟩

set_option maxRecDepth 100000 in
set_option maxHeartbeats 4000000 in
theorem calls_any (a0 : Option Addr) (n0 c0 : Nat) (l0 : List Int) (a1 : Option Addr) (n1 c1 : Nat) (l1 : List Int) (w : World) (s0 : Is.Seg w a0 n0 c0 l0) (u0 : IsI l0) (s1 : Bs.Seg w a1 n1 c1 l1) (b1 : Oct.IsB l1) :
    Calls Try.prog 4 #[.slice a0 n0 c0, .slice a1 n1 c1] w fun e w' => e = .returned (.bool true) ∧ Below w.heap.size w w' := by
  have L1 := s1.len
  have S0 := Lib.hid s0
  have S1 := Lib.hid s1
  by_cases hg : (200 < n0 ∧ n0 ≤ 4096) ∨ 200 < n1
  · have hg2 : ((200 : Int) < n0 ∧ n0 ≤ 4096) ∨ (((n0 : Int) ≤ 200) ∧ (200 : Int) < n1) ∨ ((200 : Int) < n0 ∧ ¬ n0 ≤ 4096 ∧ (200 : Int) < n1) := by omega
    clear hg L1 s0 s1 u0 b1
    rcases hg2 with ⟨h1, h2⟩ | ⟨h1, h2⟩ | ⟨h1, h2, h3⟩
    all_goals
      go_enter Try.func4, Try.ntmps4
      go_wp2_with fail
      refine (lives_any _).mono ?_
      rintro e w1 ⟨rfl, hg1⟩
      have T1 := Lib.hid hg1
      clear hg1
      dsimp only
      go_wp2
      go_ret
      exact ⟨rfl, below_of T1.out⟩
  · have hn1 : n1 ≤ 200 := by omega
    have hn0 : ¬ (200 < n0 ∧ n0 ≤ 4096) := fun h => hg (.inl h)
    obtain ⟨EP, BP, hP⟩ : ∃ E B, tooMany l0 (encB 1 l0) = (E, B) := ⟨_, _, rfl⟩
    obtain ⟨mP, hmP⟩ : ∃ m, BP.length = m := ⟨_, rfl⟩
    obtain ⟨ER, BR, hR⟩ : ∃ E B, tooMany l0 (encB 2 l0) = (E, B) := ⟨_, _, rfl⟩
    obtain ⟨mR, hmR⟩ : ∃ m, BR.length = m := ⟨_, rfl⟩
    obtain ⟨ET, BT, hT⟩ : ∃ E B, tooMany l0 (encB 3 l0) = (E, B) := ⟨_, _, rfl⟩
    obtain ⟨mT, hmT⟩ : ∃ m, BT.length = m := ⟨_, rfl⟩
    obtain ⟨ES, BS, hS⟩ : ∃ E B, tooMany l0 (bestB l0) = (E, B) := ⟨_, _, rfl⟩
    obtain ⟨mS, hmS⟩ : ∃ m, BS.length = m := ⟨_, rfl⟩
    obtain ⟨EG, LG, hG⟩ : ∃ E B, getI l1 = (E, B) := ⟨_, _, rfl⟩
    obtain ⟨mG, hmG⟩ : ∃ m, LG.length = m := ⟨_, rfl⟩
    have FP := Lib.hid (fun W h => plain_form hP hmP u0 a0 n0 c0 W h)
    have GP := Lib.hid (fun W h => rplain_form hP hmP a0 n0 c0 W h)
    have FR := Lib.hid (fun W h => runs_form hR hmR u0 a0 n0 c0 W h)
    have GR := Lib.hid (fun W h => rruns_form hR hmR a0 n0 c0 W h)
    have FT := Lib.hid (fun W h => packed_form hT hmT u0 a0 n0 c0 W h)
    have GT := Lib.hid (fun W h => rpacked_form hT hmT a0 n0 c0 W h)
    have FS := Lib.hid (fun W h => put_form hS hmS u0 a0 n0 c0 W h)
    have GS := Lib.hid (fun W h => rbest_form hS hmS a0 n0 c0 W h)
    have FX := Lib.hid (fun W h => got_form hG hmG b1 (by omega) a1 n1 c1 W h)
    have GX := Lib.hid (fun W h => rgot_form hG hmG b1 (by omega) a1 n1 c1 W h)
    have CX := Lib.hid (fun W h => count_form hG hmG b1 (by omega) a1 n1 c1 W h)
    clear s0 s1 u0 b1 L1 hG hmG hP hmP hR hmR hT hmT hS hmS hg
    have hg2 : (n0 : Int) ≤ 200 ∨ ((200 : Int) < n0 ∧ ¬ n0 ≤ 4096) := by omega
    clear hn0
    rcases hg2 with h1 | ⟨h1, h2⟩
    all_goals
      go_enter Try.func4, Try.ntmps4
      go_wp2_with fail
      refine (lives_any _).mono ?_
      rintro e w1 ⟨rfl, hT⟩
      have T1 := Lib.hid hT
      clear hT
      dsimp only
      have HC1 := Lib.hid (FP.out w1 (iseg_stay S0.out T1.out))
      go_wp2_with fail
      refine HC1.out.mono ?_
      rintro e w2 ⟨x2, q2, rfl, hs2, hT⟩
      have T2 := Lib.hid (Turn.then T1.out hT)
      have V2_2 := Lib.hid hs2
      clear hT HC1 T1  hs2
      dsimp only
      have HC2 := Lib.hid (GP.out w2 (iseg_stay S0.out T2.out))
      go_wp2_with fail
      refine HC2.out.mono ?_
      rintro e w3 ⟨x3, q3, rfl, hs3, hT⟩
      have T3 := Lib.hid (Turn.then T2.out hT)
      have V2_3 := Lib.hid (Pk.seg_stay V2_2.out hT)
      have V3_3 := Lib.hid hs3
      clear hT HC2 T2 V2_2 hs3
      dsimp only
      have HC3 := Lib.hid (FR.out w3 (iseg_stay S0.out T3.out))
      go_wp2_with fail
      refine HC3.out.mono ?_
      rintro e w4 ⟨x4, q4, rfl, hs4, hT⟩
      have T4 := Lib.hid (Turn.then T3.out hT)
      have V2_4 := Lib.hid (Pk.seg_stay V2_3.out hT)
      have V3_4 := Lib.hid (Pk.seg_stay V3_3.out hT)
      have V4_4 := Lib.hid hs4
      clear hT HC3 T3 V2_3 V3_3 hs4
      dsimp only
      have HC4 := Lib.hid (GR.out w4 (iseg_stay S0.out T4.out))
      go_wp2_with fail
      refine HC4.out.mono ?_
      rintro e w5 ⟨x5, q5, rfl, hs5, hT⟩
      have T5 := Lib.hid (Turn.then T4.out hT)
      have V2_5 := Lib.hid (Pk.seg_stay V2_4.out hT)
      have V3_5 := Lib.hid (Pk.seg_stay V3_4.out hT)
      have V4_5 := Lib.hid (Pk.seg_stay V4_4.out hT)
      have V5_5 := Lib.hid hs5
      clear hT HC4 T4 V2_4 V3_4 V4_4 hs5
      dsimp only
      have HC5 := Lib.hid (FT.out w5 (iseg_stay S0.out T5.out))
      go_wp2_with fail
      refine HC5.out.mono ?_
      rintro e w6 ⟨x6, q6, rfl, hs6, hT⟩
      have T6 := Lib.hid (Turn.then T5.out hT)
      have V2_6 := Lib.hid (Pk.seg_stay V2_5.out hT)
      have V3_6 := Lib.hid (Pk.seg_stay V3_5.out hT)
      have V4_6 := Lib.hid (Pk.seg_stay V4_5.out hT)
      have V5_6 := Lib.hid (Pk.seg_stay V5_5.out hT)
      have V6_6 := Lib.hid hs6
      clear hT HC5 T5 V2_5 V3_5 V4_5 V5_5 hs6
      dsimp only
      have HC6 := Lib.hid (GT.out w6 (iseg_stay S0.out T6.out))
      go_wp2_with fail
      refine HC6.out.mono ?_
      rintro e w7 ⟨x7, q7, rfl, hs7, hT⟩
      have T7 := Lib.hid (Turn.then T6.out hT)
      have V2_7 := Lib.hid (Pk.seg_stay V2_6.out hT)
      have V3_7 := Lib.hid (Pk.seg_stay V3_6.out hT)
      have V4_7 := Lib.hid (Pk.seg_stay V4_6.out hT)
      have V5_7 := Lib.hid (Pk.seg_stay V5_6.out hT)
      have V6_7 := Lib.hid (Pk.seg_stay V6_6.out hT)
      have V7_7 := Lib.hid hs7
      clear hT HC6 T6 V2_6 V3_6 V4_6 V5_6 V6_6 hs7
      dsimp only
      have HC7 := Lib.hid (FS.out w7 (iseg_stay S0.out T7.out))
      go_wp2_with fail
      refine HC7.out.mono ?_
      rintro e w8 ⟨x8, q8, rfl, hs8, hT⟩
      have T8 := Lib.hid (Turn.then T7.out hT)
      have V2_8 := Lib.hid (Pk.seg_stay V2_7.out hT)
      have V3_8 := Lib.hid (Pk.seg_stay V3_7.out hT)
      have V4_8 := Lib.hid (Pk.seg_stay V4_7.out hT)
      have V5_8 := Lib.hid (Pk.seg_stay V5_7.out hT)
      have V6_8 := Lib.hid (Pk.seg_stay V6_7.out hT)
      have V7_8 := Lib.hid (Pk.seg_stay V7_7.out hT)
      have V8_8 := Lib.hid hs8
      clear hT HC7 T7 V2_7 V3_7 V4_7 V5_7 V6_7 V7_7 hs8
      dsimp only
      have HC8 := Lib.hid (GS.out w8 (iseg_stay S0.out T8.out))
      go_wp2_with fail
      refine HC8.out.mono ?_
      rintro e w9 ⟨x9, q9, rfl, hs9, hT⟩
      have T9 := Lib.hid (Turn.then T8.out hT)
      have V2_9 := Lib.hid (Pk.seg_stay V2_8.out hT)
      have V3_9 := Lib.hid (Pk.seg_stay V3_8.out hT)
      have V4_9 := Lib.hid (Pk.seg_stay V4_8.out hT)
      have V5_9 := Lib.hid (Pk.seg_stay V5_8.out hT)
      have V6_9 := Lib.hid (Pk.seg_stay V6_8.out hT)
      have V7_9 := Lib.hid (Pk.seg_stay V7_8.out hT)
      have V8_9 := Lib.hid (Pk.seg_stay V8_8.out hT)
      have V9_9 := Lib.hid hs9
      clear hT HC8 T8 V2_8 V3_8 V4_8 V5_8 V6_8 V7_8 V8_8 hs9
      dsimp only
      have HC9 := Lib.hid (FX.out w9 (Pk.seg_stay S1.out T9.out))
      go_wp2_with fail
      refine HC9.out.mono ?_
      rintro e w10 ⟨x10, q10, rfl, hs10, hT⟩
      have T10 := Lib.hid (Turn.then T9.out hT)
      have V2_10 := Lib.hid (Pk.seg_stay V2_9.out hT)
      have V3_10 := Lib.hid (Pk.seg_stay V3_9.out hT)
      have V4_10 := Lib.hid (Pk.seg_stay V4_9.out hT)
      have V5_10 := Lib.hid (Pk.seg_stay V5_9.out hT)
      have V6_10 := Lib.hid (Pk.seg_stay V6_9.out hT)
      have V7_10 := Lib.hid (Pk.seg_stay V7_9.out hT)
      have V8_10 := Lib.hid (Pk.seg_stay V8_9.out hT)
      have V9_10 := Lib.hid (Pk.seg_stay V9_9.out hT)
      have V10_10 := Lib.hid hs10
      clear hT HC9 T9 V2_9 V3_9 V4_9 V5_9 V6_9 V7_9 V8_9 V9_9 hs10
      dsimp only
      have HC10 := Lib.hid (GX.out w10 (Pk.seg_stay S1.out T10.out))
      go_wp2_with fail
      refine HC10.out.mono ?_
      rintro e w11 ⟨x11, q11, rfl, hs11, hT⟩
      have T11 := Lib.hid (Turn.then T10.out hT)
      have V2_11 := Lib.hid (Pk.seg_stay V2_10.out hT)
      have V3_11 := Lib.hid (Pk.seg_stay V3_10.out hT)
      have V4_11 := Lib.hid (Pk.seg_stay V4_10.out hT)
      have V5_11 := Lib.hid (Pk.seg_stay V5_10.out hT)
      have V6_11 := Lib.hid (Pk.seg_stay V6_10.out hT)
      have V7_11 := Lib.hid (Pk.seg_stay V7_10.out hT)
      have V8_11 := Lib.hid (Pk.seg_stay V8_10.out hT)
      have V9_11 := Lib.hid (Pk.seg_stay V9_10.out hT)
      have V10_11 := Lib.hid (iseg_stay V10_10.out hT)
      have V11_11 := Lib.hid hs11
      clear hT HC10 T10 V2_10 V3_10 V4_10 V5_10 V6_10 V7_10 V8_10 V9_10 V10_10 hs11
      dsimp only
      have HC11 := Lib.hid (CX.out w11 (Pk.seg_stay S1.out T11.out))
      go_wp2_with fail
      refine HC11.out.mono ?_
      rintro e w12 ⟨rfl, hT⟩
      have T12 := Lib.hid (Turn.then T11.out hT)
      have V2_12 := Lib.hid (Pk.seg_stay V2_11.out hT)
      have V3_12 := Lib.hid (Pk.seg_stay V3_11.out hT)
      have V4_12 := Lib.hid (Pk.seg_stay V4_11.out hT)
      have V5_12 := Lib.hid (Pk.seg_stay V5_11.out hT)
      have V6_12 := Lib.hid (Pk.seg_stay V6_11.out hT)
      have V7_12 := Lib.hid (Pk.seg_stay V7_11.out hT)
      have V8_12 := Lib.hid (Pk.seg_stay V8_11.out hT)
      have V9_12 := Lib.hid (Pk.seg_stay V9_11.out hT)
      have V10_12 := Lib.hid (iseg_stay V10_11.out hT)
      have V11_12 := Lib.hid (iseg_stay V11_11.out hT)
      clear hT HC11 T11 V2_11 V3_11 V4_11 V5_11 V6_11 V7_11 V8_11 V9_11 V10_11 V11_11
      dsimp only
      have HC12 := Lib.hid (Pk.same_form x2 x3 mP mP q2 q3 BP BP w12 V2_12.out V3_12.out true (Bs.sameB_yes rfl))
      go_wp2_with fail
      refine HC12.out.mono ?_
      rintro e w13 ⟨rfl, hT⟩
      have T13 := Lib.hid (Turn.then T12.out hT)
      have V2_13 := Lib.hid (Pk.seg_stay V2_12.out hT)
      have V3_13 := Lib.hid (Pk.seg_stay V3_12.out hT)
      have V4_13 := Lib.hid (Pk.seg_stay V4_12.out hT)
      have V5_13 := Lib.hid (Pk.seg_stay V5_12.out hT)
      have V6_13 := Lib.hid (Pk.seg_stay V6_12.out hT)
      have V7_13 := Lib.hid (Pk.seg_stay V7_12.out hT)
      have V8_13 := Lib.hid (Pk.seg_stay V8_12.out hT)
      have V9_13 := Lib.hid (Pk.seg_stay V9_12.out hT)
      have V10_13 := Lib.hid (iseg_stay V10_12.out hT)
      have V11_13 := Lib.hid (iseg_stay V11_12.out hT)
      clear hT HC12 T12 V2_12 V3_12 V4_12 V5_12 V6_12 V7_12 V8_12 V9_12 V10_12 V11_12
      dsimp only
      have HC13 := Lib.hid (Pk.same_form x4 x5 mR mR q4 q5 BR BR w13 V4_13.out V5_13.out true (Bs.sameB_yes rfl))
      go_wp2_with fail
      refine HC13.out.mono ?_
      rintro e w14 ⟨rfl, hT⟩
      have T14 := Lib.hid (Turn.then T13.out hT)
      have V2_14 := Lib.hid (Pk.seg_stay V2_13.out hT)
      have V3_14 := Lib.hid (Pk.seg_stay V3_13.out hT)
      have V4_14 := Lib.hid (Pk.seg_stay V4_13.out hT)
      have V5_14 := Lib.hid (Pk.seg_stay V5_13.out hT)
      have V6_14 := Lib.hid (Pk.seg_stay V6_13.out hT)
      have V7_14 := Lib.hid (Pk.seg_stay V7_13.out hT)
      have V8_14 := Lib.hid (Pk.seg_stay V8_13.out hT)
      have V9_14 := Lib.hid (Pk.seg_stay V9_13.out hT)
      have V10_14 := Lib.hid (iseg_stay V10_13.out hT)
      have V11_14 := Lib.hid (iseg_stay V11_13.out hT)
      clear hT HC13 T13 V2_13 V3_13 V4_13 V5_13 V6_13 V7_13 V8_13 V9_13 V10_13 V11_13
      dsimp only
      have HC14 := Lib.hid (Pk.same_form x6 x7 mT mT q6 q7 BT BT w14 V6_14.out V7_14.out true (Bs.sameB_yes rfl))
      go_wp2_with fail
      refine HC14.out.mono ?_
      rintro e w15 ⟨rfl, hT⟩
      have T15 := Lib.hid (Turn.then T14.out hT)
      have V2_15 := Lib.hid (Pk.seg_stay V2_14.out hT)
      have V3_15 := Lib.hid (Pk.seg_stay V3_14.out hT)
      have V4_15 := Lib.hid (Pk.seg_stay V4_14.out hT)
      have V5_15 := Lib.hid (Pk.seg_stay V5_14.out hT)
      have V6_15 := Lib.hid (Pk.seg_stay V6_14.out hT)
      have V7_15 := Lib.hid (Pk.seg_stay V7_14.out hT)
      have V8_15 := Lib.hid (Pk.seg_stay V8_14.out hT)
      have V9_15 := Lib.hid (Pk.seg_stay V9_14.out hT)
      have V10_15 := Lib.hid (iseg_stay V10_14.out hT)
      have V11_15 := Lib.hid (iseg_stay V11_14.out hT)
      clear hT HC14 T14 V2_14 V3_14 V4_14 V5_14 V6_14 V7_14 V8_14 V9_14 V10_14 V11_14
      dsimp only
      have HC15 := Lib.hid (Pk.same_form x8 x9 mS mS q8 q9 BS BS w15 V8_15.out V9_15.out true (Bs.sameB_yes rfl))
      go_wp2_with fail
      refine HC15.out.mono ?_
      rintro e w16 ⟨rfl, hT⟩
      have T16 := Lib.hid (Turn.then T15.out hT)
      have V2_16 := Lib.hid (Pk.seg_stay V2_15.out hT)
      have V3_16 := Lib.hid (Pk.seg_stay V3_15.out hT)
      have V4_16 := Lib.hid (Pk.seg_stay V4_15.out hT)
      have V5_16 := Lib.hid (Pk.seg_stay V5_15.out hT)
      have V6_16 := Lib.hid (Pk.seg_stay V6_15.out hT)
      have V7_16 := Lib.hid (Pk.seg_stay V7_15.out hT)
      have V8_16 := Lib.hid (Pk.seg_stay V8_15.out hT)
      have V9_16 := Lib.hid (Pk.seg_stay V9_15.out hT)
      have V10_16 := Lib.hid (iseg_stay V10_15.out hT)
      have V11_16 := Lib.hid (iseg_stay V11_15.out hT)
      clear hT HC15 T15 V2_15 V3_15 V4_15 V5_15 V6_15 V7_15 V8_15 V9_15 V10_15 V11_15
      dsimp only
      have HC16 := Lib.hid (isame_form x10 x11 mG mG q10 q11 LG LG w16 V10_16.out V11_16.out true (Is.sameB_yes rfl))
      go_wp2_with fail
      refine HC16.out.mono ?_
      rintro e w17 ⟨rfl, hT⟩
      have T17 := Lib.hid (Turn.then T16.out hT)
      have V2_17 := Lib.hid (Pk.seg_stay V2_16.out hT)
      have V3_17 := Lib.hid (Pk.seg_stay V3_16.out hT)
      have V4_17 := Lib.hid (Pk.seg_stay V4_16.out hT)
      have V5_17 := Lib.hid (Pk.seg_stay V5_16.out hT)
      have V6_17 := Lib.hid (Pk.seg_stay V6_16.out hT)
      have V7_17 := Lib.hid (Pk.seg_stay V7_16.out hT)
      have V8_17 := Lib.hid (Pk.seg_stay V8_16.out hT)
      have V9_17 := Lib.hid (Pk.seg_stay V9_16.out hT)
      have V10_17 := Lib.hid (iseg_stay V10_16.out hT)
      have V11_17 := Lib.hid (iseg_stay V11_16.out hT)
      clear hT HC16 T16 V2_16 V3_16 V4_16 V5_16 V6_16 V7_16 V8_16 V9_16 V10_16 V11_16
      dsimp only
      go_wp2
      go_ret
      exact ⟨rfl, below_of T17.out⟩
end Go.Proofs.Yteolpjlpjjjchaa.In
