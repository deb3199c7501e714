/-
  NullsCalls: the package answers as the document's own does, at what is drawn.
-/
import Derived.Test.YtpcilohiokpmnaaNuLaw
import Derived.Test.YtpcilohiokpmnaaNuTell
namespace Go.Proofs.Ytpcilohiokpmnaa.Nu
open Go.RowKit
open Dv (Turn nowhere)
open Pk (Turn.then PutF below_of)

set_option maxRecDepth 100000 in
set_option maxHeartbeats 4000000 in
theorem calls_no (a0 : Option Addr) (n0 c0 : Nat) (a1 : Option Addr) (n1 c1 : Nat) (v : Int) (w : World) (hg : 300 < n0 ∨ (¬ 300 < n0 ∧ 300 < n1)) :
    Calls Try.prog 4 #[.slice a0 n0 c0, .slice a1 n1 c1, .int .i64 v] w fun e w' => e = .returned (.bool true) ∧ Below w.heap.size w w' := by
  rcases hg with h | ⟨h, h6⟩
  · have h' : (300 : Int) < (n0 : Int) := by omega
    clear h
    go_enter Try.func4, Try.ntmps4
    go_wp2_with fail
    refine (lives_any _).mono ?_
    rintro e w1 ⟨rfl, hT⟩
    have T1 := Lib.hid hT
    clear hT
    dsimp only
    go_wp2
    go_ret
    exact ⟨rfl, below_of T1.out⟩
  · have h' : ¬ (300 : Int) < (n0 : Int) := by omega
    have h6' : (300 : Int) < (n1 : Int) := by omega
    clear h h6
    go_enter Try.func4, Try.ntmps4
    go_wp2_with fail
    refine (lives_any _).mono ?_
    rintro e w1 ⟨rfl, hT⟩
    have T1 := Lib.hid hT
    clear hT
    dsimp only
    go_wp2
    go_ret
    exact ⟨rfl, below_of T1.out⟩

set_option maxRecDepth 100000 in
set_option maxHeartbeats 8000000 in
theorem calls_yes (a0 : Option Addr) (n0 c0 : Nat) (l0 : List Bool) (a1 : Option Addr) (n1 c1 : Nat) (l1 : List Int) (v : Int) (w : World) (s0 : Bl.Seg w a0 n0 c0 l0) (s1 : Bs.Seg w a1 n1 c1 l1) (b1 : Bs.IsB l1) (h0 : n0 ≤ 300) (h1 : n1 ≤ 300) :
    Calls Try.prog 4 #[.slice a0 n0 c0, .slice a1 n1 c1, .int .i64 v] w fun e w' => e = .returned (.bool true) ∧ Below w.heap.size w w' := by
  obtain ⟨E, B, hR⟩ : ∃ E B, putN l0 = (E, B) := ⟨_, _, rfl⟩
  obtain ⟨p, hp⟩ : ∃ p, B.length = p := ⟨_, rfl⟩
  obtain ⟨L, z, Z, hG⟩ : ∃ L z Z, resN l1 (getN l1) = (L, z, Z) := ⟨_, _, _, rfl⟩
  obtain ⟨m, hm⟩ : ∃ m, L.length = m := ⟨_, rfl⟩
  obtain ⟨q, hq⟩ : ∃ q, (spreadF l0 v).length = q := ⟨_, rfl⟩
  obtain ⟨r, hr⟩ : ∃ r, (lens l0).length = r := ⟨_, rfl⟩
  obtain ⟨D, hD⟩ : ∃ D, spreadF l0 v = D := ⟨_, rfl⟩
  obtain ⟨K, hK⟩ : ∃ K, lens l0 = K := ⟨_, rfl⟩
  obtain ⟨x, hx⟩ : ∃ x : Int, (cnt l0 : Int) = x := ⟨_, rfl⟩
  have hrr : (runsL l0).length = r := by rw [← lens_len, hr]
  have P1 := Lib.hid (fun W h => put_form hR hp a0 n0 c0 W h)
  have P2 := Lib.hid (fun W h => rput_form hR hp a0 n0 c0 W h)
  have P3 := Lib.hid (fun W h => got_form hG hm b1 (by have := s1.len; omega) a1 n1 c1 W h)
  have P4 := Lib.hid (fun W h => rgot_form hG hm b1 (by have := s1.len; omega) a1 n1 c1 W h)
  have P5 := Lib.hid (fun W h => tell_any a0 n0 c0 l0 W h (by omega))
  rw [hrr, hK] at P5
  have P6 := Lib.hid (fun W h => Count_any a0 n0 c0 l0 W h)
  have P7 := Lib.hid (fun W h => rcount_any a0 n0 c0 l0 W h)
  rw [hx] at P6 P7
  have P8 := Lib.hid (fun W h => spread_any a0 n0 c0 l0 v q W h (by omega) hq)
  have P9 := Lib.hid (fun W h => rspread_any a0 n0 c0 l0 v q W h (by omega) hq)
  rw [hD] at P8 P9
  have P10 := Lib.hid (fun W h => rlengths_any a0 n0 c0 l0 r W h (by omega) hr)
  rw [hK] at P10
  have S0 := Lib.hid s0
  have S1 := Lib.hid s1
  have h0' : ¬ (300 : Int) < (n0 : Int) := by omega
  have h1' : ¬ (300 : Int) < (n1 : Int) := by omega
  have e1 : (E == E) = true := beq_self_eq_true _
  have e2 : (z == z) = true := beq_self_eq_true _
  have e3 : (Z == Z) = true := beq_self_eq_true _
  have e4 : (x == x) = true := beq_self_eq_true _
  clear s0 s1 b1 hR hp hG hm hq hr hD hK hx hrr h0 h1
  go_enter Try.func4, Try.ntmps4
  go_wp2_with fail
  refine (lives_any _).mono ?_
  rintro e w1 ⟨rfl, hT⟩
  have T1 := Lib.hid hT
  have H := Lib.hid (P1.out w1 (bseg_stay S0.out hT))
  clear hT P1
  dsimp only
  go_wp2_with fail
  refine H.out.mono ?_
  rintro e w2 ⟨xa, ka, rfl, hs, hT⟩
  have T2 := Lib.hid (Turn.then T1.out hT)
  have SA := Lib.hid hs
  clear H T1
  have H := Lib.hid (P2.out w2 (bseg_stay S0.out T2.out))
  clear hT hs P2
  dsimp only
  go_wp2_with fail
  refine H.out.mono ?_
  rintro e w3 ⟨xb, kb, rfl, hs, hT⟩
  have T3 := Lib.hid (Turn.then T2.out hT)
  have SA3 := Lib.hid (Pk.seg_stay SA.out hT)
  have SB := Lib.hid hs
  clear H T2 SA
  have H := Lib.hid (P3.out w3 (Pk.seg_stay S1.out T3.out))
  clear hT hs P3
  dsimp only
  go_wp2_with fail
  refine H.out.mono ?_
  rintro e w4 ⟨xc, kc, rfl, hs, hT⟩
  have T4 := Lib.hid (Turn.then T3.out hT)
  have SA4 := Lib.hid (Pk.seg_stay SA3.out hT)
  have SB4 := Lib.hid (Pk.seg_stay SB.out hT)
  have SC := Lib.hid hs
  clear H T3 SA3 SB
  have H := Lib.hid (P4.out w4 (Pk.seg_stay S1.out T4.out))
  clear hT hs P4
  dsimp only
  go_wp2_with fail
  refine H.out.mono ?_
  rintro e w5 ⟨xd, kd, rfl, hs, hT⟩
  have T5 := Lib.hid (Turn.then T4.out hT)
  have SA5 := Lib.hid (Pk.seg_stay SA4.out hT)
  have SB5 := Lib.hid (Pk.seg_stay SB4.out hT)
  have SC5 := Lib.hid (bseg_stay SC.out hT)
  have SD := Lib.hid hs
  clear H T4 SA4 SB4 SC
  have H := Lib.hid (P5.out w5 (bseg_stay S0.out T5.out))
  clear hT hs P5
  dsimp only
  go_wp2_with fail
  refine H.out.mono ?_
  rintro e w6 ⟨xe, ke, xf, kf, rfl, hs, -, hT⟩
  have T6 := Lib.hid (Turn.then T5.out hT)
  have SC6 := Lib.hid (bseg_stay SC5.out hT)
  have SD6 := Lib.hid (bseg_stay SD.out hT)
  have SE := Lib.hid hs
  have HS1 := Lib.hid (Pk.same_form xa xb p p ka kb B B w6 (Pk.seg_stay SA5.out hT) (Pk.seg_stay SB5.out hT) true (Bs.sameB_yes rfl))
  clear H T5 SA5 SB5 SC5 SD hT hs
  dsimp only
  go_wp2_with fail
  refine HS1.out.mono ?_
  rintro e w7 ⟨rfl, hT⟩
  have T7 := Lib.hid (Turn.then T6.out hT)
  have SE7 := Lib.hid (jseg_stay SE.out hT)
  have HS2 := Lib.hid (bsame_form xc xd m m kc kd L L w7 (bseg_stay SC6.out hT) (bseg_stay SD6.out hT) true (Bl.sameB_yes rfl))
  clear HS1 T6 SC6 SD6 SE hT
  dsimp only
  go_wp2_with fail
  refine HS2.out.mono ?_
  rintro e w8 ⟨rfl, hT⟩
  have T8 := Lib.hid (Turn.then T7.out hT)
  have SE8 := Lib.hid (jseg_stay SE7.out hT)
  clear HS2 T7 SE7 hT
  have H := Lib.hid (P6.out w8 (bseg_stay S0.out T8.out))
  clear P6
  dsimp only
  go_wp2_with fail
  refine H.out.mono ?_
  rintro e w9 ⟨rfl, hT⟩
  have T9 := Lib.hid (Turn.then T8.out hT)
  have SE9 := Lib.hid (jseg_stay SE8.out hT)
  clear H T8 SE8 hT
  have H := Lib.hid (P7.out w9 (bseg_stay S0.out T9.out))
  clear P7
  dsimp only
  go_wp2_with fail
  refine H.out.mono ?_
  rintro e w9' ⟨rfl, rfl⟩
  clear H
  have H := Lib.hid (P8.out w9 (bseg_stay S0.out T9.out))
  clear P8
  dsimp only
  go_wp2_with fail
  refine H.out.mono ?_
  rintro e w10 ⟨xg, kg, rfl, hs, hT⟩
  have T10 := Lib.hid (Turn.then T9.out hT)
  have SE10 := Lib.hid (jseg_stay SE9.out hT)
  have SG := Lib.hid hs
  clear H T9 SE9 hT hs
  have H := Lib.hid (P9.out w10 (bseg_stay S0.out T10.out))
  clear P9
  dsimp only
  go_wp2_with fail
  refine H.out.mono ?_
  rintro e w11 ⟨xh, kh, rfl, hs, hT⟩
  have T11 := Lib.hid (Turn.then T10.out hT)
  have SE11 := Lib.hid (jseg_stay SE10.out hT)
  have HS3 := Lib.hid (jsame_form xg xh q q kg kh D D w11 (jseg_stay SG.out hT) hs true (Js.sameB_yes rfl))
  clear H T10 SE10 SG hT hs
  dsimp only
  go_wp2_with fail
  refine HS3.out.mono ?_
  rintro e w12 ⟨rfl, hT⟩
  have T12 := Lib.hid (Turn.then T11.out hT)
  have SE12 := Lib.hid (jseg_stay SE11.out hT)
  clear HS3 T11 SE11 hT
  have H := Lib.hid (P10.out w12 (bseg_stay S0.out T12.out))
  clear P10
  dsimp only
  go_wp2_with fail
  refine H.out.mono ?_
  rintro e w13 ⟨xi, ki, rfl, hs, hT⟩
  have T13 := Lib.hid (Turn.then T12.out hT)
  have HS4 := Lib.hid (jsame_form xe xi r r ke ki K K w13 (jseg_stay SE12.out hT) hs true (Js.sameB_yes rfl))
  clear H T12 SE12 hT hs
  dsimp only
  go_wp2_with fail
  refine HS4.out.mono ?_
  rintro e w14 ⟨rfl, hT⟩
  have T14 := Lib.hid (Turn.then T13.out hT)
  clear HS4 T13 hT
  dsimp only
  go_wp2
  go_ret
  exact ⟨rfl, below_of T14.out⟩

theorem calls_any (a0 : Option Addr) (n0 c0 : Nat) (l0 : List Bool) (a1 : Option Addr) (n1 c1 : Nat) (l1 : List Int) (v : Int) (w : World) (s0 : Bl.Seg w a0 n0 c0 l0) (s1 : Bs.Seg w a1 n1 c1 l1) (b1 : Bs.IsB l1) :
    Calls Try.prog 4 #[.slice a0 n0 c0, .slice a1 n1 c1, .int .i64 v] w fun e w' => e = .returned (.bool true) ∧ Below w.heap.size w w' := by
  by_cases h : 300 < n0
  · exact calls_no a0 n0 c0 a1 n1 c1 v w (.inl h)
  · by_cases h1 : 300 < n1
    · exact calls_no a0 n0 c0 a1 n1 c1 v w (.inr ⟨h, h1⟩)
    · exact calls_yes a0 n0 c0 l0 a1 n1 c1 l1 v w s0 s1 b1 (by omega) (by omega)
end Go.Proofs.Ytpcilohiokpmnaa.Nu
