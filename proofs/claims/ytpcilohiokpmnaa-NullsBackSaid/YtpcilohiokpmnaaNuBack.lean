/-
  NullsBack: what was put is got, whatever stands behind, and how many bytes it has; what is got is put the same.
-/
import Derived.Test.YtpcilohiokpmnaaNuLaw
import Derived.Test.YtpcilohiokpmnaaKitOwn
namespace Go.Proofs.Ytpcilohiokpmnaa.Nu
open Go.RowKit
open Dv (Turn nowhere)
open Pk (Turn.then PutF below_of)
open Bs (info_u8)

set_option maxRecDepth 100000 in
set_option maxHeartbeats 4000000 in
theorem back_no (a0 : Option Addr) (n0 c0 : Nat) (a1 : Option Addr) (n1 c1 : Nat) (w : World) (hg : 300 < n0 ∨ (¬ 300 < n0 ∧ 300 < n1)) :
    Calls Try.prog 5 #[.slice a0 n0 c0, .slice a1 n1 c1] w fun e w' => e = .returned (.bool true) ∧ Below w.heap.size w w' := by
  rcases hg with h | ⟨h, h6⟩
  · have h' : (300 : Int) < (n0 : Int) := by omega
    clear h
    go_enter Try.func5, Try.ntmps5
    go_wp2_with fail
    refine (lives_any _).mono ?_
    rintro e w1 ⟨rfl, hT⟩
    have T1 := Lib.hid hT
    clear hT
    dsimp only
    go_wp2
    go_ret
    exact ⟨rfl, below_of T1.out⟩
  · have h' : ¬ (300 : Int) < (n0 : Int) := by omega
    have h6' : (300 : Int) < (n1 : Int) := by omega
    clear h h6
    go_enter Try.func5, Try.ntmps5
    go_wp2_with fail
    refine (lives_any _).mono ?_
    rintro e w1 ⟨rfl, hT⟩
    have T1 := Lib.hid hT
    clear hT
    dsimp only
    go_wp2
    go_ret
    exact ⟨rfl, below_of T1.out⟩

theorem put_yes {l : List Bool} (h : l.length ≤ 4096) : putN l = (0, encN l) := by unfold putN; rw [if_neg (by omega)]

set_option maxRecDepth 100000 in
set_option maxHeartbeats 4000000 in
theorem back_yes (a0 : Option Addr) (n0 c0 : Nat) (l0 : List Bool) (a1 : Option Addr) (n1 c1 : Nat) (l1 : List Int) (w : World) (s0 : Bl.Seg w a0 n0 c0 l0) (s1 : Bs.Seg w a1 n1 c1 l1) (b1 : Bs.IsB l1) (h0 : n0 ≤ 300) (h1 : n1 ≤ 300) :
    Calls Try.prog 5 #[.slice a0 n0 c0, .slice a1 n1 c1] w fun e w' => e = .returned (.bool true) ∧ Below w.heap.size w w' := by
  obtain ⟨i0, hi, hz0, hz1, hz2⟩ := info_parts info_u8
  have hl0 : l0.length ≤ 4096 := by have := s0.len; omega
  have hen := enc_len (l := l0) (by omega)
  have HIb := Lib.hid (In.isB_app (enc_isB (l := l0) (by omega)) b1)
  obtain ⟨p, hp⟩ : ∃ p, (encN l0).length = p := ⟨_, rfl⟩
  have HP := Lib.hid (fun W h => put_form (put_yes hl0) hp a0 n0 c0 W h)
  have HLen : Hid ((encN l0 ++ l1).length = p + n1) := Lib.hid (by rw [List.length_append, hp, s1.len])
  have HGo := Lib.hid (fun a c W h => got_form (bs := encN l0 ++ l1) (L := l0) (z := (p : Int)) (E := 0) (m := n0) (by
    rw [getN_enc hl0]
    unfold resN
    dsimp only
    rw [List.length_append, hp, show ((p + l1.length : Nat) : Int) - (l1.length : Int) = (p : Int) by omega]) s0.len HIb.out (by rw [HLen.out]; omega) a (p + n1) c W h)
  have S0 := Lib.hid s0
  have S1 := Lib.hid s1
  have HB1 := Lib.hid b1
  have L1 := Lib.hid s1.len
  rw [hp] at hen
  have hp2 : p ≤ 8203 := hen.2
  have h0' : ¬ (300 : Int) < (n0 : Int) := by omega
  have h1' : ¬ (300 : Int) < (n1 : Int) := by omega
  clear s0 s1 b1 hl0 hen hp
  go_enter Try.func5, Try.ntmps5
  go_wp2_with fail
  refine (lives_any _).mono ?_
  rintro e w1 ⟨rfl, hT⟩
  have T1 := Lib.hid hT
  have HP1 := Lib.hid (HP.out w1 (bseg_stay S0.out hT))
  clear hT
  dsimp only
  go_wp2_with fail
  refine HP1.out.mono ?_
  rintro e w2 ⟨x2, k2, rfl, hs2, hT⟩
  have T2 := Lib.hid (Turn.then T1.out hT)
  have HOwn := Lib.hid (Bs.own_any x2 p k2 (encN l0) w2 hs2 (by omega))
  have HS2 := Lib.hid (Pk.seg_stay S1.out T2.out)
  clear hT hs2 HP1 HP T1
  dsimp only
  go_wp2_with fail
  refine HOwn.out.mono ?_
  rintro e w3 ⟨g, c, rfl, hown, hg⟩
  have T3 := Lib.hid (Turn.then T2.out (Pk.turn_of hg))
  have HO := Lib.hid hown
  have HSz : Hid (w2.heap.size ≤ w3.heap.size) := Lib.hid hg.size
  have HB3 : Hid (Below w2.heap.size w2 w3) := Lib.hid (In.below_grown hg (Nat.le_refl _))
  have HS3 := Lib.hid (Pk.seg_stay S1.out T3.out)
  clear hown hg HOwn
  dsimp only
  go_wp2_with (first
    | (at_builtin; refine Bs.wpList_append_seg rfl (.tmp 32) (.tmp 33) 23 rfl w2.heap.size 5 i0 Try.underlying23 hi hz0 hz1 hz2 g p c _ rfl HO.out a1 n1 c1 l1 rfl HS3.out (by omega) HSz.out ?_; intro g4 c4 w4 hown4 hg4; have HSeg4 : Hid (Bs.Seg w4 (some ⟨g4, 0, none⟩) (p + n1) c4 (encN l0 ++ l1)) := Lib.hid (by rw [← List.map_append] at hown4; exact Bs.Seg.own hown4); have T4 : Hid (Turn w w4 nowhere) := Lib.hid (Turn.then T2.out (turn_below (HB3.out.grown hg4 HSz.out (fun j e => (HO.out.lt j e).1)))); have HG4 := Lib.hid (HGo.out (some ⟨g4, 0, none⟩) c4 w4 HSeg4.out); clear hown4 hg4)
    | fail)
  refine HG4.out.mono ?_
  rintro e w5 ⟨x5, k5, rfl, hs5, hT⟩
  have T5 := Lib.hid (Turn.then T4.out hT)
  have HSm := Lib.hid (bsame_form x5 a0 n0 n0 k5 c0 l0 l0 w5 hs5 (bseg_stay S0.out T5.out) true (Bl.sameB_yes rfl))
  have e1 : ((p : Int) != (p : Int)) = false := bne_self_eq_false _
  clear hT hs5 HG4 HSeg4 T4 HO HB3 HS3 HSz T3
  dsimp only
  go_wp2_with fail
  refine HSm.out.mono ?_
  rintro e w6 ⟨rfl, hT⟩
  have T6 := Lib.hid (Turn.then T5.out hT)
  have S6 := Lib.hid (Pk.seg_stay S1.out T6.out)
  clear hT HSm T5 e1
  dsimp only
  cases hM : getN l1 with
  | none =>
    have HG := Lib.hid (got_form (bs := l1) (L := []) (z := 0) (E := 4) (m := 0) (by rw [hM]; rfl) rfl HB1.out (by have := L1.out; omega) a1 n1 c1 w6 S6.out)
    clear hM
    go_wp2_with fail
    refine HG.out.mono ?_
    rintro e w7 ⟨x7, k7, rfl, hs7, hT⟩
    have T7 := Lib.hid (Turn.then T6.out hT)
    clear hT hs7 HG
    dsimp only
    go_wp2
    go_ret
    exact ⟨rfl, below_of T7.out⟩
  | some q =>
    obtain ⟨u, s⟩ := q
    obtain ⟨hu, hb⟩ := getN_some HB1.out hM
    obtain ⟨m, hm⟩ : ∃ m, u.length = m := ⟨_, rfl⟩
    obtain ⟨y, hy⟩ : ∃ y, (encN u).length = y := ⟨_, rfl⟩
    have hyn : y + s.length = n1 := by
      have := congrArg List.length hb
      rw [List.length_append, hy, L1.out] at this
      exact this.symm
    have HG := Lib.hid (got_form (bs := l1) (L := u) (z := (y : Int)) (E := 0) (m := m) (by
      rw [hM]
      unfold resN
      dsimp only
      rw [L1.out, show (n1 : Int) - (s.length : Int) = (y : Int) by omega]) hm HB1.out (by have := L1.out; omega) a1 n1 c1 w6 S6.out)
    have HPu := Lib.hid (fun a c W h => put_form (put_yes hu) hy a m c W h)
    have HTk : Hid (l1.take y = encN u) := Lib.hid (by rw [hb, ← hy, List.take_left])
    have hyb : y ≤ n1 := by omega
    have hyc : (y : Int) ≤ (c1 : Int) := by have := S1.out.le; omega
    have hyn' : (y : Int) ≤ (n1 : Int) := by omega
    have hy0 : (0 : Int) ≤ (y : Int) := by omega
    clear hM hu hb hm hy hyn
    go_wp2_with fail
    refine HG.out.mono ?_
    rintro e w7 ⟨x7, k7, rfl, hs7, hT⟩
    have T7 := Lib.hid (Turn.then T6.out hT)
    have HP7 := Lib.hid (HPu.out x7 k7 w7 hs7)
    clear hT hs7 HG
    dsimp only
    go_wp2_with fail
    refine HP7.out.mono ?_
    rintro e w8 ⟨x8, k8, rfl, hs8, hT⟩
    have T8 := Lib.hid (Turn.then T7.out hT)
    have HSl : Hid (Bs.Seg w8 a1 y c1 (encN u)) := Lib.hid (by
      have := (Pk.seg_stay S1.out T8.out).take hyb
      rwa [HTk.out] at this)
    have HSm := Lib.hid (Pk.same_form x8 a1 y y k8 c1 (encN u) (encN u) w8 hs8 HSl.out true (Bs.sameB_yes rfl))
    clear hT hs8 HP7
    dsimp only
    go_wp2_with fail
    refine HSm.out.mono ?_
    rintro e w9 ⟨rfl, hT⟩
    have T9 := Lib.hid (Turn.then T8.out hT)
    clear hT HSm
    dsimp only
    go_wp2
    go_ret
    exact ⟨rfl, below_of T9.out⟩

theorem back_any (a0 : Option Addr) (n0 c0 : Nat) (l0 : List Bool) (a1 : Option Addr) (n1 c1 : Nat) (l1 : List Int) (w : World) (s0 : Bl.Seg w a0 n0 c0 l0) (s1 : Bs.Seg w a1 n1 c1 l1) (b1 : Bs.IsB l1) :
    Calls Try.prog 5 #[.slice a0 n0 c0, .slice a1 n1 c1] w fun e w' => e = .returned (.bool true) ∧ Below w.heap.size w w' := by
  by_cases h : 300 < n0
  · exact back_no a0 n0 c0 a1 n1 c1 w (.inl h)
  · by_cases h1 : 300 < n1
    · exact back_no a0 n0 c0 a1 n1 c1 w (.inr ⟨h, h1⟩)
    · exact back_yes a0 n0 c0 l0 a1 n1 c1 l1 w s0 s1 b1 (by omega) (by omega)
end Go.Proofs.Ytpcilohiokpmnaa.Nu
