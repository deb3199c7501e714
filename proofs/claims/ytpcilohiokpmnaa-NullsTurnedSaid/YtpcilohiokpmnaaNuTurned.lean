/-
  NullsTurned: all flags turned: as many are true as were not, what had a value has none, runs are as long.
-/
import Derived.Test.YtpcilohiokpmnaaNuNames
import Derived.Test.YtpcilohiokpmnaaNuTell
namespace Go.Proofs.Ytpcilohiokpmnaa.Nu
open Go.RowKit
open Dv (Turn nowhere)
open Pk (Turn.then PutF below_of)

set_option maxRecDepth 100000 in
set_option maxHeartbeats 4000000 in
theorem turned_no (a : Option Addr) (n c : Nat) (w : World) (h : 300 < n) :
    Calls Try.prog 7 #[.slice a n c] w fun e w' => e = .returned (.bool true) ∧ Below w.heap.size w w' := by
  have h' : (300 : Int) < (n : Int) := by omega
  clear h
  go_enter Try.func7, Try.ntmps7
  go_wp2_with fail
  refine (lives_any _).mono ?_
  rintro e w1 ⟨rfl, hT⟩
  have T1 := Lib.hid hT
  clear hT
  dsimp only
  go_wp2
  go_ret
  exact ⟨rfl, below_of T1.out⟩

theorem sign_at (l : List Bool) (i : Nat) (h : i < l.length) : decide ((placesF 0 l).getD i 0 < 0) = l.getD i false := (places_neg l 0 i h).1
theorem not_at (l : List Bool) (i : Nat) (h : i < l.length) : (l.map (!·)).getD i false = !(l.getD i false) := by simp [List.getD, h]

set_option maxRecDepth 100000 in
set_option maxHeartbeats 8000000 in
theorem turned_yes (a : Option Addr) (n c : Nat) (l : List Bool) (w : World) (s : Bl.Seg w a n c l) (h : n ≤ 300) :
    Calls Try.prog 7 #[.slice a n c] w fun e w' => e = .returned (.bool true) ∧ Below w.heap.size w w' := by
  have hl := s.len
  have HL := Lib.hid hl
  obtain ⟨z, hz⟩ : ∃ z, cnt l = z := ⟨_, rfl⟩
  obtain ⟨D, hD⟩ : ∃ D, l.map (!·) = D := ⟨_, rfl⟩
  have hDl : D.length = n := by rw [← hD, List.length_map, hl]
  have HDl := Lib.hid hDl
  have hzn : z ≤ n := by have := cnt_le l; omega
  have hcD : cnt D = n - z := by have := cnt_not l; rw [hD, hz, hl] at this; omega
  obtain ⟨r, hr⟩ : ∃ r, (runsL l).length = r := ⟨_, rfl⟩
  have hlensD : lens D = lens l := by rw [← hD]; exact lens_not l
  have hrD : (runsL D).length = r := by rw [← lens_len, hlensD, lens_len, hr]
  have hsp1 : spreadF l ((n : Int) - (z : Int)) = placesF 0 l := by unfold spreadF; rw [hl, hz, if_pos rfl]
  have hsp2 : spreadF D (z : Int) = placesF 0 D := by unfold spreadF; rw [hDl, hcD, if_pos (by omega)]
  have HD : Hid (∀ i, i < n → D.getD i false = !(l.getD i false)) := Lib.hid (fun i hi => by rw [← hD]; exact not_at l i (by omega))
  have HA : Hid (∀ i, i < n → decide ((placesF 0 l).getD i 0 < 0) = l.getD i false) := Lib.hid (fun i hi => sign_at l i (by omega))
  have HBn : Hid (∀ i, i < n → decide ((placesF 0 D).getD i 0 < 0) = D.getD i false) := Lib.hid (fun i hi => sign_at D i (by omega))
  have PC := Lib.hid (fun W h => Count_any a n c l W h)
  have PCD := Lib.hid (fun A C W h => Count_any A n C D W h)
  have hcDi : ((cnt D : Nat) : Int) = (n : Int) - (z : Int) := by rw [hcD]; omega
  have PS := Lib.hid (fun W h hm => spread_any a n c l ((n : Int) - (z : Int)) n W h (by omega) hm)
  have PSD := Lib.hid (fun A C W h hm => spread_any A n C D (z : Int) n W h (by omega) hm)
  rw [hz] at PC
  rw [hcDi] at PCD
  rw [hsp1] at PS
  rw [hsp2] at PSD
  have PS := Lib.hid (fun W h => PS.out W h (by rw [places_len, hl]))
  have PSD := Lib.hid (fun A C W h => PSD.out A C W h (by rw [places_len, hDl]))
  have PR := Lib.hid (fun W h => tell_any a n c l W h (by omega))
  have PRD := Lib.hid (fun A C W h => tell_any A n C D W h (by omega))
  rw [hr] at PR
  rw [hrD, hlensD] at PRD
  obtain ⟨K, hK⟩ : ∃ K, lens l = K := ⟨_, rfl⟩
  rw [hK] at PR PRD
  have hmk := make_flags n (by omega)
  have S0 := Lib.hid s
  have hn := Nat.le_trans h (by decide : 300 ≤ 1000000)
  have h' : ¬ (300 : Int) < (n : Int) := by omega
  have hw : IntKind.i64.wrap ((n : Int) - (z : Int)) = (n : Int) - (z : Int) := by rw [IntKind.wrap_i64]; omega
  have e1 : ((n : Int) - (z : Int) != (n : Int) - (z : Int)) = false := bne_self_eq_false _
  have e2 : ((n : Int) != (n : Int)) = false := bne_self_eq_false _
  clear s hl hz hD hDl hcD hr hlensD hrD hsp1 hsp2 hcDi hK h
  go_enter Try.func7, Try.ntmps7
  go_wp2_with fail
  refine (lives_any _).mono ?_
  rintro e w1 ⟨rfl, hT⟩
  have T1 := Lib.hid hT
  have S1 := Lib.hid (bseg_stay S0.out hT)
  have HO1 := Lib.hid (made_flags w1 D n hn HDl.out)
  clear hT
  dsimp only
  go_wp2
  obtain ⟨G, hG⟩ : ∃ G, w1.heap.size = G := ⟨_, rfl⟩
  have HG := Lib.hid hG
  rw [hG] at HO1
  simp only [hG]
  clear hG
  go_loopw [4] (fun si wr => ∃ k : Nat, k ≤ n ∧ si = .int .i64 k ∧ Hid (wr.ownsRow G 4 1 (.slice (some ⟨G, 0, none⟩) n n) n ((fillF D k).map Value.bool)) ∧ Hid (Below w1.heap.size w1 wr)) (fun si _ => n - (intOf si).toNat)
  case atStart => exact ⟨0, Nat.zero_le _, rfl, HO1, Lib.hid ((Below.refl _ w1).alloc (Nat.le_refl _) _)⟩
  case round =>
    obtain ⟨k, hk, rfl, HO, HB⟩ := hrel
    by_cases hlt : k < n
    · have hcell := HO.out.cellAt k (by omega)
      have hkl : k < (fillF D k).length := by rw [fillF_len D k (by rw [HDl.out]; exact hk), HDl.out]; exact hlt
      rw [List.getElem?_map, List.getElem?_eq_getElem hkl] at hcell
      simp only [Option.map_some] at hcell
      have hfree := HO.out.frozenAt k
      obtain ⟨g, o, rfl, hc⟩ := (bseg_below S1.out HB.out rfl).addr (by omega)
      have hck := hc k hlt
      have HDk := Lib.hid (HD.out k hlt)
      obtain ⟨b, hb⟩ : ∃ b, l.getD k false = b := ⟨_, rfl⟩
      rw [hb] at hck HDk
      have HO2 : Hid ((wr.setCell ⟨G, k, none⟩ (.bool !b)).ownsRow G 4 1 (.slice (some ⟨G, 0, none⟩) n n) n ((fillF D (k + 1)).map Value.bool)) := Lib.hid (by
        rw [← fillF_set D k (by rw [HDl.out]; exact hlt), HDk.out, List.map_set]
        exact (HO.out.stored k (.bool !b)).1)
      have HB2 : Hid (Below w1.heap.size w1 (wr.setCell ⟨G, k, none⟩ (.bool !b))) := Lib.hid (HB.out.setCell (p := ⟨G, k, none⟩) (by have := HG.out; simp; omega) _)
      generalize (fillF D k)[k]'_ = q at hcell
      have hlt2 : (k : Int) < (n : Int) := by omega
      clear hkl hc hb
      go_wp2
      go_roundw
      case rel => exact ⟨k + 1, by omega, by go_num, HO2, HB2⟩
      case measure => simp [intOf]; omega
    · obtain rfl : k = n := by omega
      have T2 : Hid (Turn w wr nowhere) := Lib.hid (Turn.then T1.out (turn_below HB.out))
      have SM : Hid (Bl.Seg wr (some ⟨G, 0, none⟩) k k D) := Lib.hid (by
        have h := HO.out
        have e : fillF D k = D := by have := fillF_all D; rwa [HDl.out] at this
        rw [e] at h
        exact Bl.Seg.own h)
      have H := Lib.hid (PC.out wr (bseg_stay S0.out T2.out))
      clear PC HO HB S1 HO1
      go_wp2_with fail
      refine H.out.mono ?_
      rintro e w3 ⟨rfl, hT⟩
      have T3 := Lib.hid (Turn.then T2.out hT)
      have SM3 := Lib.hid (bseg_stay SM.out hT)
      clear H hT T2 SM
      have H := Lib.hid (PS.out w3 (bseg_stay S0.out T3.out))
      clear PS
      dsimp only
      go_wp2_with fail
      refine H.out.mono ?_
      rintro e w4 ⟨xa, ka, rfl, hs, hT⟩
      have T4 := Lib.hid (Turn.then T3.out hT)
      have SM4 := Lib.hid (bseg_stay SM3.out hT)
      have SA := Lib.hid hs
      clear H hT hs T3 SM3
      have H := Lib.hid (PSD.out _ _ w4 SM4.out)
      clear PSD
      dsimp only
      go_wp2_with fail
      refine H.out.mono ?_
      rintro e w5 ⟨xb, kb, rfl, hs, hT⟩
      have T5 := Lib.hid (Turn.then T4.out hT)
      have SM5 := Lib.hid (bseg_stay SM4.out hT)
      have SA5 := Lib.hid (jseg_stay SA.out hT)
      have SB := Lib.hid hs
      clear H hT hs T4 SM4 SA
      have H := Lib.hid (PCD.out _ _ w5 SM5.out)
      clear PCD
      dsimp only
      go_wp2_with fail
      refine H.out.mono ?_
      rintro e w6 ⟨rfl, hT⟩
      have T6 := Lib.hid (Turn.then T5.out hT)
      have SM6 := Lib.hid (bseg_stay SM5.out hT)
      have SA6 := Lib.hid (jseg_stay SA5.out hT)
      have SB6 := Lib.hid (jseg_stay SB.out hT)
      clear H hT T5 SM5 SA5 SB
      dsimp only
      go_wp2
      go_loopw [8] (fun si wr => ∃ i : Nat, i ≤ k ∧ si = .int .i64 i ∧ Hid (Turn w6 wr nowhere)) (fun si _ => k - (intOf si).toNat)
      case atStart => exact ⟨0, Nat.zero_le _, rfl, Lib.hid (Turn.refl _ _)⟩
      case round =>
        obtain ⟨i, hi, rfl, HT⟩ := hrel
        by_cases hlt : i < k
        · obtain ⟨ga, oa, rfl, hca⟩ := (jseg_stay SA6.out HT.out).addr (by omega)
          obtain ⟨gb, ob, rfl, hcb⟩ := (jseg_stay SB6.out HT.out).addr (by omega)
          have qa := hca i hlt
          have qb := hcb i hlt
          have hx := HA.out i hlt
          have hy := HBn.out i hlt
          rw [HD.out i hlt] at hy
          obtain ⟨b, hb⟩ : ∃ b, l.getD i false = b := ⟨_, rfl⟩
          rw [hb] at hx hy
          generalize (placesF 0 l).getD i 0 = x at qa hx
          generalize (placesF 0 D).getD i 0 = y at qb hy
          have hlt2 : (i : Int) < (k : Int) := by omega
          clear hca hcb hb
          cases b
          all_goals
            have hx' := hx
            have hy' := hy
            simp only [Bool.not_true, Bool.not_false, decide_eq_true_eq, decide_eq_false_iff_not] at hx' hy'
            simp only [Bool.not_true, Bool.not_false] at hy
            go_wp2
            go_quiet (fail)
            go_wp2
            go_roundw
            case rel => exact ⟨i + 1, by omega, by go_num, Lib.hid (Turn.then HT.out (Turn.drewN _ _ nowhere))⟩
            case measure => simp [intOf]; omega
        · obtain rfl : i = k := by omega
          have T7 := Lib.hid (Turn.then T6.out HT.out)
          have SM7 := Lib.hid (bseg_stay SM6.out HT.out)
          clear T6 SM6 SA6 SB6 HT
          have H := Lib.hid (PR.out wr (bseg_stay S0.out T7.out))
          clear PR
          go_wp2_with fail
          refine H.out.mono ?_
          rintro e w8 ⟨xe, ke, xf, kf, rfl, hs, -, hT⟩
          have T8 := Lib.hid (Turn.then T7.out hT)
          have SM8 := Lib.hid (bseg_stay SM7.out hT)
          have SE := Lib.hid hs
          clear H hT hs T7 SM7
          have H := Lib.hid (PRD.out _ _ w8 SM8.out)
          clear PRD
          dsimp only
          go_wp2_with fail
          refine H.out.mono ?_
          rintro e w9 ⟨xg, kg, xh, kh, rfl, hs, -, hT⟩
          have T9 := Lib.hid (Turn.then T8.out hT)
          have HS4 := Lib.hid (jsame_form xe xg r r ke kg K K w9 (jseg_stay SE.out hT) hs true (Js.sameB_yes rfl))
          clear H hT hs T8 SM8
          dsimp only
          go_wp2_with fail
          refine HS4.out.mono ?_
          rintro e w14 ⟨rfl, hT⟩
          have T14 := Lib.hid (Turn.then T9.out hT)
          clear HS4 T9 hT
          dsimp only
          go_wp2
          go_ret
          exact ⟨rfl, below_of T14.out⟩

theorem turned_any (a : Option Addr) (n c : Nat) (l : List Bool) (w : World) (s : Bl.Seg w a n c l) :
    Calls Try.prog 7 #[.slice a n c] w fun e w' => e = .returned (.bool true) ∧ Below w.heap.size w w' := by
  by_cases h : 300 < n
  · exact turned_no a n c w h
  · exact turned_yes a n c l w s (by omega)
end Go.Proofs.Ytpcilohiokpmnaa.Nu
