/-
  CountsSums, walked.
-/
import Derived.Test.YtkinmcnmdfpjbaaCnKit
import Derived.Test.YtkinmcnmdfpjbaaKitPick
namespace Go.Proofs.Ytkinmcnmdfpjbaa.Cn
open Go.RowKit Bs Dv Gr
open Su (GeoOk geo_iff)

/-- block 2's count is x -/
def oneC (x : Int) : List Int := [1, 1, x, 0, 0, 0, 0, 0]
theorem one_addE (x : Int) (h0 : 0 < x) (h1 : x < 65535) : addE (oneC x) 2 = 0 := by
  have e : (oneC x).getD 2 0 = x := rfl
  unfold addE
  rw [e, if_neg (fun k => k ⟨Nat.le_refl 2, by show 2 < 8; decide⟩), if_neg (by omega), if_neg (by omega)]
theorem one_addN (x : Int) (h0 : 0 < x) (h1 : x < 65535) : addN (oneC x) 2 = oneC (x + 1) := if_pos (one_addE x h0 h1)
theorem one_addZ : addE (oneC 0) 2 = 8 := by decide
theorem one_sub (x : Int) (h0 : 0 < x) : subE (oneC x) 2 = 0 ∧ subN (oneC x) 2 = oneC (x - 1) ∧ subV (oneC x) 2 = x - 1 := by
  have e : (oneC x).getD 2 0 = x := rfl
  have h : subE (oneC x) 2 = 0 := by
    unfold subE
    rw [e, if_neg (fun k => k ⟨Nat.le_refl 2, by show 2 < 8; decide⟩), if_neg (by omega)]
  exact ⟨h, if_pos h, if_pos h⟩
theorem one_subZ : subE (oneC 0) 2 = 8 ∧ subN (oneC 0) 2 = oneC 0 ∧ subV (oneC 0) 2 = 0 := by decide

set_option maxRecDepth 100000 in
set_option maxHeartbeats 4000000 in
theorem sums_any (a0 a1 : Int) (w : World) : Calls Try.prog 7 #[.int .i64 a0, .int .i64 a1] w fun e w' => e = .returned (.bool true) ∧ Below w.heap.size w w' := by
  have HLV := Lib.hid (lives_any w)
  have HP0 := Lib.hid (fun W => pick_any a0 300 W (by decide) (by decide))
  have HP1 := Lib.hid (fun W => pick_any a1 400 W (by decide) (by decide))
  have r0 := pick_range a0 300 (by decide)
  have r1 := pick_range a1 400 (by decide)
  obtain ⟨u, hu⟩ : ∃ u : Nat, pick a0 300 = u := Int.eq_ofNat_of_zero_le r0.1
  obtain ⟨d, hd⟩ : ∃ d : Nat, pick a1 400 = d := Int.eq_ofNat_of_zero_le r1.1
  rw [hu] at HP0 r0
  rw [hd] at HP1 r1
  have hu3 : u < 300 := by omega
  have hd4 : d < 400 := by omega
  have HS := Lib.hid (fun W => small_any W)
  have HN := Lib.hid (fun W (k : w.grownBy W none) => new_yes 128 8 w W k geo_small)
  have HR1 : Hid (TakeR [] (newC 8) (some 2)) := Lib.hid (ones_take 8 2 (by decide) (by decide)).1
  have HS1 : Hid ((newC 8).set 2 1 = oneC 1) := Lib.hid rfl
  clear hu hd r0 r1
  go_enter Try.func7, Try.ntmps7
  go_wp2_with fail
  refine HLV.out.mono ?_
  rintro e w1 ⟨rfl, hg⟩
  have HG1 := Lib.hid hg
  clear hg
  dsimp only
  go_wp2_with fail
  refine (HP0.out _).mono ?_
  rintro e w' ⟨rfl, rfl⟩
  dsimp only
  go_wp2_with fail
  refine (HP1.out _).mono ?_
  rintro e w' ⟨rfl, rfl⟩
  dsimp only
  go_wp2_with fail
  refine (HS.out _).mono ?_
  rintro e w2 ⟨rfl, hg⟩
  have HN1 := Lib.hid (HN.out _ (grown_then HG1.out hg))
  clear hg HG1
  dsimp only
  go_wp2_with fail
  refine HN1.out.mono ?_
  rintro e w3 ⟨g, h, cap, rfl, hc, -, -, -⟩
  have HC3 := Lib.hid hc
  clear hc HN1
  dsimp only
  go_wp2_with fail
  refine HC3.out.take.mono ?_
  intro e w4 hx
  obtain ⟨rfl, hc, -⟩ := HC3.out.took HR1.out hx
  rw [HS1.out] at hc
  have HC4 := Lib.hid hc
  clear hc hx HC3 HR1
  dsimp only
  go_wp2_with fail
  refine HC4.out.clone.mono ?_
  rintro e w5 ⟨g2, h2, cap2, rfl, hd5, hg5, hl1, hl2⟩
  have HC5 := Lib.hid (HC4.out.old hg5)
  have HD5 := Lib.hid hd5
  have hng : g ≠ h2 := by have := HC4.out.cc.glt; omega
  have hnh : h ≠ h2 := by have := HC4.out.cc.lt; omega
  have hng2 : g2 ≠ h := by have := HC4.out.cc.lt; omega
  have HNE := Lib.hid (⟨hng2, fun e => hnh e.symm⟩ : g2 ≠ h ∧ h2 ≠ h)
  clear hd5 hg5 hl1 hl2 HC4 hng hnh hng2
  dsimp only
  go_wp2
  go_loopw [10] (fun si wr => ∃ i : Nat, i ≤ u ∧ si = .int .i64 i ∧ Hid (CN w wr g h cap 128 8 (oneC ((i : Int) + 1))) ∧ Hid (CN w wr g2 h2 cap2 128 8 (oneC 1))) (fun si _ => u - (intOf si).toNat)
  case atStart => exact ⟨0, Nat.zero_le _, rfl, HC5, HD5⟩
  case round =>
    obtain ⟨i, hi, rfl, HC, HD⟩ := hrel
    by_cases hlt : i < u
    · have hq : decide (i < u) = true := decide_eq_true hlt
      have HA := Lib.hid (HC.out.add 2 (by decide))
      rw [one_addE _ (by omega) (by omega), one_addN _ (by omega) (by omega)] at HA
      go_wp2_with fail
      refine HA.out.mono ?_
      rintro e w6 ⟨rfl, hc, ht⟩
      have HC6 : Hid (CN w w6 g h cap 128 8 (oneC (((i + 1 : Nat) : Int) + 1))) := Lib.hid (by rw [show (((i + 1 : Nat) : Int) + 1) = (i : Int) + 1 + 1 by omega]; exact hc)
      have HD6 := Lib.hid (HD.out.beside ht HNE.out.1 HNE.out.2 HC.out.new)
      clear hc ht HA HC HD
      dsimp only
      go_wp2
      go_roundw
      case rel => exact ⟨i + 1, by omega, by go_num, HC6, HD6⟩
      case measure => simp [intOf]; omega
    · have hq : decide (i < u) = false := decide_eq_false hlt
      obtain rfl : i = u := by omega
      clear HC5 HD5
      go_wp2
      go_loopw [11, 12] (fun sl sj w7 => ∃ (j l : Nat), j ≤ d ∧ l ≤ i + 1 ∧ sj = .int .i64 j ∧ sl = .int .i64 l ∧ Hid (CN w w7 g h cap 128 8 (oneC (l : Int))) ∧ Hid (CN w w7 g2 h2 cap2 128 8 (oneC 1))) (fun _ sj _ => d - (intOf sj).toNat)
      case atStart => exact ⟨0, i + 1, Nat.zero_le _, Nat.le_refl _, rfl, by go_num, Lib.hid (by rw [Int.natCast_add]; exact HC.out), HD⟩
      case round =>
        clear HC HD
        obtain ⟨j, l, hj, hl, rfl, rfl, HC, HD⟩ := hrel
        by_cases hjd : j < d
        · have hqj : decide (j < d) = true := decide_eq_true hjd
          by_cases hl0 : l = 0
          · subst hl0
            have HA := Lib.hid (HC.out.sub 2 (by decide))
            rw [show (((0 : Nat) : Int)) = 0 from rfl, one_subZ.1, one_subZ.2.1, one_subZ.2.2] at HA
            go_wp2_with fail
            refine HA.out.mono ?_
            rintro e w8 ⟨rfl, hc, ht⟩
            have HC8 : Hid (CN w w8 g h cap 128 8 (oneC ((0 : Nat) : Int))) := Lib.hid hc
            have HD8 := Lib.hid (HD.out.beside ht HNE.out.1 HNE.out.2 HC.out.new)
            clear hc ht HA HC HD
            dsimp only
            go_wp2
            go_roundw
            case rel => exact ⟨j + 1, 0, by omega, by omega, by go_num, rfl, HC8, HD8⟩
            case measure => simp [intOf]; omega
          · have HA := Lib.hid (HC.out.sub 2 (by decide))
            have h1s := one_sub (l : Int) (by omega)
            rw [h1s.1, h1s.2.1, h1s.2.2] at HA
            have ql : ((l : Int) == 0) = false := beq_eq_false_iff_ne.2 (by omega)
            have e1 : IntKind.i64.wrap ((l : Int) - 1) = (l : Int) - 1 := IntWalk.i64_in _ (by omega)
            obtain ⟨m, rfl⟩ : ∃ m, l = m + 1 := ⟨l - 1, by omega⟩
            rw [show (((m + 1 : Nat) : Int)) - 1 = (m : Int) by omega] at HA e1
            clear h1s hl0
            go_wp2_with fail
            refine HA.out.mono ?_
            rintro e w8 ⟨rfl, hc, ht⟩
            have HC8 := Lib.hid hc
            have HD8 := Lib.hid (HD.out.beside ht HNE.out.1 HNE.out.2 HC.out.new)
            clear hc ht HA HC HD
            dsimp only
            go_wp2
            go_roundw
            case rel => exact ⟨j + 1, m, by omega, by omega, by go_num, by go_num, HC8, HD8⟩
            case measure => simp [intOf]; omega
        · have hqj : decide (j < d) = false := decide_eq_false hjd
          obtain rfl : j = d := by omega
          have HG := Lib.hid (HC.out.get 2 (by decide))
          have HG2 := Lib.hid (HD.out.get 2 (by decide))
          rw [show (oneC (l : Int)).getD 2 0 = (l : Int) from rfl] at HG
          rw [show (oneC 1).getD 2 0 = 1 from rfl] at HG2
          have HB : Hid (Below w.heap.size w wr) := Lib.hid (grown_below HC.out.gr)
          by_cases hl0 : l = 0
          · subst hl0
            have HA := Lib.hid (HC.out.add 2 (by decide))
            rw [show (((0 : Nat) : Int)) = 0 from rfl, one_addZ] at HA
            rw [show (((0 : Nat) : Int)) = 0 from rfl] at HG
            go_wp2_with fail
            refine HG.out.mono ?_
            rintro e w' ⟨rfl, rfl⟩
            dsimp only
            go_wp2_with fail
            refine HG2.out.mono ?_
            rintro e w' ⟨rfl, rfl⟩
            dsimp only
            go_wp2_with fail
            refine HA.out.mono ?_
            rintro e w9 ⟨rfl, hc, -⟩
            have HB9 := Lib.hid (grown_below hc.gr)
            clear hc
            dsimp only
            go_wp2
            go_ret
            exact ⟨rfl, HB9.out⟩
          · have ql : decide ((0 : Int) < (l : Int)) = true := decide_eq_true (by omega)
            have ql2 : ((l : Int) == (l : Int)) = true := beq_self_eq_true _
            have ql3 : decide (0 < l) = true := decide_eq_true (by omega)
            clear hl0
            go_wp2_with fail
            refine HG.out.mono ?_
            rintro e w' ⟨rfl, rfl⟩
            dsimp only
            go_wp2_with fail
            refine HG2.out.mono ?_
            rintro e w' ⟨rfl, rfl⟩
            dsimp only
            go_wp2
            go_ret
            exact ⟨rfl, HB.out⟩
end Go.Proofs.Ytkinmcnmdfpjbaa.Cn
