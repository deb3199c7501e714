/-
  CountsNames, walked.
-/
import Derived.Test.YtkinmcnmdfpjbaaCnLoadM
namespace Go.Proofs.Ytkinmcnmdfpjbaa.Cn
open Go.RowKit Bs Dv Gr
open Su (GeoOk pagesF)

theorem lit_str (W : World) (l : List Int) : Ss.Seg (W.alloc (.cells #[.string (strOfNums l)] 9)) (some ⟨W.heap.size, 0, none⟩) 1 1 [l] := by
  refine ⟨rfl, Nat.le_refl _, by unfold maxLen; omega, (fun e => by cases e), fun ad had j u hu => ?_⟩
  cases had
  match j, hu with
  | 0, hu =>
    have e : u = .string (strOfNums l) := by
      have : some (Ss.encW l) = some u := hu
      exact (Option.some.inj this).symm
    rw [Addr.add_lit, e, cell_of_row _ _ _ _ _ _ (heap_alloc_new W _)]
    rfl
theorem geo_nine : GeoOk 128 9 := by unfold GeoOk; omega
theorem each_small : eachC 128 = 56 := by decide
/-- the counts behind i more Takes -/
def ntk (i : Nat) : List Int := [1, 1, 0, 2] ++ List.replicate i 1 ++ List.replicate (4 - i) 0
def heldN : List Int := [1, 1, 1, 0, 0, 0, 0, 0]
theorem ntk_take (i : Nat) (h : i < 4) : TakeR heldN (ntk i) (some (4 + i)) ∧ (ntk i).set (4 + i) 1 = ntk (i + 1) := by
  rcases (show i = 0 ∨ i = 1 ∨ i = 2 ∨ i = 3 by omega) with rfl | rfl | rfl | rfl
  · exact ⟨.one 4 (by decide) (by decide), by decide⟩
  · exact ⟨.one 5 (by decide) (by decide), by decide⟩
  · exact ⟨.one 6 (by decide) (by decide), by decide⟩
  · exact ⟨.one 7 (by decide) (by decide), by decide⟩
theorem ntk_full : TakeR heldN (ntk 4) none := .full (fun j hf => by
  have h1 : j < 8 := hf.2.1
  have h2 : ∀ j, j < 8 → ¬ freeC heldN (ntk 4) j := by decide
  exact h2 j h1 hf)
def pgA : List Int := [1, 0, 1, 0, 0, 0, 2, 0, 0, 0, 0, 0, 0, 0, 0, 0]
def pgB : List Int := [1, 0, 1, 0, 0, 0, 2, 0, 0, 0, 0, 0, 0, 0, 0, 1]
def pgC : List Int := [2, 0, 1, 0, 0, 0, 2, 0, 0, 0, 0, 0, 0, 0, 0, 1]
theorem load_B : loadC 128 8 [pgB] = ([1, 1, 0, 2, 0, 0, 0, 256], 0) := by decide +kernel
theorem load_C : (loadC 128 8 [pgC]).2 = 4 := by decide +kernel
theorem load_nil : (loadC 128 8 []).2 = 4 := by decide +kernel
theorem okB : CnOk 128 8 [1, 1, 0, 2, 0, 0, 0, 256] := ⟨geo_small, rfl, by unfold IsC; decide, rfl, rfl⟩
theorem load_yes (ps : List (List Int)) (a : Option Addr) (m pc : Nat) (w : World) (M : List Int) (hs : Ss.Seg w a m pc ps) (hb : Ss.IsS ps) (h : loadC 128 8 ps = (M, 0)) (ho : CnOk 128 8 M) :
    Calls Try.prog 17 #[.agg #[.int .i64 128, .int .i64 8], .slice a m pc] w fun e w' => ∃ g h cap, e = .returned (.tuple #[.pointer (some ⟨g, 0, none⟩), .int .i64 0]) ∧ CN w w' g h cap 128 8 M ∧ w.grownBy w' none := by
  refine (load_any 128 8 a m pc ps w hs hb).mono ?_
  rintro e w' ⟨hg, ⟨hno, -⟩ | ⟨n, hn, hok, ⟨h4, -⟩ | ⟨h0, g, h', cap, rfl, hcc, hl1, hl2⟩⟩⟩
  · exact absurd geo_small hno
  · obtain rfl : 8 = n := by omega
    rw [h] at h4; cases h4
  · obtain rfl : 8 = n := by omega
    rw [h] at hcc
    exact ⟨g, h', cap, rfl, ⟨hcc, ho, hl2, hl1, hg⟩, hg⟩
theorem load_not (ps : List (List Int)) (a : Option Addr) (m pc : Nat) (w : World) (hs : Ss.Seg w a m pc ps) (hb : Ss.IsS ps) (h : (loadC 128 8 ps).2 = 4) :
    Calls Try.prog 17 #[.agg #[.int .i64 128, .int .i64 8], .slice a m pc] w fun e w' => e = .returned (.tuple #[.pointer none, .int .i64 4]) ∧ w.grownBy w' none := by
  refine (load_any 128 8 a m pc ps w hs hb).mono ?_
  rintro e w' ⟨hg, ⟨hno, -⟩ | ⟨n, hn, hok, ⟨h4, rfl⟩ | ⟨h0, -⟩⟩⟩
  · exact absurd geo_small hno
  · exact ⟨rfl, hg⟩
  · obtain rfl : 8 = n := by omega
    rw [h] at h0; cases h0
theorem CN.used {w0 w : World} {g h cap : Nat} {size : Int} {n : Nat} {N : List Int} (c : CN w0 w g h cap size n N) :
    Calls Try.prog 19 #[.pointer (some ⟨g, 0, none⟩)] w fun e w' => e = .returned (.int .i64 (usedC N : Int)) ∧ w.grownBy w' none := usedc_any g h cap size N w c.cc c.ok.cnt
set_option maxRecDepth 100000 in
set_option maxHeartbeats 8000000 in
theorem names_any (w : World) : Calls Try.prog 3 #[] w fun e w' => e = .returned (.bool true) ∧ Below w.heap.size w w' := by
  have HLV := Lib.hid (lives_any w)
  have HS := Lib.hid (fun W => small_any W)
  have HN8 := Lib.hid (fun W (k : w.grownBy W none) => new_yes 128 8 w W k geo_small)
  have HN9 := Lib.hid (fun W (k : w.grownBy W none) => new_yes 128 9 w W k geo_nine)
  have HN0 := Lib.hid (fun W => new_no 0 0 W (by unfold GeoOk; omega))
  have HRH : Hid (TakeR [] (newC 8) (some 2) ∧ (newC 8).set 2 1 = heldN) := Lib.hid ⟨(ones_take 8 2 (by decide) (by decide)).1, by decide⟩
  have HR3 : Hid (TakeR heldN (newC 8) (some 3) ∧ (newC 8).set 3 1 = [1, 1, 0, 1, 0, 0, 0, 0]) := Lib.hid ⟨.one 3 (by decide) (by decide), by decide⟩
  have HA3 : Hid (addE [1, 1, 0, 1, 0, 0, 0, 0] 3 = 0 ∧ addN [1, 1, 0, 1, 0, 0, 0, 0] 3 = ntk 0) := Lib.hid (by decide)
  have HA2 : Hid (addE (ntk 0) 2 = 8 ∧ addN (ntk 0) 2 = ntk 0) := Lib.hid (by decide)
  have HA1 : Hid (addE (ntk 0) 1 = 2 ∧ addN (ntk 0) 1 = ntk 0) := Lib.hid (by decide)
  have HS9 : Hid (subE (ntk 0) 9 = 2 ∧ subV (ntk 0) 9 = 0 ∧ subN (ntk 0) 9 = ntk 0) := Lib.hid (by decide)
  have HS4 : Hid (subE (ntk 0) 4 = 8 ∧ subV (ntk 0) 4 = 0 ∧ subN (ntk 0) 4 = ntk 0) := Lib.hid (by decide)
  have HP1 : Hid (pagesL (eachC 128) 8 (ntk 0) = [pgA] ∧ piecesC 8 (eachC 128) = 1) := Lib.hid (by decide +kernel)
  have HNT := Lib.hid ntk_take
  have HNF := Lib.hid ntk_full
  have HLB := Lib.hid (fun W => load_yes [pgB] (some ⟨W.heap.size, 0, none⟩) 1 1 (W.alloc (.cells #[.string (strOfNums pgB)] 9)) _ (lit_str W pgB) (by intro x hx; obtain rfl := List.mem_singleton.1 hx; exact ⟨by unfold IsB; decide, by decide⟩) load_B okB)
  have HLC := Lib.hid (fun W => load_not [pgC] (some ⟨W.heap.size, 0, none⟩) 1 1 (W.alloc (.cells #[.string (strOfNums pgC)] 9)) (lit_str W pgC) (by intro x hx; obtain rfl := List.mem_singleton.1 hx; exact ⟨by unfold IsB; decide, by decide⟩) load_C)
  have HLN := Lib.hid (fun W => load_not [] none 0 0 W (Ss.Seg.nil W) (fun x hx => by cases hx) load_nil)
  have HU4 : Hid (usedC (ntk 4) = 7 ∧ (ntk 4).getD 2 0 = 0 ∧ (ntk 4).getD 99 0 = 0 ∧ (ntk 4).getD 0 0 = 1) := Lib.hid (by decide)
  have HUB : Hid (usedC [1, 1, 0, 2, 0, 0, 0, 256] = 4) := Lib.hid (by decide)
  have HTB := Lib.hid (fun W => take_bad none W)
  have HUN := Lib.hid (fun W => used0_nil W)
  have HAN := Lib.hid (fun W => add_nil 2 W)
  have HCN := Lib.hid (fun W => clone_nil W)
  have HZA : Hid (strOfNums pgA = ⟨#[1, 0, 1, 0, 0, 0, 2, 0, 0, 0, 0, 0, 0, 0, 0, 0]⟩) := Lib.hid rfl
  have HZB : Hid (strOfNums pgB = ⟨#[1, 0, 1, 0, 0, 0, 2, 0, 0, 0, 0, 0, 0, 0, 0, 1]⟩) := Lib.hid rfl
  have HZC : Hid (strOfNums pgC = ⟨#[2, 0, 1, 0, 0, 0, 2, 0, 0, 0, 0, 0, 0, 0, 0, 1]⟩) := Lib.hid rfl
  rw [HZB.out] at HLB
  rw [HZC.out] at HLC
  go_enter Try.func3, Try.ntmps3
  go_wp2_with fail
  refine HLV.out.mono ?_
  rintro e w1 ⟨rfl, hg⟩
  have HG1 := Lib.hid hg
  clear hg HLV
  dsimp only
  go_wp2_with fail
  refine (HS.out _).mono ?_
  rintro e w2 ⟨rfl, hg⟩
  have HG2 := Lib.hid (grown_then HG1.out hg)
  clear hg HG1
  dsimp only
  go_wp2_with fail
  refine (HN8.out _ HG2.out).mono ?_
  rintro e w3 ⟨g, h, cap, rfl, hc, -, -, -⟩
  have HC3 := Lib.hid hc
  clear hc HG2
  dsimp only
  go_wp2_with fail
  refine (HN9.out _ HC3.out.gr).mono ?_
  rintro e w4 ⟨go, ho, capo, rfl, hd, hg, hl1, hl2⟩
  have HC4 := Lib.hid (HC3.out.old hg)
  have HO4 := Lib.hid hd
  have HNO : Hid (go ≠ h ∧ ho ≠ h) := Lib.hid ⟨by have := HC3.out.cc.lt; omega, by have := HC3.out.cc.lt; omega⟩
  clear hd hg hl1 hl2 HC3
  dsimp only
  go_wp2_with fail
  refine (HN0.out _).mono ?_
  rintro e w5 ⟨rfl, hg⟩
  have HC5 := Lib.hid (HC4.out.old hg)
  have HO5 := Lib.hid (HO4.out.old hg)
  clear hg HC4 HO4
  dsimp only
  go_wp2_with fail
  refine HC5.out.clone.mono ?_
  rintro e w6 ⟨gh, hh, caph, rfl, hd, hg, hl1, hl2⟩
  have HC6 := Lib.hid (HC5.out.old hg)
  have HO6 := Lib.hid (HO5.out.old hg)
  have HH6 := Lib.hid hd
  have HNE : Hid (g ≠ hh ∧ h ≠ hh ∧ gh ≠ h ∧ hh ≠ h ∧ go ≠ hh ∧ ho ≠ hh) := Lib.hid (by
    have h1 := HC5.out.cc.glt
    have h2 := HC5.out.cc.lt
    have h3 := HO5.out.cc.glt
    have h4 := HO5.out.cc.lt
    refine ⟨?_, ?_, ?_, ?_, ?_, ?_⟩ <;> omega)
  clear hd hg hl1 hl2 HC5 HO5
  dsimp only
  go_wp2_with fail
  refine HH6.out.take.mono ?_
  intro e w7 hx
  obtain ⟨rfl, hd, ht⟩ := HH6.out.took HRH.out.1 hx
  rw [HRH.out.2] at hd
  have HH7 := Lib.hid hd
  have HC7 := Lib.hid (HC6.out.beside ht HNE.out.1 HNE.out.2.1 HH6.out.new)
  have HO7 := Lib.hid (HO6.out.beside ht HNE.out.2.2.2.2.1 HNE.out.2.2.2.2.2 HH6.out.new)
  clear hx hd ht HH6 HC6 HO6
  dsimp only
  go_wp2_with fail
  refine (HC7.out.takeh HH7.out).mono ?_
  intro e w8 hx
  obtain ⟨rfl, hc, ht⟩ := HC7.out.took HR3.out.1 hx
  rw [HR3.out.2] at hc
  have HC8 := Lib.hid hc
  have HH8 := Lib.hid (HH7.out.beside ht HNE.out.2.2.1 HNE.out.2.2.2.1 HC7.out.new)
  have HO8 := Lib.hid (HO7.out.beside ht HNO.out.1 HNO.out.2 HC7.out.new)
  clear hx hc ht HC7 HH7 HO7
  dsimp only
  have HTO := Lib.hid (take_other g h cap 128 128 [1, 1, 0, 1, 0, 0, 0, 0] go ho capo (newC 9) w8 HC8.out.cc HC8.out.ok.self HO8.out.cc HO8.out.ok.cnt (by rintro ⟨_, e⟩; cases e))
  go_wp2_with fail
  refine HTO.out.mono ?_
  rintro e w9 ⟨rfl, hg⟩
  have HC9 := Lib.hid (HC8.out.old hg)
  have HH9 := Lib.hid (HH8.out.old hg)
  clear hg HC8 HH8 HO8 HTO
  dsimp only

  have HQ := Lib.hid (HC9.out.add 3 (by decide))
  rw [HA3.out.1, HA3.out.2] at HQ
  go_wp2_with fail
  refine HQ.out.mono ?_
  rintro e w10 ⟨rfl, hc, ht⟩
  have HC10 := Lib.hid hc
  have HH10 := Lib.hid (HH9.out.beside ht HNE.out.2.2.1 HNE.out.2.2.2.1 HC9.out.new)
  clear hc ht HC9 HH9 HQ
  dsimp only
  have HQ := Lib.hid (HC10.out.add 2 (by decide))
  rw [HA2.out.1, HA2.out.2] at HQ
  go_wp2_with fail
  refine HQ.out.mono ?_
  rintro e w11 ⟨rfl, hc, ht⟩
  have HC11 := Lib.hid hc
  have HH11 := Lib.hid (HH10.out.beside ht HNE.out.2.2.1 HNE.out.2.2.2.1 HC10.out.new)
  clear hc ht HC10 HH10 HQ
  dsimp only
  have HQ := Lib.hid (HC11.out.add 1 (by decide))
  rw [HA1.out.1, HA1.out.2] at HQ
  go_wp2_with fail
  refine HQ.out.mono ?_
  rintro e w12 ⟨rfl, hc, ht⟩
  have HC12 := Lib.hid hc
  have HH12 := Lib.hid (HH11.out.beside ht HNE.out.2.2.1 HNE.out.2.2.2.1 HC11.out.new)
  clear hc ht HC11 HH11 HQ
  dsimp only
  have HQ := Lib.hid (HC12.out.sub 9 (by decide))
  rw [HS9.out.1, HS9.out.2.1, HS9.out.2.2] at HQ
  go_wp2_with fail
  refine HQ.out.mono ?_
  rintro e w13 ⟨rfl, hc, ht⟩
  have HC13 := Lib.hid hc
  have HH13 := Lib.hid (HH12.out.beside ht HNE.out.2.2.1 HNE.out.2.2.2.1 HC12.out.new)
  clear hc ht HC12 HH12 HQ
  dsimp only
  have HQ := Lib.hid (HC13.out.sub 4 (by decide))
  rw [HS4.out.1, HS4.out.2.1, HS4.out.2.2] at HQ
  go_wp2_with fail
  refine HQ.out.mono ?_
  rintro e w14 ⟨rfl, hc, ht⟩
  have HC14 := Lib.hid hc
  have HH14 := Lib.hid (HH13.out.beside ht HNE.out.2.2.1 HNE.out.2.2.2.1 HC13.out.new)
  clear hc ht HC13 HH13 HQ
  dsimp only
  have HPC := Lib.hid (HC14.out.pages 1 HP1.out.2)
  rw [HP1.out.1] at HPC
  go_wp2_with fail
  refine HPC.out.mono ?_
  rintro e w15 ⟨hg, bp, cp, rfl, hs, hlb⟩
  have HC15 := Lib.hid (HC14.out.old hg)
  have HH15 := Lib.hid (HH14.out.old hg)
  have hcell := seg_at hs 0 (by decide)
  rw [show ([pgA] : List (List Int)).getD 0 [] = pgA from rfl, HZA.out] at hcell
  have HPG := Lib.hid hcell
  have HPL : Hid (bp ≠ h ∧ 1 ≤ cp) := Lib.hid ⟨by have := HC14.out.cc.lt; omega, hs.le⟩
  clear hg hs hlb hcell HC14 HH14 HPC
  dsimp only
  go_wp2
  go_loopw [20] (fun si wr => ∃ i : Nat, i ≤ 4 ∧ si = .int .i64 i ∧ Hid (CN w wr g h cap 128 8 (ntk i)) ∧ Hid (CN w wr gh hh caph 128 8 heldN) ∧ Hid (wr.cell? ⟨bp, 0, none⟩ = some (.string ⟨#[1, 0, 1, 0, 0, 0, 2, 0, 0, 0, 0, 0, 0, 0, 0, 0]⟩))) (fun si _ => 4 - (intOf si).toNat)
  case atStart => exact ⟨0, by omega, rfl, HC15, HH15, HPG⟩
  case round =>
    clear HC15 HH15 HPG
    obtain ⟨i, hi, rfl, HC, HH, HPG⟩ := hrel
    by_cases hlt : i < 4
    · have hq : decide (i < 4) = true := decide_eq_true hlt
      have hq2 : decide ((i : Int) < 4) = true := decide_eq_true (by omega)
      have HT := Lib.hid (HNT.out i hlt)
      go_wp2_with fail
      refine (HC.out.takeh HH.out).mono ?_
      intro e w16 hx
      obtain ⟨rfl, hc, ht⟩ := HC.out.took HT.out.1 hx
      rw [HT.out.2] at hc
      have HC16 := Lib.hid hc
      have HH16 := Lib.hid (HH.out.beside ht HNE.out.2.2.1 HNE.out.2.2.2.1 HC.out.new)
      have HPG16 := Lib.hid (ht.cell HPG.out HPL.out.1)
      clear hx hc ht HC HH HPG
      dsimp only
      go_wp2
      go_roundw
      case rel => exact ⟨i + 1, by omega, by go_num, HC16, HH16, HPG16⟩
      case measure => simp [intOf]; omega
    have hq : decide (i < 4) = false := decide_eq_false hlt
    have hq2 : decide ((i : Int) < 4) = false := decide_eq_false (by omega)
    obtain rfl : i = 4 := by omega
    clear HNT
    go_wp2_with fail
    refine (HC.out.takeh HH.out).mono ?_
    intro e w16 hx
    obtain ⟨rfl, hc, ht⟩ := HC.out.full HNF.out hx
    have HC16 := Lib.hid hc
    have HPG16 := Lib.hid (ht.cell HPG.out HPL.out.1)
    clear hx hc ht HC HH HPG
    dsimp only
    go_wp2_with fail
    refine (HS.out _).mono ?_
    rintro e w17 ⟨rfl, hg⟩
    have HC17 := Lib.hid (HC16.out.old hg)
    have HPG17 := Lib.hid ((grown_turn hg).cell HPG16.out id)
    clear hg HC16 HPG16
    dsimp only
    go_wp2_with fail
    have hga := grown_alloc w17 (.cells #[.string ⟨#[1, 0, 1, 0, 0, 0, 2, 0, 0, 0, 0, 0, 0, 0, 0, 1]⟩] 9)
    refine (HLB.out w17).mono ?_
    rintro e w18 ⟨gd, hd, capd, rfl, hdc, hg⟩
    have HC18 := Lib.hid (HC17.out.old (grown_then hga hg))
    have HPG18 := Lib.hid ((grown_turn (grown_then hga hg)).cell HPG17.out id)
    have HD18 := Lib.hid hdc
    clear hg hga hdc HC17 HPG17
    dsimp only
    go_wp2_with fail
    refine (HS.out _).mono ?_
    rintro e w19 ⟨rfl, hg⟩
    have HC19 := Lib.hid (HC18.out.old hg)
    have HD19 := Lib.hid (HD18.out.old hg)
    have HPG19 := Lib.hid ((grown_turn hg).cell HPG18.out id)
    clear hg HC18 HD18 HPG18
    dsimp only
    go_wp2_with fail
    have hga := grown_alloc w19 (.cells #[.string ⟨#[2, 0, 1, 0, 0, 0, 2, 0, 0, 0, 0, 0, 0, 0, 0, 1]⟩] 9)
    refine (HLC.out w19).mono ?_
    rintro e w20 ⟨rfl, hg⟩
    have HC20 := Lib.hid (HC19.out.old (grown_then hga hg))
    have HD20 := Lib.hid (HD19.out.old (grown_then hga hg))
    have HPG20 := Lib.hid ((grown_turn (grown_then hga hg)).cell HPG19.out id)
    clear hg hga HC19 HD19 HPG19
    dsimp only
    go_wp2_with fail
    refine (HS.out _).mono ?_
    rintro e w21 ⟨rfl, hg⟩
    have HC21 := Lib.hid (HC20.out.old hg)
    have HD21 := Lib.hid (HD20.out.old hg)
    have HPG21 := Lib.hid ((grown_turn hg).cell HPG20.out id)
    clear hg HC20 HD20 HPG20
    dsimp only
    go_wp2_with fail
    refine (HLN.out w21).mono ?_
    rintro e w22 ⟨rfl, hg⟩
    have HC22 := Lib.hid (HC21.out.old hg)
    have HD22 := Lib.hid (HD21.out.old hg)
    have hpg := (grown_turn hg).cell HPG21.out id
    clear hg HC21 HD21 HPG21
    dsimp only
    go_wp2_with fail
    refine (HTB.out w22).mono ?_
    rintro e w' ⟨rfl, rfl⟩
    dsimp only
    have hcp := HPL.out.2
    go_wp2_with fail
    refine (HD22.out.get 3 (by decide)).mono ?_
    rintro e w' ⟨rfl, rfl⟩
    rw [show ([1, 1, 0, 2, 0, 0, 0, 256] : List Int).getD 3 0 = 2 from rfl]
    dsimp only
    go_wp2_with fail
    refine (HD22.out.get 7 (by decide)).mono ?_
    rintro e w' ⟨rfl, rfl⟩
    rw [show ([1, 1, 0, 2, 0, 0, 0, 256] : List Int).getD 7 0 = 256 from rfl]
    dsimp only
    go_wp2_with fail
    refine HD22.out.used.mono ?_
    rw [HUB.out]
    rintro e w23 ⟨rfl, hg⟩
    have HC23 := Lib.hid (HC22.out.old hg)
    clear hg hpg HC22 HD22
    dsimp only
    go_wp2_with fail
    refine HC23.out.used.mono ?_
    rw [HU4.out.1]
    rintro e w24 ⟨rfl, hg⟩
    have HC24 := Lib.hid (HC23.out.old hg)
    clear hg HC23
    dsimp only
    go_wp2_with fail
    refine (HC24.out.get 2 (by decide)).mono ?_
    rw [HU4.out.2.1]
    rintro e w' ⟨rfl, rfl⟩
    dsimp only
    go_wp2_with fail
    refine (HC24.out.get 99 (by decide)).mono ?_
    rw [HU4.out.2.2.1]
    rintro e w' ⟨rfl, rfl⟩
    dsimp only
    go_wp2_with fail
    refine (HC24.out.get 0 (by decide)).mono ?_
    rw [HU4.out.2.2.2]
    rintro e w' ⟨rfl, rfl⟩
    dsimp only
    have HE := Lib.hid (grown_below HC24.out.gr)
    go_wp2_with fail
    refine (HUN.out _).mono ?_
    rintro e w' ⟨rfl, rfl⟩
    dsimp only
    go_wp2_with fail
    refine (HAN.out _).mono ?_
    rintro e w' ⟨rfl, rfl⟩
    dsimp only
    go_wp2_with fail
    refine (HCN.out _).mono ?_
    rintro e w' ⟨rfl, rfl⟩
    dsimp only
    go_wp2
    go_ret
    exact ⟨rfl, HE.out⟩
end Go.Proofs.Ytkinmcnmdfpjbaa.Cn
