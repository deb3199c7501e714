/-
  CountsTake, walked.
-/
import Derived.Test.YtkinmcnmdfpjbaaCnKit
import Derived.Test.YtkinmcnmdfpjbaaCnTakeN
namespace Go.Proofs.Ytkinmcnmdfpjbaa.Cn
open Go.RowKit Bs Dv Gr
open Su (GeoOk geo_iff)

/-- the flags of a number's bits -/
def bitF (a : Int) (i : Nat) : Bool := (a / 2 ^ i).tmod 2 == 1
theorem light_geo {size : Int} {n : Nat} (h : LightS size n = true) (hg : GeoOk size n) : size ≤ 512 ∧ n ≤ 40 := by
  have := of_decide_eq_true h
  unfold GeoOk at hg
  omega

set_option maxRecDepth 100000 in
set_option maxHeartbeats 4000000 in
theorem takel_any (size blocks : Int) (a1 a2 : Int) (w : World) :
    Calls Try.prog 6 #[.agg #[.int .i64 size, .int .i64 blocks], .int .u64 a1, .int .u64 a2] w fun e w' => e = .returned (.bool true) ∧ Below w.heap.size w w' := by
  have B0 := heap_alloc_new w (.cells #[.int .i64 size, .int .i64 blocks] 28)
  have G0 := grown_alloc w (.cells #[.int .i64 size, .int .i64 blocks] 28)
  have Z0 : (w.alloc (.cells #[.int .i64 size, .int .i64 blocks] 28)).heap.size = w.heap.size + 1 := by simp
  obtain ⟨W0, hW0⟩ : ∃ X, w.alloc (.cells #[.int .i64 size, .int .i64 blocks] 28) = X := ⟨_, rfl⟩
  rw [hW0] at B0 G0 Z0
  have HB0 := Lib.hid B0
  have HG0 := Lib.hid G0
  have HW0 := Lib.hid hW0
  have HLV := Lib.hid (lives_any W0)
  have HLG := Lib.hid (fun W => lightgeo_any size blocks W)
  have HEND : Hid (∀ W, W0.grownBy W none → Below w.heap.size w W) := Lib.hid (fun W k => grown_below (grown_then G0 k))
  clear B0 G0 hW0
  go_enter Try.func6, Try.ntmps6
  go_upto_region 1 with (fail)
  rw [HW0.out]
  go_wp2_with fail
  refine HLV.out.mono ?_
  rintro e w1 ⟨rfl, hg⟩
  have HG1 := Lib.hid hg
  have HB1 := Lib.hid (block_old HB0.out hg)
  have c0 : w1.cell? ⟨w.heap.size, 0, none⟩ = some (.int .i64 size) := by rw [cell_of_row _ _ _ _ _ _ HB1.out]; rfl
  have c1 : w1.cell? ⟨w.heap.size, 1, none⟩ = some (.int .i64 blocks) := by rw [cell_of_row _ _ _ _ _ _ HB1.out]; rfl
  clear hg HLV
  dsimp only
  by_cases hok : GeoOk size blocks
  case neg =>
    have HNO := Lib.hid (fun W => new_no size blocks W hok)
    obtain ⟨lb, hlb⟩ : ∃ b, LightS size blocks = b := ⟨_, rfl⟩
    rw [hlb] at HLG
    clear hok hlb
    go_wp2_with fail
    refine (HNO.out _).mono ?_
    rintro e w2 ⟨rfl, hg⟩
    have HG2 := Lib.hid (grown_then HG1.out hg)
    have HB2 := Lib.hid (block_old HB1.out hg)
    have d0 : w2.cell? ⟨w.heap.size, 0, none⟩ = some (.int .i64 size) := by rw [cell_of_row _ _ _ _ _ _ HB2.out]; rfl
    have d1 : w2.cell? ⟨w.heap.size, 1, none⟩ = some (.int .i64 blocks) := by rw [cell_of_row _ _ _ _ _ _ HB2.out]; rfl
    clear hg c0 c1
    dsimp only
    go_wp2_with fail
    refine (HNO.out _).mono ?_
    rintro e w3 ⟨rfl, hg⟩
    have HG3 := Lib.hid (grown_then HG2.out hg)
    have HB3 := Lib.hid (block_old HB2.out hg)
    have e0 : w3.cell? ⟨w.heap.size, 0, none⟩ = some (.int .i64 size) := by rw [cell_of_row _ _ _ _ _ _ HB3.out]; rfl
    have e1 : w3.cell? ⟨w.heap.size, 1, none⟩ = some (.int .i64 blocks) := by rw [cell_of_row _ _ _ _ _ _ HB3.out]; rfl
    clear hg d0 d1
    dsimp only
    go_wp2_with fail
    refine (HLG.out _).mono ?_
    rintro e w4 ⟨rfl, hg⟩
    have HE := Lib.hid (HEND.out _ (grown_then HG3.out hg))
    clear hg e0 e1
    dsimp only
    cases lb
    all_goals
      go_wp2
      go_ret
      exact ⟨rfl, HE.out⟩
  case pos =>
  obtain ⟨n, rfl⟩ : ∃ n : Nat, blocks = n := Int.eq_ofNat_of_zero_le (by unfold GeoOk at hok; omega)
  have HOK := Lib.hid hok
  have hn8 : 8 ≤ n ∧ n ≤ 4096 := by unfold GeoOk at hok; omega
  have HNW := Lib.hid (fun W (k : W0.grownBy W none) => new_yes size n W0 W k hok)
  have HLT : Hid (LightS size n = true → size ≤ 512 ∧ n ≤ 40) := Lib.hid (fun h => light_geo h hok)
  obtain ⟨lb, hlb⟩ : ∃ b, LightS size n = b := ⟨_, rfl⟩
  rw [hlb] at HLG HLT
  clear hok hlb
  go_wp2_with fail
  refine (HNW.out _ HG1.out).mono ?_
  rintro e w2 ⟨g, h, cap, rfl, hc, hg, -, -⟩
  have HC2 := Lib.hid hc
  have HB2 := Lib.hid (block_old HB1.out hg)
  have d0 : w2.cell? ⟨w.heap.size, 0, none⟩ = some (.int .i64 size) := by rw [cell_of_row _ _ _ _ _ _ HB2.out]; rfl
  have d1 : w2.cell? ⟨w.heap.size, 1, none⟩ = some (.int .i64 (n : Int)) := by rw [cell_of_row _ _ _ _ _ _ HB2.out]; rfl
  clear hc hg c0 c1
  dsimp only
  go_wp2_with fail
  refine (HNW.out _ HC2.out.gr).mono ?_
  rintro e w3 ⟨gh, hh, caph, rfl, hd, hg, hlg, hlh⟩
  have HC3 := Lib.hid (HC2.out.old hg)
  have HD3 := Lib.hid hd
  have HB3 := Lib.hid (block_old HB2.out hg)
  have e0 : w3.cell? ⟨w.heap.size, 0, none⟩ = some (.int .i64 size) := by rw [cell_of_row _ _ _ _ _ _ HB3.out]; rfl
  have e1 : w3.cell? ⟨w.heap.size, 1, none⟩ = some (.int .i64 (n : Int)) := by rw [cell_of_row _ _ _ _ _ _ HB3.out]; rfl
  have hne : g ≠ hh ∧ h ≠ hh ∧ gh ≠ h ∧ hh ≠ h := by
    have h1 := HC2.out.cc.glt
    have h2 := HC2.out.cc.lt
    refine ⟨?_, ?_, ?_, ?_⟩ <;> omega
  have HNE := Lib.hid hne
  clear hd hg hlg hlh d0 d1 hne HC2 HB2
  dsimp only
  go_wp2_with fail
  refine (HLG.out _).mono ?_
  rintro e w4 ⟨rfl, hg⟩
  have HC4 := Lib.hid (HC3.out.old hg)
  have HD4 := Lib.hid (HD3.out.old hg)
  have HE4 := Lib.hid (HEND.out _ HC4.out.gr)
  clear hg e0 e1 HC3 HD3 HB3 HB1 HG1
  dsimp only
  cases lb
  case false =>
    go_wp2
    go_ret
    exact ⟨rfl, HE4.out⟩
  have hn40 := (HLT.out rfl).2
  clear HLT HE4 HNW HLG
  have HBX : Hid (∀ W, W0.grownBy W none → W.cell? ⟨w.heap.size, 1, none⟩ = some (.int .i64 (n : Int))) := Lib.hid (fun W k => by
    rw [cell_of_row _ _ _ _ _ _ (block_old HB0.out k)]; rfl)
  have HO1 := Lib.hid (fun i (h2 : 2 ≤ i) (hi : i < n) => ones_take n i h2 hi)
  have HON : Hid (newC n = onesC n 2) := Lib.hid rfl
  rw [HON.out] at HC4 HD4
  clear HON
  go_wp2
  go_loopw [11] (fun si wr => ∃ i : Nat, 2 ≤ i ∧ i ≤ n ∧ si = .int .i64 i ∧ Hid (CN W0 wr g h cap size n (onesC n i)) ∧ Hid (CN W0 wr gh hh caph size n (onesC n i))) (fun si _ => n - (intOf si).toNat)
  case atStart => exact ⟨2, by omega, by omega, rfl, HC4, HD4⟩
  case round =>
    obtain ⟨i, hi2, hi, rfl, HC, HD⟩ := hrel
    have cb := HBX.out _ HC.out.gr
    by_cases hlt : i < n
    · have hq : decide (i < n) = true := decide_eq_true hlt
      have HT := Lib.hid (HO1.out i hi2 hlt)
      go_wp2_with fail
      refine HC.out.take.mono ?_
      intro e w5 hx
      obtain ⟨rfl, hc, ht⟩ := HC.out.took HT.out.1 hx
      rw [HT.out.2] at hc
      have HC5 := Lib.hid hc
      have HD5 := Lib.hid (HD.out.beside ht HNE.out.2.2.1 HNE.out.2.2.2 HC.out.new)
      clear hx hc ht HC HD cb
      dsimp only
      go_wp2_with fail
      refine HD5.out.take.mono ?_
      intro e w6 hx
      obtain ⟨rfl, hd, ht⟩ := HD5.out.took HT.out.1 hx
      rw [HT.out.2] at hd
      have HD6 := Lib.hid hd
      have HC6 := Lib.hid (HC5.out.beside ht HNE.out.1 HNE.out.2.1 HD5.out.new)
      clear hx hd ht HC5 HD5
      dsimp only
      go_wp2
      go_roundw
      case rel => exact ⟨i + 1, by omega, by omega, by go_num, HC6, HD6⟩
      case measure => simp [intOf]; omega
    · have hq : decide (i < n) = false := decide_eq_false hlt
      obtain rfl : i = n := by omega
      clear HC4 HD4 HO1
      have HC2 : Hid (CN W0 wr g h cap size i (markC i (bitF a2) 2)) := Lib.hid (by rw [mark_two]; exact HC.out)
      have HD2 : Hid (CN W0 wr gh hh caph size i (markC i (bitF a1) 2)) := Lib.hid (by rw [mark_two]; exact HD.out)
      have HF0 := Lib.hid (cntF_two (bitF a2) (bitF a1))
      have HFS := Lib.hid (fun i h => cntF_succ (bitF a2) (bitF a1) i h)
      have HFL := Lib.hid (fun i => cntF_le (bitF a2) (bitF a1) i)
      have HMK1 := Lib.hid (fun (f : Nat → Bool) j (h : f j = true) => mark_skip i f j h)
      have HMK2 := Lib.hid (fun (f : Nat → Bool) j (h2 : 2 ≤ j) (hj : j < i) (h : f j = false) => mark_sub i f j h2 hj h)
      have HFN := Lib.hid (freeN_mark i (bitF a2) (bitF a1))
      clear HC HD
      go_wp2
      go_loopw [12, 13] (fun sf sj wr => ∃ j f : Nat, 2 ≤ j ∧ j ≤ i ∧ sj = .int .i64 j ∧ sf = .int .i64 f ∧ Hid (cntF (bitF a2) (bitF a1) j = f) ∧ Hid (CN W0 wr g h cap size i (markC i (bitF a2) j)) ∧ Hid (CN W0 wr gh hh caph size i (markC i (bitF a1) j))) (fun _ sj _ => i - (intOf sj).toNat)
      case atStart => exact ⟨2, 0, by omega, by omega, rfl, rfl, HF0, HC2, HD2⟩
      case round =>
        clear HC2 HD2 cb
        obtain ⟨j, f, hj2, hj, rfl, rfl, HF, HC, HD⟩ := hrel
        have cb := HBX.out _ HC.out.gr
        by_cases hlt : j < i
        · have hq : decide (j < i) = true := decide_eq_true hlt
          have ew : IntKind.u32.wrap (j : Int) = (j : Int) := by rw [IntKind.wrap_u32]; omega
          have HFJ := Lib.hid (HFS.out j hj2)
          rw [HF.out] at HFJ
          have hfl := HFL.out j
          rw [HF.out] at hfl
          have HMU1 := Lib.hid (HMK1.out (bitF a2) j)
          have HMU2 := Lib.hid (HMK2.out (bitF a2) j hj2 hlt)
          have HMV1 := Lib.hid (HMK1.out (bitF a1) j)
          have HMV2 := Lib.hid (HMK2.out (bitF a1) j hj2 hlt)
          obtain ⟨bu, hbu⟩ : ∃ b, ((a2 / 2 ^ j).tmod 2 == 1) = b := ⟨_, rfl⟩
          have HU : Hid (bitF a2 j = bu) := Lib.hid hbu
          obtain ⟨bk, hbk⟩ : ∃ b, ((a1 / 2 ^ j).tmod 2 == 1) = b := ⟨_, rfl⟩
          have HV : Hid (bitF a1 j = bk) := Lib.hid hbk
          rw [HU.out] at HMU1 HMU2 HFJ
          rw [HV.out] at HMV1 HMV2 HFJ
          clear HF
          cases bu
          case false =>
            cases bk
            case false =>
              have HS := Lib.hid (HC.out.sub j (by omega))
              rw [(HMU2.out (by first | exact rfl | trivial)).1, (HMU2.out (by first | exact rfl | trivial)).2] at HS
              go_wp2_with fail
              refine HS.out.mono ?_
              rintro e w5 ⟨rfl, hc, ht⟩
              have HC5 := Lib.hid hc
              have HD5 := Lib.hid (HD.out.beside ht HNE.out.2.2.1 HNE.out.2.2.2 HC.out.new)
              clear hc ht HC HD HS cb
              dsimp only
              have HS := Lib.hid (HD5.out.sub j (by omega))
              rw [(HMV2.out (by first | exact rfl | trivial)).1, (HMV2.out (by first | exact rfl | trivial)).2] at HS
              go_wp2_with fail
              refine HS.out.mono ?_
              rintro e w6 ⟨rfl, hd, ht⟩
              have HD6 := Lib.hid hd
              have HC6 := Lib.hid (HC5.out.beside ht HNE.out.1 HNE.out.2.1 HD5.out.new)
              clear hd ht HS HC5 HD5
              dsimp only
              have HFN2 : Hid (cntF (bitF a2) (bitF a1) (j + 1) = f + 1) := Lib.hid (by rw [HFJ.out]; rfl)
              go_wp2
              go_roundw
              case rel => exact ⟨j + 1, f + 1, by omega, by omega, by go_num, by go_num, HFN2, HC6, HD6⟩
              case measure => simp [intOf]; omega
            case true =>
              have HS := Lib.hid (HC.out.sub j (by omega))
              rw [(HMU2.out (by first | exact rfl | trivial)).1, (HMU2.out (by first | exact rfl | trivial)).2] at HS
              go_wp2_with fail
              refine HS.out.mono ?_
              rintro e w5 ⟨rfl, hc, ht⟩
              have HC5 := Lib.hid hc
              have HD5 := Lib.hid (HD.out.beside ht HNE.out.2.2.1 HNE.out.2.2.2 HC.out.new)
              clear hc ht HC HD HS cb
              dsimp only
              have HD6 : Hid (CN W0 w5 gh hh caph size i (markC i (bitF a1) (j + 1))) := Lib.hid (by rw [HMV1.out (by first | exact rfl | trivial)]; exact HD5.out)
              have HC6 := HC5
              have HFN2 : Hid (cntF (bitF a2) (bitF a1) (j + 1) = f) := Lib.hid (by rw [HFJ.out]; rfl)
              go_wp2
              go_roundw
              case rel => exact ⟨j + 1, f, by omega, by omega, by go_num, rfl, HFN2, HC6, HD6⟩
              case measure => simp [intOf]; omega
          case true =>
            cases bk
            case false =>
              have HC5 : Hid (CN W0 wr g h cap size i (markC i (bitF a2) (j + 1))) := Lib.hid (by rw [HMU1.out (by first | exact rfl | trivial)]; exact HC.out)
              have HS := Lib.hid (HD.out.sub j (by omega))
              rw [(HMV2.out (by first | exact rfl | trivial)).1, (HMV2.out (by first | exact rfl | trivial)).2] at HS
              go_wp2_with fail
              refine HS.out.mono ?_
              rintro e w6 ⟨rfl, hd, ht⟩
              have HD6 := Lib.hid hd
              have HC6 := Lib.hid (HC5.out.beside ht HNE.out.1 HNE.out.2.1 HD.out.new)
              clear hd ht HS HC5 HD
              dsimp only
              have HFN2 : Hid (cntF (bitF a2) (bitF a1) (j + 1) = f) := Lib.hid (by rw [HFJ.out]; rfl)
              go_wp2
              go_roundw
              case rel => exact ⟨j + 1, f, by omega, by omega, by go_num, rfl, HFN2, HC6, HD6⟩
              case measure => simp [intOf]; omega
            case true =>
              have HC5 : Hid (CN W0 wr g h cap size i (markC i (bitF a2) (j + 1))) := Lib.hid (by rw [HMU1.out (by first | exact rfl | trivial)]; exact HC.out)
              have HD6 : Hid (CN W0 wr gh hh caph size i (markC i (bitF a1) (j + 1))) := Lib.hid (by rw [HMV1.out (by first | exact rfl | trivial)]; exact HD.out)
              have HC6 := HC5
              have HFN2 : Hid (cntF (bitF a2) (bitF a1) (j + 1) = f) := Lib.hid (by rw [HFJ.out]; rfl)
              go_wp2
              go_roundw
              case rel => exact ⟨j + 1, f, by omega, by omega, by go_num, rfl, HFN2, HC6, HD6⟩
              case measure => simp [intOf]; omega
        · have hq : decide (j < i) = false := decide_eq_false hlt
          obtain rfl : j = i := by omega
          have hfl := HFL.out j
          rw [HF.out] at hfl HFN
          clear HF HFS HFL HMK1 HMK2 HF0
          obtain ⟨H, hH⟩ : ∃ H, markC j (bitF a1) j = H := ⟨_, rfl⟩
          obtain ⟨N0, hN0⟩ : ∃ N, markC j (bitF a2) j = N := ⟨_, rfl⟩
          rw [hH] at HD HFN
          rw [hN0] at HC HFN
          clear hH hN0
          have HST : Hid (∀ q, q ≤ 1 → ¬ freeC H N0 q) := Lib.hid (fun q hq hf => by have := hf.1; omega)
          go_wp2
          go_loopw [16, 17] (fun sl sk wr => ∃ (k l : Nat) (N : List Int), k ≤ f ∧ sk = .int .i64 k ∧ sl = .int .u32 l ∧ 1 ≤ l ∧ l < j ∧ Hid (freeN H N + k = f) ∧ Hid (∀ q, q ≤ l → ¬ freeC H N q) ∧ Hid (CN W0 wr g h cap size j N) ∧ Hid (CN W0 wr gh hh caph size j H)) (fun _ sk _ => f - (intOf sk).toNat)
          case atStart => exact ⟨0, 1, N0, by omega, rfl, rfl, by omega, by omega, Lib.hid HFN.out, HST, HC, HD⟩
          case round =>
            clear HC HD HFN HST
            obtain ⟨k, l, N, hk, rfl, rfl, hl1, hlj, HFN, HNF, HC, HD⟩ := hrel
            by_cases hlt : k < f
            · have hq : decide (k < f) = true := decide_eq_true hlt
              obtain ⟨x, hx⟩ := take_some H N (by have := HFN.out; omega)
              have hfx : freeC H N x ∧ ∀ q, q < x → ¬ freeC H N q := by cases hx with | one _ a b => exact ⟨a, b⟩
              have hxl : l < x := by
                apply Classical.byContradiction
                intro h
                exact HNF.out x (by omega) hfx.1
              have hxj : x < j := by have := hfx.1.2.1; rw [HC.out.ok.len] at this; exact this
              have HTX := Lib.hid hx
              have HFX := Lib.hid hfx
              have HAL := Lib.hid HC.out.all
              clear hx hfx
              go_wp2_with fail
              refine HAL.out.mono ?_
              rintro e w5 ⟨a, rfl, hja, hla, hg⟩
              have HC5 := Lib.hid (HC.out.old hg)
              have HD5 := Lib.hid (HD.out.old hg)
              have HJA := Lib.hid hja
              have hah : a ≠ h := by have := HC.out.cc.lt; omega
              have HAH := Lib.hid hah
              clear hja hla hg hah HAL HC HD
              dsimp only
              go_wp2_with fail
              refine (HC5.out.takeh HD5.out).mono ?_
              intro e w6 hx
              obtain ⟨rfl, hc, ht⟩ := HC5.out.took HTX.out hx
              have HC6 := Lib.hid hc
              have HD6 := Lib.hid (HD5.out.beside ht HNE.out.2.2.1 HNE.out.2.2.2 HC5.out.new)
              have hja6 := HJA.out.turn ht HAH.out
              have hN := HC5.out.ok.len
              have HJC : Hid (∀ q, q < j → w6.cell? ⟨a, q, none⟩ = some (.int .i64 (N.getD q 0))) := Lib.hid (fun q hq => (hja6 q (by rw [hN]; exact hq)).1)
              have HG1 := Lib.hid (HD6.out.get x (by omega))
              have HG2 := Lib.hid (HC6.out.get x (by omega))
              have hgx : (N.set x 1).getD x 0 = 1 := by rw [getD_set N x 1 x (by rw [hN]; exact hxj), if_pos rfl]
              have HGQ : Hid (∀ q : Nat, q < 4294967296 → Calls Try.prog 18 #[.pointer (some ⟨gh, 0, none⟩), .int .u32 (q : Int)] w6 fun e w' => e = .returned (.int .i64 (H.getD q 0)) ∧ w6 = w') := Lib.hid (fun q hq => HD6.out.get q hq)
              rw [HFX.out.1.2.2.2] at HG1
              rw [hgx] at HG2
              have cx := HJC.out x hxj
              rw [HFX.out.1.2.2.1] at cx
              have HFS2 : Hid (freeN H (N.set x 1) + 1 = freeN H N) := Lib.hid (freeN_set HFX.out.1)
              have HNF2 : Hid (∀ q, q ≤ x → ¬ freeC H (N.set x 1) q) := Lib.hid (fun q hq hf => by
                have h1 := (free_set HFX.out.1 q).1 hf
                by_cases e : q = x
                · exact h1.2 e
                · exact HFX.out.2 q (by omega) h1.1)
              have HFA : Hid (∀ q, q < x → ¬ (N.getD q 0 = 0 ∧ H.getD q 0 = 0) ∨ q < 2) := Lib.hid (fun q hq => by
                by_cases h2 : 2 ≤ q
                · exact .inl (fun k => HFX.out.2 q hq ⟨h2, by rw [hN]; omega, k.1, k.2⟩)
                · exact .inr (by omega))
              clear hx hc ht hja6 hgx hN HC5 HD5 HJA HTX HFX HNF
              have q1 : decide ((x : Int) ≤ (l : Int)) = false := decide_eq_false (by omega)
              have q2 : decide (x ≤ l) = false := decide_eq_false (by omega)
              have e1 : IntKind.u64.wrap (x : Int) = (x : Int) := by rw [IntKind.wrap_u64]; omega
              have e2 : IntKind.u64.wrap (j : Int) = (j : Int) := by rw [IntKind.wrap_u64]; omega
              have q3 : decide ((j : Int) ≤ (x : Int)) = false := decide_eq_false (by omega)
              have q4 : decide (j ≤ x) = false := decide_eq_false (by omega)
              have e3 : IntKind.i64.wrap (x : Int) = (x : Int) := IntWalk.i64_in _ (by omega)
              have e4 : IntKind.i64.wrap (l : Int) = (l : Int) := IntWalk.i64_in _ (by omega)
              dsimp only
              go_wp2_with fail
              refine HG1.out.mono ?_
              rintro e w' ⟨rfl, rfl⟩
              dsimp only
              go_wp2_with fail
              refine HG2.out.mono ?_
              rintro e w' ⟨rfl, rfl⟩
              clear cx q1 q2 q3 q4 HG1 HG2
              dsimp only
              go_wp2
              go_loopw [21] (fun sm wr => ∃ m : Nat, l + 1 ≤ m ∧ m ≤ x ∧ sm = .int .i64 m ∧ w6 = wr) (fun sm _ => x - (intOf sm).toNat)
              case atStart => exact ⟨l + 1, by omega, by omega, by go_num, rfl⟩
              case round =>
                obtain ⟨m, hm1, hm, rfl, rfl⟩ := hrel
                by_cases hmx : m < x
                · have hq5 : decide (m < x) = true := decide_eq_true hmx
                  have cm := HJC.out m (by omega)
                  have HGm := Lib.hid (HGQ.out m (by omega))
                  have hno := HFA.out m hmx
                  have ew : IntKind.u32.wrap (m : Int) = (m : Int) := by rw [IntKind.wrap_u32]; omega
                  obtain ⟨y, hy⟩ : ∃ y, N.getD m 0 = y := ⟨_, rfl⟩
                  obtain ⟨z, hz⟩ : ∃ z, H.getD m 0 = z := ⟨_, rfl⟩
                  rw [hy] at cm hno
                  rw [hz] at HGm hno
                  clear hy hz
                  by_cases hy0 : y = 0
                  · have hz0 : ¬ z = 0 := fun e => by
                      rcases hno with h1 | h1
                      · exact h1 ⟨hy0, e⟩
                      · omega
                    have p1 : (y == 0) = true := beq_iff_eq.2 hy0
                    have p2 : (z == 0) = false := beq_eq_false_iff_ne.2 hz0
                    clear hno hy0 hz0
                    go_wp2_with fail
                    refine HGm.out.mono ?_
                    rintro e w' ⟨rfl, rfl⟩
                    dsimp only
                    go_wp2
                    go_roundw
                    case rel => exact ⟨m + 1, by omega, by omega, by go_num, trivial⟩
                    case measure => simp [intOf]; omega
                  · have p1 : (y == 0) = false := beq_eq_false_iff_ne.2 hy0
                    clear hno hy0
                    go_wp2
                    go_roundw
                    case rel => exact ⟨m + 1, by omega, by omega, by go_num, trivial⟩
                    case measure => simp [intOf]; omega
                · have hq5 : decide (m < x) = false := decide_eq_false hmx
                  obtain rfl : m = x := by omega
                  have HFZ : Hid (freeN H (N.set m 1) + (k + 1) = f) := Lib.hid (by have h1 := HFN.out; have h2 := HFS2.out; omega)
                  clear HFN HFS2
                  go_wp2
                  go_roundw
                  case rel => exact ⟨k + 1, m, N.set m 1, by omega, by go_num, rfl, by omega, by omega, HFZ, HNF2, HC6, HD6⟩
                  case measure => simp [intOf]; omega
            · have hq : decide (k < f) = false := decide_eq_false hlt
              obtain rfl : k = f := by omega
              have HTN : Hid (TakeR H N none) := Lib.hid (.full ((freeN_zero H N).1 (by have := HFN.out; omega)))
              clear HFN HNF
              go_wp2_with fail
              refine (HC.out.takeh HD.out).mono ?_
              intro e w6 hx
              obtain ⟨rfl, hc, -⟩ := HC.out.full HTN.out hx
              have HE6 := Lib.hid (HEND.out _ hc.gr)
              clear hx hc
              dsimp only
              go_wp2
              go_ret
              exact ⟨rfl, HE6.out⟩
end Go.Proofs.Ytkinmcnmdfpjbaa.Cn
