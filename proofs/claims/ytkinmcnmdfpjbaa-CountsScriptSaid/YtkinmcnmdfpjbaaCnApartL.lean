/-
  CountsApart, walked.
-/
import Derived.Test.YtkinmcnmdfpjbaaCnKit
import Derived.Test.YtkinmcnmdfpjbaaCnPages
import Derived.Test.YtkinmcnmdfpjbaaKitPick
import Derived.Test.YtkinmcnmdfpjbaaCnTakeL
namespace Go.Proofs.Ytkinmcnmdfpjbaa.Cn
open Go.RowKit Bs Dv Gr
open Su (GeoOk geo_iff)

theorem seg_turnS {w w' : World} {a : Nat} {n c : Nat} {l : List (List Int)} {S : Nat → Prop} (h : Ss.Seg w (some ⟨a, 0, none⟩) n c l) (k : Turn w w' S) (hS : ¬ S a) : Ss.Seg w' (some ⟨a, 0, none⟩) n c l :=
  ⟨h.len, h.le, h.cap, h.nil_, fun ad had j u hu => k.cell (h.at_ ad had j u hu) (by cases had; rw [block_add]; exact hS)⟩
theorem seg_at {w : World} {a : Nat} {n c : Nat} {l : List (List Int)} (h : Ss.Seg w (some ⟨a, 0, none⟩) n c l) (j : Nat) (hj : j < n) : w.cell? ⟨a, j, none⟩ = some (.string (strOfNums (l.getD j []))) := by
  have hl := h.len
  have h1 := h.at_ _ rfl j (Ss.encW (l.getD j [])) (by rw [List.getElem?_map, List.getElem?_eq_getElem (by omega), List.getD_eq_getElem?_getD, List.getElem?_eq_getElem (by omega)]; rfl)
  rw [Addr.add_lit, Nat.zero_add] at h1
  exact h1
theorem idx_any (l : List Int) (hb : IsB l) (k : Nat) (hk : k < l.length) (W : World) : (Instr.index 9 (.string (strOfNums l)) (.int .i64 (k : Int))).run Try.prog W = .ok (.int .u8 (l.getD k 0)) W := by
  have hsz : (strOfNums l).size = l.length := strOfNums_size l
  have hd : (strOfNums l).data.toList.length = l.length := hsz
  rw [run_index_string _ _ _ _ _ Try.underlying9, dif_pos ⟨by omega, by omega⟩]
  have h1 : ((strOfNums l).data.toList.map (fun b => Value.int .u8 (b.toNat : Int)))[k]? = (l.map (Value.int .u8))[k]? := by rw [str_data l hb]
  rw [List.getElem?_map, List.getElem?_map, List.getElem?_eq_getElem hk, List.getElem?_eq_getElem (by omega)] at h1
  have h2 := Option.some.inj h1
  have e : Value.int .u8 ((((strOfNums l)[(k : Int).toNat]'(by omega)).toNat : Nat) : Int) = .int .u8 (l.getD k 0) := by
    rw [List.getD_eq_getElem?_getD, List.getElem?_eq_getElem hk]
    exact h2
  rw [e]
theorem CN.pages {w0 w : World} {g h cap : Nat} {size : Int} {n : Nat} {N : List Int} (c : CN w0 w g h cap size n N) (p : Nat) (hp : piecesC n (eachC size) = p) :
    Calls Try.prog 16 #[.pointer (some ⟨g, 0, none⟩)] w fun e w' => w.grownBy w' none ∧ ∃ a c', e = .returned (.slice (some ⟨a, 0, none⟩) p c') ∧ Ss.Seg w' (some ⟨a, 0, none⟩) p c' (pagesL (eachC size) n N) ∧ w.heap.size ≤ a := by
  have h := pages_any g h cap size n N w c.cc c.ok
  unfold PagesX at h
  rw [(pages_pieces c.ok.geo N c.ok.len).1, hp] at h
  exact h
theorem diffP_take : ∀ (i : Nat) (ps qs : List (List Int)), i < ps.length → i < qs.length → diffP (ps.take (i + 1)) (qs.take (i + 1)) = diffP (ps.take i) (qs.take i) + diffB (ps.getD i []) (qs.getD i [])
  | 0, p :: ps, q :: qs, _, _ => by
    show diffB p q + diffP (ps.take 0) (qs.take 0) = diffP [] [] + diffB p q
    rw [List.take_zero, List.take_zero]
    show diffB p q + 0 = 0 + diffB p q
    omega
  | i + 1, p :: ps, q :: qs, h1, h2 => by
    show diffB p q + diffP (ps.take (i + 1)) (qs.take (i + 1)) = diffB p q + diffP (ps.take i) (qs.take i) + diffB (ps.getD i []) (qs.getD i [])
    rw [diffP_take i ps qs (by simpa using h1) (by simpa using h2), Nat.add_assoc]
  | 0, [], _, h, _ => by simp at h
  | 0, _ :: _, [], _, h => by simp at h
  | _ + 1, [], _, h, _ => by simp at h
  | _ + 1, _ :: _, [], _, h => by simp at h
theorem pages_isB {size : Int} {n : Nat} (N : List Int) : ∀ p ∈ pagesL (eachC size) n N, IsB p := by
  have hb : ∀ l : List Int, IsB (bytesC l) := by
    intro l
    induction l with
    | nil => intro x hx; cases hx
    | cons y l ih =>
      intro x hx
      rcases List.mem_append.1 hx with hx | hx
      · exact Oct.putB_isB 2 y x hx
      · exact ih x hx
  have hp : ∀ (f : Nat) (l : List Int), ∀ p ∈ pagesL (eachC size) f l, IsB p := by
    intro f
    induction f with
    | zero => intro l p hp; cases hp
    | succ f ih =>
      intro l p hp
      rw [pagesL] at hp
      by_cases h0 : l.length = 0
      · rw [if_pos h0] at hp; cases hp
      · rw [if_neg h0] at hp
        rcases List.mem_cons.1 hp with rfl | hp
        · exact hb _
        · exact ih _ p hp
  exact hp n N

set_option maxRecDepth 100000 in
set_option maxHeartbeats 8000000 in
theorem apart_any (size blocks a1 a2 : Int) (w : World) (hr1 : 0 ≤ a1 ∧ a1 ≤ 4294967295) :
    Calls Try.prog 8 #[.agg #[.int .i64 size, .int .i64 blocks], .int .u32 a1, .int .i64 a2] w fun e w' => e = .returned (.bool true) ∧ Below w.heap.size w w' := by
  have B0 := heap_alloc_new w (.cells #[.int .i64 size, .int .i64 blocks] 28)
  have G0 := grown_alloc w (.cells #[.int .i64 size, .int .i64 blocks] 28)
  have Z0 : (w.alloc (.cells #[.int .i64 size, .int .i64 blocks] 28)).heap.size = w.heap.size + 1 := by simp
  obtain ⟨W0, hW0⟩ : ∃ X, w.alloc (.cells #[.int .i64 size, .int .i64 blocks] 28) = X := ⟨_, rfl⟩
  rw [hW0] at B0 G0 Z0
  have HB0 := Lib.hid B0
  have HG0 := Lib.hid G0
  have HW0 := Lib.hid hW0
  have HLV := Lib.hid (lives_any W0)
  have HLG := Lib.hid (fun W => lightgeo_any size blocks W)
  have HEND : Hid (∀ W, W0.grownBy W none → Below w.heap.size w W) := Lib.hid (fun W k => grown_below (grown_then G0 k))
  clear B0 G0 hW0
  go_enter Try.func8, Try.ntmps8
  go_upto_region 1 with (fail)
  rw [HW0.out]
  go_wp2_with fail
  refine HLV.out.mono ?_
  rintro e w1 ⟨rfl, hg⟩
  have HG1 := Lib.hid hg
  have HB1 := Lib.hid (block_old HB0.out hg)
  have c0 : w1.cell? ⟨w.heap.size, 0, none⟩ = some (.int .i64 size) := by rw [cell_of_row _ _ _ _ _ _ HB1.out]; rfl
  have c1 : w1.cell? ⟨w.heap.size, 1, none⟩ = some (.int .i64 blocks) := by rw [cell_of_row _ _ _ _ _ _ HB1.out]; rfl
  clear hg HLV
  dsimp only
  by_cases hok : GeoOk size blocks
  case neg =>
    have HNO := Lib.hid (fun W => new_no size blocks W hok)
    obtain ⟨lb, hlb⟩ : ∃ b, LightS size blocks = b := ⟨_, rfl⟩
    rw [hlb] at HLG
    clear hok hlb
    go_wp2_with fail
    refine (HNO.out _).mono ?_
    rintro e w2 ⟨rfl, hg⟩
    have HG2 := Lib.hid (grown_then HG1.out hg)
    have HB2 := Lib.hid (block_old HB1.out hg)
    have d0 : w2.cell? ⟨w.heap.size, 0, none⟩ = some (.int .i64 size) := by rw [cell_of_row _ _ _ _ _ _ HB2.out]; rfl
    have d1 : w2.cell? ⟨w.heap.size, 1, none⟩ = some (.int .i64 blocks) := by rw [cell_of_row _ _ _ _ _ _ HB2.out]; rfl
    clear hg c0 c1
    dsimp only
    go_wp2_with fail
    refine (HLG.out _).mono ?_
    rintro e w4 ⟨rfl, hg⟩
    have HE := Lib.hid (HEND.out _ (grown_then HG2.out hg))
    clear hg d0 d1
    dsimp only
    cases lb
    all_goals
      go_wp2
      go_ret
      exact ⟨rfl, HE.out⟩
  case pos =>
  obtain ⟨n, rfl⟩ : ∃ n : Nat, blocks = n := Int.eq_ofNat_of_zero_le (by unfold GeoOk at hok; omega)
  have HOK := Lib.hid hok
  have hn8 : 8 ≤ n ∧ n ≤ 4096 := by unfold GeoOk at hok; omega
  have HNW := Lib.hid (fun W (k : W0.grownBy W none) => new_yes size n W0 W k hok)
  have HLT : Hid (LightS size n = true → size ≤ 512 ∧ n ≤ 40) := Lib.hid (fun h => light_geo h hok)
  obtain ⟨lb, hlb⟩ : ∃ b, LightS size n = b := ⟨_, rfl⟩
  rw [hlb] at HLG HLT
  clear hok hlb
  go_wp2_with fail
  refine (HNW.out _ HG1.out).mono ?_
  rintro e w2 ⟨g, h, cap, rfl, hc, hg, -, -⟩
  have HC2 := Lib.hid hc
  have HB2 := Lib.hid (block_old HB1.out hg)
  have d0 : w2.cell? ⟨w.heap.size, 0, none⟩ = some (.int .i64 size) := by rw [cell_of_row _ _ _ _ _ _ HB2.out]; rfl
  have d1 : w2.cell? ⟨w.heap.size, 1, none⟩ = some (.int .i64 (n : Int)) := by rw [cell_of_row _ _ _ _ _ _ HB2.out]; rfl
  clear hc hg c0 c1
  dsimp only
  go_wp2_with fail
  refine (HLG.out _).mono ?_
  rintro e w4 ⟨rfl, hg⟩
  have HC4 := Lib.hid (HC2.out.old hg)
  have HE4 := Lib.hid (HEND.out _ HC4.out.gr)
  clear hg d0 d1 HC2 HB2 HB1 HG1
  dsimp only
  cases lb
  case false =>
    go_wp2
    go_ret
    exact ⟨rfl, HE4.out⟩
  have hn40 := (HLT.out rfl).2
  clear HLT HE4 HNW HLG
  have HBX : Hid (∀ W, W0.grownBy W none → W.cell? ⟨w.heap.size, 1, none⟩ = some (.int .i64 (n : Int))) := Lib.hid (fun W k => by
    rw [cell_of_row _ _ _ _ _ _ (block_old HB0.out k)]; rfl)
  have c1 := HBX.out _ HC4.out.gr
  -- the block
  obtain ⟨r, hr⟩ : ∃ r, n - 2 = r := ⟨_, rfl⟩
  have e1 : (n : Int) - 2 = (r : Int) := by omega
  have e2 : IntKind.u32.wrap (r : Int) = (r : Int) := by rw [IntKind.wrap_u32]; omega
  have hr0 : ¬ (r : Int) = 0 := by omega
  have hm0 := Int.tmod_nonneg (r : Int) hr1.1
  have hm1 := Int.tmod_lt_of_pos a1 (show (0 : Int) < (r : Int) by omega)
  obtain ⟨q, hq⟩ : ∃ q : Nat, a1.tmod (r : Int) = (q : Int) := Int.eq_ofNat_of_zero_le hm0
  rw [hq] at hm0 hm1
  obtain ⟨k, hk⟩ : ∃ k, 2 + q = k := ⟨_, rfl⟩
  have e3 : 2 + (q : Int) = (k : Int) := by omega
  have e4 : IntKind.u32.wrap (k : Int) = (k : Int) := by rw [IntKind.wrap_u32]; omega
  have hk2 : 2 ≤ k ∧ k < n := by omega
  have HPK := Lib.hid (fun W => pick_any a2 300 W (by decide) (by decide))
  have r0 := pick_range a2 300 (by decide)
  obtain ⟨t, ht⟩ : ∃ t : Nat, pick a2 300 = t := Int.eq_ofNat_of_zero_le r0.1
  rw [ht] at HPK r0
  have ht3 : t < 300 := by omega
  clear hm0 hm1 hk hr ht r0
  go_wp2_with fail
  refine (HPK.out _).mono ?_
  rintro e w' ⟨rfl, rfl⟩
  clear e1 e2 e3 e4 hq hr0 c1 HPK
  dsimp only
  have HO1 := Lib.hid (fun i (h2 : 2 ≤ i) (hi : i < n) => ones_take n i h2 hi)
  have HON : Hid (newC n = onesC n 2) := Lib.hid rfl
  rw [HON.out] at HC4
  clear HON
  go_wp2
  go_loopw [9] (fun si wr => ∃ i : Nat, 2 ≤ i ∧ i ≤ n ∧ si = .int .i64 i ∧ Hid (CN W0 wr g h cap size n (onesC n i))) (fun si _ => n - (intOf si).toNat)
  case atStart => exact ⟨2, by omega, by omega, rfl, HC4⟩
  case round =>
    obtain ⟨i, hi2, hi, rfl, HC⟩ := hrel
    have cb := HBX.out _ HC.out.gr
    by_cases hlt : i < n
    · have hq : decide (i < n) = true := decide_eq_true hlt
      have HT := Lib.hid (HO1.out i hi2 hlt)
      go_wp2_with fail
      refine HC.out.take.mono ?_
      intro e w5 hx
      obtain ⟨rfl, hc, ht⟩ := HC.out.took HT.out.1 hx
      rw [HT.out.2] at hc
      have HC5 := Lib.hid hc
      clear hx hc ht HC cb
      dsimp only
      go_wp2
      go_roundw
      case rel => exact ⟨i + 1, by omega, by omega, by go_num, HC5⟩
      case measure => simp [intOf]; omega
    · have hq : decide (i < n) = false := decide_eq_false hlt
      obtain rfl : i = n := by omega
      clear HC4 HO1 HBX
      have HAL := Lib.hid HC.out.all
      go_wp2_with fail
      refine HAL.out.mono ?_
      rintro e w5 ⟨b1, rfl, hj, hl, hg⟩
      have HC5 := Lib.hid (HC.out.old hg)
      have HJ5 := Lib.hid hj
      have hb1 : b1 ≠ h := by have := HC.out.cc.lt; omega
      have HNB := Lib.hid hb1
      clear hj hl hg HAL HC hb1 cb
      dsimp only
      obtain ⟨p, hp⟩ : ∃ p, piecesC i (eachC size) = p := ⟨_, rfl⟩
      have HP := Lib.hid hp
      have HPC := Lib.hid (HC5.out.pages p hp)
      clear hp
      go_wp2_with fail
      refine HPC.out.mono ?_
      rintro e w6 ⟨hg, b2, c2, rfl, hs, hl⟩
      have HC6 := Lib.hid (HC5.out.old hg)
      have HJ6 := Lib.hid (HJ5.out.turn (grown_turn hg) id)
      have HS6 := Lib.hid hs
      have hb2 : b2 ≠ h := by have := HC5.out.cc.lt; omega
      have HNB2 := Lib.hid hb2
      clear hs hl hg HC5 HJ5 hb2 HPC
      dsimp only
      -- plain
      have hgeo := HOK.out
      have hln0 : (onesC i i).length = i := ones_len i i (Nat.le_refl _)
      have hat0 : ∀ j, j < i → (onesC i i).getD j 0 = 1 := fun j hj => by rw [ones_at i i j (Nat.le_refl _), if_pos hj]
      have HADD : Hid (∀ m : Nat, m < 300 → addE ((onesC i i).set k (1 + (m : Int))) k = 0 ∧ addN ((onesC i i).set k (1 + (m : Int))) k = (onesC i i).set k (1 + ((m + 1 : Nat) : Int))) := Lib.hid (fun m hm => by
        have hv : ((onesC i i).set k (1 + (m : Int))).getD k 0 = 1 + (m : Int) := by rw [getD_set _ k _ k (by rw [hln0]; exact hk2.2), if_pos rfl]
        have he : addE ((onesC i i).set k (1 + (m : Int))) k = 0 := by
          unfold addE
          rw [if_neg (fun q => q ⟨hk2.1, by rw [List.length_set, hln0]; exact hk2.2⟩), hv, if_neg (by omega), if_neg (by omega)]
        refine ⟨he, (if_pos he).trans ?_⟩
        rw [hv, List.set_set, show (1 : Int) + (m : Int) + 1 = 1 + ((m + 1 : Nat) : Int) by omega])
      have HST : Hid ((onesC i i).set k (1 + ((0 : Nat) : Int)) = onesC i i) := Lib.hid (by
        refine ext_at i (by rw [List.length_set, hln0]) hln0 fun j hj => ?_
        rw [getD_set _ k _ j (by rw [hln0]; exact hk2.2), hat0 j hj]
        split <;> rfl)
      have hck : CnOk size i (onesC i i) := HC6.out.ok
      have HAP := Lib.hid (pages_apart hck k hk2.2 (1 + (t : Int)) (by omega))
      rw [hat0 k hk2.2] at HAP
      have HPL := Lib.hid (pages_lens (eachC size) i ((onesC i i).set k (1 + (t : Int))) (onesC i i) (by rw [List.length_set]))
      have HB1 := Lib.hid (pages_isB (size := size) (n := i) ((onesC i i).set k (1 + (t : Int))))
      have HB2 := Lib.hid (pages_isB (size := size) (n := i) (onesC i i))
      have hp74 : p ≤ 74 := by
        rw [← HP.out]
        exact pieces_le (each_pos hgeo).1 hn8.2
      have HLP : Hid ((pagesL (eachC size) i (onesC i i)).length = p) := Lib.hid (by rw [(pages_pieces hgeo (onesC i i) hln0).1, HP.out])
      have HGT : Hid (∀ j, j < i → (onesC i i).getD j 0 = 1 ∧ ((onesC i i).set k (1 + (t : Int))).getD j 0 = if j = k then 1 + (t : Int) else 1) := Lib.hid (fun j hj => ⟨hat0 j hj, by rw [getD_set _ k _ j (by rw [hln0]; exact hk2.2), hat0 j hj]⟩)
      have HPS : Hid (∀ p ∈ pagesL (eachC size) i (onesC i i), p.length ≤ 8192) := Lib.hid (fun p hp => by
        obtain ⟨j, hj, rfl⟩ := List.mem_iff_getElem.1 hp
        have h1 := (pages_pieces hgeo (onesC i i) hln0).1
        have h2 := pages_get (eachC size) (by have := (each_pos hgeo).1; omega) i j (onesC i i) (by rw [hln0]; exact Nat.le_refl _) (by rw [hln0]; exact (pieces_lt i (eachC size) j (by have := (each_pos hgeo).1; omega)).1 (by rw [← h1]; exact hj))
        rw [List.getElem?_eq_getElem hj] at h2
        rw [Option.some.inj h2, bytes_len, List.length_take, List.length_drop, hln0]
        omega)
      have hC6 : Hid (CN W0 w6 g h cap size i ((onesC i i).set k (1 + ((0 : Nat) : Int)))) := Lib.hid (by rw [HST.out]; exact HC6.out)
      obtain ⟨N0, hN0⟩ : ∃ N, onesC i i = N := ⟨_, rfl⟩
      rw [hN0] at hC6 HAP HPL HB1 HB2 HGT HPS HADD HJ6 HS6 HLP
      obtain ⟨P0, hP0⟩ : ∃ P, pagesL (eachC size) i N0 = P := ⟨_, rfl⟩
      rw [hP0] at HAP HPL HB2 HPS HS6 HLP
      clear hgeo hln0 hat0 HST hck HC6 hN0 hP0
      go_wp2
      go_loopw [12] (fun sm wr => ∃ m : Nat, m ≤ t ∧ sm = .int .i64 m ∧ Hid (CN W0 wr g h cap size i (N0.set k (1 + (m : Int)))) ∧ Hid (JR wr b1 N0) ∧ Hid (Ss.Seg wr (some ⟨b2, 0, none⟩) p c2 P0)) (fun sm _ => t - (intOf sm).toNat)
      case atStart => exact ⟨0, by omega, rfl, hC6, HJ6, HS6⟩
      case round =>
        clear hC6 HJ6 HS6
        obtain ⟨m, hm, rfl, HC, HJ, HS⟩ := hrel
        by_cases hmt : m < t
        · have hq5 : decide (m < t) = true := decide_eq_true hmt
          have HA := Lib.hid (HC.out.add k (by omega))
          rw [(HADD.out m (by omega)).1, (HADD.out m (by omega)).2] at HA
          go_wp2_with fail
          refine HA.out.mono ?_
          rintro e w7 ⟨rfl, hc, ht⟩
          have HC7 := Lib.hid hc
          have HJ7 := Lib.hid (HJ.out.turn ht HNB.out)
          have HS7 := Lib.hid (seg_turnS HS.out ht HNB2.out)
          clear hc ht HA HC HJ HS
          dsimp only
          go_wp2
          go_roundw
          case rel => exact ⟨m + 1, by omega, by go_num, HC7, HJ7, HS7⟩
          case measure => simp [intOf]; omega
        · have hq5 : decide (m < t) = false := decide_eq_false hmt
          obtain rfl : m = t := by omega
          clear HADD
          go_wp2_with fail
          refine HC.out.all.mono ?_
          rintro e w7 ⟨b3, rfl, hj, -, hg⟩
          have HC7 := Lib.hid (HC.out.old hg)
          have HJ7 := Lib.hid (HJ.out.turn (grown_turn hg) id)
          have HS7 := Lib.hid (seg_turnS HS.out (grown_turn hg) id)
          have HK7 := Lib.hid hj
          clear hj hg HC HJ HS
          have HPC := Lib.hid (HC7.out.pages p HP.out)
          dsimp only
          go_wp2_with fail
          refine HPC.out.mono ?_
          rintro e w8 ⟨hg, b4, c4, rfl, hs, -⟩
          have HC8 := Lib.hid (HC7.out.old hg)
          have HJ8 := Lib.hid (HJ7.out.turn (grown_turn hg) id)
          have HS8 := Lib.hid (seg_turnS HS7.out (grown_turn hg) id)
          have HK8 := Lib.hid (HK7.out.turn (grown_turn hg) id)
          have HR8 := Lib.hid hs
          have HG8 := Lib.hid HC8.out.gr
          clear hs hg HC7 HJ7 HS7 HK7 HPC
          dsimp only
          -- plain: the two rows, the two lists of pages
          have hpl1 : (pagesL (eachC size) i (N0.set k (1 + (m : Int)))).length = p := by
            have := congrArg List.length HPL.out
            rw [List.length_map, List.length_map, HLP.out] at this
            exact this
          obtain ⟨P1, hP1⟩ : ∃ P, pagesL (eachC size) i (N0.set k (1 + (m : Int))) = P := ⟨_, rfl⟩
          rw [hP1] at HAP HPL HB1 HR8 hpl1
          have HL1 := Lib.hid hpl1
          have hln : N0.length = i := by have := HC8.out.ok.len; rwa [List.length_set] at this
          have HCJ : Hid (∀ j, j < i → w8.cell? ⟨b1, j, none⟩ = some (.int .i64 1)) := Lib.hid (fun j hj => by
            have := (HJ8.out j (by rw [hln]; exact hj)).1
            rw [(HGT.out j hj).1] at this
            exact this)
          have HCK : Hid (∀ j, j < i → w8.cell? ⟨b3, j, none⟩ = some (.int .i64 (if j = k then 1 + (m : Int) else 1))) := Lib.hid (fun j hj => by
            have := (HK8.out j (by rw [List.length_set, hln]; exact hj)).1
            rw [(HGT.out j hj).2] at this
            exact this)
          have HSA := Lib.hid (fun j (hj : j < p) => seg_at HS8.out j hj)
          have HRA := Lib.hid (fun j (hj : j < p) => seg_at HR8.out j hj)
          clear hP1 hpl1 hln HC8 HJ8 HK8 HS8 HR8 HGT
          go_wp2
          go_loopw [15] (fun sj wr => ∃ j : Nat, j ≤ i ∧ sj = .int .i64 j ∧ Hid (Turn w8 wr nowhere)) (fun sj _ => i - (intOf sj).toNat)
          case atStart => exact ⟨0, by omega, rfl, Lib.hid (Turn.refl _ _)⟩
          case round =>
            obtain ⟨j, hj, rfl, HT⟩ := hrel
            by_cases hji : j < i
            · have hq6 : decide (j < i) = true := decide_eq_true hji
              have ew : IntKind.u32.wrap (j : Int) = (j : Int) := by rw [IntKind.wrap_u32]; omega
              have q1 := HT.out.cell (HCJ.out j hji) id
              have q2 := HT.out.cell (HCK.out j hji) id
              by_cases hjk : j = k
              · rw [if_pos hjk] at q2
                subst hjk
                have k1 : ((j : Int) == (j : Int)) = true := beq_self_eq_true _
                have k2 : ((j : Int) != (j : Int)) = false := by simp
                have e5 : IntKind.i64.wrap ((m : Int) + 1) = (m : Int) + 1 := IntWalk.i64_in _ (by omega)
                have e6 : (1 : Int) + (m : Int) = (m : Int) + 1 := Int.add_comm _ _
                rw [e6] at q2
                have k3 : (((m : Int) + 1) != ((m : Int) + 1)) = false := by simp
                clear e6
                go_wp2
                go_quiet (fail)
                have HT2 := Lib.hid (HT.out.trans (Turn.drewN wr nq nowhere) (fun _ _ e => e))
                clear HT q1 q2
                go_wp2
                go_roundw
                case rel => exact ⟨j + 1, by omega, by go_num, HT2⟩
                case measure => simp [intOf]; omega
              · rw [if_neg hjk] at q2
                have k1 : ((j : Int) == (k : Int)) = false := beq_eq_false_iff_ne.2 (by omega)
                have k2 : ((j : Int) != (k : Int)) = true := bne_iff_ne.2 (by omega)
                clear hjk
                go_wp2
                go_quiet (fail)
                have HT2 := Lib.hid (HT.out.trans (Turn.drewN wr nq nowhere) (fun _ _ e => e))
                clear HT q1 q2
                go_wp2
                go_roundw
                case rel => exact ⟨j + 1, by omega, by go_num, HT2⟩
                case measure => simp [intOf]; omega
            · have hq6 : decide (j < i) = false := decide_eq_false hji
              obtain rfl : j = i := by omega
              have HT9 := HT
              have HD0 : Hid (diffP (P1.take 0) (P0.take 0) = 0) := Lib.hid rfl
              have HUT := Lib.hid (fun x (hx : x < p) => diffP_take x P1 P0 (by rw [HL1.out]; exact hx) (by rw [HLP.out]; exact hx))
              have HLN : Hid (∀ x, x < p → (P1.getD x []).length = (P0.getD x []).length) := Lib.hid (fun x hx => by
                have h1 := congrArg (fun l : List Nat => l[x]?) HPL.out
                rw [List.getElem?_map, List.getElem?_map, List.getElem?_eq_getElem (by rw [HL1.out]; exact hx), List.getElem?_eq_getElem (by rw [HLP.out]; exact hx)] at h1
                rw [List.getD_eq_getElem?_getD, List.getD_eq_getElem?_getD, List.getElem?_eq_getElem (by rw [HL1.out]; exact hx), List.getElem?_eq_getElem (by rw [HLP.out]; exact hx)]
                exact Option.some.inj h1)
              have HMEM : Hid (∀ x, x < p → IsB (P1.getD x []) ∧ IsB (P0.getD x []) ∧ (P0.getD x []).length ≤ 8192) := Lib.hid (fun x hx => by
                rw [List.getD_eq_getElem?_getD, List.getD_eq_getElem?_getD, List.getElem?_eq_getElem (by rw [HL1.out]; exact hx), List.getElem?_eq_getElem (by rw [HLP.out]; exact hx)]
                exact ⟨HB1.out _ (List.getElem_mem _), HB2.out _ (List.getElem_mem _), HPS.out _ (List.getElem_mem _)⟩)
              have HUM : Hid (∀ x, diffP (P1.take x) (P0.take x) ≤ diffP P1 P0) := Lib.hid (fun x => by
                have h1 : ∀ (x : Nat) (a b : List (List Int)), diffP (a.take x) (b.take x) ≤ diffP a b := by
                  intro x
                  induction x with
                  | zero => intro a b; rw [List.take_zero]; exact Nat.zero_le _
                  | succ x ih =>
                    intro a b
                    match a, b with
                    | [], _ => exact Nat.zero_le _
                    | _ :: _, [] => exact Nat.zero_le _
                    | p :: a, q :: b => exact Nat.add_le_add_left (ih a b) _
                exact h1 x P1 P0)
              have HALL : Hid (P1.take p = P1 ∧ P0.take p = P0) := Lib.hid ⟨List.take_of_length_le (by rw [HL1.out]; exact Nat.le_refl _), List.take_of_length_le (by rw [HLP.out]; exact Nat.le_refl _)⟩
              go_wp2
              go_loopw [16, 17] (fun su sx wr => ∃ x u : Nat, x ≤ p ∧ sx = .int .i64 x ∧ su = .int .i64 u ∧ Hid (diffP (P1.take x) (P0.take x) = u) ∧ u ≤ 2 ∧ Hid (Turn w8 wr nowhere)) (fun _ sx _ => p - (intOf sx).toNat)
              case atStart => exact ⟨0, 0, by omega, rfl, rfl, HD0, by omega, HT9⟩
              case round =>
                clear HT HT9 HD0
                obtain ⟨x, u, hx, rfl, rfl, HU, hu2, HT⟩ := hrel
                by_cases hxp : x < p
                · have hq7 : decide (x < p) = true := decide_eq_true hxp
                  have q1 := HT.out.cell (HRA.out x hxp) id
                  have q2 := HT.out.cell (HSA.out x hxp) id
                  have HRAx := Lib.hid (HRA.out x hxp)
                  have HSAx := Lib.hid (HSA.out x hxp)
                  have HUTx := Lib.hid (HUT.out x hxp)
                  rw [HU.out] at HUTx
                  have hlen := HLN.out x hxp
                  obtain ⟨hbA, hbB, hlB⟩ := HMEM.out x hxp
                  have HM2 := Lib.hid (HUM.out (x + 1))
                  obtain ⟨A, hA⟩ : ∃ A, P1.getD x [] = A := ⟨_, rfl⟩
                  obtain ⟨C, hC⟩ : ∃ C, P0.getD x [] = C := ⟨_, rfl⟩
                  rw [hA] at q1 HUTx hlen hbA HRAx
                  rw [hC] at q2 HUTx hlen hbB hlB HSAx
                  have hzA : (strOfNums A).size = C.length := by rw [strOfNums_size]; exact hlen
                  have hzC : (strOfNums C).size = C.length := strOfNums_size C
                  have HIA := Lib.hid (fun y (hy : y < C.length) W => idx_any A hbA y (by rw [hlen]; exact hy) W)
                  have HIC := Lib.hid (fun y (hy : y < C.length) W => idx_any C hbB y hy W)
                  have HDT := Lib.hid (fun y (hy : y < C.length) => diff_take A C y (by rw [hlen]; exact hy) hlen)
                  have HDM : Hid (∀ y, diffB (A.take y) (C.take y) ≤ diffB A C) := Lib.hid (fun y => by
                    have h1 : ∀ (y : Nat) (a b : List Int), diffB (a.take y) (b.take y) ≤ diffB a b := by
                      intro y
                      induction y with
                      | zero => intro a b; rw [List.take_zero]; exact Nat.zero_le _
                      | succ y ih =>
                        intro a b
                        match a, b with
                        | [], _ => exact Nat.zero_le _
                        | _ :: _, [] => exact Nat.zero_le _
                        | p :: a, q :: b => exact Nat.add_le_add_left (ih a b) _
                    exact h1 y A C)
                  have HDA : Hid (A.take C.length = A ∧ C.take C.length = C) := Lib.hid ⟨List.take_of_length_le (by rw [hlen]; exact Nat.le_refl _), List.take_of_length_le (Nat.le_refl _)⟩
                  have HBD : Hid (u + diffB A C ≤ 2) := Lib.hid (by have h1 := HM2.out; rw [HUTx.out] at h1; exact Nat.le_trans h1 HAP.out.1)
                  obtain ⟨SA, hSA⟩ : ∃ S, strOfNums A = S := ⟨_, rfl⟩
                  obtain ⟨SC, hSC⟩ : ∃ S, strOfNums C = S := ⟨_, rfl⟩
                  rw [hSA] at q1 hzA HIA HRAx
                  rw [hSC] at q2 hzC HIC HSAx
                  obtain ⟨ln, hln⟩ : ∃ l, C.length = l := ⟨_, rfl⟩
                  rw [hln] at hzA hzC HIA HIC HDT HDA hlB
                  have HD00 : Hid (diffB (A.take 0) (C.take 0) = 0) := Lib.hid (by rw [List.take_zero]; rfl)
                  have k1 : ((ln : Int) != (ln : Int)) = false := by simp
                  clear hA hC hSA hSC hln hlen hbA hbB HM2 HU
                  go_wp2
                  go_quiet (fail)
                  have HT2 := Lib.hid (HT.out.trans (Turn.drewN wr nq nowhere) (fun _ _ e => e))
                  clear HT q1 q2
                  go_wp2
                  go_loopw [16, 18] (fun sv sy wr => ∃ y v : Nat, y ≤ ln ∧ sy = .int .i64 y ∧ sv = .int .i64 v ∧ Hid (u + diffB (A.take y) (C.take y) = v) ∧ v ≤ 2 ∧ Hid (Turn w8 wr nowhere)) (fun _ sy _ => ln - (intOf sy).toNat)
                  case atStart => exact ⟨0, u, by omega, rfl, rfl, Lib.hid (by rw [HD00.out]; rfl), hu2, HT2⟩
                  case round =>
                    clear HT2
                    obtain ⟨y, v, hy, rfl, rfl, HV, hv2, HT⟩ := hrel
                    have q1 := HT.out.cell HRAx.out id
                    have q2 := HT.out.cell HSAx.out id
                    by_cases hyl : y < ln
                    · have hq8 : decide (y < ln) = true := decide_eq_true hyl
                      have ha := HIA.out y hyl
                      have hc := HIC.out y hyl
                      have HDy := Lib.hid (HDT.out y hyl)
                      have HDm := Lib.hid (HDM.out (y + 1))
                      obtain ⟨z1, hz1⟩ : ∃ z, A.getD y 0 = z := ⟨_, rfl⟩
                      obtain ⟨z2, hz2⟩ : ∃ z, C.getD y 0 = z := ⟨_, rfl⟩
                      rw [hz1] at ha HDy
                      rw [hz2] at hc HDy
                      clear hz1 hz2
                      by_cases he : z1 = z2
                      · have HV2 : Hid (u + diffB (A.take (y + 1)) (C.take (y + 1)) = v) := Lib.hid (by rw [HDy.out, if_pos he, Nat.add_zero]; exact HV.out)
                        subst he
                        have k2 : (z1 != z1) = false := by simp
                        clear HV HDy HDm
                        go_wp2
                        go_quiet (fail)
                        have HT3 := Lib.hid (HT.out.trans (Turn.drewN wr nq nowhere) (fun _ _ e => e))
                        clear HT q1 q2
                        go_wp2
                        go_roundw
                        case rel => exact ⟨y + 1, v, by omega, by go_num, rfl, HV2, hv2, HT3⟩
                        case measure => simp [intOf]; omega
                      · have HV2 : Hid (u + diffB (A.take (y + 1)) (C.take (y + 1)) = v + 1) := Lib.hid (by rw [HDy.out, if_neg he]; have := HV.out; omega)
                        have hv3 : v + 1 ≤ 2 := by have h1 := HV2.out; have h2 := HDm.out; have h3 := HBD.out; omega
                        have k2 : (z1 != z2) = true := bne_iff_ne.2 he
                        have HV3 := Lib.hid hv3
                        clear HV HDy HDm he hv3
                        go_wp2
                        go_quiet (fail)
                        have HT3 := Lib.hid (HT.out.trans (Turn.drewN wr nq nowhere) (fun _ _ e => e))
                        clear HT q1 q2
                        go_wp2
                        go_roundw
                        case rel => exact ⟨y + 1, v + 1, by omega, by go_num, by go_num, HV2, HV3.out, HT3⟩
                        case measure => simp [intOf]; omega
                    · have hq8 : decide (y < ln) = false := decide_eq_false hyl
                      obtain rfl : y = ln := by omega
                      have HUN : Hid (diffP (P1.take (x + 1)) (P0.take (x + 1)) = v) := Lib.hid (by
                        have h1 := HV.out
                        rw [HDA.out.1, HDA.out.2] at h1
                        rw [HUTx.out]; exact h1)
                      clear HV
                      go_wp2
                      go_roundw
                      case rel => exact ⟨x + 1, v, by omega, by go_num, rfl, HUN, hv2, HT⟩
                      case measure => simp [intOf]; omega
                · have hq7 : decide (x < p) = false := decide_eq_false hxp
                  obtain rfl : x = p := by omega
                  have hux : diffP P1 P0 = u := by have h1 := HU.out; rw [HALL.out.1, HALL.out.2] at h1; exact h1
                  have hz0 : (u = 0) ↔ (m = 0) := by have h1 := HAP.out.2; rw [hux] at h1; omega
                  obtain ⟨bz, hbz⟩ : ∃ b, ((u : Int) == 0) = b := ⟨_, rfl⟩
                  have hbm : ((m : Int) == 0) = bz := by
                    rw [← hbz]
                    by_cases h0 : m = 0
                    · rw [beq_iff_eq.2 (show (m : Int) = 0 by omega), beq_iff_eq.2 (show (u : Int) = 0 by omega)]
                    · rw [beq_eq_false_iff_ne.2 (show ¬ (m : Int) = 0 by omega), beq_eq_false_iff_ne.2 (show ¬ (u : Int) = 0 by omega)]
                  have k1 : decide ((u : Int) ≤ 2) = true := decide_eq_true (by omega)
                  have k2 : decide (u ≤ 2) = true := decide_eq_true (by omega)
                  have HBE : Hid (Below w.heap.size w wr) := Lib.hid (HEND.out wr (grown_then HG8.out HT.out.grown))
                  clear HU hux hz0
                  cases bz
                  all_goals
                    go_wp2
                    go_ret
                    exact ⟨rfl, HBE.out⟩
end Go.Proofs.Ytkinmcnmdfpjbaa.Cn
