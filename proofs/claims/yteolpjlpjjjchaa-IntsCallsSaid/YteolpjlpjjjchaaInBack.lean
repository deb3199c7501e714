/-
  IntsBack: whatever form numbers have, they are got; what is got has one of these forms; the shortest is as long as none of them is shorter.
-/
import Derived.Test.YteolpjlpjjjchaaInLaw
import Derived.Laws.Cover1
namespace Go.Proofs.Yteolpjlpjjjchaa.In
open Go.RowKit Go.Joins
open Is (IsI)
open Pk (PutF Turn.then below_of)
open Dv (Turn nowhere)

theorem ne_list {a b : ByteArray} (h : a ≠ b) : ¬ a.toList = b.toList := by
  rw [Go.ByteArray.toList_eq, Go.ByteArray.toList_eq]
  intro e
  apply h
  obtain ⟨⟨a⟩⟩ := a
  obtain ⟨⟨b⟩⟩ := b
  simp at e
  rw [e]
theorem few_of {l : List Int} {e : List Int} (h : l.length ≤ 4096) : tooMany l e = (0, e) := by unfold tooMany; rw [if_neg (by omega)]
theorem encB_len (k : Nat) (l : List Int) (hl : l.length ≤ 4096) : 0 < (encB k l).length ∧ (encB k l).length ≤ 2000000 := by
  have hb := body_len k l (by omega)
  have hv := Oct.varB_le 9 (l.length : Int)
  unfold encB headB
  rw [List.length_append, List.length_cons]
  omega
theorem encB_ne (j k : Nat) (l : List Int) (h : j ≠ k) : encB j l ≠ encB k l := by
  unfold encB headB
  intro e
  simp only [List.cons_append, List.cons.injEq] at e
  omega
theorem enc_str_ne (j k : Nat) (l : List Int) (h : j ≠ k) (hj : j ≤ 3) (hk : k ≤ 3) (hl : l.length ≤ 4096) : ¬ (strOfNums (encB j l)).toList = (strOfNums (encB k l)).toList :=
  ne_list fun e => encB_ne j k l h (Dv.str_inj (encB_isB j l hj (by omega)) (encB_isB k l hk (by omega)) e)

set_option maxRecDepth 100000 in
set_option maxHeartbeats 4000000 in
theorem back_any (a0 : Option Addr) (n0 c0 : Nat) (l0 : List Int) (a1 : Option Addr) (n1 c1 : Nat) (l1 : List Int) (w : World) (s0 : Is.Seg w a0 n0 c0 l0) (u0 : IsI l0) (s1 : Bs.Seg w a1 n1 c1 l1) (b1 : Oct.IsB l1) :
    Calls Try.prog 5 #[.slice a0 n0 c0, .slice a1 n1 c1] w fun e w' => e = .returned (.bool true) ∧ Below w.heap.size w w' := by
  have L0 := s0.len
  have L1 := s1.len
  have S0 := Lib.hid s0
  have S1 := Lib.hid s1
  have U0 := Lib.hid u0
  have HB1 := Lib.hid b1
  by_cases hg : 200 < n0 ∨ 200 < n1
  · have hg2 : (200 : Int) < n0 ∨ ((n0 : Int) ≤ 200 ∧ (200 : Int) < n1) := by omega
    clear hg L0 L1 s0 s1 u0 b1
    rcases hg2 with h1 | ⟨h1, h2⟩
    all_goals
      go_enter Try.func5, Try.ntmps5
      go_wp2_with fail
      refine (lives_any _).mono ?_
      rintro e w1 ⟨rfl, hg1⟩
      have T1 := Lib.hid hg1
      clear hg1
      dsimp only
      go_wp2
      go_ret
      exact ⟨rfl, below_of T1.out⟩
  · have hn0 : n0 ≤ 200 := by omega
    have hn1 : n1 ≤ 200 := by omega
    have hl4 : l0.length ≤ 4096 := by omega
    obtain ⟨p, hp⟩ : ∃ p, (encB 1 l0).length = p := ⟨_, rfl⟩
    obtain ⟨r, hr⟩ : ∃ p, (encB 2 l0).length = p := ⟨_, rfl⟩
    obtain ⟨t, ht⟩ : ∃ p, (encB 3 l0).length = p := ⟨_, rfl⟩
    obtain ⟨s, hs⟩ : ∃ p, (bestB l0).length = p := ⟨_, rfl⟩
    have hmin : ∀ W, (Builtin.min_ #[3, 3, 3] 3 #[.int .i64 (p : Int), .int .i64 (r : Int), .int .i64 (t : Int)]).run Try.prog W = .ok (.int .i64 (s : Int)) W := fun W => by
      have h := best_len l0
      rw [hp, hr, ht, hs] at h
      rw [run_min_int3]
      congr 2
      split <;> split at * <;> omega
    have HP := Lib.hid (fun W hs => plain_form (few_of hl4) hp u0 a0 n0 c0 W hs)
    have HR := Lib.hid (fun W hs => runs_form (few_of hl4) hr u0 a0 n0 c0 W hs)
    have HT := Lib.hid (fun W hs => packed_form (few_of hl4) ht u0 a0 n0 c0 W hs)
    have HS := Lib.hid (fun W h => put_form (few_of hl4) hs u0 a0 n0 c0 W h)
    have HG : Hid (∀ k, 1 ≤ k → k ≤ 3 → getI (encB k l0) = (0, l0) ∧ Oct.IsB (encB k l0) ∧ (encB k l0).length ≤ 100000000) := Lib.hid (fun k k1 k3 => ⟨get_enc k l0 k1 k3 u0 hl4, encB_isB k l0 k3 (by omega), by have := encB_len k l0 hl4; omega⟩)
    have HL0 := Lib.hid L0
    have HL1 := Lib.hid L1
    clear s0 s1 u0 b1 hg L0 L1 hl4 hp hr ht hs
    go_enter Try.func5, Try.ntmps5
    go_wp2_with fail
    refine (lives_any _).mono ?_
    rintro e w1 ⟨rfl, hT⟩
    have T1 := Lib.hid hT
    have HP1 := HP.out w1 (iseg_stay S0.out hT)
    clear hT
    dsimp only
    go_wp2_with fail
    refine HP1.mono ?_
    rintro e w2 ⟨x2, k2, rfl, hs2, hT⟩
    have T2 := Lib.hid (Turn.then T1.out hT)
    have P2 := Lib.hid hs2
    have HR2 := HR.out w2 (iseg_stay S0.out T2.out)
    clear hT hs2 HP1 T1
    dsimp only
    go_wp2_with fail
    refine HR2.mono ?_
    rintro e w3 ⟨x3, k3, rfl, hs3, hT⟩
    have T3 := Lib.hid (Turn.then T2.out hT)
    have P3 := Lib.hid (Pk.seg_stay P2.out hT)
    have R3 := Lib.hid hs3
    have HT3 := HT.out w3 (iseg_stay S0.out T3.out)
    clear hT hs3 HR2 T2 P2
    dsimp only
    go_wp2_with fail
    refine HT3.mono ?_
    rintro e w4 ⟨x4, k4, rfl, hs4, hT⟩
    have T4 := Lib.hid (Turn.then T3.out hT)
    have P4 := Lib.hid (Pk.seg_stay P3.out hT)
    have R4 := Lib.hid (Pk.seg_stay R3.out hT)
    have K4 := Lib.hid hs4
    have HS4 := HS.out w4 (iseg_stay S0.out T4.out)
    clear hT hs4 HT3 T3 P3 R3
    dsimp only
    go_wp2_with fail
    refine HS4.mono ?_
    rintro e w5 ⟨x5, k5, rfl, hs5, hT⟩
    have T5 := Lib.hid (Turn.then T4.out hT)
    have P5 := Lib.hid (Pk.seg_stay P4.out hT)
    have R5 := Lib.hid (Pk.seg_stay R4.out hT)
    have K5 := Lib.hid (Pk.seg_stay K4.out hT)
    have B5 := Lib.hid hs5
    clear hT hs5 HS4 T4 P4 R4 K4
    dsimp only
    have hTA : Turn w5 (w5.alloc (.cells #[.slice x2 p k2, .slice x3 r k3, .slice x4 t k4, .slice x5 s k5] 23)) nowhere := Turn.alloc _ _ _
    have hcA : ∀ j v, ([.slice x2 p k2, .slice x3 r k3, .slice x4 t k4, .slice x5 s k5] : List Value)[j]? = some v → (w5.alloc (.cells #[.slice x2 p k2, .slice x3 r k3, .slice x4 t k4, .slice x5 s k5] 23)).cell? ⟨w5.heap.size, j, none⟩ = some v := fun j v hj => by
      have h := World.ownsRow_lit (base := w5.heap.size) (e := 23) (size := 1) w5 #[.slice x2 p k2, .slice x3 r k3, .slice x4 t k4, .slice x5 s k5] 4 (Nat.le_refl _) (by unfold maxLen; omega) (by simp)
      have h2 := h.cells (g := w5.heap.size) rfl j v (by simpa using hj)
      rwa [Addr.add_lit, Nat.zero_add] at h2
    have HPc : Hid (∀ k, k < 4 → ∃ a m c B, (w5.alloc (.cells #[.slice x2 p k2, .slice x3 r k3, .slice x4 t k4, .slice x5 s k5] 23)).cell? ⟨w5.heap.size, k, none⟩ = some (.slice a m c) ∧ Bs.Seg (w5.alloc (.cells #[.slice x2 p k2, .slice x3 r k3, .slice x4 t k4, .slice x5 s k5] 23)) a m c B ∧ getI B = (0, l0) ∧ Oct.IsB B ∧ B.length ≤ 100000000) := Lib.hid (fun k hk => by
      match k, hk with
      | 0, _ => exact ⟨x2, p, k2, _, hcA 0 _ rfl, Pk.seg_stay P5.out hTA, HG.out 1 (by decide) (by decide)⟩
      | 1, _ => exact ⟨x3, r, k3, _, hcA 1 _ rfl, Pk.seg_stay R5.out hTA, HG.out 2 (by decide) (by decide)⟩
      | 2, _ => exact ⟨x4, t, k4, _, hcA 2 _ rfl, Pk.seg_stay K5.out hTA, HG.out 3 (by decide) (by decide)⟩
      | 3, _ =>
        refine ⟨x5, s, k5, _, hcA 3 _ rfl, Pk.seg_stay B5.out hTA, ?_⟩
        rcases best_cases l0 with e | e | e <;> rw [e]
        · exact HG.out 1 (by decide) (by decide)
        · exact HG.out 2 (by decide) (by decide)
        · exact HG.out 3 (by decide) (by decide))
    have T6 := Turn.then T5.out hTA
    obtain ⟨W6, hW6⟩ : ∃ W6, w5.alloc (.cells #[.slice x2 p k2, .slice x3 r k3, .slice x4 t k4, .slice x5 s k5] 23) = W6 := ⟨_, rfl⟩
    rw [hW6] at HPc T6
    have T6 := Lib.hid T6
    clear hTA hcA P5 R5 K5 B5 HG T5
    go_wp2
    go_loopw [71] (fun si wr => ∃ k : Nat, k ≤ 4 ∧ si = .int .i64 k ∧ Hid (Turn W6 wr nowhere)) (fun si _ => 4 - (intOf si).toNat)
    case atStart => exact ⟨0, by decide, rfl, Lib.hid (Turn.refl _ _)⟩
    case round =>
      obtain ⟨k, hk, rfl, HTr⟩ := hrel
      by_cases hlt : k < 4
      · obtain ⟨a, m, c, B, hc, hsB, hgB, hbB, hlB⟩ := HPc.out k hlt
        have g1 := HTr.out.cell hc id
        have HSB := Lib.hid (Pk.seg_stay hsB HTr.out)
        have HGo := Lib.hid (fun W h => got_form hgB HL0.out hbB hlB a m c W h)
        have HCo := Lib.hid (fun W h => count_form hgB HL0.out hbB hlB a m c W h)
        have HGo1 := Lib.hid (HGo.out wr HSB.out)
        clear hc hsB hgB hbB hlB HGo
        go_wp2_with fail
        refine HGo1.out.mono ?_
        rintro e v1 ⟨y1, q1, rfl, hsy, hT⟩
        have HY := Lib.hid hsy
        have HCo1 := Lib.hid (HCo.out v1 (Pk.seg_stay HSB.out hT))
        have TR1 := Lib.hid (Turn.then HTr.out hT)
        clear hsy hT HCo HGo1
        dsimp only
        go_wp2_with fail
        refine HCo1.out.mono ?_
        rintro e v2 ⟨rfl, hT⟩
        have TR2 := Lib.hid (Turn.then TR1.out hT)
        have HSm := Lib.hid (isame_form y1 a0 n0 n0 q1 c0 l0 l0 v2 (iseg_stay HY.out hT) (iseg_stay S0.out (Turn.then T6.out TR2.out)) true (Is.sameB_yes rfl))
        clear hT TR1 HCo1
        dsimp only
        go_wp2_with fail
        refine HSm.out.mono ?_
        rintro e v3 ⟨rfl, hT⟩
        have TR3 := Lib.hid (Turn.then TR2.out hT)
        clear hT TR2 HSm
        dsimp only
        go_wp2
        go_roundw
        case rel => exact ⟨k + 1, by omega, by go_num, TR3⟩
        case measure => simp [intOf]; omega
      · obtain rfl : k = 4 := by omega
        have TE := Lib.hid (Turn.then T6.out HTr.out)
        have S1E := Lib.hid (Pk.seg_stay S1.out TE.out)
        clear HPc HTr T6 hW6
        rcases get_cases l1 with ⟨M, hM⟩ | hM
        · obtain ⟨kk, kk1, kk3, hb, hMl, hMI⟩ := get_true l1 M HB1.out hM
          obtain ⟨q, hq⟩ : ∃ q, M.length = q := ⟨_, rfl⟩
          have HGo := Lib.hid (got_form hM hq HB1.out (by have := HL1.out; omega) a1 n1 c1 wr S1E.out)
          obtain ⟨p', hp⟩ : ∃ p, (encB 1 M).length = p := ⟨_, rfl⟩
          obtain ⟨r', hr⟩ : ∃ p, (encB 2 M).length = p := ⟨_, rfl⟩
          obtain ⟨t', ht⟩ : ∃ p, (encB 3 M).length = p := ⟨_, rfl⟩
          have HP := Lib.hid (fun a c W hs => plain_form (few_of hMl) hp hMI a q c W hs)
          have HR := Lib.hid (fun a c W hs => runs_form (few_of hMl) hr hMI a q c W hs)
          have HT := Lib.hid (fun a c W hs => packed_form (few_of hMl) ht hMI a q c W hs)
          have HPos : Hid (0 < n1 ∧ 0 < p' ∧ 0 < r' ∧ 0 < t') := Lib.hid (by
            refine ⟨?_, ?_, ?_, ?_⟩
            · rw [← HL1.out, hb]; exact (encB_len kk M hMl).1
            · rw [← hp]; exact (encB_len 1 M hMl).1
            · rw [← hr]; exact (encB_len 2 M hMl).1
            · rw [← ht]; exact (encB_len 3 M hMl).1)
          have HMl := Lib.hid hMl
          have HBe := Lib.hid hb
          have HSE := Lib.hid (show (strOfNums l1 = strOfNums (encB 1 M) ∨ (¬ (strOfNums l1).toList = (strOfNums (encB 1 M)).toList ∧ strOfNums l1 = strOfNums (encB 2 M)) ∨ (¬ (strOfNums l1).toList = (strOfNums (encB 1 M)).toList ∧ ¬ (strOfNums l1).toList = (strOfNums (encB 2 M)).toList ∧ strOfNums l1 = strOfNums (encB 3 M))) from by
            rw [hb]
            have h3 : kk = 1 ∨ kk = 2 ∨ kk = 3 := by omega
            rcases h3 with rfl | rfl | rfl
            · exact .inl rfl
            · exact .inr (.inl ⟨enc_str_ne 2 1 M (by decide) (by decide) (by decide) hMl, rfl⟩)
            · exact .inr (.inr ⟨enc_str_ne 3 1 M (by decide) (by decide) (by decide) hMl, enc_str_ne 3 2 M (by decide) (by decide) (by decide) hMl, rfl⟩))
          clear hM hb hMl hMI hq hp hr ht kk1 kk3
          go_wp2_with fail
          refine HGo.out.mono ?_
          rintro e v1 ⟨y1, q1, rfl, hsy, hT⟩
          have HY1 := Lib.hid hsy
          have S1a := Lib.hid (Pk.seg_stay S1E.out hT)
          have TE1 := Lib.hid (Turn.then TE.out hT)
          have HP1 := Lib.hid (HP.out y1 q1 v1 hsy)
          clear hsy hT HGo HP
          dsimp only
          go_wp2_with fail
          refine HP1.out.mono ?_
          rintro e v2 ⟨y2, q2, rfl, hs2, hT⟩
          have HY2 := Lib.hid (iseg_stay HY1.out hT)
          have S2a := Lib.hid (Pk.seg_stay S1a.out hT)
          have TE2 := Lib.hid (Turn.then TE1.out hT)
          have P2 := Lib.hid hs2
          have HR1 := Lib.hid (HR.out y1 q1 v2 HY2.out)
          clear hs2 hT HP1 HR HY1 S1a TE1
          dsimp only
          go_wp2_with fail
          refine HR1.out.mono ?_
          rintro e v3 ⟨y3, q3, rfl, hs3, hT⟩
          have HY3 := Lib.hid (iseg_stay HY2.out hT)
          have S3a := Lib.hid (Pk.seg_stay S2a.out hT)
          have TE3 := Lib.hid (Turn.then TE2.out hT)
          have P3 := Lib.hid (Pk.seg_stay P2.out hT)
          have R3 := Lib.hid hs3
          have HT1 := Lib.hid (HT.out y1 q1 v3 HY3.out)
          clear hs3 hT HR1 HT HY2 S2a TE2 P2
          dsimp only
          go_wp2_with fail
          refine HT1.out.mono ?_
          rintro e v4 ⟨y4, q4, rfl, hs4, hT⟩
          have TE4 := Lib.hid (Turn.then TE3.out hT)
          have hc0 := conv_seg (Pk.seg_stay S3a.out hT) HPos.out.1
          have hc1 := conv_seg (Pk.seg_stay P3.out hT) HPos.out.2.1
          have hc2 := conv_seg (Pk.seg_stay R3.out hT) HPos.out.2.2.1
          have hc3 := conv_seg hs4 HPos.out.2.2.2
          obtain ⟨Z0, hz0⟩ : ∃ Z, strOfNums l1 = Z := ⟨_, rfl⟩
          obtain ⟨Z1, hz1⟩ : ∃ Z, strOfNums (encB 1 M) = Z := ⟨_, rfl⟩
          obtain ⟨Z2, hz2⟩ : ∃ Z, strOfNums (encB 2 M) = Z := ⟨_, rfl⟩
          obtain ⟨Z3, hz3⟩ : ∃ Z, strOfNums (encB 3 M) = Z := ⟨_, rfl⟩
          rw [hz0] at hc0
          rw [hz1] at hc1
          rw [hz2] at hc2
          rw [hz3] at hc3
          have hse := HSE.out
          rw [hz0, hz1, hz2, hz3] at hse
          clear hs4 hT HT1 HY3 S3a TE3 P3 R3 hz0 hz1 hz2 hz3
          dsimp only
          rcases hse with rfl | ⟨n1, rfl⟩ | ⟨n1, n2, rfl⟩
          · go_wp2
            go_ret
            exact ⟨rfl, below_of TE4.out⟩
          · go_wp2
            go_ret
            exact ⟨rfl, below_of TE4.out⟩
          · go_wp2
            go_ret
            exact ⟨rfl, below_of TE4.out⟩
        · have HGo := Lib.hid (got_form hM rfl HB1.out (by have := HL1.out; omega) a1 n1 c1 wr S1E.out)
          clear hM
          go_wp2_with fail
          refine HGo.out.mono ?_
          rintro e v1 ⟨y1, q1, rfl, hsy, hT⟩
          have TE1 := Lib.hid (Turn.then TE.out hT)
          clear hsy hT HGo
          dsimp only [List.length_nil]
          go_wp2
          go_ret
          exact ⟨rfl, below_of TE1.out⟩
end Go.Proofs.Yteolpjlpjjjchaa.In
