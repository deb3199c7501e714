/-
  TextsBack: whatever form texts have, they are got; what is got has one of these forms.
-/
import Derived.Test.YtgbpmpeknbaccaaTxLaw
import Derived.Laws.Small
namespace Go.Proofs.Ytgbpmpeknbaccaa.Tx
open Go.RowKit Go.Joins
open Ss (IsS encW info_str)
open Pk (PutF Turn.then below_of turn_of)
open In (turn_below)
open Dv (Turn nowhere)
open Oct (varB)

theorem light_yes' {b : List Int} {l : List (List Int)} (h : lightB l = true) : formR b l = (0, b) := form_yes ((okB_iff l).2 (light_ok h))
theorem plainT_isB {l : List (List Int)} (h : OkT l) (hb : AllB l) : Oct.IsB (plainT l) := by
  intro x hx
  unfold plainT at hx
  rcases List.mem_cons.1 hx with e | hx
  · subst e; decide
  · exact In.isB_app (In.varB_isB l.length (by have := h.1; omega)) (strsB_isB hb fun s hs => by have := h.2 s hs; omega) x hx
theorem dictT_isB {l : List (List Int)} (h : OkT l) (hb : AllB l) : Oct.IsB (dictT l) := by
  have hw := words_len l
  intro x hx
  unfold dictT at hx
  rcases List.mem_cons.1 hx with e | hx
  · subst e; decide
  · exact In.isB_app (In.varB_isB l.length (by have := h.1; omega)) (In.isB_app (In.isB_app (In.varB_isB (wordsF l).length (by have := h.1; omega)) (strsB_isB (allB_words hb) fun s hs => by have := h.2 s ((mem_words s l).1 hs); omega)) (tail_isB _ (ix_isU (by have := h.1; omega)))) x hx
theorem plainT_len {l : List (List Int)} (h : OkT l) : 0 < (plainT l).length ∧ (plainT l).length ≤ 300000000 := by
  have h1 := strsB_len l h.2
  have h2 := Oct.varB_le 9 (l.length : Int)
  have h3 := h.1
  unfold plainT
  rw [List.length_cons, List.length_append]
  omega
theorem dictT_len {l : List (List Int)} (h : OkT l) : 0 < (dictT l).length ∧ (dictT l).length ≤ 300000000 := by
  have hw := words_len l
  have h1 := strsB_len (wordsF l) fun s hs => h.2 s ((mem_words s l).1 hs)
  have h2 := Oct.varB_le 9 (l.length : Int)
  have h4 := Oct.varB_le 9 ((wordsF l).length : Int)
  have h3 := h.1
  have h5 := Pk.put_len (ixT l) (Pk.wid (ixT l))
  unfold dictT tailT
  rw [List.length_cons, List.length_append, List.length_append, List.length_append, List.length_cons]
  omega
theorem best_len (l : List (List Int)) : ((bestT l).length : Int) = if ((dictT l).length : Int) < ((plainT l).length : Int) then ((dictT l).length : Int) else ((plainT l).length : Int) := by
  unfold bestT
  by_cases h : (dictT l).length < (plainT l).length
  · rw [if_pos h, if_pos (by omega)]
  · rw [if_neg h, if_neg (by omega)]
theorem best_cases (l : List (List Int)) : bestT l = plainT l ∨ bestT l = dictT l := by
  unfold bestT; split
  · exact .inr rfl
  · exact .inl rfl
theorem forms_ne (l : List (List Int)) (h : OkT l) (hb : AllB l) : ¬ (strOfNums (dictT l)).toList = (strOfNums (plainT l)).toList :=
  Ss.ne_toList fun e => by
    have := Dv.str_inj (dictT_isB h hb) (plainT_isB h hb) e
    unfold dictT plainT at this
    simp at this

set_option maxRecDepth 100000 in
set_option maxHeartbeats 4000000 in
theorem back_no (a0 : Option Addr) (n0 c0 : Nat) (l0 : List (List Int)) (a1 : Option Addr) (n1 c1 : Nat) (w : World) (s0 : Ss.Seg w a0 n0 c0 l0) (u0 : IsS l0) (hg : lightB l0 = false ∨ (lightB l0 = true ∧ 600 < n1)) :
    Calls Try.prog 5 #[.slice a0 n0 c0, .slice a1 n1 c1] w fun e w' => e = .returned (.bool true) ∧ Below w.heap.size w w' := by
  have S0 := Lib.hid s0
  have HLi := Lib.hid (fun W h => light_any a0 n0 c0 l0 W h u0)
  rcases hg with h | ⟨h, h6⟩
  all_goals
    rw [h] at HLi
    try (have h6' : (600 : Int) < (n1 : Int) := by omega)
    clear s0 u0 h
    go_enter Try.func5, Try.ntmps5
    go_wp2_with fail
    refine (lives_any _).mono ?_
    rintro e w1 ⟨rfl, hT⟩
    have T1 := Lib.hid hT
    have HL1 := Lib.hid (HLi.out w1 (sseg_stay S0.out hT))
    clear hT
    dsimp only
    go_wp2_with fail
    refine HL1.out.mono ?_
    rintro e w2 ⟨rfl, rfl⟩
    dsimp only
    go_wp2
    go_ret
    exact ⟨rfl, below_of T1.out⟩

set_option maxRecDepth 100000 in
set_option maxHeartbeats 4000000 in
theorem back_yes (a0 : Option Addr) (n0 c0 : Nat) (l0 : List (List Int)) (a1 : Option Addr) (n1 c1 : Nat) (l1 : List Int) (w : World) (s0 : Ss.Seg w a0 n0 c0 l0) (u0 : IsS l0) (s1 : Bs.Seg w a1 n1 c1 l1) (b1 : Oct.IsB l1) (hli : lightB l0 = true) (h6 : n1 ≤ 600) :
    Calls Try.prog 5 #[.slice a0 n0 c0, .slice a1 n1 c1] w fun e w' => e = .returned (.bool true) ∧ Below w.heap.size w w' := by
  have hok := light_ok hli
  have hB := allB_of u0
  have S0 := Lib.hid s0
  have S1 := Lib.hid s1
  have U0 := Lib.hid u0
  have HB1 := Lib.hid b1
  have HL0 := Lib.hid s0.len
  have HL1 := Lib.hid s1.len
  have HLi := Lib.hid (fun W h => light_any a0 n0 c0 l0 W h u0)
  obtain ⟨p, hp⟩ : ∃ p, (plainT l0).length = p := ⟨_, rfl⟩
  obtain ⟨t, ht⟩ : ∃ p, (dictT l0).length = p := ⟨_, rfl⟩
  obtain ⟨s, hs⟩ : ∃ p, (bestT l0).length = p := ⟨_, rfl⟩
  have hmin : ∀ W, (Builtin.min_ #[3, 3] 3 #[.int .i64 (p : Int), .int .i64 (t : Int)]).run Try.prog W = .ok (.int .i64 (s : Int)) W := fun W => by
    have h := best_len l0
    rw [hp, ht, hs] at h
    rw [run_min_int2, h]
  have HP := Lib.hid (fun W hs => plain_form (light_yes' hli) hp hB a0 n0 c0 W hs)
  have HT := Lib.hid (fun W hs => dict_form (light_yes' hli) ht hB a0 n0 c0 W hs)
  have HS := Lib.hid (fun W h => put_form (light_yes' hli) hs hB a0 n0 c0 W h)
  have HGp : Hid (resT (getT (plainT l0)) = (0, l0) ∧ Oct.IsB (plainT l0) ∧ (plainT l0).length ≤ 100000000) := Lib.hid ⟨by rw [get_plain hok]; rfl, plainT_isB hok hB, by
    obtain ⟨q1, q2⟩ := (light_iff l0).1 hli
    have h1 : (strsB l0).length ≤ totL l0 + 10 * l0.length := by
      clear hok hB hp ht hs hmin HP HT HS HLi hli q1 q2 s0 S0 u0 U0 HL0
      induction l0 with
      | nil => simp [strsB]
      | cons x l ih =>
        rw [strsB_cons, List.length_append]
        have := strB_len x
        simp only [totL, List.map_cons, List.sum_cons, List.length_cons] at ih ⊢
        omega
    have h2 := Oct.varB_le 9 (l0.length : Int)
    unfold plainT
    rw [List.length_cons, List.length_append]
    omega⟩
  have HGd : Hid (resT (getT (dictT l0)) = (0, l0) ∧ Oct.IsB (dictT l0) ∧ (dictT l0).length ≤ 100000000) := Lib.hid ⟨by rw [get_dict hok]; rfl, dictT_isB hok hB, by
    obtain ⟨q1, q2⟩ := (light_iff l0).1 hli
    have hw := words_len l0
    have h1 : ∀ ws : List (List Int), (∀ x ∈ ws, x.length ≤ 600) → (strsB ws).length ≤ 610 * ws.length := by
      intro ws
      induction ws with
      | nil => intro _; simp [strsB]
      | cons x l ih =>
        intro h
        rw [strsB_cons, List.length_append]
        have := strB_len x
        have := h x (by simp)
        have := ih fun z hz => h z (by simp [hz])
        simp only [List.length_cons]
        omega
    have h1 := h1 (wordsF l0) fun x hx => by have := tot_mem ((mem_words x l0).1 hx); omega
    have h2 := Oct.varB_le 9 (l0.length : Int)
    have h4 := Oct.varB_le 9 ((wordsF l0).length : Int)
    have h5 := Pk.put_len (ixT l0) (Pk.wid (ixT l0))
    unfold dictT tailT
    rw [List.length_cons, List.length_append, List.length_append, List.length_append, List.length_cons]
    omega⟩
  have HBest := Lib.hid (best_cases l0)
  rw [hli] at HLi
  clear s0 s1 u0 b1 hli hok hB hp ht hs
  have h6' : ¬ (600 : Int) < (n1 : Int) := by omega
  go_enter Try.func5, Try.ntmps5
  go_wp2_with fail
  refine (lives_any _).mono ?_
  rintro e w0 ⟨rfl, hT⟩
  have T0 := Lib.hid hT
  have HLi1 := Lib.hid (HLi.out w0 (sseg_stay S0.out hT))
  clear hT
  dsimp only
  go_wp2_with fail
  refine HLi1.out.mono ?_
  rintro e w1 ⟨rfl, rfl⟩
  have HP1 := HP.out w0 (sseg_stay S0.out T0.out)
  dsimp only
  go_wp2_with fail
  refine HP1.mono ?_
  rintro e w2 ⟨x2, k2, rfl, hs2, hT⟩
  have T2 := Lib.hid (Turn.then T0.out hT)
  have P2 := Lib.hid hs2
  have HR2 := HT.out w2 (sseg_stay S0.out T2.out)
  clear hT hs2 HP1
  dsimp only
  go_wp2_with fail
  refine HR2.mono ?_
  rintro e w4 ⟨x4, k4, rfl, hs4, hT⟩
  have T4 := Lib.hid (Turn.then T2.out hT)
  have P4 := Lib.hid (Pk.seg_stay P2.out hT)
  have K4 := Lib.hid hs4
  have HS4 := HS.out w4 (sseg_stay S0.out T4.out)
  clear hT hs4 HR2 T2 P2
  dsimp only
  go_wp2_with fail
  refine HS4.mono ?_
  rintro e w5 ⟨x5, k5, rfl, hs5, hT⟩
  have T5 := Lib.hid (Turn.then T4.out hT)
  have P5 := Lib.hid (Pk.seg_stay P4.out hT)
  have K5 := Lib.hid (Pk.seg_stay K4.out hT)
  have B5 := Lib.hid hs5
  clear hT hs5 HS4 T4 P4 K4
  dsimp only
  have hTA : Turn w5 (w5.alloc (.cells #[.slice x2 p k2, .slice x4 t k4, .slice x5 s k5] 23)) nowhere := Turn.alloc _ _ _
  have hcA : ∀ j v, ([.slice x2 p k2, .slice x4 t k4, .slice x5 s k5] : List Value)[j]? = some v → (w5.alloc (.cells #[.slice x2 p k2, .slice x4 t k4, .slice x5 s k5] 23)).cell? ⟨w5.heap.size, j, none⟩ = some v := fun j v hj => by
    have h := World.ownsRow_lit (base := w5.heap.size) (e := 23) (size := 1) w5 #[.slice x2 p k2, .slice x4 t k4, .slice x5 s k5] 3 (Nat.le_refl _) (by unfold maxLen; omega) (by simp)
    have h2 := h.cells (g := w5.heap.size) rfl j v (by simpa using hj)
    rwa [Addr.add_lit, Nat.zero_add] at h2
  have HPc : Hid (∀ k, k < 3 → ∃ a m c B, (w5.alloc (.cells #[.slice x2 p k2, .slice x4 t k4, .slice x5 s k5] 23)).cell? ⟨w5.heap.size, k, none⟩ = some (.slice a m c) ∧ Bs.Seg (w5.alloc (.cells #[.slice x2 p k2, .slice x4 t k4, .slice x5 s k5] 23)) a m c B ∧ resT (getT B) = (0, l0) ∧ Oct.IsB B ∧ B.length ≤ 100000000) := Lib.hid (fun k hk => by
    match k, hk with
    | 0, _ => exact ⟨x2, p, k2, _, hcA 0 _ rfl, Pk.seg_stay P5.out hTA, HGp.out⟩
    | 1, _ => exact ⟨x4, t, k4, _, hcA 1 _ rfl, Pk.seg_stay K5.out hTA, HGd.out⟩
    | 2, _ =>
      refine ⟨x5, s, k5, _, hcA 2 _ rfl, Pk.seg_stay B5.out hTA, ?_⟩
      rcases HBest.out with e | e <;> rw [e]
      · exact HGp.out
      · exact HGd.out)
  have T6 := Turn.then T5.out hTA
  obtain ⟨W6, hW6⟩ : ∃ W6, w5.alloc (.cells #[.slice x2 p k2, .slice x4 t k4, .slice x5 s k5] 23) = W6 := ⟨_, rfl⟩
  rw [hW6] at HPc T6
  have T6 := Lib.hid T6
  clear hTA hcA P5 K5 B5 HGp HGd T5
  go_wp2
  go_loopw [59] (fun si wr => ∃ k : Nat, k ≤ 3 ∧ si = .int .i64 k ∧ Hid (Turn W6 wr nowhere)) (fun si _ => 3 - (intOf si).toNat)
  case atStart => exact ⟨0, by decide, rfl, Lib.hid (Turn.refl _ _)⟩
  case round =>
    obtain ⟨k, hk, rfl, HTr⟩ := hrel
    by_cases hlt : k < 3
    · obtain ⟨a, m, c, B, hc, hsB, hgB, hbB, hlB⟩ := HPc.out k hlt
      have g1 := HTr.out.cell hc id
      have HSB := Lib.hid (Pk.seg_stay hsB HTr.out)
      have HGo1 := Lib.hid (got_form hgB HL0.out hbB hlB a m c wr HSB.out)
      clear hc hsB hgB hbB hlB
      go_wp2_with fail
      refine HGo1.out.mono ?_
      rintro e v1 ⟨y1, q1, rfl, hsy, hT⟩
      have TR1 := Lib.hid (Turn.then HTr.out hT)
      have HSm := Lib.hid (ssame_form y1 a0 n0 n0 q1 c0 l0 l0 v1 hsy (sseg_stay S0.out (Turn.then T6.out TR1.out)) U0.out U0.out true (Ss.sameB_yes rfl))
      clear hsy hT HGo1
      dsimp only
      go_wp2_with fail
      refine HSm.out.mono ?_
      rintro e v3 ⟨rfl, hT⟩
      have TR3 := Lib.hid (Turn.then TR1.out hT)
      clear hT TR1 HSm
      dsimp only
      go_wp2
      go_roundw
      case rel => exact ⟨k + 1, by omega, by go_num, TR3⟩
      case measure => simp [intOf]; omega
    · obtain rfl : k = 3 := by omega
      have TE := Lib.hid (Turn.then T6.out HTr.out)
      have S1E := Lib.hid (Pk.seg_stay S1.out TE.out)
      clear HPc HTr T6 hW6
      cases hM : getT l1 with
      | some M =>
        obtain ⟨hMo, hMB, hb⟩ := get_some HB1.out hM
        obtain ⟨q, hq⟩ : ∃ q, M.length = q := ⟨_, rfl⟩
        have HGo := Lib.hid (got_form (bs := l1) (by rw [hM]; rfl) hq HB1.out (by have := HL1.out; omega) a1 n1 c1 wr S1E.out)
        obtain ⟨p', hp⟩ : ∃ p, (plainT M).length = p := ⟨_, rfl⟩
        obtain ⟨t', ht⟩ : ∃ p, (dictT M).length = p := ⟨_, rfl⟩
        have hoB := (okB_iff M).2 hMo
        have HP := Lib.hid (fun a c W hs => plain_form (form_yes hoB) hp hMB a q c W hs)
        have HT := Lib.hid (fun a c W hs => dict_form (form_yes hoB) ht hMB a q c W hs)
        have HPos : Hid (0 < n1 ∧ 0 < p' ∧ 0 < t') := Lib.hid (by
          refine ⟨?_, by rw [← hp]; exact (plainT_len hMo).1, by rw [← ht]; exact (dictT_len hMo).1⟩
          rw [← HL1.out]
          rcases hb with e | e <;> rw [e]
          · exact (plainT_len hMo).1
          · exact (dictT_len hMo).1)
        have HSE := Lib.hid (show strOfNums l1 = strOfNums (plainT M) ∨ (¬ (strOfNums l1).toList = (strOfNums (plainT M)).toList ∧ strOfNums l1 = strOfNums (dictT M)) from by
          rcases hb with e | e
          · exact .inl (by rw [e])
          · exact .inr ⟨by rw [e]; exact forms_ne M hMo hMB, by rw [e]⟩)
        clear hM hb hMo hMB hq hp ht hoB
        go_wp2_with fail
        refine HGo.out.mono ?_
        rintro e v1 ⟨y1, q1, rfl, hsy, hT⟩
        have HY1 := Lib.hid hsy
        have S1a := Lib.hid (Pk.seg_stay S1E.out hT)
        have TE1 := Lib.hid (Turn.then TE.out hT)
        have HP1 := Lib.hid (HP.out y1 q1 v1 hsy)
        clear hsy hT HGo HP
        dsimp only
        go_wp2_with fail
        refine HP1.out.mono ?_
        rintro e v2 ⟨y2, q2, rfl, hs2, hT⟩
        have HY2 := Lib.hid (sseg_stay HY1.out hT)
        have S2a := Lib.hid (Pk.seg_stay S1a.out hT)
        have TE2 := Lib.hid (Turn.then TE1.out hT)
        have P2 := Lib.hid hs2
        have HT1 := Lib.hid (HT.out y1 q1 v2 HY2.out)
        clear hs2 hT HP1 HT HY1 S1a TE1
        dsimp only
        go_wp2_with fail
        refine HT1.out.mono ?_
        rintro e v4 ⟨y4, q4, rfl, hs4, hT⟩
        have TE4 := Lib.hid (Turn.then TE2.out hT)
        have hc0 := conv_any (Pk.seg_stay S2a.out hT) HPos.out.1
        have hc1 := conv_any (Pk.seg_stay P2.out hT) HPos.out.2.1
        have hc3 := conv_any hs4 HPos.out.2.2
        obtain ⟨Z0, hz0⟩ : ∃ Z, strOfNums l1 = Z := ⟨_, rfl⟩
        obtain ⟨Z1, hz1⟩ : ∃ Z, strOfNums (plainT M) = Z := ⟨_, rfl⟩
        obtain ⟨Z3, hz3⟩ : ∃ Z, strOfNums (dictT M) = Z := ⟨_, rfl⟩
        rw [hz0] at hc0
        rw [hz1] at hc1
        rw [hz3] at hc3
        have hse := HSE.out
        rw [hz0, hz1, hz3] at hse
        clear hs4 hT HT1 HY2 S2a TE2 P2 hz0 hz1 hz3
        dsimp only
        rcases hse with rfl | ⟨n1, rfl⟩
        · go_wp2
          go_ret
          exact ⟨rfl, below_of TE4.out⟩
        · go_wp2
          go_ret
          exact ⟨rfl, below_of TE4.out⟩
      | none =>
        have HGo := Lib.hid (got_form (bs := l1) (E := 4) (L := []) (by rw [hM]; rfl) rfl HB1.out (by have := HL1.out; omega) a1 n1 c1 wr S1E.out)
        clear hM
        go_wp2_with fail
        refine HGo.out.mono ?_
        rintro e v1 ⟨y1, q1, rfl, hsy, hT⟩
        have TE1 := Lib.hid (Turn.then TE.out hT)
        clear hsy hT HGo
        dsimp only [List.length_nil]
        go_wp2
        go_ret
        exact ⟨rfl, below_of TE1.out⟩

theorem back_any (a0 : Option Addr) (n0 c0 : Nat) (l0 : List (List Int)) (a1 : Option Addr) (n1 c1 : Nat) (l1 : List Int) (w : World) (s0 : Ss.Seg w a0 n0 c0 l0) (u0 : IsS l0) (s1 : Bs.Seg w a1 n1 c1 l1) (b1 : Bs.IsB l1) :
    Calls Try.prog 5 #[.slice a0 n0 c0, .slice a1 n1 c1] w fun e w' => e = .returned (.bool true) ∧ Below w.heap.size w w' := by
  cases hli : lightB l0 with
  | false => exact back_no a0 n0 c0 l0 a1 n1 c1 w s0 u0 (.inl hli)
  | true =>
    by_cases h6 : n1 ≤ 600
    · exact back_yes a0 n0 c0 l0 a1 n1 c1 l1 w s0 u0 s1 b1 hli h6
    · exact back_no a0 n0 c0 l0 a1 n1 c1 w s0 u0 (.inr ⟨hli, by omega⟩)
end Go.Proofs.Ytgbpmpeknbaccaa.Tx
