/-
  TextsCalls: columns of texts are put and got as the document says.
-/
import Derived.Test.YtgbpmpeknbaccaaTxLaw
import Derived.Test.YtgbpmpeknbaccaaTxRef
namespace Go.Proofs.Ytgbpmpeknbaccaa.Tx
open Go.RowKit Go.Joins
open Ss (IsS encW info_str)
open Pk (PutF Turn.then below_of turn_of seg_stay)
open In (turn_below)
open Dv (Turn nowhere)

theorem rplain_form {l : List (List Int)} {E : Int} {B : List Int} {m : Nat} (hR : formR (plainT l) l = (E, B)) (hm : B.length = m) (hb : AllB l) (a : Option Addr) (n c : Nat) (W : World) (hs : Ss.Seg W a n c l) :
    Calls Try.prog 17 #[.slice a n c] W (PutF W m E B) :=
  (rplain_any a n c l W hs hb).mono fun _ _ h => putT_form h hR hm
theorem rdict_form {l : List (List Int)} {E : Int} {B : List Int} {m : Nat} (hR : formR (dictT l) l = (E, B)) (hm : B.length = m) (hb : AllB l) (a : Option Addr) (n c : Nat) (W : World) (hs : Ss.Seg W a n c l) :
    Calls Try.prog 18 #[.slice a n c] W (PutF W m E B) :=
  (rdict_any a n c l W hs hb).mono fun _ _ h => putT_form h hR hm
theorem rbest_form {l : List (List Int)} {E : Int} {B : List Int} {m : Nat} (hR : formR (bestT l) l = (E, B)) (hm : B.length = m) (hb : AllB l) (a : Option Addr) (n c : Nat) (W : World) (hs : Ss.Seg W a n c l) :
    Calls Try.prog 19 #[.slice a n c] W (PutF W m E B) :=
  (rputT_any a n c l W hs hb).mono fun _ _ h => putT_form h hR hm
theorem rgot_form {bs : List Int} {E : Int} {L : List (List Int)} {m : Nat} (hR : resT (getT bs) = (E, L)) (hm : L.length = m) (hb : Oct.IsB bs) (hn : bs.length ≤ 100000000) (a : Option Addr) (n c : Nat) (W : World) (hs : Bs.Seg W a n c bs) :
    Calls Try.prog 20 #[.slice a n c] W (GotF W m E L) :=
  (rgetT_any a n c bs W hs hb (by rw [← hs.len]; exact hn)).mono fun _ _ h => got_of h hR hm
theorem rwords_form {l L : List (List Int)} {m : Nat} (hR : wordsF l = L) (hm : L.length = m) (hS : IsS l) (hl : l.length ≤ 65536) (a : Option Addr) (n c : Nat) (W : World) (hs : Ss.Seg W a n c l) :
    Calls Try.prog 22 #[.slice a n c] W (StrF W m L) :=
  (rwords_any a n c l W hs hS (by rw [← hs.len]; exact hl)).mono fun e w' h => by
    rw [hR] at h
    obtain ⟨a', k, he, h1, h2⟩ := h
    subst hm
    exact ⟨a', k, he, h1, turn_below h2⟩
theorem light_form {b : List Int} {l : List (List Int)} (h : lightB l = true) : formR b l = (0, b) := form_yes ((okB_iff l).2 (light_ok h))
theorem got_isS {bs : List Int} (hb : Oct.IsB bs) {E : Int} {L : List (List Int)} (h : resT (getT bs) = (E, L)) : IsS L := by
  cases hg : getT bs with
  | none =>
    rw [hg] at h
    obtain ⟨-, rfl⟩ := Prod.mk.inj h
    intro s hs
    cases hs
  | some l =>
    rw [hg] at h
    obtain ⟨-, rfl⟩ := Prod.mk.inj h
    obtain ⟨h1, h2, -⟩ := get_some hb hg
    exact fun s hs => ⟨h2 s hs, Nat.le_trans (h1.2 s hs) (by omega)⟩

set_option maxRecDepth 100000 in
set_option maxHeartbeats 4000000 in
theorem calls_no (a0 : Option Addr) (n0 c0 : Nat) (l0 : List (List Int)) (a1 : Option Addr) (n1 c1 : Nat) (w : World) (s0 : Ss.Seg w a0 n0 c0 l0) (u0 : IsS l0) (hg : lightB l0 = false ∨ (lightB l0 = true ∧ 600 < n1)) :
    Calls Try.prog 4 #[.slice a0 n0 c0, .slice a1 n1 c1] w fun e w' => e = .returned (.bool true) ∧ Below w.heap.size w w' := by
  have S0 := Lib.hid s0
  have HLi := Lib.hid (fun W h => light_any a0 n0 c0 l0 W h u0)
  rcases hg with h | ⟨h, h6⟩
  all_goals
    rw [h] at HLi
    try (have h6' : (600 : Int) < (n1 : Int) := by omega)
    clear s0 u0 h
    go_enter Try.func4, Try.ntmps4
    go_wp2_with fail
    refine (lives_any _).mono ?_
    rintro e w1 ⟨rfl, hT⟩
    have T1 := Lib.hid hT
    have HL1 := Lib.hid (HLi.out w1 (sseg_stay S0.out hT))
    clear hT
    dsimp only
    go_wp2_with fail
    refine HL1.out.mono ?_
    rintro e w2 ⟨rfl, rfl⟩
    dsimp only
    go_wp2
    go_ret
    exact ⟨rfl, below_of T1.out⟩

set_option maxRecDepth 100000 in
set_option maxHeartbeats 4000000 in
theorem calls_yes (a0 : Option Addr) (n0 c0 : Nat) (l0 : List (List Int)) (a1 : Option Addr) (n1 c1 : Nat) (l1 : List Int) (w : World) (s0 : Ss.Seg w a0 n0 c0 l0) (u0 : IsS l0) (s1 : Bs.Seg w a1 n1 c1 l1) (b1 : Oct.IsB l1) (hli : lightB l0 = true) (h6 : n1 ≤ 600) :
    Calls Try.prog 4 #[.slice a0 n0 c0, .slice a1 n1 c1] w fun e w' => e = .returned (.bool true) ∧ Below w.heap.size w w' := by
  have hB := allB_of u0
  have S0 := Lib.hid s0
  have S1 := Lib.hid s1
  have HLi := Lib.hid (fun W h => light_any a0 n0 c0 l0 W h u0)
  have hl1 := s1.len
  have hl0 := (light_ok hli).1
  obtain ⟨P, hP⟩ : ∃ P, plainT l0 = P := ⟨_, rfl⟩
  obtain ⟨D, hD⟩ : ∃ P, dictT l0 = P := ⟨_, rfl⟩
  obtain ⟨B, hBe⟩ : ∃ P, bestT l0 = P := ⟨_, rfl⟩
  obtain ⟨p, hp⟩ : ∃ p, P.length = p := ⟨_, rfl⟩
  obtain ⟨t, ht⟩ : ∃ p, D.length = p := ⟨_, rfl⟩
  obtain ⟨s, hs⟩ : ∃ p, B.length = p := ⟨_, rfl⟩
  obtain ⟨ws, hws⟩ : ∃ ws, wordsF l0 = ws := ⟨_, rfl⟩
  obtain ⟨q, hq⟩ : ∃ q, ws.length = q := ⟨_, rfl⟩
  have HWS : Hid (IsS ws) := Lib.hid (hws ▸ words_isS u0)
  obtain ⟨⟨E, L⟩, hR⟩ : ∃ r, resT (getT l1) = r := ⟨_, rfl⟩
  obtain ⟨m, hm⟩ : ∃ m, L.length = m := ⟨_, rfl⟩
  have HLS := Lib.hid (got_isS b1 hR)
  have hP1 : formR (plainT l0) l0 = (0, P) := by rw [hP]; exact light_form hli
  have hD1 : formR (dictT l0) l0 = (0, D) := by rw [hD]; exact light_form hli
  have hB1 : formR (bestT l0) l0 = (0, B) := by rw [hBe]; exact light_form hli
  have HP := Lib.hid (fun W h => plain_form hP1 hp hB a0 n0 c0 W h)
  have HPR := Lib.hid (fun W h => rplain_form hP1 hp hB a0 n0 c0 W h)
  have HD := Lib.hid (fun W h => dict_form hD1 ht hB a0 n0 c0 W h)
  have HDR := Lib.hid (fun W h => rdict_form hD1 ht hB a0 n0 c0 W h)
  have HB := Lib.hid (fun W h => put_form hB1 hs hB a0 n0 c0 W h)
  have HBR := Lib.hid (fun W h => rbest_form hB1 hs hB a0 n0 c0 W h)
  have HG := Lib.hid (fun W h => got_form hR hm b1 (by omega) a1 n1 c1 W h)
  have HGR := Lib.hid (fun W h => rgot_form hR hm b1 (by omega) a1 n1 c1 W h)
  have HW := Lib.hid (fun W h => words_form hws hq u0 (by omega) a0 n0 c0 W h)
  have HWR := Lib.hid (fun W h => rwords_form hws hq u0 (by omega) a0 n0 c0 W h)
  have hEE : (E == E) = true := beq_self_eq_true _
  rw [hli] at HLi
  clear s0 u0 s1 b1 hli hB hl1 hl0 hP hD hBe hp ht hs hws hq hR hm hP1 hD1 hB1
  have h6' : ¬ (600 : Int) < (n1 : Int) := by omega
  go_enter Try.func4, Try.ntmps4
  go_wp2_with fail
  refine (lives_any _).mono ?_
  rintro e w0 ⟨rfl, hT⟩
  have T0 := Lib.hid hT
  have HLi1 := Lib.hid (HLi.out w0 (sseg_stay S0.out hT))
  clear hT HLi
  dsimp only
  go_wp2_with fail
  refine HLi1.out.mono ?_
  rintro e w1 ⟨rfl, rfl⟩
  dsimp only
  go_wp2_with fail
  refine (HP.out _ (sseg_stay S0.out T0.out)).mono ?_
  rintro e w2 ⟨x2, k2, rfl, hs2, hT⟩
  have R2 := Lib.hid hT
  have T2 := Lib.hid (Turn.then T0.out hT)
  have X2 := Lib.hid hs2
  clear hT hs2 HP
  dsimp only
  go_wp2_with fail
  refine (HPR.out _ (sseg_stay S0.out T2.out)).mono ?_
  rintro e w3 ⟨x3, k3, rfl, hs3, hT⟩
  have R3 := Lib.hid hT
  have T3 := Lib.hid (Turn.then T2.out hT)
  have X3 := Lib.hid hs3
  clear hT hs3 HPR
  dsimp only
  go_wp2_with fail
  refine (HD.out _ (sseg_stay S0.out T3.out)).mono ?_
  rintro e w4 ⟨x4, k4, rfl, hs4, hT⟩
  have R4 := Lib.hid hT
  have T4 := Lib.hid (Turn.then T3.out hT)
  have X4 := Lib.hid hs4
  clear hT hs4 HD
  dsimp only
  go_wp2_with fail
  refine (HDR.out _ (sseg_stay S0.out T4.out)).mono ?_
  rintro e w5 ⟨x5, k5, rfl, hs5, hT⟩
  have R5 := Lib.hid hT
  have T5 := Lib.hid (Turn.then T4.out hT)
  have X5 := Lib.hid hs5
  clear hT hs5 HDR
  dsimp only
  go_wp2_with fail
  refine (HB.out _ (sseg_stay S0.out T5.out)).mono ?_
  rintro e w6 ⟨x6, k6, rfl, hs6, hT⟩
  have R6 := Lib.hid hT
  have T6 := Lib.hid (Turn.then T5.out hT)
  have X6 := Lib.hid hs6
  clear hT hs6 HB
  dsimp only
  go_wp2_with fail
  refine (HBR.out _ (sseg_stay S0.out T6.out)).mono ?_
  rintro e w7 ⟨x7, k7, rfl, hs7, hT⟩
  have R7 := Lib.hid hT
  have T7 := Lib.hid (Turn.then T6.out hT)
  have X7 := Lib.hid hs7
  clear hT hs7 HBR
  dsimp only
  go_wp2_with fail
  refine (HG.out _ (seg_stay S1.out T7.out)).mono ?_
  rintro e w8 ⟨x8, k8, rfl, hs8, hT⟩
  have R8 := Lib.hid hT
  have T8 := Lib.hid (Turn.then T7.out hT)
  have X8 := Lib.hid hs8
  clear hT hs8 HG
  dsimp only
  go_wp2_with fail
  refine (HGR.out _ (seg_stay S1.out T8.out)).mono ?_
  rintro e w9 ⟨x9, k9, rfl, hs9, hT⟩
  have R9 := Lib.hid hT
  have T9 := Lib.hid (Turn.then T8.out hT)
  have X9 := Lib.hid hs9
  clear hT hs9 HGR
  dsimp only
  have Y2 := Lib.hid (seg_stay (seg_stay (seg_stay (seg_stay (seg_stay (seg_stay (seg_stay X2.out R3.out) R4.out) R5.out) R6.out) R7.out) R8.out) R9.out)
  have Y3 := Lib.hid (seg_stay (seg_stay (seg_stay (seg_stay (seg_stay (seg_stay X3.out R4.out) R5.out) R6.out) R7.out) R8.out) R9.out)
  have Y4 := Lib.hid (seg_stay (seg_stay (seg_stay (seg_stay (seg_stay X4.out R5.out) R6.out) R7.out) R8.out) R9.out)
  have Y5 := Lib.hid (seg_stay (seg_stay (seg_stay (seg_stay X5.out R6.out) R7.out) R8.out) R9.out)
  have Y6 := Lib.hid (seg_stay (seg_stay (seg_stay X6.out R7.out) R8.out) R9.out)
  have Y7 := Lib.hid (seg_stay (seg_stay X7.out R8.out) R9.out)
  have Y8 := Lib.hid (sseg_stay X8.out R9.out)
  have Y9 := Lib.hid X9.out
  clear X2 X3 X4 X5 X6 X7 X8 X9 R2 R3 R4 R5 R6 R7 R8 R9
  go_wp2_with fail
  refine (Pk.same_form _ _ _ _ _ _ _ _ w9 Y2.out Y3.out true (Bs.sameB_yes rfl)).mono ?_
  rintro e w10 ⟨rfl, hT⟩
  have T10 := Lib.hid (Turn.then T9.out hT)
  have Y4' := Lib.hid (seg_stay Y4.out hT)
  have Y5' := Lib.hid (seg_stay Y5.out hT)
  have Y6' := Lib.hid (seg_stay Y6.out hT)
  have Y7' := Lib.hid (seg_stay Y7.out hT)
  have Y8' := Lib.hid (sseg_stay Y8.out hT)
  have Y9' := Lib.hid (sseg_stay Y9.out hT)
  clear Y4 Y5 Y6 Y7 Y8 Y9
  clear hT
  dsimp only
  go_wp2_with fail
  refine (Pk.same_form _ _ _ _ _ _ _ _ w10 Y4'.out Y5'.out true (Bs.sameB_yes rfl)).mono ?_
  rintro e w11 ⟨rfl, hT⟩
  have T11 := Lib.hid (Turn.then T10.out hT)
  have Y6'' := Lib.hid (seg_stay Y6'.out hT)
  have Y7'' := Lib.hid (seg_stay Y7'.out hT)
  have Y8'' := Lib.hid (sseg_stay Y8'.out hT)
  have Y9'' := Lib.hid (sseg_stay Y9'.out hT)
  clear Y6' Y7' Y8' Y9'
  clear hT
  dsimp only
  go_wp2_with fail
  refine (Pk.same_form _ _ _ _ _ _ _ _ w11 Y6''.out Y7''.out true (Bs.sameB_yes rfl)).mono ?_
  rintro e w12 ⟨rfl, hT⟩
  have T12 := Lib.hid (Turn.then T11.out hT)
  have Y8''' := Lib.hid (sseg_stay Y8''.out hT)
  have Y9''' := Lib.hid (sseg_stay Y9''.out hT)
  clear Y8'' Y9''
  clear hT
  dsimp only
  go_wp2_with fail
  refine (ssame_form _ _ _ _ _ _ _ _ w12 Y8'''.out Y9'''.out HLS.out HLS.out true (Ss.sameB_yes rfl)).mono ?_
  rintro e w13 ⟨rfl, hT⟩
  have T13 := Lib.hid (Turn.then T12.out hT)
  clear hT
  dsimp only
  go_wp2_with fail
  refine (HW.out _ (sseg_stay S0.out T13.out)).mono ?_
  rintro e w14 ⟨x14, k14, rfl, hs14, hT⟩
  have T14 := Lib.hid (Turn.then T13.out hT)
  have X14 := Lib.hid hs14
  clear hT hs14 HW
  dsimp only
  go_wp2_with fail
  refine (HWR.out _ (sseg_stay S0.out T14.out)).mono ?_
  rintro e w15 ⟨x15, k15, rfl, hs15, hT⟩
  have T15 := Lib.hid (Turn.then T14.out hT)
  have X15 := Lib.hid (sseg_stay X14.out hT)
  have Y15 := Lib.hid hs15
  clear hT hs15 HWR
  dsimp only
  go_wp2_with fail
  refine (ssame_form _ _ _ _ _ _ _ _ w15 X15.out Y15.out HWS.out HWS.out true (Ss.sameB_yes rfl)).mono ?_
  rintro e w16 ⟨rfl, hT⟩
  have T16 := Lib.hid (Turn.then T15.out hT)
  clear hT
  dsimp only
  go_wp2
  go_ret
  exact ⟨rfl, below_of T16.out⟩

theorem calls_any (a0 : Option Addr) (n0 c0 : Nat) (l0 : List (List Int)) (a1 : Option Addr) (n1 c1 : Nat) (l1 : List Int) (w : World) (s0 : Ss.Seg w a0 n0 c0 l0) (u0 : IsS l0) (s1 : Bs.Seg w a1 n1 c1 l1) (b1 : Oct.IsB l1) :
    Calls Try.prog 4 #[.slice a0 n0 c0, .slice a1 n1 c1] w fun e w' => e = .returned (.bool true) ∧ Below w.heap.size w w' := by
  cases hli : lightB l0 with
  | false => exact calls_no a0 n0 c0 l0 a1 n1 c1 w s0 u0 (.inl hli)
  | true =>
    by_cases h6 : n1 ≤ 600
    · exact calls_yes a0 n0 c0 l0 a1 n1 c1 l1 w s0 u0 s1 b1 hli h6
    · exact calls_no a0 n0 c0 l0 a1 n1 c1 w s0 u0 (.inr ⟨hli, by omega⟩)
end Go.Proofs.Ytgbpmpeknbaccaa.Tx
