/-
  TextsTwice: texts that come twice take, by words, no word more; plain, all their bytes again; unlike ones that rise are their own words.
-/
import Derived.Test.YtgbpmpeknbaccaaTxLaw
namespace Go.Proofs.Ytgbpmpeknbaccaa.Tx
open Go.RowKit Go.Joins
open Ss (IsS encW info_str)
open Pk (PutF Turn.then below_of turn_of)
open In (turn_below)
open Dv (Turn nowhere)
open Oct (varB)

def bytesN (l : List (List Int)) : Nat := (l.map fun s => s.length + 1 + (if 128 ≤ s.length then 1 else 0)).sum
theorem bytes_take (l : List (List Int)) (k : Nat) (x : List Int) (h : k < l.length) (hx : l.getD k [] = x) : bytesN (l.take (k + 1)) = bytesN (l.take k) + (x.length + 1 + (if 128 ≤ x.length then 1 else 0)) := by
  have e : l[k] = x := by rw [← hx]; simp [List.getD, h]
  rw [List.take_succ_eq_append_getElem h, e]
  simp [bytesN]
theorem bytes_app (l m : List (List Int)) : bytesN (l ++ m) = bytesN l + bytesN m := by simp [bytesN]
theorem bytes_le (l : List (List Int)) : bytesN l ≤ totL l + 2 * l.length := by
  induction l with
  | nil => simp [bytesN]
  | cons s l ih =>
    simp only [bytesN, totL, List.map_cons, List.sum_cons, List.length_cons] at ih ⊢
    split <;> omega
theorem var1 {n : Nat} (h : n < 128) : (varB 9 (n : Int)).length = 1 := Oct.varB_len 9 n 1 (by omega) (by decide) (by decide) (by omega) (by omega)
theorem var2 {n : Nat} (h : n < 16384) (h2 : 128 ≤ n) : (varB 9 (n : Int)).length = 2 := Oct.varB_len 9 n 2 (by omega) (by decide) (by decide) (by omega) (by omega)
theorem strs_len (l : List (List Int)) (h : ∀ s ∈ l, s.length < 16384) : (strsB l).length = bytesN l := by
  induction l with
  | nil => rfl
  | cons s l ih =>
    rw [strsB_cons, List.length_append, ih fun z hz => h z (by simp [hz])]
    simp only [bytesN, List.map_cons, List.sum_cons, strB, List.length_append]
    split
    · rename_i h2
      rw [var2 (h s (by simp)) h2]; omega
    · rename_i h2
      rw [var1 (by omega)]; omega
theorem plain_len (l : List (List Int)) (hl : l.length < 128) (h : ∀ s ∈ l, s.length < 16384) : (plainT l).length = 2 + bytesN l := by
  unfold plainT
  rw [List.length_cons, List.length_append, var1 hl, strs_len l h]
  omega
theorem wrap_small (x : Int) (h0 : 0 ≤ x) (h1 : x ≤ 1000000) : wrap64 x = x := by rw [← IntWalk.i64_left, IntKind.wrap_i64]; omega
/-- the facts of a round over a text -/
theorem bytes_round (l : List (List Int)) (k z : Nat) (hk : k < l.length) (hl : l.length ≤ 60) (ht : totL l ≤ 600) (hz : bytesN (l.take k) = z) :
    ∃ x q, l.getD k [] = x ∧ x.length = q ∧ (strOfNums x).size = q ∧ q ≤ 600 ∧ z ≤ 720 ∧ wrap64 ((z : Int) + (q : Int)) = (z : Int) + (q : Int) ∧ wrap64 ((z : Int) + (q : Int) + 1) = (z : Int) + (q : Int) + 1 ∧
      (128 ≤ q → (128 : Int) ≤ (q : Int) ∧ bytesN (l.take (k + 1)) = z + q + 2 ∧ z + q + 2 ≤ 720) ∧ (¬ 128 ≤ q → ¬ (128 : Int) ≤ (q : Int) ∧ bytesN (l.take (k + 1)) = z + q + 1 ∧ z + q + 1 ≤ 720) := by
  have hX := bytes_take l k _ hk rfl
  have hm := tot_mem (take_at hk)
  have h1 := bytes_le (l.take (k + 1))
  have h2 := tot_le l (k + 1)
  have h3 : (l.take (k + 1)).length ≤ 60 := by rw [List.length_take]; omega
  have h4 := bytes_le (l.take k)
  have h5 := tot_le l k
  have h6 : (l.take k).length ≤ 60 := by rw [List.length_take]; omega
  have hs := strOfNums_size (l.getD k [])
  rw [hX, hz] at h1
  rw [hz] at h4 hX
  refine ⟨_, _, rfl, rfl, hs, by omega, by omega, wrap_small _ (by omega) (by omega), wrap_small _ (by omega) (by omega), fun h => ?_, fun h => ?_⟩
  · rw [if_pos h] at hX h1
    exact ⟨by omega, by omega, by omega⟩
  · rw [if_neg h] at hX h1
    exact ⟨by omega, by omega, by omega⟩
theorem light_yes {b : List Int} {l : List (List Int)} (h : lightB l = true) : formR b l = (0, b) := form_yes ((okB_iff l).2 (light_ok h))

set_option maxRecDepth 100000 in
set_option maxHeartbeats 4000000 in
theorem twice_any (a0 : Option Addr) (n0 c0 : Nat) (l0 : List (List Int)) (w : World) (s0 : Ss.Seg w a0 n0 c0 l0) (u0 : IsS l0) :
    Calls Try.prog 7 #[.slice a0 n0 c0] w fun e w' => e = .returned (.bool true) ∧ Below w.heap.size w w' := by
  obtain ⟨i0, hi, hz0, hz1, hz2⟩ := info_parts info_str
  have S0 := Lib.hid s0
  have U0 := Lib.hid u0
  have L0 := Lib.hid s0.len
  have HLi := Lib.hid (fun W h => light_any a0 n0 c0 l0 W h u0)
  cases hli : lightB l0 with
  | false =>
    rw [hli] at HLi
    clear s0 u0 hli
    go_enter Try.func7, Try.ntmps7
    go_wp2_with fail
    refine (lives_any _).mono ?_
    rintro e w1 ⟨rfl, hT⟩
    have T1 := Lib.hid hT
    have HL1 := Lib.hid (HLi.out w1 (sseg_stay S0.out hT))
    clear hT
    dsimp only
    go_wp2_with fail
    refine HL1.out.mono ?_
    rintro e w2 ⟨rfl, rfl⟩
    dsimp only
    go_wp2
    go_ret
    exact ⟨rfl, below_of T1.out⟩
  | true =>
    obtain ⟨q1, q2⟩ := (light_iff l0).1 hli
    have hn0 : n0 ≤ 60 := by rw [← s0.len]; exact q1
    have hok := light_ok hli
    have hlen : ∀ s ∈ l0, s.length < 16384 := fun s hs => by have := tot_mem hs; omega
    have hB := allB_of u0
    have hP := plain_len l0 (by omega) hlen
    have hP2 := plain_len (l0 ++ l0) (by rw [List.length_append]; omega) (fun s hs => hlen s ((List.mem_append.1 hs).elim id id))
    rw [bytes_app] at hP2
    have hbl := bytes_le l0
    obtain ⟨t, ht⟩ : ∃ t, bytesN l0 = t := ⟨_, rfl⟩
    rw [ht] at hP hP2 hbl
    have ht7 : t ≤ 720 := by omega
    obtain ⟨m, hm⟩ : ∃ m, (wordsF l0).length = m := ⟨_, rfl⟩
    have hI2 : IsS (l0 ++ l0) := u0.app u0
    have hok2 : OkT (l0 ++ l0) := ⟨by rw [List.length_append]; omega, fun s hs => by have := hlen s ((List.mem_append.1 hs).elim id id); omega⟩
    have HW := Lib.hid (fun W h => words_form (l := l0) rfl hm u0 (by omega) a0 n0 c0 W h)
    have HW2 := Lib.hid (fun a c W h => words_form (l := l0 ++ l0) (words_twice hB) hm hI2 (by rw [List.length_append]; omega) a (n0 + n0) c W h)
    have HW3 := Lib.hid (fun a c W h => words_form (l := wordsF l0) (words_words hB) hm (words_isS u0) (by have := words_len l0; omega) a m c W h)
    have HP := Lib.hid (fun W h => plain_form (light_yes hli) hP hB a0 n0 c0 W h)
    have HP2 := Lib.hid (fun a c W h => plain_form (form_yes ((okB_iff _).2 hok2)) hP2 (allB_of hI2) a (n0 + n0) c W h)
    have HOwn := Lib.hid (fun W h => Ss.own_any a0 n0 c0 l0 W h (by omega))
    have HTt := Lib.hid ht
    have HTot := Lib.hid q2
    have HSm : Hid (∀ a b c d W, Ss.Seg W a m c (wordsF l0) → Ss.Seg W b m d (wordsF l0) → Calls Try.prog 14 #[.slice a m c, .slice b m d] W fun e w' => e = .returned (.bool true) ∧ Turn W w' nowhere) :=
      Lib.hid fun a b c d W h1 h2 => ssame_form a b m m c d _ _ W h1 h2 (words_isS u0) (words_isS u0) true (Ss.sameB_yes rfl)
    rw [hli] at HLi
    clear s0 u0 hli q1 q2 hok hlen hB hP hP2 hbl ht hm hI2 hok2
    go_enter Try.func7, Try.ntmps7
    go_wp2_with fail
    refine (lives_any _).mono ?_
    rintro e w1 ⟨rfl, hT⟩
    have T1 := Lib.hid hT
    have HL1 := Lib.hid (HLi.out w1 (sseg_stay S0.out hT))
    have HO1 := Lib.hid (HOwn.out w1 (sseg_stay S0.out hT))
    clear hT
    dsimp only
    go_wp2_with fail
    refine HL1.out.mono ?_
    rintro e w2 ⟨rfl, rfl⟩
    dsimp only
    go_wp2_with fail
    refine HO1.out.mono ?_
    rintro e w3 ⟨g, c, rfl, hown, hg⟩
    have T3 := Lib.hid (Turn.then T1.out (turn_of hg))
    have HO := Lib.hid hown
    have HSz : Hid (w1.heap.size ≤ w3.heap.size) := Lib.hid hg.size
    have HB3 : Hid (Below w1.heap.size w1 w3) := Lib.hid (In.below_grown hg (Nat.le_refl _))
    have HS3 := Lib.hid (sseg_stay S0.out T3.out)
    clear hown hg
    dsimp only
    go_wp2_with (first
      | (at_builtin; refine Ss.wpList_append_seg rfl (.tmp 17) (.tmp 18) 27 rfl w1.heap.size 9 i0 Try.underlying27 hi hz0 hz1 hz2 g n0 c _ rfl HO.out a0 n0 c0 l0 rfl HS3.out (by omega) HSz.out ?_; intro g4 c4 w4 hown4 hg4; have HSeg2 : Hid (Ss.Seg w4 (some ⟨g4, 0, none⟩) (n0 + n0) c4 (l0 ++ l0)) := Lib.hid (by rw [← List.map_append] at hown4; exact Ss.Seg.own hown4); have T4 : Hid (Turn w w4 nowhere) := Lib.hid (Turn.then T1.out (turn_below (HB3.out.grown hg4 HSz.out (fun j e => (HO.out.lt j e).1)))); clear hown4 hg4)
      | fail)
    refine (HW.out w4 (sseg_stay S0.out T4.out)).mono ?_
    rintro e w5 ⟨a5, k5, rfl, hs5, hT⟩
    have T5 := Lib.hid (Turn.then T4.out hT)
    have W5 := Lib.hid hs5
    have D5 := Lib.hid (sseg_stay HSeg2.out hT)
    have HP5 := Lib.hid (HP.out w5 (sseg_stay S0.out T5.out))
    clear hT hs5 T4 HSeg2 HP
    dsimp only
    go_wp2_with fail
    refine HP5.out.mono ?_
    rintro e w6 ⟨a6, k6, rfl, hs6, hT⟩
    have T6 := Lib.hid (Turn.then T5.out hT)
    have W6 := Lib.hid (sseg_stay W5.out hT)
    have D6 := Lib.hid (sseg_stay D5.out hT)
    have HP6 := Lib.hid (HP2.out _ _ w6 D6.out)
    clear hT hs6 HP5 HP2 T5 W5 D5
    dsimp only
    go_wp2_with fail
    refine HP6.out.mono ?_
    rintro e w7 ⟨a7, k7, rfl, hs7, hT⟩
    have T7 := Lib.hid (Turn.then T6.out hT)
    have W7 := Lib.hid (sseg_stay W6.out hT)
    have D7 := Lib.hid (sseg_stay D6.out hT)
    have S7 := Lib.hid (sseg_stay S0.out T7.out)
    clear hT hs7 HP6 T6 W6 D6
    dsimp only
    go_wp2
    go_loopw [9, 10] (fun so si wr => ∃ k z : Nat, k ≤ n0 ∧ si = .int .i64 k ∧ so = .int .i64 z ∧ w7 = wr ∧ Hid (bytesN (l0.take k) = z) ∧ Hid (z ≤ 720)) (fun _ si _ => n0 - (intOf si).toNat)
    case atStart => exact ⟨0, 0, Nat.zero_le _, rfl, rfl, rfl, Lib.hid (by simp [bytesN]), Lib.hid (by decide)⟩
    case round =>
      obtain ⟨k, z, hk, rfl, rfl, rfl, HZ, HZ7⟩ := hrel
      by_cases hlt : k < n0
      · obtain ⟨gA, oA, rfl, hc⟩ := S7.out.addr (by omega)
        have g1 := hc k hlt
        obtain ⟨x, q, hx, -, hss, hq6, hz7, hw1, hw2, hA, hB⟩ := bytes_round l0 k z (by rw [L0.out]; exact hlt) (by rw [L0.out]; exact hn0) HTot.out HZ.out
        rw [hx] at g1
        clear hc hx
        by_cases h8 : 128 ≤ q
        · obtain ⟨h8', hX3, hZ8⟩ := hA h8
          have HX3 := Lib.hid hX3
          have HZ8 := Lib.hid hZ8
          clear h8 hA hB hX3 hZ8
          go_wp2
          go_roundw
          case rel => exact ⟨k + 1, z + q + 2, by omega, by go_num, by go_num, trivial, HX3, HZ8⟩
          case measure => simp [intOf]; omega
        · obtain ⟨h8', hX3, hZ8⟩ := hB h8
          have HX3 := Lib.hid hX3
          have HZ8 := Lib.hid hZ8
          clear h8 hA hB hX3 hZ8
          go_wp2
          go_roundw
          case rel => exact ⟨k + 1, z + q + 1, by omega, by go_num, by go_num, trivial, HX3, HZ8⟩
          case measure => simp [intOf]; omega
      · obtain rfl : k = n0 := by omega
        obtain rfl : z = t := by
          have := HZ.out
          rw [List.take_of_length_le (Nat.le_of_eq L0.out), HTt.out] at this
          exact this.symm
        have HW2a := Lib.hid (HW2.out _ _ w7 D7.out)
        have e1 : (((2 + z : Nat) : Int) == 2 + (z : Int)) = true := by simp
        have e2 : (((2 + (z + z) : Nat) : Int) == 2 + 2 * (z : Int)) = true := by simp; omega
        obtain ⟨p, hp⟩ : ∃ p : Nat, 2 + z = p := ⟨_, rfl⟩
        obtain ⟨r, hr⟩ : ∃ p : Nat, 2 + (z + z) = p := ⟨_, rfl⟩
        rw [hp] at e1
        rw [hr] at e2
        rw [hp, hr]
        have z7 := HZ7.out
        clear hp hr
        go_wp2_with fail
        refine HW2a.out.mono ?_
        rintro e w8 ⟨a8, k8, rfl, hs8, hT⟩
        have T8 := Lib.hid (Turn.then T7.out hT)
        have W8 := Lib.hid (sseg_stay W7.out hT)
        have HS8 := Lib.hid (HSm.out _ _ _ _ w8 hs8 W8.out)
        clear hT hs8 HW2a
        dsimp only
        go_wp2_with fail
        refine HS8.out.mono ?_
        rintro e w9 ⟨rfl, hT⟩
        have T9 := Lib.hid (Turn.then T8.out hT)
        have W9 := Lib.hid (sseg_stay W8.out hT)
        have HW9 := Lib.hid (HW3.out _ _ w9 W9.out)
        clear hT HS8
        dsimp only
        go_wp2_with fail
        refine HW9.out.mono ?_
        rintro e w10 ⟨a10, k10, rfl, hs10, hT⟩
        have T10 := Lib.hid (Turn.then T9.out hT)
        have W10 := Lib.hid (sseg_stay W9.out hT)
        have HS10 := Lib.hid (HSm.out _ _ _ _ w10 hs10 W10.out)
        clear hT hs10 HW9
        dsimp only
        go_wp2_with fail
        refine HS10.out.mono ?_
        rintro e w11 ⟨rfl, hT⟩
        have T11 := Lib.hid (Turn.then T10.out hT)
        clear hT HS10
        dsimp only
        go_wp2
        go_ret
        exact ⟨rfl, below_of T11.out⟩
end Go.Proofs.Ytgbpmpeknbaccaa.Tx
