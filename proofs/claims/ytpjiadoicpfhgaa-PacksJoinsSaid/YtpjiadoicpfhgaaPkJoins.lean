/-
  PacksJoins: numbers whose bits end with a byte, and others behind them.
-/
import Derived.Test.YtpjiadoicpfhgaaPkLives
namespace Go.Proofs.Ytpjiadoicpfhgaa.Pk
open Go.RowKit Bs Dv

set_option maxRecDepth 100000 in
set_option maxHeartbeats 2000000 in
theorem joins_any (a0 : Option Addr) (n0 c0 : Nat) (l0 : List Int) (a1 : Option Addr) (n1 c1 : Nat) (l1 : List Int) (v : Int) (w : World) (s0 : Us.Seg w a0 n0 c0 l0) (u0 : IsU l0) (s1 : Us.Seg w a1 n1 c1 l1) (u1 : IsU l1) :
    Calls Try.prog 7 #[.slice a0 n0 c0, .slice a1 n1 c1, .int .i64 v] w fun e w' => e = .returned (.bool true) ∧ Below w.heap.size w w' := by
  have L0 := s0.len
  have L1 := s1.len
  have S0 := Lib.hid s0
  have S1 := Lib.hid s1
  by_cases hg : 100 < n0 ∨ 100 < n1
  · have hg2 : (100 : Int) < n0 ∨ ((n0 : Int) ≤ 100 ∧ (100 : Int) < n1) := by omega
    clear hg L0 L1 s0 s1 u0 u1
    rcases hg2 with h1 | ⟨h1, h2⟩
    all_goals
      go_enter Try.func7, Try.ntmps7
      go_wp2_with fail
      refine (lives_any _).mono ?_
      rintro e w1 ⟨rfl, hg1⟩
      have T1 := Lib.hid hg1
      clear hg1
      dsimp only
      go_wp2
      go_ret
      exact ⟨rfl, below_of T1.out⟩
  · have g1 : (n0 : Int) ≤ 100 := by omega
    have g2 : (n1 : Int) ≤ 100 := by omega
    clear hg
    obtain ⟨i0, hi, hz0, hz1, hz2⟩ := info_parts info_u8
    obtain ⟨j0, hj, hy0, hy1, hy2⟩ := info_parts Us.info_u64
    have hp := pick_range v 65 (by decide)
    have HPick := Lib.hid (fun W => pick_any v 65 W (by decide) (by decide))
    obtain ⟨V, hV⟩ := Int.eq_ofNat_of_zero_le hp.1
    rw [hV] at hp HPick
    have hV64 : V ≤ 64 := by omega
    clear hp hV
    have u01 : IsU (l0 ++ l1) := fun x hx => (List.mem_append.1 hx).elim (u0 x) (u1 x)
    have hboth := put_both l0 l1 V hV64 (by omega) (by omega) u0 u1
    have hjoin := put_join l0 l1 V u0
    have hlen1 := put_len l0 V
    have hlen2 := put_len l1 V
    obtain ⟨⟨E1, B1⟩, hR1⟩ : ∃ r, putR l0 (V : Int) = r := ⟨_, rfl⟩
    obtain ⟨⟨E2, B2⟩, hR2⟩ : ∃ r, putR l1 (V : Int) = r := ⟨_, rfl⟩
    obtain ⟨⟨E3, B3⟩, hR3⟩ : ∃ r, putR (l0 ++ l1) (V : Int) = r := ⟨_, rfl⟩
    rw [hR1, hR2, hR3] at hboth hjoin
    rw [hR1] at hlen1
    rw [hR2] at hlen2
    dsimp only at hboth hjoin hlen1 hlen2
    obtain ⟨m1, hm1⟩ : ∃ m, B1.length = m := ⟨_, rfl⟩
    obtain ⟨m2, hm2⟩ : ∃ m, B2.length = m := ⟨_, rfl⟩
    obtain ⟨m3, hm3⟩ : ∃ m, B3.length = m := ⟨_, rfl⟩
    rw [hm1] at hlen1
    rw [hm2] at hlen2
    have HP1 := Lib.hid (put_own_form hR1 hm1 u0 a0 n0 c0)
    have HP2 := Lib.hid (put_form hR2 hm2 u1 a1 n1 c1)
    have HP3 := Lib.hid (put_own_form hR3 hm3 u01)
    have HO := Lib.hid (fun W hs => Us.own_any a0 n0 c0 l0 W hs (by omega))
    obtain ⟨p, hpp⟩ : ∃ p, n0 * V = p := ⟨_, rfl⟩
    have hpi : (n0 : Int) * (V : Int) = (p : Int) := by rw [← hpp, Int.natCast_mul]
    have hpb : p ≤ 6400 := by have := Nat.mul_le_mul (show n0 ≤ 100 by omega) hV64; omega
    obtain ⟨r, hrr⟩ : ∃ r, p % 8 = r := ⟨_, rfl⟩
    have hri : (p : Int) % 8 = (r : Int) := by omega
    have HJ : Hid (E1 = 0 → E2 = 0 → r = 0 → E3 = 0 → B3 = B1 ++ B2) := Lib.hid (fun h1 h2 h3 h4 => hjoin h1 h2 (by rw [L0, hpp, hrr, h3]) h4)
    have HCASE : Hid ((E1 = 0 ∧ E2 = 0 ∧ E3 = 0) ∨ (E1 ≠ 0 ∧ E3 ≠ 0) ∨ (E1 = 0 ∧ E2 ≠ 0 ∧ E3 ≠ 0)) := Lib.hid (by
      by_cases h1 : E1 = 0
      · by_cases h2 : E2 = 0
        · exact .inl ⟨h1, h2, hboth.1 ⟨h1, h2⟩⟩
        · exact .inr (.inr ⟨h1, h2, fun h3 => h2 (hboth.2 h3).2⟩)
      · exact .inr (.inl ⟨h1, fun h3 => h1 (hboth.2 h3).1⟩))
    clear hR1 hR2 hR3 hm1 hm2 hm3 hboth hjoin hpp hrr s0 s1 u0 u1 u01 L0 L1
    go_enter Try.func7, Try.ntmps7
    go_wp2_with fail
    refine (lives_any _).mono ?_
    rintro e w1 ⟨rfl, hg1⟩
    have T1 := Lib.hid hg1
    clear hg1
    dsimp only
    go_wp2_with fail
    refine (HPick.out _).mono ?_
    rintro e w1 ⟨rfl, rfl⟩
    dsimp only
    go_wp2_with fail
    refine (HP1.out _ (useg_stay S0.out T1.out)).mono ?_
    rintro e w2 ⟨x1, k1, rfl, _, hT2, ho1⟩
    have T2 := Lib.hid (Turn.then T1.out hT2)
    have HO1 := Lib.hid ho1
    clear hT2 ho1
    dsimp only
    go_wp2_with fail
    refine (HP2.out _ (useg_stay S1.out T2.out)).mono ?_
    rintro e w3 ⟨x2, k2, rfl, hs2, hT3⟩
    have T23 := Lib.hid hT3
    have T3 := Lib.hid (Turn.then T2.out hT3)
    have X2 := Lib.hid hs2
    clear hT3 hs2
    dsimp only
    go_wp2_with fail
    refine (HO.out _ (useg_stay S0.out T3.out)).mono ?_
    rintro e w4 ⟨g4, k4, rfl, ho4, hg4⟩
    have T34 := Lib.hid (turn_of hg4)
    have T4 := Lib.hid (Turn.then T3.out (turn_of hg4))
    have HO4 := Lib.hid ho4
    have Z4 := Lib.hid hg4.size
    have S14 := Lib.hid (useg_stay S1.out T4.out)
    clear hg4 ho4
    dsimp only
    go_wp2_with (at_builtin; refine Us.wpList_append_seg rfl (.tmp 39) (.tmp 40) 28 rfl w3.heap.size 27 j0 Try.underlying28 hj hy0 hy1 hy2 g4 n0 k4 _ rfl HO4.out a1 n1 c1 l1 rfl S14.out (by omega) Z4.out ?_; intro g5 k5 w5 hown5 hgrow5; rw [← List.map_append] at hown5; have X5 := Lib.hid (Us.Seg.own hown5); have T45 := Lib.hid (Turn.of_grown (S := fun i => i = g4) hgrow5 (fun i e _ => by cases e; rfl)); clear hown5 hgrow5)
    refine (HP3.out _ _ _ _ X5.out).mono ?_
    rintro e w6 ⟨x6, k6, rfl, hs6, hT6, ho6⟩
    have HO6b := Lib.hid ho6
    have hg4b : w3.heap.size ≤ g4 := (HO4.out.lt _ rfl).1
    have hz3 := T3.out.size
    have T56 := Lib.hid hT6
    have T5 := Lib.hid (Turn.trans (S := nowhere) T4.out T45.out (fun i hi e => by omega))
    have T6 := Lib.hid (Turn.then T5.out hT6)
    have X6 := Lib.hid hs6
    have HO6 : Hid (E1 = 0 → ∃ g, x1 = some ⟨g, 0, none⟩ ∧ (g < w3.heap.size ∧ w.heap.size ≤ g) ∧ w6.ownsRow 0 5 1 (.slice (some ⟨g, 0, none⟩) m1 k1) m1 (B1.map (Value.int .u8))) := Lib.hid (fun h => by
      obtain ⟨g, hx, ho⟩ := HO1.out h
      have hlt : g < w2.heap.size := (ho.lt _ rfl).2
      have hz23 := T23.out.size
      have hlo : w1.heap.size ≤ g := (ho.lt _ rfl).1
      have hz1 := T1.out.size
      exact ⟨g, hx, by omega, ownsRow_mono (own_turn_any (own_turn_any (own_turn_any (own_turn_any ho T23.out id) T34.out id) T45.out (by omega)) T56.out id) (Nat.zero_le _)⟩)
    have X26 := Lib.hid (seg_stay (Seg.turn (seg_stay X2.out T34.out) T45.out (fun ad had hn e => by
      have h := X2.out.at_ ad had 0 _ (by rw [List.getElem?_map, List.getElem?_eq_getElem (by rw [X2.out.len]; exact hn)]; rfl)
      have h2 := World.block_lt_of_cell? w3 _ h
      rw [block_add] at h2
      omega)) T56.out)
    have Z36 : Hid (w3.heap.size ≤ w5.heap.size) := Lib.hid (by have h1 := T34.out.size; have h2 := T45.out.size; omega)
    clear hs6 hT6 ho6 hg4b hz3
    dsimp only
    rcases HCASE.out with ⟨rfl, rfl, rfl⟩ | ⟨q1, q3⟩ | ⟨rfl, q2, q3⟩
    · by_cases hr : r = 0
      · subst hr
        obtain ⟨g, rfl, hgl, ho⟩ := HO6.out (by trivial)
        obtain ⟨g6, rfl, ho6⟩ := HO6b.out (by trivial)
        have HJ2 := Lib.hid (HJ.out (by trivial) (by trivial) (by trivial) (by trivial))
        have hg6 : w5.heap.size ≤ g6 := (ho6.lt _ rfl).1
        have HNE : Hid (g6 ≠ g) := Lib.hid (by have := Z36.out; omega)
        have HOa := Lib.hid ho
        have Zg := Lib.hid hgl
        clear ho ho6 hg6 hgl
        go_wp2_with (at_builtin; refine wpList_append_seg rfl (.tmp 66) (.tmp 67) 23 rfl 0 5 i0 Try.underlying23 hi hz0 hz1 hz2 g m1 k1 _ rfl HOa.out x2 m2 k2 B2 rfl X26.out (by omega) (Nat.zero_le _) ?_; intro g7 k7 w7 hown7 hgrow7; rw [← List.map_append] at hown7; have X7 := Lib.hid (Seg.own hown7); have T67 := Lib.hid (Turn.of_grown (S := fun i => i = g) hgrow7 (fun i e _ => by cases e; rfl)); clear hown7 hgrow7)
        refine (same_form _ _ _ _ _ _ _ _ w7 (Seg.turn X6.out T67.out (fun ad had hn e => by cases had; exact HNE.out e)) X7.out true (sameB_yes HJ2.out)).mono ?_
        rintro e w8 ⟨rfl, hT8⟩
        have T8 := Lib.hid (Turn.then (Turn.trans (S := nowhere) T6.out T67.out (fun i hi e => by have := Zg.out; omega)) hT8)
        clear hT8
        dsimp only
        go_wp2
        go_ret
        exact ⟨rfl, below_of T8.out⟩
      · have r0 : ((r : Int) == 0) = false := by simp; omega
        have r1 : ((r : Int) != 0) = true := by simp; omega
        clear hr
        go_wp2
        go_ret
        exact ⟨rfl, below_of T6.out⟩
    · have q1a : (E1 == 0) = false := beq_eq_false_iff_ne.2 q1
      have q3a : (E3 == 0) = false := beq_eq_false_iff_ne.2 q3
      have q3b : (E3 != 0) = true := bne_iff_ne.2 q3
      clear q1 q3
      go_wp2
      go_ret
      exact ⟨rfl, below_of T6.out⟩
    · have q2a : (E2 == 0) = false := beq_eq_false_iff_ne.2 q2
      have q3a : (E3 == 0) = false := beq_eq_false_iff_ne.2 q3
      have q3b : (E3 != 0) = true := bne_iff_ne.2 q3
      clear q2 q3
      go_wp2
      go_ret
      exact ⟨rfl, below_of T6.out⟩
end Go.Proofs.Ytpjiadoicpfhgaa.Pk
