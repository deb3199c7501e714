/-
  The document's device: Crash.
-/
import Derived.Test.YtjhcjnalomdbnaaDoorDevRef5
import Derived.Test.YtjhcjnalomdbnaaDoorDevRotLaw
import Derived.Test.YtjhcjnalomdbnaaDoorDevCrash
import Derived.Test.YtjhcjnalomdbnaaDoorDevLong
import Derived.BigQuiet
import Derived.Deep.AppendLies
namespace Go.Proofs.YtjhcjnalomdbnaaDoor.Dv
open Go.RowKit Bs

def RCrash (s : St) (l : List (Int × Nat)) (w : World) (e : Ending) (w' : World) : Prop :=
  (¬ picksOk s l ∧ e = .returned (.tuple #[.pointer none, .int .i64 2]) ∧ Turn w w' nowhere) ∨
  (picksOk s l ∧ ∃ g D, e = .returned (.tuple #[.pointer (some ⟨g, 0, none⟩), .int .i64 0]) ∧ Ref w' g D (.slice none 0 0) (s.crash l) ∧ (∀ k, fpR g D (.slice none 0 0) k → w.heap.size ≤ k) ∧ Turn w w' nowhere)

theorem shr_zero (p2 Z : Nat) : ((p2 : Int) / 2 ^ Z != 0) = decide (2 ^ Z ≤ p2) := by
  have e : (p2 : Int) / 2 ^ Z = ((p2 / 2 ^ Z : Nat) : Int) := by rw [Int.natCast_ediv, Int.natCast_pow]; rfl
  rw [e]
  have hp : 0 < 2 ^ Z := Nat.pow_pos (by decide)
  by_cases h : 2 ^ Z ≤ p2
  · rw [decide_eq_true h]
    have : 0 < p2 / 2 ^ Z := Nat.div_pos h hp
    exact bne_iff_ne.2 (by omega)
  · rw [decide_eq_false h, Nat.div_eq_of_lt (by omega)]
    rfl

theorem srow_one (d : List (List Int)) : ∀ u ∈ srow d, u.oneCell' = true := by
  intro u hu
  obtain ⟨x, _, rfl⟩ := List.mem_map.1 hu
  rfl

theorem rcrash_box {w w1 : World} {d' cap : Nat} {s : St} (ok : s.Ok) (hown : w1.ownsRow w.heap.size 9 1 (.slice (some ⟨d', 0, none⟩) s.blocks cap) s.blocks (srow s.dur)) (hlt : d' < w1.heap.size) :
    Ref (w1.alloc (.cells #[.int .i64 (s.size : Int), .int .i64 (s.blocks : Int), .slice (some ⟨d', 0, none⟩) s.blocks cap, .slice none 0 0, .int .i64 0, .int .i64 (-1)] 61)) w1.heap.size (.slice (some ⟨d', 0, none⟩) s.blocks cap) (.slice none 0 0) (St.fresh s.size s.blocks s.dur) :=
  ⟨fresh_ok ok.lo ok.hi ok.by64 ok.blo ok.bhi ok.dblk ok.dlen, heap_alloc_new _ _, own_turn (ownsRow_mono hown (Nat.zero_le _)) (Turn.alloc _ _ nowhere) (fun _ _ => id), World.ownsRow_nil _ _ _ _, by
    intro e
    have : d' = w1.heap.size := by simpa [Value.ownBlock] using e
    omega, by simp [Value.ownBlock], fun _ _ => by simp [Value.ownBlock]⟩

set_option maxRecDepth 100000 in
set_option maxHeartbeats 8000000 in
theorem rcrash_any (g : Nat) (D P : Value) (s : St) (pa : Option Addr) (n c : Nat) (l : List (Int × Nat)) (w : World) (h : Ref w g D P s) (hp : PSeg w pa n c l) (hn40 : n ≤ 1000000) :
    Calls Tryd.prog 33 #[.pointer (some ⟨g, 0, none⟩), .slice pa n c] w (RCrash s l w) := by
  obtain ⟨q0, q1, q2, q3, q4, q5⟩ := h.cells
  have lo := h.ok.lo
  have hi := h.ok.hi
  have hfew := h.ok.few
  obtain ⟨Z, hZ⟩ : ∃ Z, Z = s.size / 64 := ⟨_, rfl⟩
  have e6 : (s.size : Int) / 64 = (Z : Int) := by omega
  have hZ64 : Z ≤ 64 := by omega
  have HH := Lib.hid h
  have HP := Lib.hid hp
  have HZ := Lib.hid hZ
  have HNL := Lib.hid hp.len
  have HFO := Lib.hid hp.form
  obtain ⟨a, ac, rfl, _, _, _, _⟩ := own_form h.row
  obtain ⟨da, dc, rfl, _, _, _, _⟩ := own_form h.dur
  obtain ⟨db, rfl⟩ := own_some h.dur (by have := h.ok.blo; omega)
  obtain ⟨N, hN⟩ : ∃ N, N = s.pend.length := ⟨_, rfl⟩
  have HN := Lib.hid hN
  rw [← hN] at q3 hfew
  clear h hp hZ hN
  go_enter Tryd.func33, Tryd.ntmps33
  go_wp2
  go_loopw [7] (fun iv wr => ∃ k : Nat, k ≤ n ∧ iv = .int .i64 (k : Int) ∧ Hid (∀ i, i < k → pickAt s l i) ∧ Hid (Turn w wr nowhere)) (fun iv _ => n - (intOf iv).toNat)
  case atStart => exact ⟨0, Nat.zero_le _, rfl, fun i hi => by omega, Turn.refl _ _⟩
  case round =>
    obtain ⟨k, hk, rfl, HG, HT⟩ := hrel
    by_cases hkn : k < n
    · obtain ⟨B, O, rfl, hat⟩ := HFO.out (by omega)
      obtain ⟨hat0, hat1⟩ := hat k hkn
      have hkl : k < l.length := by rw [HNL.out]; exact hkn
      obtain ⟨⟨p1, p2⟩, hpq⟩ : ∃ q : Int × Nat, l.getD k (0, 0) = q := ⟨_, rfl⟩
      rw [hpq] at hat0 hat1
      have c0 := HT.out.cell hat0 id
      have c1 := HT.out.cell hat1 id
      have c3 := HT.out.cell q3 id
      have HPQ := Lib.hid hpq
      have HFO2 := Lib.hid hat
      have HAT : Hid (pickAt s l k ↔ 0 ≤ p1 ∧ p1 < N ∧ p2 < 2 ^ Z ∧ ∀ i, i < k → (l.getD i (0, 0)).1 ≠ p1) := Lib.hid (by unfold pickAt; rw [hpq, HN.out, HZ.out])
      have HNO : Hid (¬ pickAt s l k → ∀ W, Turn w W nowhere → RCrash s l w (.returned (.tuple #[.pointer none, .int .i64 2])) W) := Lib.hid (fun hno W t => .inl ⟨fun h => hno (h k hkl), rfl, t⟩)
      have p0 : (0 : Int) ≤ (k : Int) := by omega
      have p1' : (k : Int) < (n : Int) := by omega
      have hi64 : -9223372036854775808 ≤ p1 ∧ p1 ≤ 9223372036854775807 ∧ p2 < 18446744073709551616 := by
        have := HP.out.small (l.getD k (0, 0)) (by rw [show l.getD k (0, 0) = l[k] from by simp [List.getD, hkl]]; exact List.getElem_mem _)
        rw [hpq] at this
        exact this
      clear hat0 hat1 hpq hat
      by_cases h1 : p1 < 0
      · have d1 : decide (p1 < 0) = true := decide_eq_true h1
        have HF := Lib.hid (HNO.out (fun h => by have := (HAT.out.1 h).1; omega))
        clear h1
        go_wp2_with fail
        go_quiet (fail)
        go_wp2
        go_ret2
        exact HF.out _ (HT.out.trans (Turn.drewN _ _ nowhere) (fun _ _ h => h))
      · obtain ⟨j, rfl⟩ := Int.eq_ofNat_of_zero_le (show 0 ≤ p1 by omega)
        have d1 : decide ((j : Int) < 0) = false := decide_eq_false (by omega)
        by_cases h2 : N ≤ j
        · have HF := Lib.hid (HNO.out (fun h => by have := (HAT.out.1 h).2.1; omega))
          clear h1
          go_wp2_with fail
          go_quiet (fail)
          go_wp2
          go_ret2
          exact HF.out _ (HT.out.trans (Turn.drewN _ _ nowhere) (fun _ _ h => h))
        · have hcase : (Z < 64 ∧ 2 ^ Z ≤ p2) ∨ ((Z < 64 ∧ ((p2 : Int) / 2 ^ Z != 0) = false) ∨ ¬ Z < 64) ∧ p2 < 2 ^ Z := by
            by_cases h3 : Z < 64
            · by_cases h4 : 2 ^ Z ≤ p2
              · exact .inl ⟨h3, h4⟩
              · exact .inr ⟨.inl ⟨h3, (shr_zero p2 Z).trans (decide_eq_false h4)⟩, by omega⟩
            · obtain rfl : Z = 64 := by omega
              exact .inr ⟨.inr h3, hi64.2.2⟩
          rcases hcase with ⟨h3, h4⟩ | ⟨h3, h4⟩
          · have e8 : ((p2 : Int) / 2 ^ Z != 0) = true := (shr_zero p2 Z).trans (decide_eq_true h4)
            have HF := Lib.hid (HNO.out (fun h => by have := (HAT.out.1 h).2.2.1; omega))
            have d3 : decide ((Z : Int) < 64) = true := decide_eq_true (by omega)
            clear h1 h4
            go_wp2_with fail
            go_quiet (fail)
            go_wp2
            go_ret2
            exact HF.out _ (HT.out.trans (Turn.drewN _ _ nowhere) (fun _ _ h => h))
          · have HJN := Lib.hid (show j < N by omega)
            have HP2 := Lib.hid h4
            clear h4
            have hd3 : (decide ((Z : Int) < 64) = true ∧ ((p2 : Int) / 2 ^ Z != 0) = false) ∨ decide ((Z : Int) < 64) = false := h3.elim (fun h => .inl ⟨decide_eq_true (by omega), h.2⟩) (fun h => .inr (decide_eq_false (by omega)))
            clear h3 h1
            rcases hd3 with ⟨d3, e8⟩ | d3
            all_goals
              go_wp2_with fail
              go_quiet (fail)
              have HT6 := Lib.hid (HT.out.trans (Turn.drewN wr nq nowhere) (fun _ _ h => h))
              clear c0 c1 c3 HT
              generalize wr.drewN nq = w6 at *
              go_wp2
              go_loopw [8] (fun iv wq => ∃ m : Nat, m ≤ k ∧ iv = .int .i64 (m : Int) ∧ Hid (∀ i, i < m → (l.getD i (0, 0)).1 ≠ (j : Int)) ∧ Hid (Turn w wq nowhere)) (fun iv _ => k - (intOf iv).toNat)
              case atStart => exact ⟨0, Nat.zero_le _, rfl, fun i hi => by omega, HT6.out⟩
              case round =>
                obtain ⟨m, hm, rfl, HI, HTQ⟩ := hrel
                by_cases hmk : m < k
                · have f0 := HTQ.out.cell (HFO2.out m (by omega)).1 id
                  have f1 := HTQ.out.cell (HFO2.out k hkn).1 id
                  rw [HPQ.out] at f1
                  have p2' : (0 : Int) ≤ (m : Int) := by omega
                  have p3' : (m : Int) < (n : Int) := by omega
                  cases he : ((l.getD m (0, 0)).1 == (j : Int)) with
                  | true =>
                    have HF := Lib.hid (HNO.out (fun h => (HAT.out.1 h).2.2.2 m hmk (beq_iff_eq.1 he)) )
                    generalize (l.getD m (0, 0)).1 = r at *
                    go_wp2_with fail
                    go_quiet (fail)
                    go_wp2
                    go_ret2
                    exact HF.out _ (HTQ.out.trans (Turn.drewN _ _ nowhere) (fun _ _ h => h))
                  | false =>
                    have HI2 : Hid (∀ i, i < m + 1 → (l.getD i (0, 0)).1 ≠ (j : Int)) := Lib.hid (fun i hi => by
                      by_cases e : i = m
                      · subst e; exact beq_eq_false_iff_ne.1 he
                      · exact HI.out i (by omega))
                    generalize (l.getD m (0, 0)).1 = r at *
                    go_wp2_with fail
                    go_quiet (fail)
                    go_wp2
                    go_roundw
                    case rel => exact ⟨m + 1, by omega, by go_num, HI2, HTQ.out.trans (Turn.drewN _ _ nowhere) (fun _ _ h => h)⟩
                    case measure => simp [intOf]; omega
                · obtain rfl : m = k := by omega
                  have HG2 : Hid (∀ i, i < m + 1 → pickAt s l i) := Lib.hid (fun i hi => by
                    by_cases e : i = m
                    · subst e; exact HAT.out.2 ⟨by omega, by have := HJN.out; omega, HP2.out, HI.out⟩
                    · exact HG.out i (by omega))
                  go_wp2
                  go_roundw
                  case rel => exact ⟨m + 1, by omega, by go_num, HG2, HTQ.out⟩
                  case measure => simp [intOf]; omega
    · obtain rfl : n = k := by omega
      have HOK : Hid (picksOk s l) := Lib.hid (fun i hi => HG.out i (by rw [HNL.out] at hi; exact hi))
      obtain ⟨i0, hi0, hz0, hz1, hz2⟩ := info_parts info_string
      have r0 := HT.out.cell q0 id
      have r1 := HT.out.cell q1 id
      have r2 := HT.out.cell q2 id
      have HTA : Hid (Turn w (wr.alloc (.cells #[] 9)).drew nowhere) := Lib.hid ((HT.out.trans (Turn.alloc wr _ nowhere) (fun _ _ h => h)).trans (Turn.drew _ nowhere) (fun _ _ h => h))
      have HMK : Hid ((wr.alloc (.cells #[] 9)).drew.ownsRow wr.heap.size 9 1 (.slice (some ⟨wr.heap.size, 0, none⟩) 0 0) 0 []) := Lib.hid (own_turnB (World.ownsRow_made (base := wr.heap.size) (e := 9) (size := 1) wr #[] 0 (Nat.le_refl _) (by unfold maxLen; omega) rfl) (Turn.drew _ nowhere) (fun _ _ => id))
      have HLS : Hid ((srow s.dur).length = s.blocks * 1) := Lib.hid (by rw [srow, List.length_map, HH.out.ok.dlen, Nat.mul_one])
      have hblo := HH.out.ok.blo
      have hbhi := HH.out.ok.bhi
      clear hkn hk
      go_wp2_with fail
      go_region_held3 (fun w' => w'.cell? ⟨g, 0, none⟩ = some (.int .i64 (s.size : Int)) ∧ w'.cell? ⟨g, 1, none⟩ = some (.int .i64 (s.blocks : Int)) ∧ w'.cell? ⟨g, 2, none⟩ = some (.slice (some ⟨db, 0, none⟩) s.blocks dc)) (go_keep)
        (first
          | (refine step_append_lies _ rfl (.tmp 80) (.tmp 84) 59 rfl wr.heap.size 9 i0 (.string ⟨#[]⟩) 1 16 Tryd.underlying59 hi0 hz0 hz1 hz2 rfl (by omega) (.slice (some ⟨wr.heap.size, 0, none⟩) 0 0) 0 [] (by rfl) (by exact HMK.out) ⟨db, 0, none⟩ s.blocks dc (srow s.dur) (by rfl) HLS.out (fun j u hu => HTA.out.cell (HH.out.dur.cells (g := db) rfl j u hu) id) (srow_one _) (by omega) (by unfold maxLen; omega) (by omega) (by exact Nat.le_trans (Nat.le_succ _) (by simp)) _ rfl ?_
             intro d' cap' w1 hown1 hgrow1 hat1 hlt1
             simp only [Nat.zero_add, List.nil_append] at hown1 ⊢
             have HT1 : Hid (Turn w w1 nowhere) := Lib.hid (HTA.out.trans (Turn.of_grown (S := fun i => wr.heap.size ≤ i) hgrow1 (fun i e _ => by simp [Value.ownBlock] at e; omega)) (fun i hi e => by have := HT.out.size; omega))
             have s0 := HT1.out.cell q0 id
             have s1 := HT1.out.cell q1 id
             have s2 := HT1.out.cell q2 id
             have HR1 := Lib.hid (rcrash_box HH.out.ok hown1 hlt1)
             have hd' : w.heap.size ≤ d' := Nat.le_trans HT.out.size (hown1.lt d' rfl).1
             clear hown1 hgrow1 hat1)
          | fail)
      obtain ⟨X0, hX0⟩ : ∃ X0, X0 = w1.alloc (.cells #[.int .i64 (s.size : Int), .int .i64 (s.blocks : Int), .slice (some ⟨d', 0, none⟩) s.blocks cap', .slice none 0 0, .int .i64 0, .int .i64 (-1)] 61) := ⟨_, rfl⟩
      obtain ⟨g', hg'⟩ : ∃ g', g' = w1.heap.size := ⟨_, rfl⟩
      have HX0 : Hid (Ref X0 g' (.slice (some ⟨d', 0, none⟩) s.blocks cap') (.slice none 0 0) (s.part l 0)) := Lib.hid (by rw [part_zero, hX0, hg']; exact HR1.out)
      have HTX0 : Hid (Turn w X0 nowhere) := Lib.hid (by rw [hX0]; exact HT1.out.trans (Turn.alloc _ _ nowhere) (fun _ _ h => h))
      have hgw : w.heap.size ≤ g' := by rw [hg']; exact HT1.out.size
      rw [← hX0, ← hg']
      clear hX0 hg' HR1 HT1 s0 s1 s2 r0 r1 r2 hlt1 HTA HMK HT HG
      go_wp2
      go_loopw [10] (fun iv wq => ∃ k : Nat, k ≤ n ∧ iv = .int .i64 (k : Int) ∧ Hid (Ref wq g' (.slice (some ⟨d', 0, none⟩) s.blocks cap') (.slice none 0 0) (s.part l k)) ∧ Hid (Turn w wq nowhere)) (fun iv _ => n - (intOf iv).toNat)
      case atStart => exact ⟨0, Nat.zero_le _, rfl, HX0.out, HTX0.out⟩
      case round =>
        clear HX0 HTX0
        obtain ⟨k, hk, rfl, HRK, HTK⟩ := hrel
        by_cases hkn : k < n
        · obtain ⟨B, O, rfl, hat⟩ := HFO.out (by omega)
          have hat := hat k hkn
          have hkl : k < l.length := by rw [HNL.out]; exact hkn
          have hok := HOK.out k hkl
          obtain ⟨⟨p1, p2⟩, hpq⟩ : ∃ q : Int × Nat, l.getD k (0, 0) = q := ⟨_, rfl⟩
          rw [hpq] at hat hok
          obtain ⟨ho1, ho2, ho3, _⟩ := hok
          obtain ⟨j, rfl⟩ : ∃ j : Nat, p1 = (j : Int) := ⟨p1.toNat, by have : 0 ≤ p1 := ho1; omega⟩
          have hj : j < s.pend.length := by have : (j : Int) < s.pend.length := ho2; omega
          obtain ⟨⟨x1, x2⟩, hxq⟩ : ∃ q : Nat × List Int, s.pend.getD j (0, []) = q := ⟨_, rfl⟩
          have hst := part_succ s l k hkl (j : Int) p2 x1 x2 hpq (by rw [Int.toNat_natCast]; exact hxq)
          have hpb := HH.out.ok.pblk _ (List.getElem_mem hj)
          have hpe : s.pend.getD j (0, []) = s.pend[j] := by simp [List.getD, hj]
          rw [← hpe, hxq] at hpb
          obtain ⟨b1, b2, b3⟩ := hpb
          have hrow := HH.out.row
          obtain ⟨pp, rfl⟩ := own_some hrow (by omega)
          have hwat := wrow_at s.pend j hj
          rw [hxq, Nat.mul_comm] at hwat
          obtain ⟨T, hTT⟩ : ∃ T, T = strOfNums x2 := ⟨_, rfl⟩
          have z0 : w.cell? ⟨pp, j * 2, none⟩ = some (.int .i64 (x1 : Int)) := by
            have := hrow.cells (g := pp) rfl (j * 2) _ hwat.1
            rwa [Addr.add_lit, Nat.zero_add] at this
          have z1 : w.cell? ⟨pp, j * 2 + 1, none⟩ = some (.string T) := by
            have := hrow.cells (g := pp) rfl (j * 2 + 1) _ hwat.2
            rw [hTT]
            rwa [Addr.add_lit, Nat.zero_add] at this
          have y0 := HTK.out.cell z0 id
          have y1 := HTK.out.cell z1 id
          have c0 := HTK.out.cell hat.1 id
          have c1 := HTK.out.cell hat.2 id
          have c3 := HTK.out.cell q3 id
          have HC1 := Lib.hid hat.2
          have HTT := Lib.hid hTT
          have HST := Lib.hid hst
          have HB1 := Lib.hid b1
          have HB2 := Lib.hid b2
          have HB3 := Lib.hid b3
          have HO3 := Lib.hid ho3
          have HJ := Lib.hid hj
          have p0 : (0 : Int) ≤ (k : Int) := by omega
          have p1' : (k : Int) < (n : Int) := by omega
          have p2' : (0 : Int) ≤ (j : Int) := by omega
          have hNe := HN.out
          have p3' : (j : Int) < (N : Int) := by omega
          clear hat hkl hpq hst hpe hwat hTT hxq b1 b2 b3 ho1 ho2 ho3 hrow hj hNe z0 z1
          go_wp2_with fail
          go_region_held3 (fun w' => w'.cell? ⟨g, 3, none⟩ = some (.slice (some ⟨pp, 0, none⟩) N ac) ∧ w'.cell? ⟨B, O + k * 2, none⟩ = some (.int .i64 (j : Int)) ∧ w'.cell? ⟨pp, j * 2, none⟩ = some (.int .i64 (x1 : Int)) ∧ w'.cell? ⟨pp, j * 2 + 1, none⟩ = some (.string T)) (go_keep)
            (fail)
          have t0 : (wr.alloc (.cells #[.int .i64 (x1 : Int), .string T] 66)).drew.cell? ⟨wr.heap.size, 0, none⟩ = some (.int .i64 (x1 : Int)) := by simp [go_sem]
          have t1 : (wr.alloc (.cells #[.int .i64 (x1 : Int), .string T] 66)).drew.cell? ⟨wr.heap.size, 1, none⟩ = some (.string T) := by simp [go_sem]
          have tx : Turn wr (wr.alloc (.cells #[.int .i64 (x1 : Int), .string T] 66)).drew nowhere := (Turn.alloc _ _ nowhere).trans (Turn.drew _ nowhere) (fun _ _ h => h)
          obtain ⟨tb, htb⟩ : ∃ tb, tb = wr.heap.size := ⟨_, rfl⟩
          rw [← htb] at t0 t1 ⊢
          have htw : w.heap.size ≤ tb := by rw [htb]; exact HTK.out.size
          have htR : ∀ i, fpR g' (.slice (some ⟨d', 0, none⟩) s.blocks cap') (.slice none 0 0) i → i ≠ tb := fun i hi e => by have := HRK.out.lt i hi; omega
          have HTR := Lib.hid htR
          clear y0 y1 c0 c1 c3 htb htR
          generalize (wr.alloc (.cells #[.int .i64 (x1 : Int), .string T] 66)).drew = X at *
          have HTX := Lib.hid (HTK.out.trans tx (fun _ _ h => h))
          have HRX : Hid (Ref X g' (.slice (some ⟨d', 0, none⟩) s.blocks cap') (.slice none 0 0) (s.part l k)) := Lib.hid (HRK.out.turn tx (fun _ _ => id))
          obtain ⟨cur, hcur⟩ : ∃ cur, cur = (s.part l k).dur.getD x1 [] := ⟨_, rfl⟩
          have hcl := getD_mem HRK.out.ok.dblk (b := x1) (by rw [HRK.out.ok.dlen]; exact HB1.out)
          rw [← hcur] at hcl
          have HCL : Hid (cur.length = s.size ∧ IsB cur) := Lib.hid hcl
          have HST2 : Hid (s.part l (k + 1) = { s.part l k with dur := (s.part l k).dur.set x1 (mix p2 cur x2) }) := Lib.hid (by rw [hcur]; exact HST.out)
          have u0 : X.cell? ⟨g', 2, none⟩ = some (.slice (some ⟨d', 0, none⟩) s.blocks cap') := HRX.out.cells.2.2.1
          have u1 : X.cell? ⟨d', x1, none⟩ = some (.string (strOfNums cur)) := by
            have := HRX.out.dur.cells (g := d') rfl x1 _ (srow_at _ x1 (by rw [HRK.out.ok.dlen]; exact HB1.out))
            rw [Addr.add_lit, Nat.zero_add, ← hcur] at this
            exact this
          have hcll : cur.length = s.size := hcl.1
          obtain ⟨cap2, W2, hrun, hreg, ht2, hv1, hv2⟩ := conv_bytes cur hcl.2 (by rw [hcll]; omega) X.drew
          rw [hcll] at hrun hv1
          rw [show X.drew.heap.size = X.heap.size from rfl] at hrun hreg
          have HTW2 : Hid (Turn X W2 nowhere) := Lib.hid ((Turn.drew X nowhere).trans ht2 (fun _ _ h => h))
          obtain ⟨gb, hgb⟩ : ∃ gb, gb = X.heap.size := ⟨_, rfl⟩
          rw [← hgb] at hrun hreg
          have HREG := Lib.hid hreg
          have hgbw : w.heap.size ≤ gb := by rw [hgb]; exact HTX.out.size
          have htbX : tb < X.heap.size := World.block_lt_of_cell? _ _ t0
          have hgbt : gb ≠ tb := by omega
          have HGR : Hid (∀ i, fpR g' (.slice (some ⟨d', 0, none⟩) s.blocks cap') (.slice none 0 0) i → i ≠ gb) := Lib.hid (fun i hi e => by have := HRX.out.lt i hi; omega)
          obtain ⟨T0, hT0⟩ : ∃ T0, T0 = strOfNums cur := ⟨_, rfl⟩
          rw [← hT0] at u1 hrun
          have v0 := HTW2.out.cell u0 id
          have v1 := HTW2.out.cell u1 id
          have v2 := HTW2.out.cell t0 id
          have v3 := HTW2.out.cell t1 id
          have p4' : (0 : Int) ≤ (x1 : Int) := by omega
          have p5' : (x1 : Int) < (s.blocks : Int) := by have : x1 < s.blocks := HB1.out; omega
          clear hcur hcl hreg ht2 hT0 hgb tx
          go_wp2_with fail
          go_region
          go_wp2
          go_loopw [13] (fun iv wq => ∃ t : Nat, t ≤ Z ∧ iv = .int .i64 (t : Int) ∧ Hid (Reg wq gb 0 (mix (p2 % 2 ^ t) cur x2)) ∧ Hid (Turn W2 wq (· = gb))) (fun iv _ => Z - (intOf iv).toNat)
          case atStart => exact ⟨0, Nat.zero_le _, rfl, by rw [show p2 % 2 ^ 0 = 0 from by simp [Nat.mod_one], mix_zero]; exact HREG.out, Turn.refl _ _⟩
          case round =>
            clear u0 u1 v0
            obtain ⟨t, ht, rfl, HRG, HTG⟩ := hrel
            by_cases htZ : t < Z
            · have hBw : B < w.heap.size := World.block_lt_of_cell? _ _ HC1.out
              have x1' := HTG.out.cell (HTW2.out.cell (HTX.out.cell HC1.out id) id) (by show ¬ B = gb; omega)
              have x3' := HTG.out.cell v3 (by show ¬ tb = gb; omega)
              have hem := Crc.mask_rem p2 t
              have HB : Hid (p2.testBit t = decide (p2 / 2 ^ t % 2 = 1)) := Lib.hid (Nat.testBit_eq_decide_div_mod_eq)
              have hz64 : 64 * t + 64 ≤ s.size := by omega
              clear v1 v2 v3
              by_cases hb : p2 / 2 ^ t % 2 = 1
              · have e2 : (((p2 / 2 ^ t % 2 : Nat) : Int) == 1) = true := by rw [hb]; rfl
                have HBT : Hid (p2.testBit t = true) := Lib.hid (by rw [HB.out, hb]; rfl)
                clear hb HB
                generalize p2 / 2 ^ t % 2 = z at hem e2
                have HTS : Hid (T.size = s.size) := Lib.hid (by rw [HTT.out, strOfNums_size, HB2.out])
                have hts := HTS.out
                have w0 : IntKind.i64.wrap ((t : Int) + 1) = (t : Int) + 1 := by rw [IntKind.wrap_i64]; omega
                have w1 : IntKind.i64.wrap ((t : Int) * 64) = (t : Int) * 64 := by rw [IntKind.wrap_i64]; omega
                have w2 : IntKind.i64.wrap (((t : Int) + 1) * 64) = ((t : Int) + 1) * 64 := by rw [IntKind.wrap_i64]; omega
                have i1 : ¬ ((t : Int) * 64 < 0) := by omega
                have i2 : ¬ ((t : Int) + 1) * 64 < (t : Int) * 64 := by omega
                have i3 : ((t : Int) + 1) * 64 ≤ (cap2 : Int) := by omega
                have i4 : (0 : Int) ≤ (t : Int) * 64 := by omega
                have i5 : (t : Int) * 64 ≤ ((t : Int) + 1) * 64 := by omega
                have i6 : (t : Int) * 64 ≤ (T.size : Int) := by omega
                have i7 : (0 : Int) ≤ ((t : Int) + 1) * 64 := by omega
                have i8 : ¬ cap2 = t * 64 := by omega
                have i9 : (t : Int) * 64 ≤ (cap2 : Int) := by omega
                have i10 : (t : Int) * 64 ≤ max (((t : Int) + 1) * 64) 0 := by omega
                have i11 : (t : Int) * 64 ≤ (t : Int) * 64 + 64 := by omega
                have i12 : (t : Int) * 64 ≤ (s.size : Int) := by omega
                have e1 : ((t : Int) * 64).toNat = t * 64 := by omega
                have e3 : (((t : Int) + 1) * 64).toNat = t * 64 + 64 := by omega
                have HV : Hid (T.extract (t * 64) s.size = strOfNums (x2.drop (t * 64))) := Lib.hid (by rw [HTT.out, str_extract, List.take_of_length_le (by rw [List.length_drop, HB2.out]; omega)])
                have HML : Hid ((mix (p2 % 2 ^ t) cur x2).length = s.size) := Lib.hid (by rw [mix_len]; exact HCL.out.1)
                have HRS : Hid (Reg wr.drew gb (t * 64) ((mix (p2 % 2 ^ t) cur x2).drop (t * 64))) := Lib.hid (by
                  have := (HRG.out.turn (Turn.drew wr nowhere) id).sub (t * 64)
                  rwa [Nat.zero_add] at this)
                have HNX : Hid (∀ w3, Reg w3 gb (t * 64) (spl ((mix (p2 % 2 ^ t) cur x2).drop (t * 64)) 0 ((x2.drop (t * 64)).take 64)) → Out wr.drew w3 gb (t * 64) 64 → Reg w3 gb 0 (mix (p2 % 2 ^ (t + 1)) cur x2) ∧ Turn W2 w3 (· = gb)) := Lib.hid (fun w3 hr3 ho3 => by
                  have hv : ((x2.drop (t * 64)).take 64).length = 64 := by rw [List.length_take, List.length_drop, HB2.out]; omega
                  refine ⟨?_, (HTG.out.trans (Turn.drew wr nowhere) (fun _ _ h => h.elim)).trans ho3.turn (fun _ _ e => e)⟩
                  have h1 := Reg.join (w := wr.drew) (w' := w3) (b := gb) (o := 0) (p := t * 64) (l := mix (p2 % 2 ^ t) cur x2) (v := (x2.drop (t * 64)).take 64) (HRG.out.turn (Turn.drew wr nowhere) id) (by rw [Nat.zero_add]; exact hr3) (by rw [Nat.zero_add, hv]; exact ho3) (by rw [hv, HML.out]; omega)
                  rw [Nat.mul_comm t 64, mix_step p2 t cur x2 (by rw [HB2.out, HCL.out.1]) HBT.out (by rw [HCL.out.1]; omega)] at h1
                  exact h1)
                go_wp2_with fail
                go_region_law (first
                  | (refine step_copy_long rfl (.tmp 135) (.tmp 140) (by rfl) gb (t * 64) 64 (cap2 - t * 64) (by rfl) ((mix (p2 % 2 ^ t) cur x2).drop (t * 64)) (x2.drop (t * 64)) (by rw [← HV.out]; rfl) (by exact HRS.out) (isB_drop HB3.out _) (by rw [List.length_drop, HB2.out]; omega) (by rw [List.length_drop, HML.out]; omega) ?_
                     intro w3 hr3 ho3))
                all_goals
                  have h9 := HNX.out _ hr3 ho3
                  go_wp2
                  refine ⟨⟨t + 1, by omega, by go_num, Lib.hid h9.1, Lib.hid h9.2⟩, by simp [intOf]; omega⟩
              · have hbt : p2.testBit t = false := by rw [HB.out]; exact decide_eq_false hb
                have HR2 : Hid (Reg wr gb 0 (mix (p2 % 2 ^ (t + 1)) cur x2)) := Lib.hid (by
                  rw [mod_skip p2 t (t + 1) (by omega) (fun j h1 h2 => by
                    obtain rfl : j = t := by omega
                    exact hbt)]
                  exact HRG.out)
                clear HB hbt
                generalize p2 / 2 ^ t % 2 = z at hem hb
                have e2 : ((z : Int) == 1) = false := by simp; omega
                clear hb
                go_wp2
                go_roundw
                case rel => exact ⟨t + 1, by omega, by go_num, HR2, HTG.out⟩
                case measure => simp [intOf]; omega
            · obtain rfl : Z = t := by omega
              have hmd : p2 % 2 ^ Z = p2 := Nat.mod_eq_of_lt (by rw [HZ.out]; exact HO3.out)
              rw [hmd] at HRG
              have hml : (mix p2 cur x2).length = s.size := by rw [mix_len]; exact HCL.out.1
              have hcv : (convert 68 9 (.slice (some ⟨gb, 0, none⟩) s.size cap2)).run Tryd.prog wr.drew = .ok (.string (strOfNums (mix p2 cur x2))) wr.drew := conv_any gb 0 _ cap2 _ wr.drew (HRG.out.turn (Turn.drew wr nowhere) id) hml
              have HRW := HRX.out.turn HTW2.out (fun _ _ => id)
              have HRW2 := HRW.turn HTG.out (fun i hi e => HGR.out i hi e)
              have o2 : wr.cell? ⟨g', 2, none⟩ = some (.slice (some ⟨d', 0, none⟩) s.blocks cap') := HRW2.cells.2.2.1
              have o3 : wr.cell? ⟨d', x1, none⟩ = some (.string T0) := HTG.out.cell v1 (fun e => HGR.out d' (.inr (.inl rfl)) e)
              have o4 : wr.cell? ⟨tb, 0, none⟩ = some (.int .i64 (x1 : Int)) := HTG.out.cell v2 (by show ¬ tb = gb; omega)
              have fo := HRW2.dur.frozenAt x1
              have hre := Ref.relay (s := s.part l k) (HRW2.turn (Turn.drewN wr 1 nowhere) (fun _ _ => id)) x1 (mix p2 cur x2) hml (mix_isB _ HCL.out.2 HB3.out (by rw [HB2.out, HCL.out.1]))
              rw [← HST2.out] at hre
              have HRE := Lib.hid hre
              have HTE : Hid (Turn w ((wr.drewN 1).setCell ⟨d', x1, none⟩ (.string (strOfNums (mix p2 cur x2)))) nowhere) := Lib.hid ((((HTX.out.trans HTW2.out (fun _ _ h => h)).trans HTG.out (fun i hi e => by show False; have : i = gb := e; omega)).trans (Turn.drewN wr 1 nowhere) (fun _ _ h => h)).trans hre.2 (fun i hi e => by show False; have : i = d' := e; omega))
              obtain ⟨TN, hTN⟩ : ∃ TN, TN = strOfNums (mix p2 cur x2) := ⟨_, rfl⟩
              rw [← hTN] at hcv HRE HTE
              clear hmd hml hre hTN HRW HRW2 v3
              go_wp2_with fail
              go_region
              all_goals
                go_wp2
                refine ⟨⟨k + 1, by omega, by go_num, Lib.hid HRE.out.1, Lib.hid HTE.out⟩, by simp [intOf]; omega⟩
        · obtain rfl : n = k := by omega
          have HF : Hid (RCrash s l w (.returned (.tuple #[.pointer (some ⟨g', 0, none⟩), .int .i64 0])) wr) := Lib.hid (.inr ⟨HOK.out, g', _, rfl, by
            have := HRK.out
            rw [← HNL.out, part_all] at this
            exact this, fun i hi => by
              rcases hi with rfl | hi | hi
              · exact hgw
              · have : d' = i := by simpa [Value.ownBlock] using hi
                omega
              · simp [Value.ownBlock] at hi, HTK.out⟩)
          go_wp2
          go_ret2
          exact HF.out
end Go.Proofs.YtjhcjnalomdbnaaDoor.Dv
