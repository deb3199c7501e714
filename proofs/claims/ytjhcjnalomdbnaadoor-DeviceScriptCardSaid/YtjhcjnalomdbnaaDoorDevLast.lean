/-
  The device's laws: DeviceLast.
-/
import Derived.Test.YtjhcjnalomdbnaaDoorDevLastNum
namespace Go.Proofs.YtjhcjnalomdbnaaDoor.Dv
open Go.RowKit Bs

/-- A row of strings. -/
def SArr (w : World) (h n : Nat) (L : Nat → List Int) : Prop := ∀ j, j < n → w.cell? ⟨h, j, none⟩ = some (.string (strOfNums (L j))) ∧ w.frozen? ⟨h, j, none⟩ = false
theorem SArr.turn {w w' : World} {h n : Nat} {L : Nat → List Int} {S : Nat → Prop} (m : SArr w h n L) (k : Turn w w' S) (hS : ¬ S h) (hlt : h < w.heap.size) : SArr w' h n L := fun j hj =>
  ⟨k.cell (m j hj).1 hS, by rw [k.frozen (p := ⟨h, j, none⟩) hlt hS]; exact (m j hj).2⟩
theorem SArr.set {w : World} {h n : Nat} {L : Nat → List Int} (m : SArr w h n L) (j : Nat) (hj : j < n) (l : List Int) : SArr (w.setCell ⟨h, j, none⟩ (.string (strOfNums l))) h n (fun i => if i = j then l else L i) := fun i hi => by
  have ho := Out.setCell w h 0 n j (.string (strOfNums l)) (Nat.zero_le _) (by omega)
  refine ⟨?_, by rw [ho.frozen]; exact (m i hi).2⟩
  show _ = some (Value.string (strOfNums (if i = j then l else L i)))
  by_cases e : i = j
  · subst e
    rw [if_pos rfl]
    exact World.cell?_setCell_same _ _ _ (m i hi).1
  · rw [if_neg e, World.cell?_setCell_other _ _ _ _ (by intro e2; injection e2 with _ e3; exact e e3.symm)]
    exact (m i hi).1

theorem make_strs (N : Nat) (hN : N ≤ 1000000) (W : World) : (Instr.makeSlice 59 (.int .i64 (N : Int)) (.int .i64 (N : Int))).run Tryd.prog W = .ok (.slice (some ⟨W.heap.size, 0, none⟩) N N) (W.alloc (.cells (madeCells (Value.string ⟨#[]⟩).cells N) 9)) := by
  obtain ⟨i0, hi, hz0, hz1, hz2⟩ := info_parts info_string
  have h := run_make (P := Tryd.prog) W 59 9 i0 (.string ⟨#[]⟩) Tryd.underlying59 hi hz0 .i64 .i64 (N : Int) (N : Int) (by omega) (by omega) (by rw [hz2]; omega) (by omega)
  rw [hz1, Int.toNat_natCast, Nat.mul_one] at h
  exact h
theorem strs_made (w : World) (N : Nat) : SArr (w.alloc (.cells (madeCells (Value.string ⟨#[]⟩).cells N) 9)) w.heap.size N (fun _ => []) := fun j hj => by
  have hg := heap_alloc_new w (.cells (madeCells (Value.string ⟨#[]⟩).cells N) 9)
  have e : (madeCells (Value.string ⟨#[]⟩).cells N).toList = List.replicate N (.string ⟨#[]⟩) := toList_madeCells_one _ _
  refine ⟨?_, by unfold World.frozen?; rw [hg]; simp⟩
  rw [cell_of_row _ _ _ _ _ _ hg, ← Array.getElem?_toList, e, List.getElem?_replicate, if_pos hj]
  rfl

/-- Picks in a row. -/
def prow (l : List (Int × Nat)) : List Value := l.flatMap pcells
theorem prow_len (l : List (Int × Nat)) : (prow l).length = l.length * 2 := by
  induction l with
  | nil => rfl
  | cons x l ih => rw [prow, List.flatMap_cons, List.length_append, List.length_cons, Nat.add_mul]; unfold prow at ih; rw [ih]; simp [pcells]; omega
theorem prow_at (l : List (Int × Nat)) : ∀ k, k < l.length → (prow l)[k * 2]? = some (.int .i64 (l.getD k (0, 0)).1) ∧ (prow l)[k * 2 + 1]? = some (.int .u64 ((l.getD k (0, 0)).2 : Int)) := by
  induction l with
  | nil => intro k hk; simp at hk
  | cons x l ih =>
    intro k hk
    cases k with
    | zero => exact ⟨rfl, rfl⟩
    | succ k =>
      have := ih k (by simpa using hk)
      unfold prow at this ⊢
      rw [List.flatMap_cons, show (k + 1) * 2 = k * 2 + 2 from by omega]
      exact this
theorem PSeg.own {w : World} {base : Nat} {v : Value} {n : Nat} {l : List (Int × Nat)} (h : w.ownsRow base 36 2 v n (prow l)) (hs : ∀ p ∈ l, -9223372036854775808 ≤ p.1 ∧ p.1 ≤ 9223372036854775807 ∧ p.2 < 18446744073709551616) : ∃ a c, v = .slice a n c ∧ PSeg w a n c l := by
  obtain ⟨a, c, rfl, h1, h2, h3, h4⟩ := own_form h
  have hl : l.length = n := by have := h.1; rw [prow_len] at this; omega
  exact ⟨a, c, rfl, ⟨hl, h1, h2, h3, fun ad had k hk => ⟨h4 ad had _ _ (prow_at l k (by omega)).1, h4 ad had _ _ (prow_at l k (by omega)).2⟩, hs⟩⟩
theorem info_pick : (Tryd.prog.info? 36).map (fun i => (i.zero, i.size, i.bytes)) = some (some (.agg #[.int .i64 0, .int .u64 0]), 2, 16) := by kernel_rfl

theorem own_turnB {w w' : World} {base e size n : Nat} {v : Value} {xs : List Value} {S : Nat → Prop} (h : w.ownsRow base e size v n xs) (k : Turn w w' S) (hv : ∀ i, v.ownBlock = some i → ¬ S i) : w'.ownsRow base e size v n xs := by
  refine ⟨h.1, ?_⟩
  rcases h.2 with h2 | ⟨g, cap, cur, e1, h3, h4, h5⟩
  · exact .inl h2
  · refine .inr ⟨g, cap, cur, e1, h3, ?_, h5⟩
    rw [k.block g (Array.getElem?_eq_some_iff.1 h4).1 (hv g (by rw [e1]; rfl))]
    exact h4

theorem Held.turnS {w0 w w' : World} {g b : Nat} {P : Value} {s : St} {S : Nat → Prop} (h : Held w0 w g b P s) (k : Turn w w' S) (h1 : ∀ i, fp g b P i → ¬ S i) (h2 : ∀ i, i < w0.heap.size → ¬ S i) : Held w0 w' g b P s :=
  ⟨h.dev.turn k h1, h.new, h.turn.trans k (fun i hi hf => absurd hf (h2 i hi))⟩

theorem read_is (s : St) (m : Nat) (h : m < s.blocks) : s.read (m : Int) = (s.last m, 0) := by
  unfold St.read
  rw [if_pos (by unfold St.hasB; omega), Int.toNat_natCast]

theorem light_small' {S K : Nat} (hl : LightS (S : Int) (K : Int) = true) (hg : geoB (S : Int) (K : Int) = true) : S ≤ 512 ∧ K ≤ 40 := by
  have h1 := of_decide_eq_true hl
  have h2 := of_decide_eq_true hg
  omega

set_option maxRecDepth 100000 in
set_option maxHeartbeats 8000000 in
theorem last_any (size blocks : Int) (a : Option Addr) (n c : Nat) (l : List AAct) (w : World) (hA : ASeg w a n c l) (hT : T64 w) :
    Calls Tryd.prog 5 #[.agg #[.int .i64 size, .int .i64 blocks], .slice a n c] w fun e w' => e = .returned (.bool true) ∧ Turn w w' nowhere := by
  have t1 : Turn w (w.alloc (.cells #[.int .i64 size, .int .i64 blocks] 28)) nowhere := Turn.alloc _ _ _
  have g0 : (w.alloc (.cells #[.int .i64 size, .int .i64 blocks] 28)).cell? ⟨w.heap.size, 0, none⟩ = some (.int .i64 size) := by simp [go_sem]
  have g1 : (w.alloc (.cells #[.int .i64 size, .int .i64 blocks] 28)).cell? ⟨w.heap.size, 1, none⟩ = some (.int .i64 blocks) := by simp [go_sem]
  have HL := Lib.hid (lives_any _ (hT.turn t1 id))
  have HT1 := Lib.hid (hT.turn t1 id)
  clear hT
  have hncap := Nat.le_trans hA.le hA.cap
  unfold maxLen at hncap
  go_enter Tryd.func5, Tryd.ntmps5
  go_wp2_with fail
  generalize w.alloc (.cells #[.int .i64 size, .int .i64 blocks] 28) = w1 at *
  refine HL.out.mono ?_
  rintro e w2 ⟨rfl, t2⟩
  have g0a := t2.cell g0 id
  have g1a := t2.cell g1 id
  go_wp2_with fail
  cases hg : geoB size blocks with
  | false =>
    refine (new_no size blocks w2 hg).mono ?_
    rintro e w3 ⟨rfl, t3⟩
    have g0b := t3.cell g0a id
    have g1b := t3.cell g1a id
    have HF := Lib.hid (fun W (k : Turn w3 W nowhere) => ((t1.trans t2 (fun _ _ h => h)).trans t3 (fun _ _ h => h)).trans k (fun _ _ h => h))
    go_wp2_with fail
    refine (light_any size blocks w3).mono ?_
    rintro e w4 ⟨rfl, t4⟩
    have HF4 := Lib.hid (HF.out w4 t4)
    cases hl : LightS size blocks with
    | false =>
      go_wp2
      go_ret
      exact ⟨rfl, HF4.out⟩
    | true =>
      by_cases h40 : n ≤ 40
      · have h40' : decide ((40 : Int) < (n : Int)) = false := decide_eq_false (by omega)
        go_wp2
        go_ret
        exact ⟨rfl, HF4.out⟩
      · have h40' : decide ((40 : Int) < (n : Int)) = true := decide_eq_true (by omega)
        go_wp2
        go_ret
        exact ⟨rfl, HF4.out⟩
  | true =>
    have hgo := of_decide_eq_true hg
    obtain ⟨S, rfl⟩ : ∃ S : Nat, size = (S : Int) := ⟨size.toNat, by omega⟩
    obtain ⟨K, rfl⟩ : ∃ K : Nat, blocks = (K : Int) := ⟨blocks.toNat, by omega⟩
    refine (new_yes S K w2 hg).mono ?_
    intro e w3 hx
    obtain ⟨g, b, rfl, hd3, t3⟩ := held_new t2 hx
    have g0b := t3.cell g0a id
    have g1b := t3.cell g1a id
    dsimp only
    go_wp2_with fail
    refine (light_any S K w3).mono ?_
    rintro e w4 ⟨rfl, t4⟩
    have hd4 := hd3.go t4
    have HF := Lib.hid (fun W (k : Turn w1 W nowhere) => t1.trans k (fun _ _ h => h))
    have HD4 := Lib.hid hd4
    by_cases hlt : LightS (S : Int) (K : Int) = true ∧ n ≤ 40
    · obtain ⟨hl, h40⟩ := hlt
      have hsk := light_small' hl hg
      rw [hl]
      have h40' : decide ((40 : Int) < (n : Int)) = false := decide_eq_false (by omega)
      have HA := Lib.hid (hA.old t1)
      have HG0 := Lib.hid g0
      have HG1 := Lib.hid g1
      have hmk := make_strs K (by omega)
      obtain ⟨MM, hMM⟩ : ∃ MM, MM = madeCells (Value.string ⟨#[]⟩).cells K := ⟨_, rfl⟩
      rw [← hMM] at hmk
      have HM := Lib.hid (fun W : World => (by rw [hMM]; exact strs_made W K : SArr (W.alloc (.cells MM 9)) W.heap.size K (fun _ => [])))
      have g1b := hd4.turn.cell g1 id
      have hb1 : w.heap.size < w1.heap.size := World.block_lt_of_cell? w1 _ g0
      clear hA hd3 hx g0 g1 g0a g1a g0b hMM
      dsimp only
      go_wp2_with fail
      have HD5 := Lib.hid (hd4.go (Turn.alloc w4 (.cells MM 9) nowhere))
      have HS5 := Lib.hid (HM.out w4)
      obtain ⟨Lb, hLb⟩ : ∃ Lb, Lb = w4.heap.size := ⟨_, rfl⟩
      have hLb1 : w1.heap.size ≤ Lb := by rw [hLb]; exact hd4.turn.size
      have hdl : ∀ i, fp g b (.slice none 0 0) i → i ≠ Lb := fun i hi e => by have := hd4.dev.lt i hi; omega
      have hLlt : Lb < (w4.alloc (.cells MM 9)).heap.size := by rw [World.size_alloc, hLb]; omega
      rw [← hLb] at HS5 ⊢
      have HDL := Lib.hid hdl
      have HLT := Lib.hid hLlt
      have HL0 : Hid (LInv S K 0 (St.fresh S K (zeros S K)) (fun _ => [])) := Lib.hid (linv_start S K)
      clear hdl hLlt hd4 t2 t3 t4 hLb g1b
      generalize w4.alloc (.cells MM 9) = w5 at *
      go_loopw [8] (fun sv wr => ∃ (k : Nat) (P : Value) (s : St) (L : Nat → List Int), k ≤ n ∧ sv = .int .i64 (k : Int) ∧ Hid (Held w1 wr g b P s) ∧ Hid (SArr wr Lb K L) ∧ Hid (LInv S K k s L) ∧ Hid (∀ i, fp g b P i → i ≠ Lb) ∧ Hid (Lb < wr.heap.size)) (fun sv _ => n - (intOf sv).toNat)
      case atStart => exact ⟨0, _, _, _, Nat.zero_le _, rfl, HD5, HS5, HL0, HDL, HLT⟩
      case round =>
        clear HD5 HS5 HL0 HDL HLT
        obtain ⟨k, P, s, L, hk, rfl, HD, HS, HI, HDL, HLT⟩ := hrel
        by_cases hkn : k < n
        · have hf := HA.out.form (by omega)
          obtain ⟨B, O, rfl, hat⟩ := hf
          obtain ⟨hax, hok⟩ := hat k hkn
          clear hat
          obtain ⟨x, hx⟩ : ∃ x, x = l.getD k default := ⟨_, rfl⟩
          rw [← hx] at hax hok
          have HAX := Lib.hid hax
          have HOX := Lib.hid hok
          have hss := HI.out.size
          have hsb := HI.out.blocks
          have hsp := HI.out.pend
          have hso := HI.out.ops
          have p0 : (0 : Int) ≤ (k : Int) := by omega
          have p1 : (k : Int) < (n : Int) := by omega
          have hBl : B < w1.heap.size := World.block_lt_of_cell? w1 _ hax.c0
          have hLB : Lb ≠ B := by omega
          have hLG : Lb ≠ w.heap.size := by omega
          have A := HAX.out.old HD.out.turn
          obtain ⟨a0, a1, a2, a3, a4, a5⟩ := A
          have g0r := HD.out.turn.cell HG0.out id
          have g1r := HD.out.turn.cell HG1.out id
          have hpk : ∀ w, Calls Tryd.prog 26 #[.int .i64 x.block, .int .i64 (K : Int)] w fun e w' => e = .returned (.int .i64 ((x.at K : Nat) : Int)) ∧ w' = w := fun w => (at_pick x K w (by omega) (by omega)).mono (fun e w' h => ⟨h.1, h.2.symm⟩)
          have HPK := Lib.hid hpk
          clear hpk
          have HBY := Lib.hid (fun w => abytes_any x S w (by omega))
          have hq := x.at_lt K (by omega)
          have hql := AAct.bytes_len x S
          have HQB := Lib.hid (AAct.bytes_isB HOX.out S)
          have HWY := Lib.hid (write_yes HD.out.dev.ok x (by rw [HI.out.fuse]; omega))
          rw [hss, hsb] at HWY
          obtain ⟨nl, hnl⟩ : ∃ nl, nl = x.bytes S := ⟨_, rfl⟩
          obtain ⟨q, hqq⟩ : ∃ q, q = x.at K := ⟨_, rfl⟩
          rw [← hnl] at HBY hql HQB HWY
          rw [← hqq] at HPK hq HWY
          obtain ⟨U, hU⟩ : ∃ U, U = strOfNums nl := ⟨_, rfl⟩
          rw [← hU] at HBY
          have HU := Lib.hid hU
          have sq1 := (HS.out q hq).1
          have sq2 := (HS.out q hq).2
          have i1 : (0 : Int) ≤ (q : Int) := by omega
          have i2 : (q : Int) < (K : Int) := by omega
          have hnewL := linv_write HI.out q nl hql HQB.out (by omega)
          have HI2 := Lib.hid hnewL.1
          have HO2 := Lib.hid hnewL.2
          have HQL := Lib.hid hql
          clear hax hok hx hnl hqq hU hnewL hql hBl
          go_wp2_with fail
          go_quiet ((go_at_call 26; exact Calls.quiet_of_same (HPK.out _)))
          go_wp2_with fail
          have HD6 := Lib.hid (HD.out.go (Turn.drewN wr nq nowhere))
          have HS6 : Hid (SArr (wr.drewN nq) Lb K L) := Lib.hid (HS.out.turn (Turn.drewN wr nq nowhere) id HLT.out)
          have hl6 : Lb < (wr.drewN nq).heap.size := HLT.out
          clear a0 a1 a2 a3 a4 a5 g0r g1r sq1 sq2 HD HS HLT
          generalize wr.drewN nq = w6 at *
          obtain ⟨a0, a1, a2, a3, a4, a5⟩ := HAX.out.old HD6.out.turn
          have g0r := HD6.out.turn.cell HG0.out id
          go_region_held3 (fun w' => w'.cell? ⟨B, O + k * 6, none⟩ = some (.int .i64 x.kind) ∧ w'.cell? ⟨B, O + k * 6 + 1, none⟩ = some (.int .i64 x.block) ∧ w'.cell? ⟨B, O + k * 6 + 2, none⟩ = some (.int .u8 x.b) ∧ w'.cell? ⟨B, O + k * 6 + 3, none⟩ = some (.int .i64 x.n) ∧ w'.cell? ⟨B, O + k * 6 + 4, none⟩ = some (.int .u32 (x.mask : Int)) ∧ w'.cell? ⟨B, O + k * 6 + 5, none⟩ = some (.slice x.pa x.pn x.pc) ∧ w'.cell? ⟨w.heap.size, 0, none⟩ = some (.int .i64 (S : Int))) (go_keep)
            (first
              | (go_at_call 27
                 refine (HBY.out _).mono ?_
                 rintro e w7 ⟨rfl, t7⟩
                 have e0 := t7.cell (p := ⟨B, O + k * 6, none⟩) (by exact a0) id
                 have e1 := t7.cell (p := ⟨B, O + k * 6 + 1, none⟩) (by exact a1) id
                 have e2 := t7.cell (p := ⟨B, O + k * 6 + 2, none⟩) (by exact a2) id
                 have e3 := t7.cell (p := ⟨B, O + k * 6 + 3, none⟩) (by exact a3) id
                 have e4 := t7.cell (p := ⟨B, O + k * 6 + 4, none⟩) (by exact a4) id
                 have e5 := t7.cell (p := ⟨B, O + k * 6 + 5, none⟩) (by exact a5) id
                 have e6 := t7.cell (p := ⟨w.heap.size, 0, none⟩) (by exact g0r) id
                 have T7 : Hid (Turn w6 w7 nowhere) := Lib.hid ((Turn.drew w6 nowhere).trans t7 (fun _ _ h => h))
                 have HS7 := Lib.hid (HS6.out.turn T7.out id hl6)
                 have s1 := (HS7.out q hq).1
                 have s2 := (HS7.out q hq).2)
              | fail)
          have hs3 : (w7.setCell ⟨Lb, q, none⟩ (.string U)).cell? ⟨Lb, q, none⟩ = some (.string U) := World.cell?_setCell_same _ _ _ s1
          have HD8 : Hid (Held w1 (w7.setCell ⟨Lb, q, none⟩ (.string U)) g b P s) := Lib.hid ((HD6.out.go T7.out).turnS (Turn.setCell w7 ⟨Lb, q, none⟩ (.string U) (S := (· = Lb)) rfl) (fun i hi e => HDL.out i hi e) (fun i hi e => by omega))
          have HS8 : Hid (SArr (w7.setCell ⟨Lb, q, none⟩ (.string U)) Lb K (fun i => if i = q then nl else L i)) := Lib.hid (by rw [HU.out]; exact HS7.out.set q hq nl)
          have hl8 : Lb < (w7.setCell ⟨Lb, q, none⟩ (.string U)).heap.size := World.block_lt_of_cell? _ _ hs3
          clear s1 s2 e0 e1 e2 e3 e4 e5 e6 T7 HS7 a0 a1 a2 a3 a4 a5 g0r HD6 HS6 hl6
          generalize w7.setCell ⟨Lb, q, none⟩ (.string U) = w8 at *
          have HWR : Hid (Calls Tryd.prog 13 #[.pointer (some ⟨g, 0, none⟩), .int .i64 (q : Int), .string U] w8 (Wrote g b P (0, { s.burn with pend := s.pend ++ [(q, nl)] }) w8)) := Lib.hid (by
            rw [HU.out, ← HWY.out]
            exact write_any g b P s _ _ w8 HD8.out.dev HQB.out (by rw [HQL.out]; omega) (by omega) (by omega))
          go_wp2_with fail
          refine HWR.out.mono ?_
          intro e w9 hx9
          obtain ⟨P9, rfl, hd9, ht9, hgr9⟩ := HD8.out.wrote hx9
          have HD9 := Lib.hid hd9
          have HS9 : Hid (SArr w9 Lb K (fun i => if i = q then nl else L i)) := Lib.hid (HS8.out.turn ht9 (fun hf => HDL.out Lb hf rfl) hl8)
          have HDL9 : Hid (∀ i, fp g b P9 i → i ≠ Lb) := Lib.hid (fun i hi e => by
            rcases hgr9 i hi with h1 | h1
            · exact HDL.out i h1 e
            · omega)
          have HLT9 : Hid (Lb < w9.heap.size) := Lib.hid (Nat.lt_of_lt_of_le hl8 ht9.size)
          have a0 := (HAX.out.old hd9.turn).c0
          clear hx9 hd9 ht9 hgr9 HD8 HS8 HWR HPK HBY hs3 hl8 hsp
          dsimp only
          cases hk4 : (x.kind.tmod 4 == 3) with
          | false =>
            go_wp2
            go_roundw
            case rel => exact ⟨k + 1, P9, _, _, by omega, by go_num, HD9, HS9, HI2, HDL9, HLT9⟩
            case measure => simp [intOf]; omega
          | true =>
            have hff : ({ s.burn with pend := s.pend ++ [(q, nl)] } : St).fuse ≠ 0 := by rw [HI2.out.fuse]; omega
            have hfl : ({ s.burn with pend := s.pend ++ [(q, nl)] } : St).flush.1 = 0 := by unfold St.flush; rw [if_neg hff]
            have HI3 := Lib.hid (linv_flush HI2.out HD9.out.dev.ok (by have := HO2.out; exact (by show s.ops + 1 ≤ _; omega)) (by omega))
            go_wp2_with fail
            refine (flush_any g b P9 _ w9 HD9.out.dev (by show s.ops + 1 < _; omega)).mono ?_
            intro e w10 hx10
            obtain ⟨P10, rfl, hd10, ht10, hgr10⟩ := HD9.out.wrote hx10
            rw [hfl]
            have HD10 := Lib.hid hd10
            have HS10 : Hid (SArr w10 Lb K (fun i => if i = q then nl else L i)) := Lib.hid (HS9.out.turn ht10 (fun hf => HDL9.out Lb hf rfl) HLT9.out)
            have HDL10 : Hid (∀ i, fp g b P10 i → i ≠ Lb) := Lib.hid (fun i hi e => by
              rcases hgr10 i hi with h1 | h1
              · exact HDL9.out i h1 e
              · have := HLT9.out; omega)
            have HLT10 : Hid (Lb < w10.heap.size) := Lib.hid (Nat.lt_of_lt_of_le HLT9.out ht10.size)
            clear hx10 hd10 ht10 hgr10 hff hfl
            dsimp only
            go_wp2
            go_roundw
            case rel => exact ⟨k + 1, P10, _, _, by omega, by go_num, HD10, HS10, HI3, HDL10, HLT10⟩
            case measure => simp [intOf]; omega
        · obtain rfl : k = n := by omega
          clear hkn
          obtain ⟨ww, hww⟩ : ∃ ww, ww = wr := ⟨_, rfl⟩
          subst hww
          have hs1 := HI.out.size
          have hs2 := HI.out.blocks
          have hs3 := HI.out.pend
          have hs4 := HI.out.ops
          obtain ⟨N, hN⟩ : ∃ N, N = s.pend.length := ⟨_, rfl⟩
          rw [← hN] at hs3
          have HN := Lib.hid hN
          have HPE := Lib.hid (fun W (t : Turn ww W nowhere) => (by have := pending_any g b P s W (HD.out.go t).dev; rwa [← hN] at this : Calls Tryd.prog 21 #[.pointer (some ⟨g, 0, none⟩)] W (NewW W N s.pend)))
          have HO0 : Hid (ww.ownsRow ww.heap.size 36 2 (.slice none 0 0) 0 (prow (allPicks s 0))) := Lib.hid (World.ownsRow_nil _ _ _ _)
          have HTR0 : Hid (Turn ww ww nowhere) := Lib.hid (Turn.refl _ _)
          obtain ⟨i0, hi, hz0, hz1, hz2⟩ := info_parts info_pick
          have g0r := HD.out.turn.cell HG0.out id
          have HGR := Lib.hid (fun W (t : Turn ww W nowhere) => t.cell g0r id)
          obtain ⟨FV, hFV⟩ : ∃ FV : Nat, FV = 2 ^ (S / 64) - 1 := ⟨_, rfl⟩
          have hsh : IntKind.u64.wrap (IntKind.u64.wrap (2 ^ (S / 64)) - 1) = (FV : Int) := by
            rw [hFV]
            have hz : S / 64 ≤ 8 := by omega
            generalize S / 64 = z at hz
            match z, hz with
            | 0, _ => rfl
            | 1, _ => rfl
            | 2, _ => rfl
            | 3, _ => rfl
            | 4, _ => rfl
            | 5, _ => rfl
            | 6, _ => rfl
            | 7, _ => rfl
            | 8, _ => rfl
          have HFV := Lib.hid hFV
          clear hN g0r hFV
          go_wp2
          go_loopw [10, 11] (fun av iv wq => ∃ k : Nat, k ≤ N ∧ iv = .int .i64 (k : Int) ∧ Hid (Turn ww wq nowhere) ∧ Hid (wq.ownsRow ww.heap.size 36 2 av k (prow (allPicks s k)))) (fun _ iv _ => N - (intOf iv).toNat)
          case atStart => exact ⟨0, Nat.zero_le _, rfl, HTR0, HO0⟩
          case round =>
            clear HTR0 HO0
            obtain ⟨j, hj, rfl, HT, HO⟩ := hrel
            go_wp2_with fail
            refine (HPE.out _ HT.out).mono ?_
            rintro e wp ⟨wa, wc, rfl, _, _, tp⟩
            have HTP : Hid (Turn ww wp nowhere) := Lib.hid (HT.out.trans tp (fun _ _ h => h))
            have HOP : Hid (wp.ownsRow ww.heap.size 36 2 u10 j (prow (allPicks s j))) := Lib.hid (by
              exact own_turnB HO.out tp (fun _ _ => id))
            clear tp HT HO
            dsimp only
            by_cases hjN : j < N
            · have g0q := HGR.out _ HTP.out
              have HNX : Hid (prow (allPicks s j) ++ [.int .i64 (j : Int), .int .u64 (FV : Int)] = prow (allPicks s (j + 1))) := Lib.hid (by
                unfold allPicks prow
                rw [List.range_succ, List.map_append, List.flatMap_append, HFV.out, ← hs1]
                rfl)
              go_wp2_with (first
                | (at_builtin
                   refine wpList_append_own_at _ rfl (.tmp 93) (.tmp 102) 37 rfl ww.heap.size 36 i0 (.agg #[.int .i64 0, .int .u64 0]) 2 16 Tryd.underlying37 hi hz0 hz1 hz2 rfl (by omega) u10 j (prow (allPicks s j)) (by rfl) (own_turnB HOP.out (Turn.alloc wp (.cells #[.int .i64 (j : Int), .int .u64 (FV : Int)] 36) nowhere) (fun _ _ => id)) ⟨wp.heap.size, 0, none⟩ 1 1 [.int .i64 (j : Int), .int .u64 (FV : Int)] (by rfl) rfl (by intro j u hu; rw [Addr.add_lit, cell_of_row _ _ _ _ _ _ (heap_alloc_new _ _), Nat.zero_add]; simpa using hu) (by simp [Value.oneCell']) (by unfold maxLen; omega) (by omega) (by rw [World.size_alloc]; have := HTP.out.size; omega) ?_
                   intro v' w' hown hgrow hnil hat)
                | fail)
              have HT7 : Hid (Turn ww w' nowhere) := Lib.hid ((HTP.out.trans (Turn.alloc wp (.cells #[.int .i64 (j : Int), .int .u64 (FV : Int)] 36) nowhere) (fun _ _ h => h)).trans (Turn.of_grown hgrow (S := fun i => u10.ownBlock = some i) (fun i hi _ => hi)) (fun i hi e => by have := (HOP.out.lt i e).1; omega))
              have HO7 : Hid (w'.ownsRow ww.heap.size 36 2 v' (j + 1) (prow (allPicks s (j + 1)))) := Lib.hid (by rw [← HNX.out]; exact hown)
              clear hown hgrow hnil hat HTP HOP HNX
              go_roundw
              case rel => exact ⟨j + 1, by omega, by go_num, HT7, HO7⟩
              case measure => simp [intOf]; omega
            · obtain rfl : j = N := by omega
              have hps := PSeg.own HOP.out (fun p hp => by
                obtain ⟨i, hi, rfl⟩ := List.mem_map.1 hp
                have hi := List.mem_range.1 hi
                have hz : S / 64 ≤ 8 := by omega
                have h2 : 2 ^ (s.size / 64) ≤ 2 ^ 8 := Nat.pow_le_pow_right (by decide) (by rw [hs1]; exact hz)
                refine ⟨by show (-9223372036854775808 : Int) ≤ (i : Int); omega, by show (i : Int) ≤ 9223372036854775807; omega, ?_⟩
                show 2 ^ (s.size / 64) - 1 < 18446744073709551616
                omega)
              obtain ⟨pa, pc, rfl, hps⟩ := hps
              have hdp := HD.out.go HTP.out
              have HCR := Lib.hid (crash_yes g b P s pa j pc (allPicks s j) wp hdp.dev hps (by rw [HN.out]; exact all_ok s) (HT1.out.held hdp))
              have HPR := Lib.hid hdp
              clear hps hdp hjN
              go_wp2_with fail
              refine HCR.out.mono ?_
              intro e w11 hx
              obtain ⟨g', b', rfl, hc11, _, t11⟩ := held_crash HPR.out.turn hx
              obtain ⟨cs, hcs⟩ : ∃ cs, cs = s.crash (allPicks s j) := ⟨_, rfl⟩
              rw [← hcs] at hc11
              rw [HN.out] at hcs
              have HTW : Hid (Two w1 w11 g b P s g' b' (.slice none 0 0) cs) := Lib.hid (Two.start HPR.out t11 hc11)
              have HCS := Lib.hid hcs
              have HT11 : Hid (Turn ww w11 nowhere) := Lib.hid (HTP.out.trans t11 (fun _ _ h => h))
              have HG1R := Lib.hid (fun W (t : Turn w1 W nowhere) => t.cell HG1.out id)
              clear hx hc11 t11 hcs HCR HPR HTP HOP
              dsimp only
              go_wp2
              go_loopw [14] (fun iv wq => ∃ m : Nat, m ≤ K ∧ iv = .int .i64 (m : Int) ∧ Hid (Turn ww wq nowhere) ∧ Hid (Two w1 wq g b P s g' b' (.slice none 0 0) cs)) (fun iv _ => K - (intOf iv).toNat)
              case atStart => exact ⟨0, Nat.zero_le _, rfl, HT11, HTW⟩
              case round =>
                clear HT11 HTW
                obtain ⟨m, hm, rfl, HT, HTW⟩ := hrel
                have g1q := HG1R.out _ HTW.out.d.turn
                by_cases hmK : m < K
                · have hsq := (HS.out.turn HT.out id HLT.out) m hmK
                  have s1 := hsq.1
                  obtain ⟨wt, hwt⟩ : ∃ wt, wt = (if L m = [] then rep S 0 else L m) := ⟨_, rfl⟩
                  have hlm := HI.out.last m hmK
                  rw [← hwt] at hlm
                  have hr1 : s.read (m : Int) = (wt, 0) := by rw [← hlm]; exact read_is s m (by rw [hs2]; exact hmK)
                  have hr2 : cs.read (m : Int) = (wt, 0) := by
                    rw [← hlm, ← crash_last s HD.out.dev.ok m (by rw [hs2]; exact hmK), ← HCS.out]
                    exact read_is cs m (by rw [HCS.out]; show m < s.blocks; rw [hs2]; exact hmK)
                  obtain ⟨V, hV⟩ : ∃ V, V = strOfNums (L m) := ⟨_, rfl⟩
                  rw [← hV] at s1
                  have q0 : (0 : Int) ≤ (m : Int) := by omega
                  have q1 : (m : Int) < (K : Int) := by omega
                  obtain ⟨X, hX⟩ : ∃ X, X = strOfNums wt := ⟨_, rfl⟩
                  have HRD1 := Lib.hid (fun W (t : Turn _ W nowhere) => (by have := read_any g b P s (m : Int) W (HTW.out.go t).d.dev; rwa [hr1, ← hX] at this : Calls Tryd.prog 16 #[.pointer (some ⟨g, 0, none⟩), .int .i64 (m : Int)] W fun e w' => e = .returned (.tuple #[.string X, .int .i64 0]) ∧ Turn W w' nowhere))
                  have HRD2 := Lib.hid (fun W (t : Turn _ W nowhere) => (by have := read_any g' b' _ cs (m : Int) W (HTW.out.go t).c.dev; rwa [hr2, ← hX] at this : Calls Tryd.prog 16 #[.pointer (some ⟨g', 0, none⟩), .int .i64 (m : Int)] W fun e w' => e = .returned (.tuple #[.string X, .int .i64 0]) ∧ Turn W w' nowhere))
                  have g0q := HG0.out
                  have g0q := HTW.out.d.turn.cell HG0.out id
                  by_cases hLm : L m = []
                  · have hXr : X = strep S 0 := by rw [hX, hwt, if_pos hLm]; rfl
                    have hVe : V = ⟨#[]⟩ := by rw [hV, hLm]; rfl
                    rw [hVe] at s1
                    have HFU := Lib.hid (fun w => full_any 0 S w (by omega))
                    rw [← hXr] at HFU
                    clear hsq hlm hr1 hr2 hV hX hwt hXr hVe hLm
                    go_wp2_with fail
                    refine (HFU.out _).mono ?_
                    rintro e w12 ⟨rfl, rfl⟩
                    go_wp2_with fail
                    refine (HRD1.out _ (Turn.refl _ _)).mono ?_
                    rintro e w12 ⟨rfl, t12⟩
                    go_wp2_with fail
                    refine (HRD2.out _ t12).mono ?_
                    rintro e w13 ⟨rfl, t13⟩
                    have HT13 : Hid (Turn ww w13 nowhere) := Lib.hid ((HT.out.trans t12 (fun _ _ h => h)).trans t13 (fun _ _ h => h))
                    have HTW13 := Lib.hid ((HTW.out.go t12).go t13)
                    clear t12 t13 HRD1 HRD2
                    go_wp2
                    go_roundw
                    case rel => exact ⟨m + 1, by omega, by go_num, HT13, HTW13⟩
                    case measure => simp [intOf]; omega
                  · have hXr : X = V := by rw [hX, hV, hwt, if_neg hLm]
                    have hVn : ¬ V.toList = [] := by
                      rw [Go.ByteArray.toList_eq, hV]
                      intro e
                      have h1 : (strOfNums (L m)).size = (L m).length := strOfNums_size _
                      have h2 : (strOfNums (L m)).data.toList.length = (strOfNums (L m)).size := rfl
                      rw [e] at h2
                      apply hLm
                      apply List.eq_nil_of_length_eq_zero
                      rw [← h1, ← h2]
                      rfl
                    have hVe : V.toList.isEmpty = false := List.isEmpty_eq_false_iff.2 hVn
                    rw [hXr] at HRD1 HRD2
                    clear hVn hsq hlm hr1 hr2 hV hX hwt hXr hLm
                    go_wp2_with fail
                    refine (HRD1.out _ (Turn.refl _ _)).mono ?_
                    rintro e w12 ⟨rfl, t12⟩
                    go_wp2_with fail
                    refine (HRD2.out _ t12).mono ?_
                    rintro e w13 ⟨rfl, t13⟩
                    have HT13 : Hid (Turn ww w13 nowhere) := Lib.hid ((HT.out.trans t12 (fun _ _ h => h)).trans t13 (fun _ _ h => h))
                    have HTW13 := Lib.hid ((HTW.out.go t12).go t13)
                    clear t12 t13 HRD1 HRD2
                    go_wp2
                    go_roundw
                    case rel => exact ⟨m + 1, by omega, by go_num, HT13, HTW13⟩
                    case measure => simp [intOf]; omega
                · obtain rfl : m = K := by omega
                  have hf : s.fuse ≠ 0 := by rw [HI.out.fuse]; omega
                  have HIM := Lib.hid (crash_image s HD.out.dev.ok hf)
                  rw [← HCS.out] at HIM
                  go_wp2_with fail
                  refine (flush_any g b P s _ HTW.out.d.dev (by omega)).mono ?_
                  intro e w13 hx
                  obtain ⟨P13, rfl, htw⟩ := HTW.out.wrote hx
                  have HT13 := Lib.hid htw
                  have HI1 := Lib.hid (image_any g b P13 _ w13 htw.d.dev)
                  have HI2 := Lib.hid (image_any g' b' _ cs w13 htw.c.dev)
                  rw [HIM.out] at HI2
                  have HFF := Lib.hid (HF.out w13 htw.d.turn)
                  clear hx htw
                  try dsimp only
                  go_wp2_with fail
                  refine HI1.out.mono ?_
                  rintro e w14 ⟨rfl, rfl⟩
                  go_wp2_with fail
                  refine HI2.out.mono ?_
                  rintro e w14 ⟨rfl, rfl⟩
                  go_wp2
                  go_ret
                  exact ⟨by simp, HFF.out⟩
    · have HF4 := Lib.hid (HF.out w4 HD4.out.turn)
      cases hl : LightS (S : Int) (K : Int) with
      | false =>
        go_wp2
        go_ret
        exact ⟨rfl, HF4.out⟩
      | true =>
        have h40' : decide ((40 : Int) < (n : Int)) = true := decide_eq_true (by
          have h41 : ¬ n ≤ 40 := fun h => hlt ⟨hl, h⟩
          omega)
        go_wp2
        go_ret
        exact ⟨rfl, HF4.out⟩
end Go.Proofs.YtjhcjnalomdbnaaDoor.Dv
