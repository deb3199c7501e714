/-
  The device: canPick.
-/
import Derived.Test.YtjhcjnalomdbnaaDoorDevSec
namespace Go.Proofs.YtjhcjnalomdbnaaDoor.Dv
open Go.RowKit Bs

theorem spot_none {w : World} {a : Addr} {v : Value} (h : w.cell? a = some v) : a.spot = none := by
  unfold World.cell? at h
  split at h
  · split at h
    · cases h
    · rename_i h2
      simpa using h2
  · cases h
theorem PSeg.form {w : World} {pa : Option Addr} {n c : Nat} {l : List (Int × Nat)} (h : PSeg w pa n c l) (hn : n ≠ 0) : ∃ B O, pa = some ⟨B, O, none⟩ ∧ ∀ k, k < n → w.cell? ⟨B, O + k * 2, none⟩ = some (.int .i64 (l.getD k (0, 0)).1) ∧ w.cell? ⟨B, O + k * 2 + 1, none⟩ = some (.int .u64 ((l.getD k (0, 0)).2 : Int)) := by
  cases pa with
  | none => exact absurd (h.nil_ rfl).1 hn
  | some ad =>
    have h0 := spot_none (h.at_ ad rfl 0 (by omega)).1
    obtain ⟨B, O, sp⟩ := ad
    have : sp = none := h0
    subst this
    refine ⟨B, O, rfl, fun k hk => ?_⟩
    have h1 := h.at_ _ rfl k hk
    rwa [Addr.add_lit, Addr.add_lit, ← Nat.add_assoc] at h1

def Marks (w : World) (h n : Nat) (f : Nat → Bool) : Prop := ∀ j, j < n → w.cell? ⟨h, j, none⟩ = some (.bool (f j)) ∧ w.frozen? ⟨h, j, none⟩ = false

theorem Marks.turn {w w' : World} {h n : Nat} {f : Nat → Bool} {S : Nat → Prop} (m : Marks w h n f) (k : Turn w w' S) (hS : ¬ S h) (hlt : h < w.heap.size) : Marks w' h n f := fun j hj =>
  ⟨k.cell (m j hj).1 hS, by rw [k.frozen (p := ⟨h, j, none⟩) hlt hS]; exact (m j hj).2⟩

theorem Marks.set {w : World} {h n : Nat} {f : Nat → Bool} (m : Marks w h n f) (j : Nat) (hj : j < n) (b : Bool) : Marks (w.setCell ⟨h, j, none⟩ (.bool b)) h n (fun i => if i = j then b else f i) := fun i hi => by
  have ho := Out.setCell w h 0 n j (.bool b) (Nat.zero_le _) (by omega)
  refine ⟨?_, by rw [ho.frozen]; exact (m i hi).2⟩
  show _ = some (Value.bool (if i = j then b else f i))
  by_cases e : i = j
  · subst e
    rw [if_pos rfl]
    exact World.cell?_setCell_same _ _ _ (m i hi).1
  · rw [if_neg e, World.cell?_setCell_other _ _ _ _ (by intro e2; injection e2 with _ e3; exact e e3.symm)]
    exact (m i hi).1

def picked (l : List (Int × Nat)) (k : Nat) (j : Nat) : Bool := (l.take k).any fun p => p.1 == (j : Int)
theorem picked_zero (l : List (Int × Nat)) (j : Nat) : picked l 0 j = false := by simp [picked]
theorem picked_succ (l : List (Int × Nat)) (k j : Nat) (hk : k < l.length) : picked l (k + 1) j = (picked l k j || ((l.getD k (0, 0)).1 == (j : Int))) := by
  have e : l.getD k (0, 0) = l[k] := by simp [List.getD, hk]
  unfold picked
  rw [e, List.take_succ_eq_append_getElem hk, List.any_append]
  simp
theorem picked_true (l : List (Int × Nat)) (k j : Nat) : picked l k j = true ↔ ∃ i, i < k ∧ i < l.length ∧ (l.getD i (0, 0)).1 = (j : Int) := by
  unfold picked
  rw [List.any_eq_true]
  constructor
  · rintro ⟨x, hx, h⟩
    obtain ⟨i, hi, rfl⟩ := List.mem_iff_getElem.1 hx
    rw [List.length_take] at hi
    refine ⟨i, by omega, by omega, ?_⟩
    rw [List.getElem_take] at h
    have : i < l.length := by omega
    simpa [List.getD, this] using h
  · rintro ⟨i, h1, h2, h3⟩
    refine ⟨l[i], ?_, by simpa [List.getD, h2] using h3⟩
    rw [List.mem_iff_getElem]
    exact ⟨i, by rw [List.length_take]; omega, by rw [List.getElem_take]⟩

/-- The i-th pick is one that may be. -/
def pickAt (s : St) (l : List (Int × Nat)) (i : Nat) : Prop :=
  0 ≤ (l.getD i (0, 0)).1 ∧ (l.getD i (0, 0)).1 < s.pend.length ∧ (l.getD i (0, 0)).2 < 2 ^ (s.size / 64) ∧ ∀ k, k < i → (l.getD k (0, 0)).1 ≠ (l.getD i (0, 0)).1

theorem picksOk_iff (s : St) (l : List (Int × Nat)) : picksOk s l ↔ ∀ i, i < l.length → pickAt s l i := Iff.rfl

/-- May these picks be? -/
def Told (s : St) (l : List (Int × Nat)) (w : World) (e : Ending) (w' : World) : Prop := ∃ ok : Bool, e = .returned (.bool ok) ∧ (ok = true ↔ picksOk s l) ∧ Turn w w' nowhere

theorem Told.drewN {s : St} {l : List (Int × Nat)} {w w' : World} {e : Ending} (h : Told s l w e w') (n : Nat) : Told s l w e (w'.drewN n) := by
  obtain ⟨ok, h1, h2, h3⟩ := h
  exact ⟨ok, h1, h2, h3.trans (Turn.drewN _ _ nowhere) (fun _ _ h => h)⟩

theorem info_bool : (Tryd.prog.info? 4).map (fun i => (i.zero, i.size, i.bytes)) = some (some (.bool false), 1, 1) := by kernel_rfl
theorem make_bools (N : Nat) (hN : N ≤ 100000000) (W : World) : (Instr.makeSlice 87 (.int .i64 (N : Int)) (.int .i64 (N : Int))).run Tryd.prog W = .ok (.slice (some ⟨W.heap.size, 0, none⟩) N N) (W.alloc (.cells (madeCells (Value.bool false).cells N) 4)) := by
  obtain ⟨i0, hi, hz0, hz1, hz2⟩ := info_parts info_bool
  have h := run_make (P := Tryd.prog) W 87 4 i0 (.bool false) Tryd.underlying87 hi hz0 .i64 .i64 (N : Int) (N : Int) (by omega) (by omega) (by rw [hz2]; omega) (by omega)
  rw [hz1, Int.toNat_natCast, Nat.mul_one] at h
  exact h
theorem marks_made (w : World) (N : Nat) : Marks (w.alloc (.cells (madeCells (Value.bool false).cells N) 4)) w.heap.size N (fun _ => false) := fun j hj => by
  have hg := heap_alloc_new w (.cells (madeCells (Value.bool false).cells N) 4)
  have e : (madeCells (Value.bool false).cells N).toList = List.replicate N (.bool false) := toList_madeCells_one _ _
  refine ⟨?_, by unfold World.frozen?; rw [hg]; simp⟩
  rw [cell_of_row _ _ _ _ _ _ hg, ← Array.getElem?_toList, e, List.getElem?_replicate, if_pos hj]

theorem hasBits_ex (x : Nat) (B : Nat) (hB : B ≤ 64) (h : x < 2 ^ B) : ∃ m : Int, HasBits (x : Int) m := by
  induction B with
  | zero => exact ⟨0, by omega, by omega, by simp at h; subst h; simp, fun h => by omega⟩
  | succ B ih =>
    by_cases h1 : x < 2 ^ B
    · exact ih (by omega) h1
    · refine ⟨((B + 1 : Nat) : Int), by omega, by omega, ?_, fun _ => ?_⟩
      · rw [Int.toNat_natCast]
        have : ((2 : Int) ^ (B + 1)) = ((2 ^ (B + 1) : Nat) : Int) := by simp
        rw [this]; omega
      · rw [Int.toNat_natCast, Nat.add_sub_cancel]
        have : ((2 : Int) ^ B) = ((2 ^ B : Nat) : Int) := by simp
        rw [this]; omega
theorem hasBits_one {x n m : Int} (h : HasBits x n) (k : HasBits x m) : n = m := by
  rcases Int.lt_trichotomy n m with h1 | h1 | h1
  · obtain ⟨j, rfl⟩ : ∃ j : Nat, n = (j : Int) := ⟨n.toNat, by have := h.1; omega⟩
    have h2 := (hasBits_gt k j).1 h1
    have h3 := mt (hasBits_gt h j).2 (by omega)
    exact absurd h2 h3
  · exact h1
  · obtain ⟨j, rfl⟩ : ∃ j : Nat, m = (j : Int) := ⟨m.toNat, by have := k.1; omega⟩
    have h2 := (hasBits_gt h j).1 h1
    have h3 := mt (hasBits_gt k j).2 (by omega)
    exact absurd h2 h3

theorem bits_test {x m : Int} (hb : HasBits x m) (n : Nat) (h0 : 0 ≤ x) : decide (((n * 64 : Nat) : Int) / 64 < m) = decide (2 ^ n ≤ x.toNat) := by
  rw [decide_eq_decide, show ((n * 64 : Nat) : Int) / 64 = (n : Int) from by omega, hasBits_gt hb n]
  have : ((2 : Int) ^ n) = ((2 ^ n : Nat) : Int) := by simp
  rw [this]
  omega

theorem len_test (x n : Nat) (hx : x < 18446744073709551616) (d : Bool) (hd : d = decide (2 ^ n ≤ x)) :
    ∃ m, decide (((n * 64 : Nat) : Int) / 64 < m) = d ∧ ∀ w, Calls Tryd.prog 55 #[.int .u64 (x : Int)] w fun e w' => e = .returned (.int .i64 m) ∧ w' = w := by
  obtain ⟨m, hm⟩ := hasBits_ex x 64 (by omega) hx
  refine ⟨m, ?_, fun w => (len64_any (x : Int) w (by omega) (by omega)).mono ?_⟩
  · rw [bits_test hm n (by omega), hd, Int.toNat_natCast]
  · rintro e w' ⟨k, rfl, hb, rfl⟩
    exact ⟨by rw [hasBits_one hb hm], rfl⟩

set_option maxRecDepth 100000 in
set_option maxHeartbeats 2000000 in
theorem can_any (g b : Nat) (P : Value) (s : St) (pa : Option Addr) (n c : Nat) (l : List (Int × Nat)) (w : World) (h : Dev w g b P s) (hp : PSeg w pa n c l) :
    Calls Tryd.prog 45 #[.pointer (some ⟨g, 0, none⟩), .slice pa n c] w (Told s l w) := by
  obtain ⟨c', _, _, q0, q1, q2, q3, q4, q5, q6⟩ := h.cells
  obtain ⟨a, ac, rfl, hac1, hac2, hnil, hat⟩ := own_form h.row
  have hfew := h.ok.few
  have hlo := h.ok.lo
  have hhi := h.ok.hi
  obtain ⟨N, hN⟩ : ∃ N, N = s.pend.length := ⟨_, rfl⟩
  rw [← hN] at q3 hfew
  have hmk := make_bools N (by omega)
  obtain ⟨M, hM⟩ : ∃ M, M = madeCells (Value.bool false).cells N := ⟨_, rfl⟩
  rw [← hM] at hmk
  have HM := Lib.hid (fun W : World => (by rw [hM]; exact marks_made W N : Marks (W.alloc (.cells M 4)) W.heap.size N (fun _ => false)))
  have HN := Lib.hid hN
  have HP := Lib.hid hp
  have hnl := hp.len
  have HNL := Lib.hid hnl
  have hncap := Nat.le_trans hp.le hp.cap
  unfold maxLen at hncap
  have HQ := Lib.hid (show ∀ wr, Turn w wr nowhere → wr.cell? ⟨g, 0, none⟩ = some (.int .i64 (s.size : Int)) from fun wr k => k.cell q0 id)
  have HPN := Lib.hid hp.form
  have HB64 := Lib.hid h.ok.by64
  clear h hac1 hac2 hnil hat hM hN hp hnl
  go_enter Tryd.func45, Tryd.ntmps45
  go_wp2
  have HT0 : Hid (Turn w (w.alloc (.cells M 4)) nowhere) := Lib.hid (Turn.alloc _ _ _)
  have HM0 := Lib.hid (HM.out w)
  go_loopw [16] (fun sv wr => ∃ k : Nat, k ≤ n ∧ sv = .int .i64 (k : Int) ∧ Hid (∀ i, i < k → pickAt s l i) ∧ Hid (Turn w wr nowhere) ∧ Hid (Marks wr w.heap.size N (picked l k)) ∧ Hid (w.heap.size < wr.heap.size)) (fun sv _ => n - (intOf sv).toNat)
  case atStart => exact ⟨0, Nat.zero_le _, rfl, Lib.hid (by omega), HT0, Lib.hid (by rw [show picked l 0 = fun _ => false from funext (picked_zero l)]; exact HM0.out), Lib.hid (by rw [World.size_alloc]; omega)⟩
  case round =>
    obtain ⟨k, hk, rfl, HG, HT, HMK, HLT⟩ := hrel
    by_cases hkn : k < n
    · obtain ⟨B, O, rfl, hat⟩ := HPN.out (by omega)
      obtain ⟨⟨p1, p2⟩, hpq⟩ : ∃ q : Int × Nat, l.getD k (0, 0) = q := ⟨_, rfl⟩
      have hat := hat k hkn
      have hsm := HP.out.small (l.getD k (0, 0)) (by
        have : k < l.length := by rw [HNL.out]; exact hkn
        simp [List.getD, this])
      rw [hpq] at hat hsm
      obtain ⟨hs1, hs2, hs3⟩ := hsm
      have c0 : wr.cell? ⟨B, O + k * 2, none⟩ = some (.int .i64 p1) := HT.out.cell hat.1 id
      have c1 : wr.cell? ⟨B, O + k * 2 + 1, none⟩ = some (.int .u64 (p2 : Int)) := HT.out.cell hat.2 id
      have HNO : Hid (¬ pickAt s l k → Told s l w (.returned (.bool false)) (wr.alloc (.cells #[.int .i64 p1, .int .u64 (p2 : Int)] 36))) := Lib.hid (fun hno => ⟨false, rfl, ⟨(fun e => by cases e), fun hh => absurd ((picksOk_iff s l).1 hh k (by rw [HNL.out]; exact hkn)) hno⟩, HT.out.trans (Turn.alloc _ _ _) (fun _ _ h => h)⟩)
      have HAT : Hid (pickAt s l k ↔ 0 ≤ p1 ∧ p1 < (N : Int) ∧ p2 < 2 ^ (s.size / 64) ∧ ∀ i, i < k → (l.getD i (0, 0)).1 ≠ p1) := Lib.hid (by unfold pickAt; rw [hpq, HN.out])
      have HPQ := Lib.hid hpq
      have p0 : (0 : Int) ≤ (k : Int) := by omega
      have p1' : (k : Int) < (n : Int) := by omega
      have q0' := HQ.out wr HT.out
      clear hpq hat
      by_cases h1 : p1 < 0
      · have HF := Lib.hid (HNO.out (fun h => absurd (HAT.out.1 h).1 (by omega)))
        go_wp2
        go_ret
        exact HF.out
      · obtain ⟨j, rfl⟩ : ∃ j : Nat, p1 = (j : Int) := ⟨p1.toNat, by omega⟩
        by_cases h2 : (N : Int) ≤ (j : Int)
        · have HF := Lib.hid (HNO.out (fun h => absurd (HAT.out.1 h).2.1 (by omega)))
          go_wp2
          go_ret
          exact HF.out
        · have hjN : j < N := by omega
          have hne : w.heap.size ≠ wr.heap.size := Nat.ne_of_lt HLT.out
          have HSZ : Hid (s.size / 64 * 64 = s.size) := Lib.hid (by have := HB64.out; omega)
          cases hm : picked l k j with
          | true =>
            have hmk0 := (HMK.out j hjN).1
            rw [hm] at hmk0
            have hmk1 : ∀ O : Obj, (wr.alloc O).cell? ⟨w.heap.size, j, none⟩ = some (.bool true) := fun O => (Turn.alloc wr O nowhere).cell hmk0 id
            clear hmk0
            have HF := Lib.hid (HNO.out (fun h => by
              obtain ⟨i, hi, _, he⟩ := (picked_true l k j).1 hm
              exact (HAT.out.1 h).2.2.2 i hi he))
            go_wp2
            go_ret
            exact HF.out
          | false =>
            have hmk0 := (HMK.out j hjN).1
            rw [hm] at hmk0
            have hmk1 : ∀ O : Obj, (wr.alloc O).cell? ⟨w.heap.size, j, none⟩ = some (.bool false) := fun O => (Turn.alloc wr O nowhere).cell hmk0 id
            have hmf : ∀ O : Obj, (wr.alloc O).frozen? ⟨w.heap.size, j, none⟩ = false := fun O => by rw [(Turn.alloc wr O nowhere).frozen (p := ⟨w.heap.size, j, none⟩) HLT.out id]; exact (HMK.out j hjN).2
            have q0a : ∀ O : Obj, (wr.alloc O).cell? ⟨g, 0, none⟩ = some (.int .i64 (s.size : Int)) := fun O => (Turn.alloc wr O nowhere).cell q0' id
            clear hmk0
            cases hd : decide (2 ^ (s.size / 64) ≤ p2) with
            | true =>
              have HF := Lib.hid (HNO.out (fun h => absurd (HAT.out.1 h).2.2.1 (by have := of_decide_eq_true hd; omega)))
              obtain ⟨m, hd2, hl2⟩ := len_test p2 (s.size / 64) hs3 true hd.symm
              rw [HSZ.out] at hd2
              have HL := Lib.hid hl2
              clear hl2
              clear hd
              go_wp2_with fail
              go_quiet ((go_at_call 55; exact Calls.quiet_of_same (HL.out _)))
              go_wp2
              go_ret
              exact HF.out.drewN _
            | false =>
              obtain ⟨m, hd2, hl2⟩ := len_test p2 (s.size / 64) hs3 false hd.symm
              rw [HSZ.out] at hd2
              have HL := Lib.hid hl2
              clear hl2
              have HOK : Hid (pickAt s l k) := Lib.hid (HAT.out.2 ⟨by omega, by omega, by have := of_decide_eq_false hd; omega, fun i hi he => by
                have : picked l k j = true := (picked_true l k j).2 ⟨i, hi, by rw [HNL.out]; omega, he⟩
                rw [hm] at this
                cases this⟩)
              have HMS : Hid (∀ i, i < N → picked l (k + 1) i = if i = j then true else picked l k i) := Lib.hid (fun i _ => by
                rw [picked_succ l k i (by rw [HNL.out]; exact hkn), HPQ.out]
                by_cases e : i = j
                · subst e; simp
                · rw [if_neg e]
                  have : ((j : Int) == (i : Int)) = false := beq_eq_false_iff_ne.2 (by omega)
                  simp [this])
              clear hd
              go_wp2_with fail
              go_quiet ((go_at_call 55; exact Calls.quiet_of_same (HL.out _)))
              go_wp2
              have HT4 : Hid (Turn w (((wr.alloc (.cells #[.int .i64 (j : Int), .int .u64 (p2 : Int)] 36)).drewN nq).setCell ⟨w.heap.size, j, none⟩ (.bool true)) nowhere) := Lib.hid
                (((HT.out.trans (Turn.alloc _ _ nowhere) (fun _ _ h => h)).trans (Turn.drewN _ _ nowhere) (fun _ _ h => h)).trans (Turn.setCell _ ⟨w.heap.size, j, none⟩ _ (S := (· = w.heap.size)) rfl) (fun i hi e => by omega))
              have HM4 : Hid (Marks (((wr.alloc (.cells #[.int .i64 (j : Int), .int .u64 (p2 : Int)] 36)).drewN nq).setCell ⟨w.heap.size, j, none⟩ (.bool true)) w.heap.size N (picked l (k + 1))) := Lib.hid (by
                have h1 := ((HMK.out.turn ((Turn.alloc wr (.cells #[.int .i64 (j : Int), .int .u64 (p2 : Int)] 36) nowhere).trans (Turn.drewN _ nq nowhere) (fun _ _ h => h)) id HLT.out).set j hjN true)
                exact fun i hi => by rw [HMS.out i hi]; exact h1 i hi)
              have HL4 : Hid (w.heap.size < (((wr.alloc (.cells #[.int .i64 (j : Int), .int .u64 (p2 : Int)] 36)).drewN nq).setCell ⟨w.heap.size, j, none⟩ (.bool true)).heap.size) := Lib.hid
                (World.block_lt_of_cell? _ ⟨w.heap.size, j, none⟩ (HM4.out j hjN).1)
              have HG4 : Hid (∀ i, i < k + 1 → pickAt s l i) := Lib.hid (fun i hi => by
                by_cases e : i = k
                · subst e; exact HOK.out
                · exact HG.out i (by omega))
              go_roundw
              case rel => exact ⟨k + 1, by omega, by go_num, HG4, HT4, HM4, HL4⟩
              case measure => simp [intOf]; omega
    · obtain rfl : k = n := by omega
      have HF : Hid (Told s l w (.returned (.bool true)) wr) := Lib.hid ⟨true, rfl, by rw [picksOk_iff, HNL.out]; simp; exact HG.out, HT.out⟩
      go_wp2
      go_ret
      exact HF.out
end Go.Proofs.YtjhcjnalomdbnaaDoor.Dv
