/-
  What the program's and the document's functions do, in memory and as plain functions: NuPlaces.
-/
import Derived.Maps.AppendAt
import Derived.Test.YtljanfnhmhimiaaGreatSmM

namespace Go.Proofs.YtljanfnhmhimiaaGreat.Nu
open Go.RowKit Go.Shelf
open Dv (Turn nowhere)
open Pk (Kept Turn.then)

attribute [local go_sem] Oper.semAt_some

theorem info_int : (Tryz.prog.info? 3).map (fun i => (i.zero, i.size, i.bytes)) = some (some (.int .i64 0), 1, 8) := by kernel_rfl
def roomI (S : Nat) : Array Value := madeCells (Value.int .i64 0).cells S
theorem roomI_size (S : Nat) : (roomI S).size = S := size_madeCells _ _
theorem make_roomI (S : Nat) (hS : S ≤ 1000000) (W : World) : (Instr.makeSlice 127 (.int .i64 0) (.int .i64 (S : Int))).run Tryz.prog W = .ok (.slice (some ⟨W.heap.size, 0, none⟩) 0 S) (W.alloc (.cells (roomI S) 3)) := by
  obtain ⟨i0, hi, hz0, hz1, hz2⟩ := info_parts info_int
  have h := run_make (P := Tryz.prog) W 127 3 i0 (.int .i64 0) Tryz.underlying127 hi hz0 .i64 .i64 0 (S : Int) (by omega) (by omega) (by rw [hz2]; omega) (by omega)
  rw [hz1, Int.toNat_natCast, Nat.mul_one] at h
  exact h
theorem below_kept {P : Nat → Prop} {n₀ : Nat} {W W' : World} (h : Below n₀ W W') (hP : ∀ i, P i → i < n₀) : Kept P W W' :=
  ⟨h.os, h.tape, h.output, h.size, fun k _ hn => h.block k (hP k (Classical.not_not.1 hn))⟩

/-- The places of the flags m have been told: the row, its box, the box of the next place. -/
structure Told (w : World) (n : Nat) (m : List Bool) (W : World) : Prop where
  box : Boxed W (w.heap.size + 1) 127 (.slice (some ⟨w.heap.size, 0, none⟩) m.length n)
  row : W.ownsRow w.heap.size 3 1 (.slice (some ⟨w.heap.size, 0, none⟩) m.length n) m.length ((placesF 0 m).map (Value.int .i64))
  next : Boxed W (w.heap.size + 2) 3 (.int .i64 (nextP m : Int))
  below : Below w.heap.size w W

theorem told_own (w : World) (n : Nat) (f : Nat → List Bool) (B : Nat) (hB : w.heap.size + 3 ≤ B) : OwnFrom B (fun k W => Told w n (f k) W) := by
  rintro k W W' row ⟨h1, h2, h3, h4⟩ hg hr
  have hne : ∀ i, i < B → some i ≠ row := fun i hi e => by have := (hr i e.symm).1; omega
  exact ⟨h1.kept hg (hne _ (by omega)), h2.kept hg (.inr (hne w.heap.size (by omega))), h3.kept hg (hne _ (by omega)), h4.grown hg h4.size (fun j e => by have := (hr j e).1; omega)⟩
theorem told_append {w W w2 : World} {n : Nat} {m : List Bool} {v : Int} {tmp : Obj} (h : Told w n m W) (hown : w2.ownsRow w.heap.size 3 1 (.slice (some ⟨w.heap.size, 0, none⟩) (m.length + 1) n) (m.length + 1) ((placesF 0 m).map (Value.int .i64) ++ [Value.int .i64 v]))
    (hg : (W.alloc tmp).grownBy w2 (some w.heap.size)) :
    Boxed w2 (w.heap.size + 1) 127 (.slice (some ⟨w.heap.size, 0, none⟩) m.length n) ∧ Boxed w2 (w.heap.size + 2) 3 (.int .i64 (nextP m : Int)) ∧
    (∀ V, Boxed (w2.setCell ⟨w.heap.size + 1, 0, none⟩ V) (w.heap.size + 1) 127 V ∧ (w2.setCell ⟨w.heap.size + 1, 0, none⟩ V).ownsRow w.heap.size 3 1 (.slice (some ⟨w.heap.size, 0, none⟩) (m.length + 1) n) (m.length + 1) ((placesF 0 m).map (Value.int .i64) ++ [Value.int .i64 v]) ∧
      Boxed (w2.setCell ⟨w.heap.size + 1, 0, none⟩ V) (w.heap.size + 2) 3 (.int .i64 (nextP m : Int)) ∧ Below w.heap.size w (w2.setCell ⟨w.heap.size + 1, 0, none⟩ V) ∧ KeepsOthers W (w2.setCell ⟨w.heap.size + 1, 0, none⟩ V)) := by
  have ne : ∀ {i : Nat}, i ≠ w.heap.size → some i ≠ some w.heap.size := fun h e => h (Option.some.inj e)
  have b1 := (h.box.alloc tmp).kept hg (ne (by omega))
  have b2 := (h.next.alloc tmp).kept hg (ne (by omega))
  refine ⟨b1, b2, fun V => ⟨b1.set V, hown.kept (grownBy_setCell' w2 _ V) (.inr (by simp [Value.ownBlock])), b2.other (by omega) V, ?_, ?_⟩⟩
  · exact ((h.below.alloc h.below.size tmp).grown hg (Nat.le_trans h.below.size (by simp)) (fun j e => by cases e; exact Nat.le_refl _)).setCell (p := ⟨w.heap.size + 1, 0, none⟩) (Nat.le_succ _) V
  · refine ((KeepsOthers.alloc W tmp).trans (KeepsOthers.of_grownBy hg fun j o ej hj => ?_)).trans (KeepsOthers.setCell _ _ _)
    cases ej
    rcases (h.row.alloc tmp).2 with ⟨e, _⟩ | ⟨g, cap, cur, e, _, hgb, _⟩
    · cases e
    · cases e; rw [hgb] at hj; cases hj; rfl

theorem told_true {w W w2 : World} {n : Nat} {m M : List Bool} {tmp : Obj} (h : Told w n m W) (hM : M = m ++ [true]) (hown : w2.ownsRow w.heap.size 3 1 (.slice (some ⟨w.heap.size, 0, none⟩) (m.length + 1) n) (m.length + 1) ((placesF 0 m).map (Value.int .i64) ++ [Value.int .i64 (-1)]))
    (hg : (W.alloc tmp).grownBy w2 (some w.heap.size)) : Told w n M (w2.setCell ⟨w.heap.size + 1, 0, none⟩ (.slice (some ⟨w.heap.size, 0, none⟩) (m.length + 1) n)) ∧ KeepsOthers W (w2.setCell ⟨w.heap.size + 1, 0, none⟩ (.slice (some ⟨w.heap.size, 0, none⟩) (m.length + 1) n)) := by
  subst hM
  obtain ⟨v1, v2, v3, v4, v5⟩ := (told_append h hown hg).2.2 (.slice (some ⟨w.heap.size, 0, none⟩) (m.length + 1) n)
  have e : (m ++ [true]).length = m.length + 1 := by simp
  refine ⟨⟨by rw [e]; exact v1, ?_, by rw [nextP_snoc]; exact v3, v4⟩, v5⟩
  rw [e, places_snoc, if_pos rfl, List.map_append]
  exact v2
theorem told_false {w W w2 : World} {n : Nat} {m M : List Bool} {tmp : Obj} (h : Told w n m W) (hM : M = m ++ [false]) (hown : w2.ownsRow w.heap.size 3 1 (.slice (some ⟨w.heap.size, 0, none⟩) (m.length + 1) n) (m.length + 1) ((placesF 0 m).map (Value.int .i64) ++ [Value.int .i64 (nextP m : Int)]))
    (hg : (W.alloc tmp).grownBy w2 (some w.heap.size)) : Told w n M ((w2.setCell ⟨w.heap.size + 1, 0, none⟩ (.slice (some ⟨w.heap.size, 0, none⟩) (m.length + 1) n)).setCell ⟨w.heap.size + 1 + 1, 0, none⟩ (.int .i64 ((nextP m : Int) + 1))) ∧
      KeepsOthers W ((w2.setCell ⟨w.heap.size + 1, 0, none⟩ (.slice (some ⟨w.heap.size, 0, none⟩) (m.length + 1) n)).setCell ⟨w.heap.size + 1 + 1, 0, none⟩ (.int .i64 ((nextP m : Int) + 1))) := by
  subst hM
  obtain ⟨v1, v2, v3, v4, v5⟩ := (told_append h hown hg).2.2 (.slice (some ⟨w.heap.size, 0, none⟩) (m.length + 1) n)
  have e : (m ++ [false]).length = m.length + 1 := by simp
  refine ⟨⟨by rw [e]; exact v1.other (by omega) _, ?_, ?_, v4.setCell (p := ⟨w.heap.size + 1 + 1, 0, none⟩) (Nat.le_add_right _ 2) _⟩, v5.trans (KeepsOthers.setCell _ _ _)⟩
  · rw [e, places_snoc, if_neg (by decide), List.map_append]
    exact v2.kept (grownBy_setCell' _ _ _) (.inr (by simp [Value.ownBlock]; omega))
  · rw [nextP_snoc, if_neg (by decide), Int.natCast_add]
    exact v3.set _
theorem told_round {m : List Bool} {j : Nat} {b : Bool} : m ++ List.replicate (j + 1) b = (m ++ List.replicate j b) ++ [b] := by
  rw [List.append_assoc, ← List.replicate_succ']

set_option maxRecDepth 100000 in
set_option maxHeartbeats 4000000 in
theorem places_any (a : Option Addr) (n c : Nat) (l : List Bool) (w : World) (hs : Bl.Seg w a n c l) (hn : n ≤ 1000000) :
    Calls Tryz.prog 120 #[.slice a n c] w fun e w' => (∃ a' c', e = .returned (.slice a' n c') ∧ w'.ownsRow w.heap.size 3 1 (.slice a' n c') n ((placesF 0 l).map (Value.int .i64))) ∧ Below w.heap.size w w' := by
  obtain ⟨i0, hi, hz0, hz1, hz2⟩ := info_parts info_int
  have hmk := make_roomI n hn
  obtain ⟨W1, hW1⟩ : ∃ W1, (((w.alloc (.cells (roomI n) 3)).alloc (.cells #[.slice (some ⟨w.heap.size, 0, none⟩) 0 n] 127)).alloc (.cells #[.int .i64 0] 3)) = W1 := ⟨_, rfl⟩
  have hT0 : Turn w W1 nowhere := by rw [← hW1]; exact Turn.then (Turn.then (Turn.alloc w _ _) (Turn.alloc _ _ _)) (Turn.alloc _ _ _)
  have HS1 := Lib.hid (bseg_stay hs hT0)
  have HL := Lib.hid hs.len
  have HLt := Lib.hid (bseg_lt hs)
  have hsz : W1.heap.size = w.heap.size + 3 := by rw [← hW1]; simp [World.size_alloc]
  have HT : Hid (Told w n (flagsR ((runsL l).take 0)) W1) := Lib.hid (by
    have e : flagsR ((runsL l).take 0) = [] := rfl
    rw [e, ← hW1]
    have h0 := World.ownsRow_made (base := w.heap.size) (e := 3) (size := 1) w (roomI n) n (Nat.le_refl _) (by unfold maxLen; omega) (by rw [roomI_size, Nat.mul_one])
    have b1 := Boxed.new (w.alloc (.cells (roomI n) 3)) 127 (.slice (some ⟨w.heap.size, 0, none⟩) 0 n)
    have b2 := Boxed.new ((w.alloc (.cells (roomI n) 3)).alloc (.cells #[.slice (some ⟨w.heap.size, 0, none⟩) 0 n] 127)) 3 (.int .i64 0)
    rw [World.size_alloc] at b1
    rw [World.size_alloc, World.size_alloc] at b2
    exact ⟨b1.alloc _, (h0.alloc _).alloc _, b2, (((Below.refl _ w).alloc (Nat.le_refl _) _).alloc (by simp) _).alloc (by simp; omega) _⟩)
  have hmf : ∀ (fn : Fn) (first cap : Array Value) (w : World), (Instr.makeFunc fn first cap).run Tryz.prog w = .ok (.func fn first cap) w := fun _ _ _ _ => rfl
  have HN := Lib.hid hn
  have HW1 := Lib.hid hW1
  clear hs hT0 hn hW1
  refine (callsIn_wide (n := 3)).1 ?_
  refine callsIn_of_wp_marks Tryz.func120 rfl trivial ?_ rfl
  simp only [Tryz.ntmps120, List.size_toArray, List.length_cons, List.length_nil, Nat.reduceAdd, Nat.reduceSub, Array.replicate_succ, Array.replicate_zero, List.push_toArray, List.append_toArray, List.nil_append, List.cons_append]
  gi_wp2
  rw [HW1.out]
  have hPw : ∀ i, blockOf a n i → i < W1.heap.size := fun i hi => by have := HLt.out i hi; omega
  refine wpIn_feeds rfl (by decide) (gf := 135) (first := #[.slice a n c]) (lb := #[]) rfl trivial (enters_of Tryz.func135 (by kernel_rfl) rfl)
    (runs_feeds 2 (by decide) (blockOf a n) a n c l _ HS1.out (fun ad e h0 => ⟨ad, e, h0, rfl⟩) hPw) (Below.refl _ _) (fun h k => Kept.t h k) (Kept.b hPw) (fun _ => rfl)
    (fun k W => Told w n (flagsR ((runsL l).take k)) W) (told_own w n _ _ (by omega)) HT.out
    (fun k => { tmps := #[.slice a n c, undef, .slice none 0 0, .pointer (some ⟨w.heap.size + 1, 0, none⟩), .pointer (some ⟨w.heap.size + 1 + 1, 0, none⟩), .int .i64 (((runsL l).getD k (0, false)).1 : Int), .bool ((runsL l).getD k (0, false)).2, .slice a n c, .int .i64 n, .slice (some ⟨w.heap.size, 0, none⟩) 0 n, .slice a n c, .func (.func 135) #[.slice a n c] #[],
      .int .i64 (((runsL l).getD k (0, false)).1 : Int), .bool ((runsL l).getD k (0, false)).2, undef, undef, undef, undef, undef, undef, undef, undef, undef, undef, undef, undef, undef, undef, undef], defers := [] }) ?assign ?body ?done
  case assign =>
    intro l k W K hK
    unfold encR
    gi_wp2
    exact hK
  case body =>
    rintro y k W hk hT
    obtain ⟨hA, hA2⟩ := flags_at _ _ hk
    have hfl := flags_len _ _ hk
    rw [runs_join, HL.out] at hfl
    obtain ⟨q, hq⟩ : ∃ q, ((runsL l).getD k (0, false)).1 = q := ⟨_, rfl⟩
    obtain ⟨b, hb⟩ : ∃ b, ((runsL l).getD k (0, false)).2 = b := ⟨_, rfl⟩
    obtain ⟨m, hm⟩ : ∃ m, flagsR ((runsL l).take k) = m := ⟨_, rfl⟩
    rw [hq, hb, hm] at hA2
    rw [hq, hm] at hfl
    rw [hm] at hT
    have HA2 := Lib.hid hA2
    have HFl := Lib.hid hfl
    have HT2 : Hid (Told w n (m ++ List.replicate 0 b) W) := Lib.hid (by simpa using hT)
    have HKp : Hid (∀ i, blockOf a n i → i < w.heap.size) := HLt
    rw [hq, hb]
    clear hq hb hm hA hA2 hfl hT hk
    gi_wp2
    gi_loopw [15] (fun sj wr => ∃ j : Nat, j ≤ q ∧ sj = .int .i64 j ∧ Hid (Told w n (m ++ List.replicate j b) wr) ∧ Hid (KeepsOthers W wr)) (fun sj _ => q - (intOf sj).toNat)
    case atStart => exact ⟨0, Nat.zero_le _, rfl, HT2, Lib.hid (KeepsOthers.refl W)⟩
    case round =>
      obtain ⟨j, hj, rfl, HTj, HKj⟩ := hrel
      by_cases hlt : j < q
      · have hML : (m ++ List.replicate j b).length + 1 ≤ n := by
          have := HFl.out
          rw [List.length_append, List.length_replicate]
          omega
        have HR := Lib.hid (told_round (m := m) (j := j) (b := b))
        obtain ⟨M, hM⟩ : ∃ M, m ++ List.replicate j b = M := ⟨_, rfl⟩
        rw [hM] at HTj HR hML
        have hnx : nextP M ≤ 1000000 := by have := HN.out; unfold nextP; omega
        have hw : IntKind.i64.wrap ((nextP M : Int) + 1) = (nextP M : Int) + 1 := by rw [IntKind.wrap_i64]; omega
        have hc1 := HTj.out.box.cell
        have hc2 := HTj.out.next.cell
        have hq6 : q ≤ 1000000 := by have := HFl.out; have := HN.out; omega
        clear hM hnx
        cases b with
        | true =>
          gi_wp2_with (gi_at_builtin; refine wpListIn_append_fits _ rfl _ _ 127 rfl w.heap.size 3 i0 1 Tryz.underlying127 hi hz1 w.heap.size M.length n _ rfl (HTj.out.row.alloc _) ⟨wr.heap.size, 0, none⟩ 1 1 [.int .i64 (-1)] rfl rfl (cell_one_new _ _ _) (by simp [Value.oneCell']) hML ?_; intro w2 hown2 hg2; obtain ⟨hb1, hb2, -⟩ := told_append HTj.out hown2 hg2; have hc3 := hb1.cell; have hf3 := hb1.frozen; have HFn := Lib.hid (told_true HTj.out HR.out hown2 hg2); clear hown2 hg2 hb1 hb2 hc1 hc2)
          go_roundw
          case rel => exact ⟨j + 1, by omega, by go_num, Lib.hid HFn.out.1, Lib.hid (HKj.out.trans HFn.out.2)⟩
          case measure => simp [intOf]; omega
        | false =>
          gi_wp2_with (gi_at_builtin; refine wpListIn_append_fits _ rfl _ _ 127 rfl w.heap.size 3 i0 1 Tryz.underlying127 hi hz1 w.heap.size M.length n _ rfl (HTj.out.row.alloc _) ⟨wr.heap.size, 0, none⟩ 1 1 [.int .i64 (nextP M : Int)] rfl rfl (cell_one_new _ _ _) (by simp [Value.oneCell']) hML ?_; intro w2 hown2 hg2; obtain ⟨hb1, hb2, -⟩ := told_append HTj.out hown2 hg2; have hc3 := hb1.cell; have hf3 := hb1.frozen; have hc4 := hb2.cell; have hf4 := hb2.frozen; have HFn := Lib.hid (told_false HTj.out HR.out hown2 hg2); clear hown2 hg2 hb1 hb2 hc1 hc2)
          go_roundw
          case rel => exact ⟨j + 1, by omega, by go_num, Lib.hid HFn.out.1, Lib.hid (HKj.out.trans HFn.out.2)⟩
          case measure => simp [intOf]; omega
      · obtain rfl : j = q := by omega
        have HB : Hid (Below w.heap.size W wr) := Lib.hid ⟨HTj.out.below.os.trans HT2.out.below.os.symm, HTj.out.below.tape.trans HT2.out.below.tape.symm, HTj.out.below.output.trans HT2.out.below.output.symm, HKj.out.size, fun i hi => (HTj.out.below.block i hi).trans (HT2.out.below.block i hi).symm⟩
        gi_wp2
        exact ⟨HKj.out.from _, below_kept HB.out HKp.out, show Told w n (flagsR ((runsL l).take (k + 1))) wr from by rw [HA2.out]; exact HTj.out⟩
  case done =>
    rintro D W hD hT hK
    rw [List.take_length, runs_join] at hT
    have hc1 := hT.box.cell
    rw [HL.out] at hc1
    have HB : Hid (Below w.heap.size w (W.putObj D (.deferred none))) := Lib.hid (hT.below.trans (belowK_b (w := w) (Nat.le_refl _) W D _ (.deferred none) (by omega) hK rfl rfl))
    have HO : Hid ((W.putObj D (.deferred none)).ownsRow w.heap.size 3 1 (.slice (some ⟨w.heap.size, 0, none⟩) n n) n ((placesF 0 l).map (Value.int .i64))) := Lib.hid (by
      have h := hT.row
      rw [HL.out] at h
      exact ownsRow_putObj h (.deferred none) hK rfl)
    clear hT
    gi_wp2
    refine ⟨by simp, .inl ⟨_, _, rfl, run_takeDeferred hK, ?_⟩⟩
    exact ⟨_, results_tmp rfl _ _ _, ⟨_, _, rfl, HO.out⟩, HB.out⟩
end Go.Proofs.YtljanfnhmhimiaaGreat.Nu
