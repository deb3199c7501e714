/-
  How many flags are true.
-/
import Derived.Test.YtpcilohiokpmnaaNuIter
import Derived.Test.YtpcilohiokpmnaaPkForm
namespace Go.Proofs.Ytpcilohiokpmnaa.Nu
open Go.RowKit Go.Shelf
open Dv (Turn nowhere)
open Pk (Kept Turn.then)

attribute [local go_sem] Oper.semAt_some

/-- the block of a slice that is not empty -/
def blockOf (a : Option Addr) (n : Nat) (i : Nat) : Prop := ∃ ad, a = some ad ∧ 0 < n ∧ i = ad.block
theorem bseg_lt {w : World} {a : Option Addr} {n c : Nat} {l : List Bool} (h : Bl.Seg w a n c l) : ∀ i, blockOf a n i → i < w.heap.size := by
  rintro i ⟨ad, rfl, h0, rfl⟩
  obtain ⟨g, o, e, hc⟩ := h.addr h0
  cases e
  exact World.block_lt_of_cell? w _ (hc 0 h0)
theorem bseg_stay {w w' : World} {a : Option Addr} {n c : Nat} {l : List Bool} (h : Bl.Seg w a n c l) (k : Turn w w' nowhere) : Bl.Seg w' a n c l := h.grown k.grown
theorem bseg_below {w w' : World} {n₀ : Nat} {a : Option Addr} {n c : Nat} {l : List Bool} (h : Bl.Seg w a n c l) (k : Below n₀ w w') (hn : n₀ = w.heap.size) : Bl.Seg w' a n c l := by
  subst hn
  exact bseg_turn h (S := fun i => w.heap.size ≤ i) ⟨k.os, k.tape, k.output, k.size, fun i hi _ => k.block i hi⟩ (fun ad had h0 hS => by
    have := bseg_lt h ad.block ⟨ad, had, h0, rfl⟩
    omega)
/-- how many of the first k runs are true -/
def cntR (l : List Bool) (k : Nat) : Nat := cnt (flagsR ((runsL l).take k))
theorem cntR_zero (l : List Bool) : cntR l 0 = 0 := rfl
theorem cntR_all (l : List Bool) : cntR l (runsL l).length = cnt l := by
  unfold cntR
  rw [List.take_length, runs_join]
theorem cntR_succ (l : List Bool) (k : Nat) (hk : k < (runsL l).length) : cntR l (k + 1) = cntR l k + (if ((runsL l).getD k (0, false)).2 = true then ((runsL l).getD k (0, false)).1 else 0) ∧ cntR l k + ((runsL l).getD k (0, false)).1 ≤ l.length := by
  have h1 := (flags_at _ _ hk).2
  have h2 := flags_len _ _ hk
  rw [runs_join] at h2
  unfold cntR
  have h3 := cnt_le (flagsR ((runsL l).take k))
  rw [h1, cnt_app, cnt_rep]
  exact ⟨rfl, by omega⟩

set_option maxRecDepth 100000 in
set_option maxHeartbeats 4000000 in
theorem count_any (a : Option Addr) (n c : Nat) (l : List Bool) (w : World) (hs : Bl.Seg w a n c l) :
    Calls Try.prog 32 #[.slice a n c] w fun e w' => e = .returned (.int .i64 (cnt l : Int)) ∧ Below w.heap.size w w' := by
  have hcap := hs.cap
  have hle := hs.le
  unfold maxLen at hcap
  have hT0 : Turn w (w.alloc (.cells #[.int .i64 0] 3)) nowhere := Turn.alloc w _ _
  have HS1 := Lib.hid (bseg_stay hs hT0)
  have HL := Lib.hid hs.len
  have HLt := Lib.hid (bseg_lt hs)
  have bB := Boxed.new w 3 (.int .i64 0)
  have HB0 : Hid (Below w.heap.size w (w.alloc (.cells #[.int .i64 0] 3))) := Lib.hid ((Below.refl _ w).alloc (Nat.le_refl _) _)
  have hmf : ∀ (fn : Fn) (first cap : Array Value) (w : World), (Instr.makeFunc fn first cap).run Try.prog w = .ok (.func fn first cap) w := fun _ _ _ _ => rfl
  have HBB := Lib.hid bB
  clear hs hT0 bB
  refine (callsIn_wide (n := 3)).1 ?_
  refine callsIn_of_wp_marks Try.func32 rfl trivial ?_ rfl
  simp only [Try.ntmps32, List.size_toArray, List.length_cons, List.length_nil, Nat.reduceAdd, Nat.reduceSub, Array.replicate_succ, Array.replicate_zero, List.push_toArray, List.append_toArray, List.nil_append, List.cons_append]
  gi_wp2
  have hPw : ∀ i, blockOf a n i → i < (w.alloc (.cells #[.int .i64 0] 3)).heap.size := fun i hi => by have := HLt.out i hi; simp; omega
  refine wpIn_feeds rfl (by decide) (gf := 58) (first := #[.slice a n c]) (lb := #[]) rfl trivial (enters_of Try.func58 (by kernel_rfl) rfl)
    (runs_feeds 2 (by decide) (blockOf a n) a n c l _ HS1.out (fun ad e h0 => ⟨ad, e, h0, rfl⟩) hPw) (Below.refl _ _) (fun h k => Kept.t h k) (Kept.b hPw) (fun _ => rfl)
    (fun k W => Boxed W w.heap.size 3 (.int .i64 (cntR l k : Int)) ∧ Below w.heap.size w W)
    (OwnFrom.and (Own.from (boxed_own w.heap.size 3 (fun k : Nat => .int .i64 (cntR l k : Int))) _) (ownFrom_below (Nat.le_refl _) (by simp)))
    ⟨HBB.out, HB0.out⟩
    (fun k => { tmps := #[.slice a n c, undef, .int .i64 0, .pointer (some ⟨w.heap.size, 0, none⟩), .int .i64 (((runsL l).getD k (0, false)).1 : Int), .bool ((runsL l).getD k (0, false)).2, .slice a n c, .func (.func 58) #[.slice a n c] #[],
      .int .i64 (((runsL l).getD k (0, false)).1 : Int), .bool ((runsL l).getD k (0, false)).2, undef, undef, undef, undef, undef], defers := [] }) ?assign ?body ?done
  case assign =>
    intro l k W K hK
    unfold encR
    gi_wp2
    exact hK
  case body =>
    rintro y k W hk ⟨hbx, hB⟩
    obtain ⟨h1, h2⟩ := cntR_succ l k hk
    rw [HL.out] at h2
    have HB := Lib.hid hB
    have hfin : ∀ W', Boxed W' w.heap.size 3 (.int .i64 (((cntR l k : Nat) : Int) + (if ((runsL l).getD k (0, false)).2 = true then (((runsL l).getD k (0, false)).1 : Int) else 0))) → Boxed W' w.heap.size 3 (.int .i64 (cntR l (k + 1) : Int)) := fun W' h => by
      rw [h1]
      revert h
      split <;> intro h
      · rw [Int.natCast_add]; exact h
      · simpa using h
    have HFin := Lib.hid hfin
    have hc1 := hbx.cell
    have hf1 := hbx.frozen
    have HBx := Lib.hid hbx
    have HKp : Hid (¬ blockOf a n w.heap.size) := Lib.hid (fun h => by have := HLt.out _ h; omega)
    clear h1 hfin hB hbx
    obtain ⟨z, hz⟩ : ∃ z, cntR l k = z := ⟨_, rfl⟩
    obtain ⟨q, hq⟩ : ∃ q, ((runsL l).getD k (0, false)).1 = q := ⟨_, rfl⟩
    obtain ⟨b, hb⟩ : ∃ b, ((runsL l).getD k (0, false)).2 = b := ⟨_, rfl⟩
    rw [hz, hq, hb] at HFin
    rw [hz, hq] at h2
    rw [hz] at hc1 HBx
    rw [hq, hb]
    clear hz hq hb
    have hw : IntKind.i64.wrap ((z : Int) + (q : Int)) = (z : Int) + (q : Int) := by rw [IntKind.wrap_i64]; omega
    cases b with
    | true =>
      gi_wp2
      exact ⟨(KeepsOthers.setCell _ _ _).from _, Turn.setCell W ⟨w.heap.size, 0, none⟩ _ (fun h => HKp.out h), HFin.out _ (HBx.out.set _), HB.out.setCell (p := ⟨w.heap.size, 0, none⟩) (Nat.le_refl _) _⟩
    | false =>
      gi_wp2
      exact ⟨KeepsFrom.refl _ _, Turn.refl _ _, HFin.out _ (by simpa using HBx.out), HB.out⟩
  case done =>
    rintro D W hD ⟨hbx, hB⟩ hK
    rw [cntR_all] at hbx
    have hc1 := hbx.cell
    have HB : Hid (Below w.heap.size w (W.putObj D (.deferred none))) := Lib.hid (hB.trans (belowK_b (w := w) (Nat.le_refl _) W D _ (.deferred none) (by simp at hD; omega) hK rfl rfl))
    clear hbx hB
    gi_wp2
    refine ⟨by simp, .inl ⟨_, _, rfl, run_takeDeferred hK, ?_⟩⟩
    exact ⟨_, results_tmp rfl _ _ _, rfl, HB.out⟩
end Go.Proofs.Ytpcilohiokpmnaa.Nu
