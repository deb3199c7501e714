/-
  A column as runs: putRuns.
-/
import Derived.Test.YteolpjlpjjjchaaInCut
namespace Go.Proofs.Yteolpjlpjjjchaa.In
open Go.RowKit Go.Joins
open Is (IsI)
open Bs (info_u8)
open Ref1 (GrowB)
open Oct (varB)

/-- Bytes handed back, wherever they lie. -/
def PartX (w : World) (B : List Int) (e : Ending) (w' : World) : Prop :=
  ∃ a m k, e = .returned (.slice a m k) ∧ m = B.length ∧ Bs.Seg w' a m k B ∧ Below w.heap.size w w' ∧ ∀ ad, a = some ad → w.heap.size ≤ ad.block
theorem part_grow {w w' : World} {B : List Int} {n : Nat} {e : Ending} (h : GrowB w.heap.size w B n e w') : PartX w B e w' := by
  obtain ⟨g, c, he, hown, hb⟩ := h
  have hs := Bs.Seg.own hown
  exact ⟨_, n, c, he, hs.len.symm, hs, hb, fun ad e => by cases e; exact (hown.lt _ rfl).1⟩
theorem part_own {w w' : World} {B : List Int} {n : Nat} {V : Value} (ho : w'.ownsRow w.heap.size 5 1 V n (B.map (Value.int .u8))) (hb : Below w.heap.size w w') : PartX w B (.returned V) w' := by
  rcases ownsRow_forms ho with ⟨rfl, rfl⟩ | ⟨g, c, rfl⟩
  · have : B = [] := by have := ho.1; simp at this; exact this
    subst this
    exact ⟨none, 0, 0, rfl, rfl, Bs.Seg.nil w', hb, fun _ e => by cases e⟩
  · have hs := Bs.Seg.own ho
    exact ⟨_, n, c, rfl, hs.len.symm, hs, hb, fun ad e => by cases e; exact (ho.lt _ rfl).1⟩

set_option maxHeartbeats 400000 in
theorem cut_nil (a : Option Addr) (c : Nat) (w : World) :
    Calls Try.prog 62 #[.slice a 0 c] w fun e w' => e = .returned (.slice none 0 0) ∧ w = w' := by
  go_enter Try.func62, Try.ntmps62
  go_wp2
  go_step3
  go_wp2
  go_step3
  go_wp2
  go_loopg [0, 3] 0 (fun gh sl sa wx => sl = .slice a 0 c ∧ sa = .slice none 0 0 ∧ wx = w)
  case atStart => exact ⟨rfl, rfl, rfl⟩
  case round =>
    obtain ⟨rfl, rfl, rfl⟩ := hrel
    go_wp2
    try rw [Exit.noGoto_ret]
    go_ret
    exact ⟨rfl, rfl⟩

theorem putRuns_nil (a : Option Addr) (c : Nat) (w : World) :
    Calls Try.prog 51 #[.slice a 0 c] w (PartX w (runsB [])) := by
  have H := Lib.hid (cut_nil a c w)
  have HF : Hid (PartX w (runsB []) (.returned (.slice none 0 0)) w) := Lib.hid ⟨none, 0, 0, rfl, rfl, Bs.Seg.nil w, Below.refl _ _, fun _ e => by cases e⟩
  go_enter Try.func51, Try.ntmps51
  go_wp2_with fail
  refine H.out.mono ?_
  rintro e w' ⟨rfl, rfl⟩
  dsimp only
  go_wp2
  refine wp_loop_rounds 1 ?_
  rw [rounds_succ]
  go_wp2
  go_ret
  exact HF.out

theorem pairs_take (ds : List Run) (k : Nat) (d : Run) (h : ds[k]? = some d) : bytesR ((ds.take (k + 1)).map Run.pair) = bytesR ((ds.take k).map Run.pair) ++ varB 9 d.len ++ num8 d.num := by
  rw [List.take_add_one, h, Option.toList_some, List.map_append, List.map_singleton, bytesR_snoc]; rfl
theorem pairs_len (ds : List Run) (k : Nat) (h : ds.length ≤ 65536) : (bytesR ((ds.take k).map Run.pair)).length ≤ 1179648 := by
  have := bytesR_len ((ds.take k).map Run.pair)
  rw [List.length_map, List.length_take] at this
  omega

set_option maxRecDepth 100000 in
set_option maxHeartbeats 2000000 in
theorem putRuns_yes (g o n c : Nat) (l : List Int) (w : World) (hs : Is.Seg w (some ⟨g, o, none⟩) n c l) (hn0 : 0 < n) (hn : n ≤ 65536) :
    Calls Try.prog 51 #[.slice (some ⟨g, o, none⟩) n c] w (PartX w (runsB l)) := by
  obtain ⟨i0, hi, hz0, hz1, hz2⟩ := info_parts info_u8
  have hcap := hs.cap
  have hle := hs.le
  unfold maxLen at hcap
  have HLen := Lib.hid hs.len
  have HSeg := Lib.hid hs
  have HCut := Lib.hid (cut_any g o n c l w hs hn0 hn)
  clear hs
  go_enter Try.func51, Try.ntmps51
  go_wp2_with fail
  refine HCut.out.mono ?_
  rintro e w0 ⟨ds, a', g', c', rfl, hm, hr, ha, hc, hb, hdc, hcm⟩
  unfold maxLen at hcm
  have HM := Lib.hid hm
  have HR := Lib.hid hr
  have HA := Lib.hid ha
  have HC := Lib.hid hc
  have HB0 := Lib.hid hb
  have hdl : ds.length ≤ 65536 := by
    have h1 := congrArg List.length hm
    rw [List.length_map] at h1
    have h2 := rle_len l
    have := HLen.out
    omega
  have HDL := Lib.hid hdl
  obtain ⟨D, hD⟩ : ∃ D, D = ds.length := ⟨_, rfl⟩
  rw [← hD] at hdc hdl HA
  have HD := Lib.hid hD
  have HG : Hid (g < w0.heap.size) := by
    obtain ⟨g2, o2, e2, hc2⟩ := (HSeg.out.grown (Bs.grown_of HB0.out)).addr hn0
    cases e2
    exact Lib.hid (World.block_lt_of_cell? w0 _ (hc2 0 hn0))
  have HW0 : Hid (Below w0.heap.size w0 w0) := Lib.hid (Below.refl _ _)
  rw [← hD]
  clear hm hr ha hc hb hD
  dsimp only
  go_wp2
  go_loopw [3, 9] (fun so si wr => ∃ (k N : Nat) (V : Value), k ≤ D ∧ si = .int .i64 k ∧ V = so ∧ N ≤ 1179648 ∧ Hid (wr.ownsRow w0.heap.size 5 1 V N ((bytesR ((ds.take k).map Run.pair)).map (Value.int .u8))) ∧ Hid (Below w0.heap.size w0 wr))
    (fun _ si _ => D - (intOf si).toNat)
  case atStart => exact ⟨0, 0, _, Nat.zero_le _, rfl, rfl, by decide, Lib.hid (World.ownsRow_nil _ _ _ _), HW0⟩
  case round =>
    obtain ⟨k, N, V, hk, rfl, rfl, hN, HO, HB⟩ := hrel
    by_cases hlt : k < D
    · rcases HA.out with rfl | h0
      · obtain ⟨d, hd⟩ : ∃ d, ds[k]? = some d := ⟨_, List.getElem?_eq_getElem (by have := HD.out; omega)⟩
        have hrow := HC.out k d hd
        have cell0 : wr.cell? ⟨g', k, none⟩ = some (d.val g o c) := (HB.out.cell (p := ⟨g', k, none⟩) (World.block_lt_of_cell? w0 _ hrow)).trans hrow
        obtain ⟨d1, d2, d3⟩ := HR.out d (List.mem_of_getElem? hd)
        have HP := Lib.hid (pairs_take ds k d hd)
        have hlenB := pairs_len ds (k + 1) HDL.out
        obtain ⟨dat, dlen, dnum⟩ := d
        simp only [Run.val] at cell0
        simp only at d1 d2 d3 HP
        have hwl := HLen.out
        have cell1 : wr.cell? ⟨g, o + dat, none⟩ = some (.int .i64 dnum) := by
          have hseg := (HSeg.out.grown (Bs.grown_of HB0.out)).grown (Bs.grown_of HB.out)
          obtain ⟨g2, o2, e2, hc2⟩ := hseg.addr hn0
          cases e2
          rw [hc2 dat (by omega), d3]
        have hdl1 : dlen ≤ 65536 := by omega
        have hdl2 : dlen ≤ c - dat := by omega
        obtain ⟨cd, hcd⟩ : ∃ x, x = c - dat := ⟨_, rfl⟩
        rw [← hcd] at cell0 hdl2
        have hcdb : cd ≤ 2 ^ 63 - 1 := by omega
        have HV := Lib.hid (Oct.putVar_any none 0 0 [] (dlen : Int) wr (Oct.Seg.nil wr) (by omega) (by omega) (by decide))
        have hvl := Oct.varB_le 9 (dlen : Int)
        rw [HP.out, List.length_append, List.length_append, num8_length] at hlenB
        have hNl : N = (bytesR ((ds.take k).map Run.pair)).length := by have := HO.out.1; rw [List.length_map] at this; omega
        have HNl := Lib.hid hNl
        have HHl := Lib.hid hlenB
        clear hrow hd d2 d3 hcd hNl hlenB
        go_wp2_with (first
          | (go_at_call 59; refine HV.out.mono ?_)
          | fail)
        rintro e w1 hnew
        obtain ⟨gv, q, rfl, hf⟩ := hnew.value
        obtain ⟨hq, hown1, hg⟩ := hf.is
        have hs1 := Oct.Seg.own hown1
        have HO1 := Lib.hid (own_grown HO.out hg)
        have hsz := hg.size
        have HB1 := Lib.hid (HB.out.trans (below_grown (B := w0.heap.size) hg HB.out.size))
        have HS1 := Lib.hid (hs1.at_ _ rfl)
        have HL1 : Hid (((varB 9 (dlen : Int)).map (Value.int .u8)).length = q * 1) := Lib.hid (by rw [List.length_map, hq, Nat.mul_one])
        have hqb : q ≤ 10 := by rw [hq]; exact hvl
        have HQ := Lib.hid hq
        have cell2 : w1.cell? ⟨g, o + dat, none⟩ = some (.int .i64 dnum) := hg.cell cell1 (by simp)
        clear hnew hf hown1 hg hs1 hq cell1 cell0 hvl
        have HW1 : Hid (w0.heap.size ≤ w1.heap.size) := Lib.hid HB1.out.size
        have HNE : Hid (some g ≠ V.ownBlock) := Lib.hid (fun e => by
          have h1 := (HO1.out.lt g e.symm).1
          have h2 := HG.out
          omega)
        go_wp2_with (at_builtin; refine wpList_append_own _ rfl (.tmp 13) (.tmp 17) 23 rfl w0.heap.size 5 i0 (.int .u8 0) 1 1 Try.underlying23 hi hz0 hz1 hz2 rfl (by decide) V N ((bytesR ((ds.take k).map Run.pair)).map (Value.int .u8)) rfl HO1.out ⟨gv, 0, none⟩ q q ((varB 9 (dlen : Int)).map (Value.int .u8)) rfl HL1.out HS1.out (ints_oneCell _ _) (by unfold maxLen; omega) (by omega) HW1.out ?_; intro v2 w2 hown2 hgrow2 _; have cell3 : w2.cell? ⟨g, o + dat, none⟩ = some (.int .i64 dnum) := hgrow2.cell cell2 HNE.out)
        have hown2' : w2.ownsRow w0.heap.size 5 1 v2 (N + q) ((bytesR ((ds.take k).map Run.pair) ++ varB 9 (dlen : Int)).map (Value.int .u8)) := by rw [List.map_append]; exact hown2
        have HB2 := Lib.hid (HB1.out.grown hgrow2 HW1.out (fun j e => (HO1.out.lt j e).1))
        have HN := Lib.hid (putNumber_any w0.heap.size v2 (N + q) (bytesR ((ds.take k).map Run.pair) ++ varB 9 (dlen : Int)) dnum w2 hown2' HB2.out.size (by omega))
        clear hown2 hown2' hgrow2 cell2
        go_wp2_with fail
        refine HN.out.mono ?_
        rintro e w3 ⟨g3, c3, rfl, hown3, hbel3⟩
        have HO3 : Hid (w3.ownsRow w0.heap.size 5 1 (.slice (some ⟨g3, 0, none⟩) (N + q + 8) c3) (N + q + 8) ((bytesR ((ds.take (k + 1)).map Run.pair)).map (Value.int .u8))) := Lib.hid (by rw [HP.out]; exact hown3)
        have HB3 := Lib.hid (HB2.out.trans hbel3)
        clear hown3 hbel3
        dsimp only
        go_wp2
        go_roundw
        case rel => exact ⟨k + 1, N + q + 8, _, by omega, by go_num, rfl, by have h1 := HNl.out; have h2 := HHl.out; have h3 := HQ.out; omega, HO3, HB3⟩
        case measure => simp [intOf]; omega
      · omega
    · obtain rfl : k = D := by omega
      have HF : Hid (PartX w (runsB l) (.returned V) wr) := by
        have h1 := HO.out
        rw [List.take_of_length_le (Nat.le_of_eq HD.out.symm), HM.out] at h1
        have hb2 : Below w.heap.size w wr := HB0.out.trans (below_mono HB.out HB0.out.size)
        have h2 : wr.ownsRow w.heap.size 5 1 V N ((runsB l).map (Value.int .u8)) := Bs.ownsRow_mono h1 HB0.out.size
        exact Lib.hid (part_own h2 hb2)
      clear HO HB
      go_wp2
      go_ret
      exact HF.out
end Go.Proofs.Yteolpjlpjjjchaa.In
