/-
  What the program's and the document's functions do, in memory and as plain functions: InCut, InRuns, InPackP, InForms, InEnc, InShort, InPuts, InGetP.
-/
import Derived.Deep.LoopGhost
import Derived.WalkMore
import Derived.Laws.Tables
import Derived.Laws.ResultCell
import Derived.Laws.Rows
import Derived.Test.YtljanfnhmhimiaaGreatSmQ

namespace Go.Proofs.YtljanfnhmhimiaaGreat.In
open Go.RowKit Go.Joins
open Is (IsI)
open Bs (info_u8)
open Ref1 (GrowB)

theorem info_sl : (Tryz.prog.info? 131).map (fun i => (i.zero, i.size, i.bytes)) = some (some (.slice none 0 0), 1, 24) := by kernel_rfl

/-- a run: where it starts, how long it is, its number -/
structure Run where
  at_ : Nat
  len : Nat
  num : Int
def Run.val (g o c : Nat) (d : Run) : Value := .slice (some ⟨g, o + d.at_, none⟩) d.len (c - d.at_)
def Run.pair (d : Run) : Nat × Int := (d.len, d.num)
/-- runs within a column -/
def Runs (l : List Int) (ds : List Run) : Prop := ∀ d ∈ ds, 1 ≤ d.len ∧ d.at_ + d.len ≤ l.length ∧ l.getD d.at_ 0 = d.num

/-- What cut hands back. -/
def CutX (w : World) (g o c : Nat) (l : List Int) (e : Ending) (w' : World) : Prop :=
  ∃ ds a' g' c', e = .returned (.slice a' ds.length c') ∧ ds.map Run.pair = rle l ∧ Runs l ds ∧ (a' = some ⟨g', 0, none⟩ ∨ ds.length = 0) ∧ (∀ j d, ds[j]? = some d → w'.cell? ⟨g', j, none⟩ = some (d.val g o c)) ∧ Below w.heap.size w w' ∧ ds.length ≤ c' ∧ c' ≤ maxLen

theorem cut_fin {w wr : World} {V : Value} {g o c : Nat} {l : List Int} {ds : List Run} (ho : wr.ownsRow w.heap.size 131 1 V ds.length (ds.map (Run.val g o c))) (hm : ds.map Run.pair = rle l) (hr : Runs l ds) (hb : Below w.heap.size w wr) : CutX w g o c l (.returned V) wr := by
  rcases ho.2 with ⟨rfl, h0⟩ | ⟨g', c', cur, rfl, _, hg, h1, h2, _⟩
  · refine ⟨ds, none, 0, 0, by rw [h0], hm, hr, .inr h0, fun j d hd => ?_, hb, by omega, by unfold maxLen; omega⟩
    obtain rfl := List.eq_nil_of_length_eq_zero h0
    simp at hd
  · refine ⟨ds, _, g', c', rfl, hm, hr, .inl rfl, fun j d hd => ?_, hb, h1, h2⟩
    have := ho.cells (g := g') rfl j (d.val g o c) (by rw [List.getElem?_map, hd]; rfl)
    rw [Addr.add_lit, Nat.zero_add] at this
    exact this

theorem push_own {w2 : World} {base g o c p q i cc : Nat} {x0 : Int} {ds : List Run} {v' : Value} (h : w2.ownsRow base 131 1 v' (ds.length + 1) (ds.map (Run.val g o c) ++ [.slice (some ⟨g, q, none⟩) i cc])) (hq : q = o + p) (hcc : cc = c - p) :
    w2.ownsRow base 131 1 v' (ds ++ [(⟨p, i, x0⟩ : Run)]).length ((ds ++ [(⟨p, i, x0⟩ : Run)]).map (Run.val g o c)) := by
  subst hq hcc
  rw [List.map_append, List.length_append]
  exact h
theorem push_runs {l : List Int} {ds : List Run} {p i : Nat} {x0 : Int} (h : Runs l ds) (h1 : 1 ≤ i) (h2 : p + i ≤ l.length) (h3 : l.getD p 0 = x0) : Runs l (ds ++ [(⟨p, i, x0⟩ : Run)]) := by
  intro d hd
  rcases List.mem_append.1 hd with hd | hd
  · exact h d hd
  · simp only [List.mem_singleton] at hd
    subst hd
    exact ⟨h1, h2, h3⟩
theorem push_pairs {l : List Int} {ds : List Run} {p i : Nat} {x0 : Int} (h : ds.map Run.pair ++ rle (l.drop p) = rle l) (h1 : 1 ≤ i) (h2 : p + i ≤ l.length) (h3 : l.getD p 0 = x0) (hs : ∀ j, j < i → l.getD (p + j) 0 = x0)
    (he : p + i = l.length ∨ l.getD (p + i) 0 ≠ x0) : (ds ++ [(⟨p, i, x0⟩ : Run)]).map Run.pair ++ rle (l.drop (p + i)) = rle l := by
  have hr := rle_at l p (p + i) (by omega) h2 (fun j hj1 hj2 => by
    have := hs (j - p) (by omega)
    rw [show p + (j - p) = j from by omega] at this
    rw [this, h3]) (by rw [h3]; exact he)
  rw [← h, hr, h3, List.map_append, List.append_assoc, Nat.add_sub_cancel_left]
  rfl

set_option maxRecDepth 100000 in
set_option maxHeartbeats 2000000 in
theorem cut_any (g o n c : Nat) (l : List Int) (w : World) (hs : Is.Seg w (some ⟨g, o, none⟩) n c l) (hn0 : 0 < n) (hn : n ≤ 65536) :
    Calls Tryz.prog 182 #[.slice (some ⟨g, o, none⟩) n c] w (CutX w g o c l) := by
  obtain ⟨i0, hi, hz0, hz1, hz2⟩ := info_parts info_sl
  have hcap := hs.cap
  have hle := hs.le
  unfold maxLen at hcap
  have HLen := Lib.hid hs.len
  have HSeg := Lib.hid hs
  clear hs
  go_enter Tryz.func182, Tryz.ntmps182
  go_wp2
  go_step3
  go_wp2
  go_step3
  go_wp2
  go_loopg [0, 3] n (fun gh sl sa wx => ∃ (p q m cc : Nat) (ds : List Run) (V : Value), m = gh ∧ 0 < m ∧ m ≤ cc ∧ cc ≤ c ∧ sl = .slice (some ⟨g, q, none⟩) m cc ∧ V = sa ∧ Hid (q = o + p ∧ m + p = n ∧ cc = c - p ∧ ds.length ≤ p) ∧
      Hid (wx.ownsRow w.heap.size 131 1 V ds.length (ds.map (Run.val g o c))) ∧ Hid (ds.map Run.pair ++ rle (l.drop p) = rle l) ∧ Hid (Runs l ds) ∧ Hid (Below w.heap.size w wx))
  case atStart => exact ⟨0, o, n, c, [], _, rfl, hn0, hle, Nat.le_refl _, rfl, rfl, Lib.hid (by simp), Lib.hid (World.ownsRow_nil _ _ _ _), Lib.hid (by simp), Lib.hid (fun d hd => by cases hd), Lib.hid (Below.refl _ _)⟩
  case round =>
    obtain ⟨p, q, m, cc, ds, V, rfl, hm0, hmc, hcc, rfl, rfl, HQ, HO, HR, HU, HB⟩ := hrel
    have hcell : ∀ j, j < m → wr.cell? ⟨g, q + j, none⟩ = some (.int .i64 (l.getD (p + j) 0)) := fun j hj => by
      obtain ⟨e1, e2, e3, _⟩ := HQ.out
      have hseg := iseg_below HSeg.out HB.out rfl
      obtain ⟨g', o', e, hc⟩ := hseg.addr hn0
      cases e
      have := hc (p + j) (by omega)
      rw [e1, Nat.add_assoc]
      exact this
    have HC := Lib.hid hcell
    have c0 := hcell 0 hm0
    rw [Nat.add_zero, Nat.add_zero] at c0
    obtain ⟨x0, hx0⟩ : ∃ x, l.getD p 0 = x := ⟨_, rfl⟩
    rw [hx0] at c0
    have HX0 := Lib.hid hx0
    clear hcell hx0
    go_wp2
    go_loopg [0, 3, 11] m (fun gi sl sa si wx => ∃ (i : Nat), i + gi = m ∧ si = .int .i64 i ∧ sl = .slice (some ⟨g, q, none⟩) m cc ∧ V = sa ∧ wx = wr ∧ Hid (∀ j, j < i → l.getD (p + j) 0 = x0))
    case atStart => exact ⟨0, by omega, rfl, rfl, rfl, rfl, Lib.hid (fun j hj => by omega)⟩
    case round =>
      obtain ⟨i, hig, rfl, rfl, rfl, rfl, HE⟩ := hrel
      cases gk with
      | zero =>
        obtain rfl : i = m := by omega
        have HO1 : Hid ((wr.alloc (.cells #[.slice (some ⟨g, q, none⟩) i cc] 131)).ownsRow w.heap.size 131 1 V ds.length (ds.map (Run.val g o c))) := Lib.hid (HO.out.alloc _)
        have hcl : (wr.alloc (.cells #[.slice (some ⟨g, q, none⟩) i cc] 131)).cell? ⟨wr.heap.size, 0, none⟩ = some (.slice (some ⟨g, q, none⟩) i cc) := Pk.cell_new wr _ _
        have HCl := Lib.hid hcl
        have HW : Hid (w.heap.size ≤ (wr.alloc (.cells #[.slice (some ⟨g, q, none⟩) i cc] 131)).heap.size) := Lib.hid (by have := HB.out.size; simp; omega)
        have HBd : Hid (ds.length + 1 ≤ 65536) := Lib.hid (by have := HQ.out; omega)
        clear hcl
        go_wp2_with (at_builtin; refine wpList_append_own _ rfl (.tmp 31) (.tmp 33) 218 rfl w.heap.size 131 i0 (.slice none 0 0) 1 24 Tryz.underlying218 hi hz0 hz1 hz2 rfl (by decide) V ds.length (ds.map (Run.val g o c)) rfl HO1.out ⟨wr.heap.size, 0, none⟩ 1 1 [.slice (some ⟨g, q, none⟩) i cc] rfl rfl (by intro t u ht; match t, ht with | 0, ht => simp at ht; subst ht; exact HCl.out) (by intro u hu; simp at hu; subst hu; rfl) (by have := HBd.out; unfold maxLen; omega) (by have := HBd.out; omega) HW.out ?_; intro v' w2 hown2 hgrow2 _)
        have HF : Hid (CutX w g o c l (.returned v') w2) := by
          obtain ⟨e1, e2, e3, e4⟩ := HQ.out
          have hl := HLen.out
          have h1 := push_own (x0 := x0) hown2 e1 e3
          have h2 := push_pairs HR.out hm0 (by omega) HX0.out HE.out (.inl (by omega))
          rw [List.drop_eq_nil_of_le (by omega)] at h2
          refine Lib.hid (cut_fin h1 (by simpa [rle] using h2) (push_runs HU.out hm0 (by omega) HX0.out) ((HB.out.alloc HB.out.size _).grown hgrow2 HW.out (fun j e => (HO.out.lt j e).1)))
        clear hown2 hgrow2
        go_wp2
        rw [Exit.noGoto_ret]
        go_ret
        exact HF.out
      | succ gi =>
        have hlt : i < m := by omega
        have g1 := HC.out i hlt
        obtain ⟨x, hx⟩ : ∃ x, l.getD (p + i) 0 = x := ⟨_, rfl⟩
        rw [hx] at g1
        have HX := Lib.hid hx
        clear hx
        by_cases hxe : x = x0
        · subst hxe
          go_wp2
          go_roundg gi
          case rel => exact ⟨i + 1, by omega, by go_num, rfl, rfl, rfl, Lib.hid (fun j hj => by
            by_cases hji : j < i
            · exact HE.out j hji
            · rw [show j = i from by omega]; exact HX.out)⟩
          case measure => omega
        · have hi0 : 0 < i := by
            rcases Nat.eq_zero_or_pos i with h | h
            · exfalso
              subst h
              rw [Nat.add_zero] at HX
              exact hxe (HX.out.symm.trans HX0.out)
            · exact h
          have hb : (x == x0) = false := by simpa using hxe
          have HXE := Lib.hid hxe
          clear hxe
          have hic : i ≤ cc := by omega
          have hci : ¬ cc = i := by omega
          have HO1 : Hid ((wr.alloc (.cells #[.slice (some ⟨g, q, none⟩) i cc] 131)).ownsRow w.heap.size 131 1 V ds.length (ds.map (Run.val g o c))) := Lib.hid (HO.out.alloc _)
          have HCl := Lib.hid (Pk.cell_new wr (.slice (some ⟨g, q, none⟩) i cc) 131)
          have HW : Hid (w.heap.size ≤ (wr.alloc (.cells #[.slice (some ⟨g, q, none⟩) i cc] 131)).heap.size) := Lib.hid (by have := HB.out.size; simp; omega)
          have HBd : Hid (ds.length + 1 ≤ 65536) := Lib.hid (by have := HQ.out; omega)
          go_wp2_with (at_builtin; refine wpList_append_own _ rfl (.tmp 21) (.tmp 25) 218 rfl w.heap.size 131 i0 (.slice none 0 0) 1 24 Tryz.underlying218 hi hz0 hz1 hz2 rfl (by decide) V ds.length (ds.map (Run.val g o c)) rfl HO1.out ⟨wr.heap.size, 0, none⟩ 1 1 [.slice (some ⟨g, q, none⟩) i cc] rfl rfl (by intro t u ht; match t, ht with | 0, ht => simp at ht; subst ht; exact HCl.out) (by intro u hu; simp at hu; subst hu; rfl) (by have := HBd.out; unfold maxLen; omega) (by have := HBd.out; omega) HW.out ?_; intro v' w2 hown2 hgrow2 _)
          go_roundg (m - i)
          case rel =>
            obtain ⟨e1, e2, e3, e4⟩ := HQ.out
            have hl := HLen.out
            refine ⟨p + i, q + i, m - i, cc - i, ds ++ [⟨p, i, x0⟩], v', rfl, by omega, by omega, by omega, rfl, rfl, Lib.hid ⟨by omega, by omega, by omega, by simp; omega⟩, Lib.hid (push_own hown2 e1 e3), Lib.hid (push_pairs HR.out hi0 (by omega) HX0.out HE.out (.inr (by rw [HX.out]; exact HXE.out))), Lib.hid (push_runs HU.out hi0 (by omega) HX0.out), Lib.hid ((HB.out.alloc HB.out.size _).grown hgrow2 HW.out (fun j e => (HO.out.lt j e).1))⟩
          case measure => omega
end Go.Proofs.YtljanfnhmhimiaaGreat.In

namespace Go.Proofs.YtljanfnhmhimiaaGreat.In
open Go.RowKit Go.Joins
open Is (IsI)
open Bs (info_u8)
open Ref1 (GrowB)
open Oct (varB)

/-- Bytes handed back, wherever they lie. -/
def PartX (w : World) (B : List Int) (e : Ending) (w' : World) : Prop :=
  ∃ a m k, e = .returned (.slice a m k) ∧ m = B.length ∧ Bs.Seg w' a m k B ∧ Below w.heap.size w w' ∧ ∀ ad, a = some ad → w.heap.size ≤ ad.block
theorem part_grow {w w' : World} {B : List Int} {n : Nat} {e : Ending} (h : GrowB w.heap.size w B n e w') : PartX w B e w' := by
  obtain ⟨g, c, he, hown, hb⟩ := h
  have hs := Bs.Seg.own hown
  exact ⟨_, n, c, he, hs.len.symm, hs, hb, fun ad e => by cases e; exact (hown.lt _ rfl).1⟩
theorem part_own {w w' : World} {B : List Int} {n : Nat} {V : Value} (ho : w'.ownsRow w.heap.size 5 1 V n (B.map (Value.int .u8))) (hb : Below w.heap.size w w') : PartX w B (.returned V) w' := by
  rcases ownsRow_forms ho with ⟨rfl, rfl⟩ | ⟨g, c, rfl⟩
  · have : B = [] := by have := ho.1; simp at this; exact this
    subst this
    exact ⟨none, 0, 0, rfl, rfl, Bs.Seg.nil w', hb, fun _ e => by cases e⟩
  · have hs := Bs.Seg.own ho
    exact ⟨_, n, c, rfl, hs.len.symm, hs, hb, fun ad e => by cases e; exact (ho.lt _ rfl).1⟩

set_option maxHeartbeats 400000 in
theorem cut_nil (a : Option Addr) (c : Nat) (w : World) :
    Calls Tryz.prog 182 #[.slice a 0 c] w fun e w' => e = .returned (.slice none 0 0) ∧ w = w' := by
  go_enter Tryz.func182, Tryz.ntmps182
  go_wp2
  go_step3
  go_wp2
  go_step3
  go_wp2
  go_loopg [0, 3] 0 (fun gh sl sa wx => sl = .slice a 0 c ∧ sa = .slice none 0 0 ∧ wx = w)
  case atStart => exact ⟨rfl, rfl, rfl⟩
  case round =>
    obtain ⟨rfl, rfl, rfl⟩ := hrel
    go_wp2
    try rw [Exit.noGoto_ret]
    go_ret
    exact ⟨rfl, rfl⟩

theorem putRuns_nil (a : Option Addr) (c : Nat) (w : World) :
    Calls Tryz.prog 162 #[.slice a 0 c] w (PartX w (runsB [])) := by
  have H := Lib.hid (cut_nil a c w)
  have HF : Hid (PartX w (runsB []) (.returned (.slice none 0 0)) w) := Lib.hid ⟨none, 0, 0, rfl, rfl, Bs.Seg.nil w, Below.refl _ _, fun _ e => by cases e⟩
  go_enter Tryz.func162, Tryz.ntmps162
  go_wp2_with fail
  refine H.out.mono ?_
  rintro e w' ⟨rfl, rfl⟩
  dsimp only
  go_wp2
  refine wp_loop_rounds 1 ?_
  rw [rounds_succ]
  go_wp2
  go_ret
  exact HF.out

theorem pairs_take (ds : List Run) (k : Nat) (d : Run) (h : ds[k]? = some d) : bytesR ((ds.take (k + 1)).map Run.pair) = bytesR ((ds.take k).map Run.pair) ++ varB 9 d.len ++ num8 d.num := by
  rw [List.take_add_one, h, Option.toList_some, List.map_append, List.map_singleton, bytesR_snoc]; rfl
theorem pairs_len (ds : List Run) (k : Nat) (h : ds.length ≤ 65536) : (bytesR ((ds.take k).map Run.pair)).length ≤ 1179648 := by
  have := bytesR_len ((ds.take k).map Run.pair)
  rw [List.length_map, List.length_take] at this
  omega

set_option maxRecDepth 100000 in
set_option maxHeartbeats 2000000 in
theorem putRuns_yes (g o n c : Nat) (l : List Int) (w : World) (hs : Is.Seg w (some ⟨g, o, none⟩) n c l) (hn0 : 0 < n) (hn : n ≤ 65536) :
    Calls Tryz.prog 162 #[.slice (some ⟨g, o, none⟩) n c] w (PartX w (runsB l)) := by
  obtain ⟨i0, hi, hz0, hz1, hz2⟩ := info_parts info_u8
  have hcap := hs.cap
  have hle := hs.le
  unfold maxLen at hcap
  have HLen := Lib.hid hs.len
  have HSeg := Lib.hid hs
  have HCut := Lib.hid (cut_any g o n c l w hs hn0 hn)
  clear hs
  go_enter Tryz.func162, Tryz.ntmps162
  go_wp2_with fail
  refine HCut.out.mono ?_
  rintro e w0 ⟨ds, a', g', c', rfl, hm, hr, ha, hc, hb, hdc, hcm⟩
  unfold maxLen at hcm
  have HM := Lib.hid hm
  have HR := Lib.hid hr
  have HA := Lib.hid ha
  have HC := Lib.hid hc
  have HB0 := Lib.hid hb
  have hdl : ds.length ≤ 65536 := by
    have h1 := congrArg List.length hm
    rw [List.length_map] at h1
    have h2 := rle_len l
    have := HLen.out
    omega
  have HDL := Lib.hid hdl
  obtain ⟨D, hD⟩ : ∃ D, D = ds.length := ⟨_, rfl⟩
  rw [← hD] at hdc hdl HA
  have HD := Lib.hid hD
  have HG : Hid (g < w0.heap.size) := by
    obtain ⟨g2, o2, e2, hc2⟩ := (HSeg.out.grown (Bs.grown_of HB0.out)).addr hn0
    cases e2
    exact Lib.hid (World.block_lt_of_cell? w0 _ (hc2 0 hn0))
  have HW0 : Hid (Below w0.heap.size w0 w0) := Lib.hid (Below.refl _ _)
  rw [← hD]
  clear hm hr ha hc hb hD
  dsimp only
  go_wp2
  go_loopw [3, 9] (fun so si wr => ∃ (k N : Nat) (V : Value), k ≤ D ∧ si = .int .i64 k ∧ V = so ∧ N ≤ 1179648 ∧ Hid (wr.ownsRow w0.heap.size 5 1 V N ((bytesR ((ds.take k).map Run.pair)).map (Value.int .u8))) ∧ Hid (Below w0.heap.size w0 wr))
    (fun _ si _ => D - (intOf si).toNat)
  case atStart => exact ⟨0, 0, _, Nat.zero_le _, rfl, rfl, by decide, Lib.hid (World.ownsRow_nil _ _ _ _), HW0⟩
  case round =>
    obtain ⟨k, N, V, hk, rfl, rfl, hN, HO, HB⟩ := hrel
    by_cases hlt : k < D
    · rcases HA.out with rfl | h0
      · obtain ⟨d, hd⟩ : ∃ d, ds[k]? = some d := ⟨_, List.getElem?_eq_getElem (by have := HD.out; omega)⟩
        have hrow := HC.out k d hd
        have cell0 : wr.cell? ⟨g', k, none⟩ = some (d.val g o c) := (HB.out.cell (p := ⟨g', k, none⟩) (World.block_lt_of_cell? w0 _ hrow)).trans hrow
        obtain ⟨d1, d2, d3⟩ := HR.out d (List.mem_of_getElem? hd)
        have HP := Lib.hid (pairs_take ds k d hd)
        have hlenB := pairs_len ds (k + 1) HDL.out
        obtain ⟨dat, dlen, dnum⟩ := d
        simp only [Run.val] at cell0
        simp only at d1 d2 d3 HP
        have hwl := HLen.out
        have cell1 : wr.cell? ⟨g, o + dat, none⟩ = some (.int .i64 dnum) := by
          have hseg := (HSeg.out.grown (Bs.grown_of HB0.out)).grown (Bs.grown_of HB.out)
          obtain ⟨g2, o2, e2, hc2⟩ := hseg.addr hn0
          cases e2
          rw [hc2 dat (by omega), d3]
        have hdl1 : dlen ≤ 65536 := by omega
        have hdl2 : dlen ≤ c - dat := by omega
        obtain ⟨cd, hcd⟩ : ∃ x, x = c - dat := ⟨_, rfl⟩
        rw [← hcd] at cell0 hdl2
        have hcdb : cd ≤ 2 ^ 63 - 1 := by omega
        have HV := Lib.hid (Oct.putVar_any none 0 0 [] (dlen : Int) wr (Oct.Seg.nil wr) (by omega) (by omega) (by decide))
        have hvl := Oct.varB_le 9 (dlen : Int)
        rw [HP.out, List.length_append, List.length_append, num8_length] at hlenB
        have hNl : N = (bytesR ((ds.take k).map Run.pair)).length := by have := HO.out.1; rw [List.length_map] at this; omega
        have HNl := Lib.hid hNl
        have HHl := Lib.hid hlenB
        clear hrow hd d2 d3 hcd hNl hlenB
        go_wp2_with (first
          | (go_at_call 49; refine HV.out.mono ?_)
          | fail)
        rintro e w1 hnew
        obtain ⟨gv, q, rfl, hf⟩ := hnew.value
        obtain ⟨hq, hown1, hg⟩ := hf.is
        have hs1 := Oct.Seg.own hown1
        have HO1 := Lib.hid (own_grown HO.out hg)
        have hsz := hg.size
        have HB1 := Lib.hid (HB.out.trans (below_grown (B := w0.heap.size) hg HB.out.size))
        have HS1 := Lib.hid (hs1.at_ _ rfl)
        have HL1 : Hid (((varB 9 (dlen : Int)).map (Value.int .u8)).length = q * 1) := Lib.hid (by rw [List.length_map, hq, Nat.mul_one])
        have hqb : q ≤ 10 := by rw [hq]; exact hvl
        have HQ := Lib.hid hq
        have cell2 : w1.cell? ⟨g, o + dat, none⟩ = some (.int .i64 dnum) := hg.cell cell1 (by simp)
        clear hnew hf hown1 hg hs1 hq cell1 cell0 hvl
        have HW1 : Hid (w0.heap.size ≤ w1.heap.size) := Lib.hid HB1.out.size
        have HNE : Hid (some g ≠ V.ownBlock) := Lib.hid (fun e => by
          have h1 := (HO1.out.lt g e.symm).1
          have h2 := HG.out
          omega)
        go_wp2_with (at_builtin; refine wpList_append_own _ rfl (.tmp 13) (.tmp 17) 45 rfl w0.heap.size 5 i0 (.int .u8 0) 1 1 Tryz.underlying45 hi hz0 hz1 hz2 rfl (by decide) V N ((bytesR ((ds.take k).map Run.pair)).map (Value.int .u8)) rfl HO1.out ⟨gv, 0, none⟩ q q ((varB 9 (dlen : Int)).map (Value.int .u8)) rfl HL1.out HS1.out (ints_oneCell _ _) (by unfold maxLen; omega) (by omega) HW1.out ?_; intro v2 w2 hown2 hgrow2 _; have cell3 : w2.cell? ⟨g, o + dat, none⟩ = some (.int .i64 dnum) := hgrow2.cell cell2 HNE.out)
        have hown2' : w2.ownsRow w0.heap.size 5 1 v2 (N + q) ((bytesR ((ds.take k).map Run.pair) ++ varB 9 (dlen : Int)).map (Value.int .u8)) := by rw [List.map_append]; exact hown2
        have HB2 := Lib.hid (HB1.out.grown hgrow2 HW1.out (fun j e => (HO1.out.lt j e).1))
        have HN := Lib.hid (putNumber_any w0.heap.size v2 (N + q) (bytesR ((ds.take k).map Run.pair) ++ varB 9 (dlen : Int)) dnum w2 hown2' HB2.out.size (by omega))
        clear hown2 hown2' hgrow2 cell2
        go_wp2_with fail
        refine HN.out.mono ?_
        rintro e w3 ⟨g3, c3, rfl, hown3, hbel3⟩
        have HO3 : Hid (w3.ownsRow w0.heap.size 5 1 (.slice (some ⟨g3, 0, none⟩) (N + q + 8) c3) (N + q + 8) ((bytesR ((ds.take (k + 1)).map Run.pair)).map (Value.int .u8))) := Lib.hid (by rw [HP.out]; exact hown3)
        have HB3 := Lib.hid (HB2.out.trans hbel3)
        clear hown3 hbel3
        dsimp only
        go_wp2
        go_roundw
        case rel => exact ⟨k + 1, N + q + 8, _, by omega, by go_num, rfl, by have h1 := HNl.out; have h2 := HHl.out; have h3 := HQ.out; omega, HO3, HB3⟩
        case measure => simp [intOf]; omega
      · omega
    · obtain rfl : k = D := by omega
      have HF : Hid (PartX w (runsB l) (.returned V) wr) := by
        have h1 := HO.out
        rw [List.take_of_length_le (Nat.le_of_eq HD.out.symm), HM.out] at h1
        have hb2 : Below w.heap.size w wr := HB0.out.trans (below_mono HB.out HB0.out.size)
        have h2 : wr.ownsRow w.heap.size 5 1 V N ((runsB l).map (Value.int .u8)) := Bs.ownsRow_mono h1 HB0.out.size
        exact Lib.hid (part_own h2 hb2)
      clear HO HB
      go_wp2
      go_ret
      exact HF.out
end Go.Proofs.YtljanfnhmhimiaaGreat.In

namespace Go.Proofs.YtljanfnhmhimiaaGreat.In
open Go.RowKit Go.Joins
open Is (IsI)
open Bs (info_u8)
open Us (info_u64)
open Ref1 (GrowB)
open Pk (wid putR IsU PutO)

def roomU (S : Nat) : Array Value := madeCells (Value.int .u64 0).cells S
theorem roomU_size (S : Nat) : (roomU S).size = S := size_madeCells _ _
theorem make_roomU (S : Nat) (hS : S ≤ 1000000) (W : World) : (Instr.makeSlice 88 (.int .i64 0) (.int .i64 (S : Int))).run Tryz.prog W = .ok (.slice (some ⟨W.heap.size, 0, none⟩) 0 S) (W.alloc (.cells (roomU S) 85)) := by
  obtain ⟨i0, hi, hz0, hz1, hz2⟩ := info_parts info_u64
  have h := run_make (P := Tryz.prog) W 88 85 i0 (.int .u64 0) Tryz.underlying88 hi hz0 .i64 .i64 0 (S : Int) (by omega) (by omega) (by rw [hz2]; omega) (by omega)
  rw [hz1, Int.toNat_natCast, Nat.mul_one] at h
  exact h
def roomI (S : Nat) : Array Value := madeCells (Value.int .i64 0).cells S
theorem roomI_size (S : Nat) : (roomI S).size = S := size_madeCells _ _
theorem make_roomI (S : Nat) (hS : S ≤ 1000000) (W : World) : (Instr.makeSlice 131 (.int .i64 0) (.int .i64 (S : Int))).run Tryz.prog W = .ok (.slice (some ⟨W.heap.size, 0, none⟩) 0 S) (W.alloc (.cells (roomI S) 2)) := by
  obtain ⟨i0, hi, hz0, hz1, hz2⟩ := info_parts Is.info_i64
  have h := run_make (P := Tryz.prog) W 131 2 i0 (.int .i64 0) Tryz.underlying131 hi hz0 .i64 .i64 0 (S : Int) (by omega) (by omega) (by rw [hz2]; omega) (by omega)
  rw [hz1, Int.toNat_natCast, Nat.mul_one] at h
  exact h

theorem sub_u (x m : Int) : IntKind.u64.wrap (IntKind.u64.wrap x - IntKind.u64.wrap m) = u (x - m) := by
  rw [IntKind.wrap_u64, IntKind.wrap_u64, IntKind.wrap_u64]; unfold u; omega
theorem offs_take (l : List Int) (k : Nat) (x : Int) (h : k < l.length) (hx : l.getD k 0 = x) : (offs l).take (k + 1) = (offs l).take k ++ [u (x - minL l)] := by
  rw [List.take_succ_eq_append_getElem (by rw [offs_length]; exact h), ← hx]
  simp [offs, List.getD, h]

set_option maxRecDepth 100000 in
set_option maxHeartbeats 2000000 in
theorem putPacked_any (a : Option Addr) (n c : Nat) (l : List Int) (w : World) (hs : Is.Seg w a n c l) (hI : IsI l) (hn : n ≤ 65536) :
    Calls Tryz.prog 164 #[.slice a n c] w (PartX w (packedB l)) := by
  obtain ⟨i0, hi, hz0, hz1, hz2⟩ := info_parts info_u8
  obtain ⟨j0, ji, jz0, jz1, jz2⟩ := info_parts info_u64
  have hcap := hs.cap
  have hle := hs.le
  unfold maxLen at hcap
  have HLen := Lib.hid hs.len
  have HMin := Lib.hid (smallest_any a n c l w hs hI)
  have hmk := make_roomU n (by omega)
  have h0 := World.ownsRow_made (base := w.heap.size) (e := 85) (size := 1) w (roomU n) n (Nat.le_refl _) (by unfold maxLen; omega) (by rw [roomU_size, Nat.mul_one])
  have HO := Lib.hid h0
  have HG : Hid (Below w.heap.size w (w.alloc (.cells (roomU n) 85))) := Lib.hid ((Below.refl _ w).alloc (Nat.le_refl _) _)
  have HSeg := Lib.hid hs
  have HLm := Lib.hid hI
  obtain ⟨m0, hm0⟩ : ∃ m, minL l = m := ⟨_, rfl⟩
  rw [hm0] at HMin
  have HM0 := Lib.hid hm0
  clear h0 hs hI hm0
  go_enter Tryz.func164, Tryz.ntmps164
  go_wp2_with (first
    | (go_at_call 184; refine HMin.out.mono ?_; rintro e w' ⟨rfl, rfl⟩)
    | fail)
  go_loopw [4, 18] (fun so si wr => ∃ (k : Nat) (V : Value), k ≤ n ∧ si = .int .i64 k ∧ V = so ∧ Hid (∃ g cc, V = .slice (some ⟨g, 0, none⟩) k cc) ∧ Hid (wr.ownsRow w.heap.size 85 1 V k (((offs l).take k).map (Value.int .u64))) ∧ Hid (Below w.heap.size w wr))
    (fun _ si _ => n - (intOf si).toNat)
  case atStart => exact ⟨0, _, Nat.zero_le _, rfl, rfl, Lib.hid ⟨_, _, rfl⟩, HO, HG⟩
  case round =>
    obtain ⟨k, V, hk, rfl, rfl, HV, HO, HB⟩ := hrel
    by_cases hlt : k < n
    · have hseg := iseg_below HSeg.out HB.out rfl
      obtain ⟨gA, oA, rfl, hc⟩ := hseg.addr (by omega)
      have g1 := hc k hlt
      obtain ⟨x, hx⟩ : ∃ x, l.getD k 0 = x := ⟨_, rfl⟩
      rw [hx] at g1
      have HP := Lib.hid (offs_take l k x (by have := HLen.out; omega) hx)
      have hsub := sub_u x m0
      have HS1 := Lib.hid hsub
      obtain ⟨y, hy⟩ : ∃ y, IntKind.u64.wrap (IntKind.u64.wrap x - IntKind.u64.wrap m0) = y := ⟨_, rfl⟩
      have HY := Lib.hid hy
      clear hx hc hseg hsub hy
      go_wp2_with (at_builtin; refine wpList_append_own _ rfl (.tmp 22) (.tmp 28) 88 rfl w.heap.size 85 j0 (.int .u64 0) 1 8 Tryz.underlying88 ji jz0 jz1 jz2 rfl (by decide) V k (((offs l).take k).map (Value.int .u64)) rfl (HO.out.alloc _) ⟨wr.heap.size, 0, none⟩ 1 1 [.int .u64 (IntKind.u64.wrap (IntKind.u64.wrap x - IntKind.u64.wrap m0))] rfl rfl (by intro t u ht; match t, ht with | 0, ht => simp at ht; subst ht; exact Pk.cell_new wr _ _) (by intro u hu; simp at hu; subst hu; rfl) (by unfold maxLen; omega) (by omega) (by have := HB.out.size; simp; omega) ?_; intro v2 w2 hown2 hgrow2 hnil)
      go_roundw
      case rel =>
        refine ⟨k + 1, _, by omega, by go_num, rfl, ?_, ?_, Lib.hid ((HB.out.alloc HB.out.size _).grown hgrow2 (by have := HB.out.size; simp; omega) (fun j e => (HO.out.lt j e).1))⟩
        · obtain ⟨g', c', e⟩ := ownsRow_form hown2 (by omega)
          exact Lib.hid ⟨g', c', e⟩
        · refine Lib.hid ?_
          rw [HP.out, List.map_append]
          rw [HS1.out] at hown2
          rw [HM0.out]
          exact hown2
      case measure => simp [intOf]; omega
    · obtain rfl : k = n := by omega
      obtain ⟨gV, cV, rfl⟩ := HV.out
      have hown := HO.out
      rw [List.take_of_length_le (by rw [offs_length]; exact Nat.le_of_eq HLen.out)] at hown
      have hus := Us.Seg.own hown
      have HUS := Lib.hid hus
      have HWid := Lib.hid (Pk.width_any _ _ _ (offs l) wr hus (offs_isU l))
      have hw64 := Pk.wid_64 (offs_isU l)
      have hok := put_yes l (by have := HLen.out; omega)
      obtain ⟨W, hW⟩ : ∃ W, wid (offs l) = W := ⟨_, rfl⟩
      rw [hW] at HWid hw64 hok
      obtain ⟨B, hB⟩ : ∃ B, (putR (offs l) (W : Int)).2 = B := ⟨_, rfl⟩
      have hput : putR (offs l) (W : Int) = (0, B) := by rw [← hB, ← hok]
      have hBl : B.length ≤ 524288 := by rw [← hB]; exact Pk.put_len _ _
      have HFin : Hid (packedB l = num8 m0 ++ [(W : Int)] ++ B) := Lib.hid (by unfold packedB; rw [HM0.out, hW, hB])
      obtain ⟨bl, hbl⟩ : ∃ n, B.length = n := ⟨_, rfl⟩
      rw [hbl] at hBl
      have HBl := Lib.hid hbl
      have HPut := Lib.hid (fun W' hs => Pk.put_own_form hput hbl (offs_isU l) (some ⟨gV, 0, none⟩) k cV W' hs)
      have HNum := Lib.hid (putNumber_any wr.heap.size (.slice none 0 0) 0 [] m0 wr (World.ownsRow_nil _ _ _ _) (Nat.le_refl _) (by decide))
      have hw8 : ((W : Int) % 256) = (W : Int) := by omega
      clear hown hus hok hW hB hput hbl
      go_wp2_with (first
        | (go_at_call 84; refine HWid.out.mono ?_; rintro e w' ⟨rfl, rfl⟩)
        | fail)
      refine HNum.out.mono ?_
      rintro e w1 ⟨g1, c1, rfl, hown1, hb1⟩
      have HO1 := Lib.hid hown1
      have HB1 := Lib.hid hb1
      clear hown1 hb1
      dsimp only
      go_wp2_with (at_builtin; refine wpList_append_own _ rfl (.tmp 34) (.tmp 37) 45 rfl wr.heap.size 5 i0 (.int .u8 0) 1 1 Tryz.underlying45 hi hz0 hz1 hz2 rfl (by decide) (.slice (some ⟨g1, 0, none⟩) (0 + 8) c1) (0 + 8) (([] ++ num8 m0).map (Value.int .u8)) rfl (HO1.out.alloc _) ⟨w1.heap.size, 0, none⟩ 1 1 [.int .u8 (W : Int)] rfl rfl (by intro t u ht; match t, ht with | 0, ht => simp at ht; subst ht; exact Pk.cell_new w1 _ _) (by intro u hu; simp at hu; subst hu; rfl) (by unfold maxLen; omega) (by omega) (by have := HB1.out.size; simp; omega) ?_; intro v2 w2 hown2 hgrow2 _)
      have HB2 : Hid (Below wr.heap.size wr w2) := Lib.hid ((HB1.out.alloc HB1.out.size _).grown hgrow2 (by have := HB1.out.size; simp; omega) (fun j e => (HO1.out.lt j e).1))
      have HPut2 := Lib.hid (HPut.out w2 (HUS.out.grown (Bs.grown_of HB2.out)))
      obtain ⟨g2, c2, rfl⟩ := ownsRow_form hown2 (by omega)
      have HO2 := Lib.hid hown2
      clear hown2 hgrow2
      go_wp2_with fail
      refine HPut2.out.mono ?_
      rintro e w3 ⟨a3, k3, rfl, hs3, ht3, hown3⟩
      obtain ⟨g3, rfl, _⟩ := hown3 rfl
      have HO3 := Lib.hid (own_grown HO2.out ht3.grown)
      have HS3 := Lib.hid (hs3.at_ _ rfl)
      have HL3 : Hid ((B.map (Value.int .u8)).length = bl * 1) := Lib.hid (by rw [List.length_map, HBl.out, Nat.mul_one])
      have HB3 : Hid (Below wr.heap.size wr w3) := Lib.hid (HB2.out.trans (below_grown ht3.grown HB2.out.size))
      have HW3 : Hid (wr.heap.size ≤ w3.heap.size) := Lib.hid HB3.out.size
      clear hs3 ht3 hown3
      dsimp only
      go_wp2_with (at_builtin; refine wpList_append_own _ rfl (.tmp 45) (.tmp 46) 45 rfl wr.heap.size 5 i0 (.int .u8 0) 1 1 Tryz.underlying45 hi hz0 hz1 hz2 rfl (by decide) _ (0 + 8 + 1) _ rfl HO3.out ⟨g3, 0, none⟩ bl k3 (B.map (Value.int .u8)) rfl HL3.out HS3.out (ints_oneCell _ _) (by unfold maxLen; omega) (by omega) HW3.out ?_; intro v4 w4 hown4 hgrow4 _)
      have HF : Hid (PartX w (packedB l) (.returned v4) w4) := by
        have hsz := HB.out.size
        have h1 := Bs.ownsRow_mono hown4 hsz
        refine Lib.hid (part_own (n := 0 + 8 + 1 + bl) ?_ (HB.out.trans (below_mono (HB3.out.grown hgrow4 HW3.out (fun j e => (HO3.out.lt j e).1)) hsz)))
        rw [HFin.out, List.map_append, List.map_append]
        exact h1
      clear hown4 hgrow4
      go_wp2
      go_ret
      exact HF.out
end Go.Proofs.YtljanfnhmhimiaaGreat.In

namespace Go.Proofs.YtljanfnhmhimiaaGreat.In
open Go.RowKit Go.Joins

def formsV : Array Value := #[.nilFunc, .nilFunc, .func (.func 160) #[] #[], .func (.func 161) #[] #[], .func (.func 162) #[] #[], .func (.func 163) #[] #[], .func (.func 164) #[] #[], .func (.func 165) #[] #[]]
theorem info_forms : (Tryz.prog.info? 182).map (·.size) = some (formsV).size := by kernel_rfl

theorem forms_one : formsV.all (·.oneCell') = true := by kernel_rfl
theorem forms_size : (#[.nilFunc, .nilFunc, .nilFunc, .nilFunc, .nilFunc, .nilFunc, .nilFunc, .nilFunc] : Array Value).size = formsV.size := by kernel_rfl

set_option maxRecDepth 100000 in
set_option maxHeartbeats 2000000 in
theorem forms_any (w : World) :
    Calls Tryz.prog 141 #[] w fun e w' => e = .returned (.agg formsV) ∧ Below w.heap.size w w' := by
  have P1 : Hid ((w.alloc (.cells #[.nilFunc, .nilFunc, .nilFunc, .nilFunc, .nilFunc, .nilFunc, .nilFunc, .nilFunc] 182)).heap[w.heap.size]? = some (.cells #[.nilFunc, .nilFunc, .nilFunc, .nilFunc, .nilFunc, .nilFunc, .nilFunc, .nilFunc] 182 (0, 0))) := Lib.hid (heap_alloc_new w _)
  have HH : Hid (((w.alloc (.cells #[.nilFunc, .nilFunc, .nilFunc, .nilFunc, .nilFunc, .nilFunc, .nilFunc, .nilFunc] 182)).setRow w.heap.size formsV).heap[w.heap.size]? = some (.cells formsV 182 (0, 0))) := Lib.hid (setRow_heap _ _ _ _ _ _ P1.out)
  have HG : Hid (Below w.heap.size w ((w.alloc (.cells #[.nilFunc, .nilFunc, .nilFunc, .nilFunc, .nilFunc, .nilFunc, .nilFunc, .nilFunc] 182)).setRow w.heap.size formsV)) :=
    Lib.hid (((Below.refl _ w).alloc (Nat.le_refl _) _).trans ⟨rfl, rfl, rfl, by simp [World.setRow], fun k hk => setRow_other _ _ k _ (by omega)⟩)
  go_enter Tryz.func141, Tryz.ntmps141
  go_wp2_with (refine wpList_store_row rfl _ (.tmp 0) (.tmp 4) rfl w.heap.size formsV rfl rfl _ _ P1.out info_forms forms_size forms_one ?_)
  refine bodyPost_ret ?_ rfl ⟨rfl, HG.out⟩
  exact results_cell_row rfl _ _ w.heap.size _ _ _ _ rfl HH.out Tryz.underlying182 rfl info_forms
end Go.Proofs.YtljanfnhmhimiaaGreat.In

namespace Go.Proofs.YtljanfnhmhimiaaGreat.In
open Go.RowKit Go.Joins
open Is (IsI)
open Bs (info_u8)
open Oct (varB)

theorem putPlain_part (a : Option Addr) (n c : Nat) (l : List Int) (w : World) (hs : Is.Seg w a n c l) (hn : n ≤ 65536) :
    Calls Tryz.prog 160 #[.slice a n c] w (PartX w (plainB l)) := (putPlain_any a n c l w hs hn).mono fun _ _ h => part_grow h
theorem putRuns_any (a : Option Addr) (n c : Nat) (l : List Int) (w : World) (hs : Is.Seg w a n c l) (hn : n ≤ 65536) :
    Calls Tryz.prog 162 #[.slice a n c] w (PartX w (runsB l)) := by
  by_cases h0 : n = 0
  · subst h0
    obtain rfl := List.eq_nil_of_length_eq_zero hs.len
    exact putRuns_nil a c w
  · obtain ⟨g, o, rfl, _⟩ := hs.addr (by omega)
    exact putRuns_yes g o n c l w hs (by omega) hn

theorem body_len (k : Nat) (l : List Int) (hl : l.length ≤ 65536) : (bodyB k l).length ≤ 1200000 := by
  unfold bodyB
  split
  · rw [plainB_length]; omega
  · split
    · have := runsB_len l; omega
    · rw [packed_length l hl]
      have hw := Pk.wid_64 (offs_isU l)
      have : l.length * Pk.wid (offs l) ≤ 65536 * 64 := Nat.mul_le_mul hl hw
      unfold Pk.sizeN
      omega

set_option maxRecDepth 100000 in
set_option maxHeartbeats 2000000 in
theorem encode_1 (a : Option Addr) (n c : Nat) (l : List Int) (w : World) (hs : Is.Seg w a n c l) (_hI : IsI l) (hn : n ≤ 65536) :
    Calls Tryz.prog 156 #[.slice a n c, .int .i64 1] w (PartX w (encB 1 l)) := by
  obtain ⟨i0, hi, hz0, hz1, hz2⟩ := info_parts info_u8
  have hcap := hs.cap
  have hle := hs.le
  unfold maxLen at hcap
  have HLen := Lib.hid hs.len
  have HV := Lib.hid (Oct.putVar_any _ 1 1 [1] (n : Int) (w.alloc (.cells #[.int .u8 1] 5)) (oseg (Bs.lit_seg w [1] (by decide))) (by omega) (by omega) (by decide))
  have hvl := Oct.varB_le 9 (n : Int)
  obtain ⟨vl, hvle⟩ : ∃ x, (varB 9 (n : Int)).length = x := ⟨_, rfl⟩
  rw [hvle] at hvl
  have HVL := Lib.hid hvle
  obtain ⟨B, hB⟩ : ∃ B, bodyB 1 l = B := ⟨_, rfl⟩
  have HE : Hid (encB 1 l = [1] ++ varB 9 (n : Int) ++ B) := Lib.hid (by unfold encB headB; rw [hB, hs.len]; rfl)
  have hBl := body_len 1 l (by have := hs.len; omega)
  rw [hB] at hBl
  obtain ⟨bl, hbl⟩ : ∃ x, B.length = x := ⟨_, rfl⟩
  rw [hbl] at hBl
  have HBL := Lib.hid hbl
  have HPut := Lib.hid (fun W (h : Is.Seg W a n c l) => putPlain_part a n c l W h hn)
  have hBe : plainB l = B := hB
  rw [hBe] at HPut
  have hseg1 : ∀ W, Below w.heap.size w W → Is.Seg W a n c l := fun W hb => iseg_below hs hb rfl
  have HSeg := Lib.hid hseg1
  have HA : Hid (Below w.heap.size w (w.alloc (.cells #[.int .u8 1] 5))) := Lib.hid ((Below.refl _ w).alloc (Nat.le_refl _) _)
  clear hs hvle hB hbl hBe hseg1
  go_enter Tryz.func156, Tryz.ntmps156
  go_wp2_with fail
  refine HV.out.mono ?_
  rintro e w1 hnew
  obtain ⟨g1, q1, rfl, hf⟩ := hnew.value
  obtain ⟨hq1, hown1, hg1⟩ := hf.is
  have hq : q1 = 1 + vl := by rw [hq1, List.length_append, HVL.out]; rfl
  subst hq
  have HO1 := Lib.hid (Bs.ownsRow_mono (b' := w.heap.size) hown1 HA.out.size)
  have HB1 : Hid (Below w.heap.size w w1) := Lib.hid (HA.out.trans (below_grown hg1 HA.out.size))
  have HForm := Lib.hid (forms_any w1)
  clear hnew hf hq1 hown1 hg1
  dsimp only
  go_wp2_with fail
  refine HForm.out.mono ?_
  rintro e w2 ⟨rfl, hb2⟩
  have HB2 : Hid (Below w.heap.size w w2) := Lib.hid (HB1.out.trans (below_mono hb2 HB1.out.size))
  have HO2 := Lib.hid (own_grown HO1.out (Bs.grown_of hb2))
  have HP2 := Lib.hid (HPut.out w2 (HSeg.out w2 HB2.out))
  clear hb2
  dsimp only
  unfold formsV
  have hix : ∀ W, (Instr.index 182 (.agg #[.nilFunc, .nilFunc, .func (.func 160) #[] #[], .func (.func 161) #[] #[], .func (.func 162) #[] #[], .func (.func 163) #[] #[], .func (.func 164) #[] #[], .func (.func 165) #[] #[]]) (.int .i64 1)).run Tryz.prog W = .ok (.agg #[.func (.func 160) #[] #[], .func (.func 161) #[] #[]]) W := fun _ => by kernel_rfl
  have hfx : ∀ W, (Instr.field 181 (.agg #[.func (.func 160) #[] #[], .func (.func 161) #[] #[]]) 0).run Tryz.prog W = .ok (.func (.func 160) #[] #[]) W := fun _ => by kernel_rfl
  go_wp2_with fail
  refine HP2.out.mono ?_
  rintro e w3 ⟨a3, m3, k3, rfl, hm3, hs3, hb3, _⟩
  have HB3 : Hid (Below w.heap.size w w3) := Lib.hid (HB2.out.trans (below_mono hb3 HB2.out.size))
  have HO3 := Lib.hid (own_grown HO2.out (Bs.grown_of hb3))
  have hW3 : w.heap.size ≤ w3.heap.size := HB3.out.size
  have HW3 := Lib.hid hW3
  rw [HBL.out] at hm3
  subst hm3
  have HS3 := Lib.hid hs3
  clear hb3 hs3 hW3
  dsimp only
  go_wp2_with (at_builtin; refine Bs.wpList_append_seg rfl (.tmp 13) (.tmp 19) 45 rfl w.heap.size 5 i0 Tryz.underlying45 hi hz0 hz1 hz2 g1 (1 + vl) (1 + vl) _ rfl HO3.out a3 m3 k3 B rfl HS3.out (by omega) HW3.out ?_; intro g4 c4 w4 hown4 hgrow4)
  have HF : Hid (PartX w (encB 1 l) (.returned (.slice (some ⟨g4, 0, none⟩) (1 + vl + m3) c4)) w4) := by
    refine Lib.hid (part_own (n := 1 + vl + m3) ?_ (HB3.out.grown hgrow4 HW3.out (fun j e => by cases e; exact (HO3.out.lt _ rfl).1)))
    rw [HE.out, List.map_append]
    exact hown4
  clear hown4 hgrow4
  go_wp2
  go_ret
  exact HF.out

set_option maxRecDepth 100000 in
set_option maxHeartbeats 2000000 in
theorem encode_2 (a : Option Addr) (n c : Nat) (l : List Int) (w : World) (hs : Is.Seg w a n c l) (_hI : IsI l) (hn : n ≤ 65536) :
    Calls Tryz.prog 156 #[.slice a n c, .int .i64 2] w (PartX w (encB 2 l)) := by
  obtain ⟨i0, hi, hz0, hz1, hz2⟩ := info_parts info_u8
  have hcap := hs.cap
  have hle := hs.le
  unfold maxLen at hcap
  have HLen := Lib.hid hs.len
  have HV := Lib.hid (Oct.putVar_any _ 1 1 [2] (n : Int) (w.alloc (.cells #[.int .u8 2] 5)) (oseg (Bs.lit_seg w [2] (by decide))) (by omega) (by omega) (by decide))
  have hvl := Oct.varB_le 9 (n : Int)
  obtain ⟨vl, hvle⟩ : ∃ x, (varB 9 (n : Int)).length = x := ⟨_, rfl⟩
  rw [hvle] at hvl
  have HVL := Lib.hid hvle
  obtain ⟨B, hB⟩ : ∃ B, bodyB 2 l = B := ⟨_, rfl⟩
  have HE : Hid (encB 2 l = [2] ++ varB 9 (n : Int) ++ B) := Lib.hid (by unfold encB headB; rw [hB, hs.len]; rfl)
  have hBl := body_len 2 l (by have := hs.len; omega)
  rw [hB] at hBl
  obtain ⟨bl, hbl⟩ : ∃ x, B.length = x := ⟨_, rfl⟩
  rw [hbl] at hBl
  have HBL := Lib.hid hbl
  have HPut := Lib.hid (fun W (h : Is.Seg W a n c l) => putRuns_any a n c l W h hn)
  have hBe : runsB l = B := hB
  rw [hBe] at HPut
  have hseg1 : ∀ W, Below w.heap.size w W → Is.Seg W a n c l := fun W hb => iseg_below hs hb rfl
  have HSeg := Lib.hid hseg1
  have HA : Hid (Below w.heap.size w (w.alloc (.cells #[.int .u8 2] 5))) := Lib.hid ((Below.refl _ w).alloc (Nat.le_refl _) _)
  clear hs hvle hB hbl hBe hseg1
  go_enter Tryz.func156, Tryz.ntmps156
  go_wp2_with fail
  refine HV.out.mono ?_
  rintro e w1 hnew
  obtain ⟨g1, q1, rfl, hf⟩ := hnew.value
  obtain ⟨hq1, hown1, hg1⟩ := hf.is
  have hq : q1 = 1 + vl := by rw [hq1, List.length_append, HVL.out]; rfl
  subst hq
  have HO1 := Lib.hid (Bs.ownsRow_mono (b' := w.heap.size) hown1 HA.out.size)
  have HB1 : Hid (Below w.heap.size w w1) := Lib.hid (HA.out.trans (below_grown hg1 HA.out.size))
  have HForm := Lib.hid (forms_any w1)
  clear hnew hf hq1 hown1 hg1
  dsimp only
  go_wp2_with fail
  refine HForm.out.mono ?_
  rintro e w2 ⟨rfl, hb2⟩
  have HB2 : Hid (Below w.heap.size w w2) := Lib.hid (HB1.out.trans (below_mono hb2 HB1.out.size))
  have HO2 := Lib.hid (own_grown HO1.out (Bs.grown_of hb2))
  have HP2 := Lib.hid (HPut.out w2 (HSeg.out w2 HB2.out))
  clear hb2
  dsimp only
  unfold formsV
  have hix : ∀ W, (Instr.index 182 (.agg #[.nilFunc, .nilFunc, .func (.func 160) #[] #[], .func (.func 161) #[] #[], .func (.func 162) #[] #[], .func (.func 163) #[] #[], .func (.func 164) #[] #[], .func (.func 165) #[] #[]]) (.int .i64 2)).run Tryz.prog W = .ok (.agg #[.func (.func 162) #[] #[], .func (.func 163) #[] #[]]) W := fun _ => by kernel_rfl
  have hfx : ∀ W, (Instr.field 181 (.agg #[.func (.func 162) #[] #[], .func (.func 163) #[] #[]]) 0).run Tryz.prog W = .ok (.func (.func 162) #[] #[]) W := fun _ => by kernel_rfl
  go_wp2_with fail
  refine HP2.out.mono ?_
  rintro e w3 ⟨a3, m3, k3, rfl, hm3, hs3, hb3, _⟩
  have HB3 : Hid (Below w.heap.size w w3) := Lib.hid (HB2.out.trans (below_mono hb3 HB2.out.size))
  have HO3 := Lib.hid (own_grown HO2.out (Bs.grown_of hb3))
  have hW3 : w.heap.size ≤ w3.heap.size := HB3.out.size
  have HW3 := Lib.hid hW3
  rw [HBL.out] at hm3
  subst hm3
  have HS3 := Lib.hid hs3
  clear hb3 hs3 hW3
  dsimp only
  go_wp2_with (at_builtin; refine Bs.wpList_append_seg rfl (.tmp 13) (.tmp 19) 45 rfl w.heap.size 5 i0 Tryz.underlying45 hi hz0 hz1 hz2 g1 (1 + vl) (1 + vl) _ rfl HO3.out a3 m3 k3 B rfl HS3.out (by omega) HW3.out ?_; intro g4 c4 w4 hown4 hgrow4)
  have HF : Hid (PartX w (encB 2 l) (.returned (.slice (some ⟨g4, 0, none⟩) (1 + vl + m3) c4)) w4) := by
    refine Lib.hid (part_own (n := 1 + vl + m3) ?_ (HB3.out.grown hgrow4 HW3.out (fun j e => by cases e; exact (HO3.out.lt _ rfl).1)))
    rw [HE.out, List.map_append]
    exact hown4
  clear hown4 hgrow4
  go_wp2
  go_ret
  exact HF.out

set_option maxRecDepth 100000 in
set_option maxHeartbeats 2000000 in
theorem encode_3 (a : Option Addr) (n c : Nat) (l : List Int) (w : World) (hs : Is.Seg w a n c l) (hI : IsI l) (hn : n ≤ 65536) :
    Calls Tryz.prog 156 #[.slice a n c, .int .i64 3] w (PartX w (encB 3 l)) := by
  obtain ⟨i0, hi, hz0, hz1, hz2⟩ := info_parts info_u8
  have hcap := hs.cap
  have hle := hs.le
  unfold maxLen at hcap
  have HLen := Lib.hid hs.len
  have HV := Lib.hid (Oct.putVar_any _ 1 1 [3] (n : Int) (w.alloc (.cells #[.int .u8 3] 5)) (oseg (Bs.lit_seg w [3] (by decide))) (by omega) (by omega) (by decide))
  have hvl := Oct.varB_le 9 (n : Int)
  obtain ⟨vl, hvle⟩ : ∃ x, (varB 9 (n : Int)).length = x := ⟨_, rfl⟩
  rw [hvle] at hvl
  have HVL := Lib.hid hvle
  obtain ⟨B, hB⟩ : ∃ B, bodyB 3 l = B := ⟨_, rfl⟩
  have HE : Hid (encB 3 l = [3] ++ varB 9 (n : Int) ++ B) := Lib.hid (by unfold encB headB; rw [hB, hs.len]; rfl)
  have hBl := body_len 3 l (by have := hs.len; omega)
  rw [hB] at hBl
  obtain ⟨bl, hbl⟩ : ∃ x, B.length = x := ⟨_, rfl⟩
  rw [hbl] at hBl
  have HBL := Lib.hid hbl
  have HPut := Lib.hid (fun W (h : Is.Seg W a n c l) => putPacked_any a n c l W h hI hn)
  have hBe : packedB l = B := hB
  rw [hBe] at HPut
  have hseg1 : ∀ W, Below w.heap.size w W → Is.Seg W a n c l := fun W hb => iseg_below hs hb rfl
  have HSeg := Lib.hid hseg1
  have HA : Hid (Below w.heap.size w (w.alloc (.cells #[.int .u8 3] 5))) := Lib.hid ((Below.refl _ w).alloc (Nat.le_refl _) _)
  clear hI hs hvle hB hbl hBe hseg1
  go_enter Tryz.func156, Tryz.ntmps156
  go_wp2_with fail
  refine HV.out.mono ?_
  rintro e w1 hnew
  obtain ⟨g1, q1, rfl, hf⟩ := hnew.value
  obtain ⟨hq1, hown1, hg1⟩ := hf.is
  have hq : q1 = 1 + vl := by rw [hq1, List.length_append, HVL.out]; rfl
  subst hq
  have HO1 := Lib.hid (Bs.ownsRow_mono (b' := w.heap.size) hown1 HA.out.size)
  have HB1 : Hid (Below w.heap.size w w1) := Lib.hid (HA.out.trans (below_grown hg1 HA.out.size))
  have HForm := Lib.hid (forms_any w1)
  clear hnew hf hq1 hown1 hg1
  dsimp only
  go_wp2_with fail
  refine HForm.out.mono ?_
  rintro e w2 ⟨rfl, hb2⟩
  have HB2 : Hid (Below w.heap.size w w2) := Lib.hid (HB1.out.trans (below_mono hb2 HB1.out.size))
  have HO2 := Lib.hid (own_grown HO1.out (Bs.grown_of hb2))
  have HP2 := Lib.hid (HPut.out w2 (HSeg.out w2 HB2.out))
  clear hb2
  dsimp only
  unfold formsV
  have hix : ∀ W, (Instr.index 182 (.agg #[.nilFunc, .nilFunc, .func (.func 160) #[] #[], .func (.func 161) #[] #[], .func (.func 162) #[] #[], .func (.func 163) #[] #[], .func (.func 164) #[] #[], .func (.func 165) #[] #[]]) (.int .i64 3)).run Tryz.prog W = .ok (.agg #[.func (.func 164) #[] #[], .func (.func 165) #[] #[]]) W := fun _ => by kernel_rfl
  have hfx : ∀ W, (Instr.field 181 (.agg #[.func (.func 164) #[] #[], .func (.func 165) #[] #[]]) 0).run Tryz.prog W = .ok (.func (.func 164) #[] #[]) W := fun _ => by kernel_rfl
  go_wp2_with fail
  refine HP2.out.mono ?_
  rintro e w3 ⟨a3, m3, k3, rfl, hm3, hs3, hb3, _⟩
  have HB3 : Hid (Below w.heap.size w w3) := Lib.hid (HB2.out.trans (below_mono hb3 HB2.out.size))
  have HO3 := Lib.hid (own_grown HO2.out (Bs.grown_of hb3))
  have hW3 : w.heap.size ≤ w3.heap.size := HB3.out.size
  have HW3 := Lib.hid hW3
  rw [HBL.out] at hm3
  subst hm3
  have HS3 := Lib.hid hs3
  clear hb3 hs3 hW3
  dsimp only
  go_wp2_with (at_builtin; refine Bs.wpList_append_seg rfl (.tmp 13) (.tmp 19) 45 rfl w.heap.size 5 i0 Tryz.underlying45 hi hz0 hz1 hz2 g1 (1 + vl) (1 + vl) _ rfl HO3.out a3 m3 k3 B rfl HS3.out (by omega) HW3.out ?_; intro g4 c4 w4 hown4 hgrow4)
  have HF : Hid (PartX w (encB 3 l) (.returned (.slice (some ⟨g4, 0, none⟩) (1 + vl + m3) c4)) w4) := by
    refine Lib.hid (part_own (n := 1 + vl + m3) ?_ (HB3.out.grown hgrow4 HW3.out (fun j e => by cases e; exact (HO3.out.lt _ rfl).1)))
    rw [HE.out, List.map_append]
    exact hown4
  clear hown4 hgrow4
  go_wp2
  go_ret
  exact HF.out

theorem encode_any (k : Nat) (a : Option Addr) (n c : Nat) (l : List Int) (w : World) (hs : Is.Seg w a n c l) (hI : IsI l) (hn : n ≤ 65536) (k1 : 1 ≤ k) (k3 : k ≤ 3) :
    Calls Tryz.prog 156 #[.slice a n c, .int .i64 (k : Int)] w (PartX w (encB k l)) := by
  match k, k1, k3 with
  | 1, _, _ => exact encode_1 a n c l w hs hI hn
  | 2, _, _ => exact encode_2 a n c l w hs hI hn
  | 3, _, _ => exact encode_3 a n c l w hs hI hn
end Go.Proofs.YtljanfnhmhimiaaGreat.In

namespace Go.Proofs.YtljanfnhmhimiaaGreat.In
open Go.RowKit Go.Joins
open Is (IsI)

def cmpI (x y : Int) : Int := if x < y then -1 else if y < x then 1 else 0
theorem nan_any (x : Int) (w : World) : Calls Tryz.prog 180 #[.int .i64 x] w fun e w' => e = .returned (.bool false) ∧ w = w' := by
  go_enter Tryz.func180, Tryz.ntmps180
  go_wp2
  go_ret
  exact ⟨rfl, rfl⟩
set_option maxHeartbeats 400000 in
theorem cmp_any (x y : Int) (w : World) : Calls Tryz.prog 159 #[.int .i64 x, .int .i64 y] w fun e w' => e = .returned (.int .i64 (cmpI x y)) ∧ w = w' := by
  by_cases h1 : x < y
  · go_enter Tryz.func159, Tryz.ntmps159
    go_wp2_with (go_at_call 180; refine (nan_any _ _).mono ?_; rintro e w' ⟨rfl, rfl⟩)
    go_ret
    exact ⟨Bs.ret_int (by unfold cmpI; rw [if_pos h1]), rfl⟩
  · by_cases h2 : y < x
    · go_enter Tryz.func159, Tryz.ntmps159
      go_wp2_with (go_at_call 180; refine (nan_any _ _).mono ?_; rintro e w' ⟨rfl, rfl⟩)
      go_ret
      exact ⟨Bs.ret_int (by unfold cmpI; rw [if_neg (by omega), if_pos h2]), rfl⟩
    · go_enter Tryz.func159, Tryz.ntmps159
      go_wp2_with (go_at_call 180; refine (nan_any _ _).mono ?_; rintro e w' ⟨rfl, rfl⟩)
      go_ret
      exact ⟨Bs.ret_int (by unfold cmpI; rw [if_neg (by omega), if_neg (by omega)]), rfl⟩

set_option maxHeartbeats 400000 in
theorem less_any (a0 a1 : Option Addr) (n0 c0 n1 c1 : Nat) (w : World) : Calls Tryz.prog 158 #[.slice a0 n0 c0, .slice a1 n1 c1] w fun e w' => e = .returned (.int .i64 (cmpI n0 n1)) ∧ w = w' := by
  have H := Lib.hid (cmp_any (n0 : Int) (n1 : Int) w)
  generalize cmpI (n0 : Int) (n1 : Int) = r at H ⊢
  go_enter Tryz.func158, Tryz.ntmps158
  go_wp2_with (go_at_call 159; refine H.out.mono ?_; rintro e w' ⟨rfl, rfl⟩)
  go_ret
  exact ⟨rfl, rfl⟩

/-- bytes in memory -/
structure Piece where
  a : Option Addr
  m : Nat
  k : Nat
  B : List Int
def Piece.val (p : Piece) : Value := .slice p.a p.m p.k
def Piece.ok (w : World) (p : Piece) : Prop := p.m = p.B.length ∧ Bs.Seg w p.a p.m p.k p.B
def stepP (p q : Piece) : Piece := if q.m < p.m then q else p
def minP (p : Piece) (t : List Piece) (k : Nat) : Piece := (t.take k).foldl stepP p
theorem minP_succ (p : Piece) (t : List Piece) (k : Nat) (q : Piece) (h : t[k]? = some q) : minP p t (k + 1) = stepP (minP p t k) q := by
  unfold minP
  rw [List.take_add_one, h, Option.toList_some, List.foldl_append]; rfl
def stepB (p q : List Int) : List Int := if q.length < p.length then q else p
def bestOf : List (List Int) → List Int
  | [] => []
  | p :: t => t.foldl stepB p
theorem min_best (w : World) : ∀ (t : List Piece) (p : Piece), p.ok w → (∀ q ∈ t, q.ok w) → (t.foldl stepP p).ok w ∧ (t.foldl stepP p).B = (t.map Piece.B).foldl stepB p.B := by
  intro t
  induction t with
  | nil => intro p h _; exact ⟨h, rfl⟩
  | cons q t ih =>
    intro p h hq
    have h1 := hq q (by simp)
    rw [List.foldl_cons, List.map_cons, List.foldl_cons]
    have e : (stepP p q).B = stepB p.B q.B := by
      unfold stepP stepB
      rw [← h.1, ← h1.1]
      split <;> rfl
    have hs : (stepP p q).ok w := by unfold stepP; split <;> assumption
    have := ih (stepP p q) hs (fun r hr => hq r (by simp [hr]))
    rw [e] at this
    exact this
theorem best_three (l : List Int) : bestOf [encB 1 l, encB 2 l, encB 3 l] = bestB l := by
  simp only [bestOf, stepB, bestB, List.foldl_cons, List.foldl_nil]
set_option maxRecDepth 100000 in
set_option maxHeartbeats 2000000 in
theorem minFunc_any (g D c : Nat) (p : Piece) (t : List Piece) (w : World) (hD : D = t.length + 1) (hDc : D ≤ c) (hc : c ≤ 9223372036854775807) (hcell : ∀ j q, (p :: t)[j]? = some q → w.cell? ⟨g, j, none⟩ = some q.val) :
    Calls Tryz.prog 157 #[.slice (some ⟨g, 0, none⟩) D c, .func (.func 158) #[] #[]] w fun e w' => e = .returned (t.foldl stepP p).val ∧ w = w' := by
  have c0 := hcell 0 p rfl
  have HC := Lib.hid hcell
  have HD := Lib.hid hD
  have hD1 : 1 ≤ D := by omega
  have HF : Hid (minP p t (D - 1) = t.foldl stepP p) := Lib.hid (by unfold minP; rw [List.take_of_length_le (by omega)])
  obtain ⟨pa, pm, pk, pB⟩ := p
  simp only [Piece.val] at c0
  clear hcell hD
  go_enter Tryz.func157, Tryz.ntmps157
  go_wp2
  go_loop [5, 6] (fun sm si => ∃ (k : Nat) (q : Piece), k + 1 ≤ D ∧ si = .int .i64 (((k + 1 : Nat)) : Int) ∧ sm = .slice q.a q.m q.k ∧ Hid (q = minP ⟨pa, pm, pk, pB⟩ t k)) (fun _ si => D - (intOf si).toNat)
  case atStart => exact ⟨0, ⟨pa, pm, pk, pB⟩, hD1, rfl, rfl, Lib.hid rfl⟩
  case round =>
    obtain ⟨k, ⟨qa, qm, qk, qB⟩, hk, rfl, rfl, HQ⟩ := hrel
    obtain ⟨j, hj⟩ : ∃ j, j = k + 1 := ⟨_, rfl⟩
    rw [← hj] at hk ⊢
    by_cases hlt : j < D
    · obtain ⟨r, hr⟩ : ∃ r, t[k]? = some r := ⟨_, List.getElem?_eq_getElem (by have := HD.out; omega)⟩
      have g1 := HC.out j r (by rw [hj]; exact hr)
      have HS := Lib.hid (minP_succ ⟨pa, pm, pk, pB⟩ t k r hr)
      obtain ⟨ra, rm, rk, rB⟩ := r
      simp only [Piece.val] at g1
      have HL := Lib.hid (less_any ra qa rm rk qm qk w)
      by_cases hlr : rm < qm
      · have hcm : cmpI (rm : Int) (qm : Int) = -1 := by unfold cmpI; rw [if_pos (by omega)]
        rw [hcm] at HL
        have HE : Hid ((⟨ra, rm, rk, rB⟩ : Piece) = minP ⟨pa, pm, pk, pB⟩ t (k + 1)) := Lib.hid (by rw [HS.out, ← HQ.out]; unfold stepP; rw [if_pos hlr])
        have HJ := Lib.hid hj
        clear hcm hr hj
        dsimp only
        go_wp2_with fail
        refine HL.out.mono ?_
        rintro e w' ⟨rfl, rfl⟩
        go_wp2
        go_round
        case rel => exact ⟨k + 1, ⟨ra, rm, rk, rB⟩, by have := HJ.out; omega, by have := HJ.out; subst this; go_num, rfl, HE⟩
        case measure => simp [intOf]; omega
      · have hge : 0 ≤ cmpI (rm : Int) (qm : Int) := by unfold cmpI; rw [if_neg (by omega)]; split <;> decide
        generalize cmpI (rm : Int) (qm : Int) = z at HL hge
        have HE : Hid ((⟨qa, qm, qk, qB⟩ : Piece) = minP ⟨pa, pm, pk, pB⟩ t (k + 1)) := Lib.hid (by rw [HS.out, ← HQ.out]; unfold stepP; rw [if_neg hlr])
        have HJ := Lib.hid hj
        clear hr hj
        dsimp only
        go_wp2_with fail
        refine HL.out.mono ?_
        rintro e w' ⟨rfl, rfl⟩
        go_wp2
        go_round
        case rel => exact ⟨k + 1, ⟨qa, qm, qk, qB⟩, by have := HJ.out; omega, by have := HJ.out; subst this; go_num, rfl, HE⟩
        case measure => simp [intOf]; omega
    · obtain rfl : j = D := by omega
      have HR : Hid (Value.slice qa qm qk = (t.foldl stepP ⟨pa, pm, pk, pB⟩).val) := Lib.hid (by
        rw [← HF.out, show j - 1 = k from by omega, ← HQ.out]; rfl)
      clear hj
      go_wp2
      go_ret
      exact ⟨by rw [HR.out]; rfl, rfl⟩

theorem info_sb : (Tryz.prog.info? 45).map (fun i => (i.zero, i.size, i.bytes)) = some (some (.slice none 0 0), 1, 24) := by kernel_rfl
def roomS (S : Nat) : Array Value := madeCells (Value.slice none 0 0).cells S
theorem roomS_size (S : Nat) : (roomS S).size = S := size_madeCells _ _
theorem make_roomS (S : Nat) (hS : S ≤ 1000000) (W : World) : (Instr.makeSlice 198 (.int .i64 0) (.int .i64 (S : Int))).run Tryz.prog W = .ok (.slice (some ⟨W.heap.size, 0, none⟩) 0 S) (W.alloc (.cells (roomS S) 45)) := by
  obtain ⟨i0, hi, hz0, hz1, hz2⟩ := info_parts info_sb
  have h := run_make (P := Tryz.prog) W 198 45 i0 (.slice none 0 0) Tryz.underlying198 hi hz0 .i64 .i64 0 (S : Int) (by omega) (by omega) (by rw [hz2]; omega) (by omega)
  rw [hz1, Int.toNat_natCast, Nat.mul_one] at h
  exact h

/-- A result of bytes and an error. -/
def PartE (w : World) (E : Int) (B : List Int) (e : Ending) (w' : World) : Prop :=
  ∃ a m k, e = .returned (.tuple #[.slice a m k, .int .i64 E]) ∧ m = B.length ∧ Bs.Seg w' a m k B ∧ Below w.heap.size w w'

theorem Piece.kept {w w' : World} {p : Piece} {row : Option Nat} (h : p.ok w) (hg : w.grownBy w' row) (hne : ∀ ad, p.a = some ad → row ≠ some ad.block) : p.ok w' := ⟨h.1, h.2.kept hg hne⟩

set_option maxRecDepth 100000 in
set_option maxHeartbeats 2000000 in
theorem shortest_any (ks : List Nat) (K kg : Nat) (a : Option Addr) (n c : Nat) (l : List Int) (w : World) (hs : Is.Seg w a n c l) (hI : IsI l) (hn : n ≤ 4096) (hK : ks.length = K) (K1 : 1 ≤ K) (K3 : K ≤ 3) (hks : ∀ k ∈ ks, 1 ≤ k ∧ k ≤ 3)
    (hkc : ∀ (j k : Nat), ks[j]? = some k → w.cell? ⟨kg, j, none⟩ = some (.int .i64 (k : Int))) :
    Calls Tryz.prog 139 #[.slice a n c, .slice (some ⟨kg, 0, none⟩) K K] w (PartE w 0 (bestOf (ks.map fun k => encB k l))) := by
  obtain ⟨i0, hi, hz0, hz1, hz2⟩ := info_parts info_sb
  have HSeg := Lib.hid (fun W hb => iseg_below (w' := W) (B := w.heap.size) hs hb rfl)
  have HI := Lib.hid hI
  have HK := Lib.hid hK
  have HKs := Lib.hid hks
  have HKc := Lib.hid hkc
  have hmk := make_roomS K (by omega)
  have h0 := World.ownsRow_made (base := w.heap.size) (e := 45) (size := 1) w (roomS K) K (Nat.le_refl _) (by unfold maxLen; omega) (by rw [roomS_size, Nat.mul_one])
  have HO := Lib.hid h0
  have HG : Hid (Below w.heap.size w (w.alloc (.cells (roomS K) 45))) := Lib.hid ((Below.refl _ w).alloc (Nat.le_refl _) _)
  clear h0 hs hI hK hks hkc
  go_enter Tryz.func139, Tryz.ntmps139
  go_wp2
  go_loopw [6, 17] (fun so si wr => ∃ (k : Nat) (ps : List Piece), k ≤ K ∧ si = .int .i64 k ∧ so = .slice (some ⟨w.heap.size, 0, none⟩) k K ∧ Hid (wr.ownsRow w.heap.size 45 1 (.slice (some ⟨w.heap.size, 0, none⟩) k K) k (ps.map Piece.val)) ∧
      Hid (∀ p ∈ ps, p.ok wr ∧ ∀ ad, p.a = some ad → w.heap.size ≠ ad.block) ∧ Hid (ps.map Piece.B = (ks.take k).map fun k => encB k l) ∧ Hid (Below w.heap.size w wr) ∧ Hid (w.heap.size < wr.heap.size))
    (fun _ si _ => K - (intOf si).toNat)
  case atStart => exact ⟨0, [], Nat.zero_le _, rfl, rfl, HO, Lib.hid (fun p hp => by cases hp), Lib.hid rfl, HG, Lib.hid (by simp)⟩
  case round =>
    obtain ⟨k, ps, hk, rfl, rfl, HO, HP, HE, HB, HL⟩ := hrel
    by_cases hlt : k < K
    · obtain ⟨j, hj⟩ : ∃ j, ks[k]? = some j := ⟨_, List.getElem?_eq_getElem (by have := HK.out; omega)⟩
      have hcw := HKc.out k j hj
      have g1 : wr.cell? ⟨kg, k, none⟩ = some (.int .i64 (j : Int)) := (HB.out.cell (p := ⟨kg, k, none⟩) (World.block_lt_of_cell? w _ hcw)).trans hcw
      obtain ⟨j1, j3⟩ := HKs.out j (List.mem_of_getElem? hj)
      have HEnc := Lib.hid (encode_any j a n c l wr (HSeg.out wr HB.out) HI.out (by omega) j1 j3)
      have HT : Hid ((ks.take (k + 1)).map (fun k => encB k l) = (ks.take k).map (fun k => encB k l) ++ [encB j l]) := Lib.hid (by rw [List.take_add_one, hj]; simp)
      clear hcw hj
      go_wp2_with fail
      refine HEnc.out.mono ?_
      rintro e w1 ⟨a1, m1, k1, rfl, hm1, hs1, hb1, hne1⟩
      have hsz1 := hb1.size
      have HO1 : Hid ((w1.alloc (.cells #[.slice a1 m1 k1] 45)).ownsRow w.heap.size 45 1 (.slice (some ⟨w.heap.size, 0, none⟩) k K) k (ps.map Piece.val)) := Lib.hid ((own_grown HO.out (Bs.grown_of hb1)).alloc _)
      have HB1 : Hid (Below w.heap.size w (w1.alloc (.cells #[.slice a1 m1 k1] 45))) := Lib.hid ((HB.out.trans (below_mono hb1 HB.out.size)).alloc (by have := HB.out.size; omega) _)
      have hps : ∀ p ∈ ps ++ [(⟨a1, m1, k1, encB j l⟩ : Piece)], p.ok (w1.alloc (.cells #[.slice a1 m1 k1] 45)) ∧ ∀ ad, p.a = some ad → w.heap.size ≠ ad.block := by
        intro p hp
        rcases List.mem_append.1 hp with hp | hp
        · obtain ⟨h1, h2⟩ := HP.out p hp
          exact ⟨Piece.kept (Piece.kept h1 (Bs.grown_of hb1) (fun _ _ e => by cases e)) (World.grownBy_alloc w1 _ none) (fun _ _ e => by cases e), h2⟩
        · simp only [List.mem_singleton] at hp
          subst hp
          refine ⟨⟨hm1, hs1.kept (World.grownBy_alloc w1 _ none) (fun _ _ e => by cases e)⟩, fun ad e => ?_⟩
          have := hne1 ad e
          have := HL.out
          omega
      have HPs := Lib.hid hps
      have HL1 : Hid (w.heap.size < (w1.alloc (.cells #[.slice a1 m1 k1] 45)).heap.size) := Lib.hid (by have := HL.out; simp; omega)
      clear hb1 hne1 hm1 hs1 hps hsz1
      dsimp only
      go_wp2_with (at_builtin; refine wpList_append_fits _ rfl (.tmp 21) (.tmp 25) 198 rfl w.heap.size 45 i0 1 Tryz.underlying198 hi hz1 w.heap.size k K _ rfl HO1.out ⟨w1.heap.size, 0, none⟩ 1 1 [.slice a1 m1 k1] rfl rfl (by intro t u ht; match t, ht with | 0, ht => simp at ht; subst ht; exact Pk.cell_new w1 _ _) (by intro u hu; simp at hu; subst hu; rfl) (by omega) ?_; intro w2 hown2 hgrow2)
      go_roundw
      case rel =>
        refine ⟨k + 1, ps ++ [⟨a1, m1, k1, encB j l⟩], by omega, by go_num, rfl, Lib.hid ?_, Lib.hid ?_, Lib.hid ?_, Lib.hid (HB1.out.grown hgrow2 (Nat.le_of_lt HL1.out) (fun j e => by cases e; exact Nat.le_refl _)), Lib.hid (Nat.lt_of_lt_of_le HL1.out hgrow2.size)⟩
        · rw [List.map_append]; exact hown2
        · intro p hp
          obtain ⟨h1, h2⟩ := HPs.out p hp
          exact ⟨Piece.kept h1 hgrow2 (fun ad e e2 => h2 ad e (Option.some.inj e2)), h2⟩
        · rw [List.map_append, HE.out, HT.out]; rfl
      case measure => simp [intOf]; omega
    · obtain rfl : k = K := by omega
      have hle : (ps.map Piece.val).length = k * 1 := HO.out.1
      rw [List.length_map, Nat.mul_one] at hle
      obtain ⟨p, t, rfl⟩ : ∃ p t, ps = p :: t := by
        cases ps with
        | nil => simp at hle; omega
        | cons p t => exact ⟨p, t, rfl⟩
      have HM := Lib.hid (minFunc_any w.heap.size k k p t wr (by simpa using hle.symm) (Nat.le_refl _) (by omega) (fun j q hq => by
        have := HO.out.cells (g := w.heap.size) rfl j q.val (by rw [List.getElem?_map, hq]; rfl)
        rwa [Addr.add_lit, Nat.zero_add] at this))
      have hmb := min_best wr t p (HP.out p (by simp)).1 (fun q hq => (HP.out q (by simp [hq])).1)
      have hbest : bestOf (ks.map fun k => encB k l) = (t.foldl stepP p).B := by
        have h1 := HE.out
        rw [List.take_of_length_le (Nat.le_of_eq HK.out)] at h1
        rw [← h1, hmb.2]; rfl
      obtain ⟨⟨qa, qm, qk, qB⟩, hq⟩ : ∃ q, t.foldl stepP p = q := ⟨_, rfl⟩
      rw [hq] at hbest hmb HM
      have HF : Hid (PartE w 0 (bestOf (ks.map fun k => encB k l)) (.returned (.tuple #[.slice qa qm qk, .int .i64 0])) wr) := Lib.hid (by
        rw [hbest]
        exact ⟨qa, qm, qk, rfl, hmb.1.1, hmb.1.2, HB.out⟩)
      clear hbest hmb hq hle
      simp only [Piece.val] at HM
      go_wp2_with fail
      refine HM.out.mono ?_
      rintro e w' ⟨rfl, rfl⟩
      go_wp2
      go_ret2
      exact HF.out
end Go.Proofs.YtljanfnhmhimiaaGreat.In

namespace Go.Proofs.YtljanfnhmhimiaaGreat.In
open Go.RowKit Go.Joins
open Is (IsI)

set_option maxHeartbeats 400000 in
theorem shortest_no (a : Option Addr) (n c kg K : Nat) (w : World) (hn : 4096 < n) :
    Calls Tryz.prog 139 #[.slice a n c, .slice (some ⟨kg, 0, none⟩) K K] w fun e w' => e = .returned (.tuple #[.slice none 0 0, .int .i64 3]) ∧ w = w' := by
  go_enter Tryz.func139, Tryz.ntmps139
  go_wp2
  go_ret2
  exact ⟨rfl, rfl⟩

/-- A result of bytes and an error, the answer plain. -/
def PutE (w : World) (r : Int × List Int) (e : Ending) (w' : World) : Prop := PartE w r.1 r.2 e w'
theorem parte_up {w w1 w' : World} {E : Int} {B : List Int} {e : Ending} (h : PartE w1 E B e w') (hb : Below w.heap.size w w1) : PartE w E B e w' := by
  obtain ⟨a, m, k, he, hm, hs, hb2⟩ := h
  exact ⟨a, m, k, he, hm, hs, hb.trans (below_mono hb2 hb.size)⟩
theorem parte_value {w w' : World} {E : Int} {B : List Int} {e : Ending} (h : PartE w E B e w') : ∃ a m k, e = .returned (.tuple #[.slice a m k, .int .i64 E]) ∧ PartE w E B (.returned (.tuple #[.slice a m k, .int .i64 E])) w' := by
  obtain ⟨a, m, k, he, h⟩ := h
  exact ⟨a, m, k, he, a, m, k, rfl, h⟩

theorem kinds_cells (w : World) (ks : List Nat) (hl : ks.length ≤ 1000) : ∀ (j k : Nat), ks[j]? = some k → (w.alloc (.cells ((ks.map fun k : Nat => (k : Int)).map (Value.int .i64)).toArray 3)).cell? ⟨w.heap.size, j, none⟩ = some (.int .i64 (k : Int)) := by
  intro j k hj
  have h := World.ownsRow_lit (base := w.heap.size) (e := 3) (size := 1) w ((ks.map fun k : Nat => (k : Int)).map (Value.int .i64)).toArray ks.length (Nat.le_refl _) (by unfold maxLen; omega) (by simp)
  have h2 := h.cells (g := w.heap.size) rfl j (.int .i64 (k : Int)) (by simp [hj])
  rwa [Addr.add_lit, Nat.zero_add] at h2

set_option maxRecDepth 100000 in
set_option maxHeartbeats 1000000 in
theorem put_any (a : Option Addr) (n c : Nat) (l : List Int) (w : World) (hs : Is.Seg w a n c l) (hI : IsI l) :
    Calls Tryz.prog 95 #[.slice a n c] w (PutE w (tooMany l (bestB l))) := by
  have hA : Below w.heap.size w (w.alloc (.cells #[.int .i64 1, .int .i64 2, .int .i64 3] 3)) := (Below.refl _ w).alloc (Nat.le_refl _) _
  unfold PutE tooMany
  by_cases hn : 4096 < n
  · rw [if_pos (by rw [hs.len]; exact hn)]
    have H := Lib.hid (shortest_no a n c w.heap.size 3 (w.alloc (.cells #[.int .i64 1, .int .i64 2, .int .i64 3] 3)) hn)
    have HF : Hid (PartE w 3 [] (.returned (.tuple #[.slice none 0 0, .int .i64 3])) (w.alloc (.cells #[.int .i64 1, .int .i64 2, .int .i64 3] 3))) := Lib.hid ⟨none, 0, 0, rfl, rfl, Bs.Seg.nil _, hA⟩
    go_enter Tryz.func95, Tryz.ntmps95
    go_wp2_with fail
    refine H.out.mono ?_
    rintro e w' ⟨rfl, rfl⟩
    go_wp2
    go_ret2
    exact HF.out
  · rw [if_neg (by rw [hs.len]; exact hn)]
    have H := Lib.hid (shortest_any [1, 2, 3] 3 w.heap.size a n c l (w.alloc (.cells #[.int .i64 1, .int .i64 2, .int .i64 3] 3)) (iseg_below hs hA rfl) hI (by omega) rfl (by decide) (by decide) (by decide) (kinds_cells w [1, 2, 3] (by decide)))
    have HA := Lib.hid hA
    simp only [List.map_cons, List.map_nil] at H
    rw [best_three] at H
    generalize bestB l = B at H ⊢
    clear hs hA hn
    go_enter Tryz.func95, Tryz.ntmps95
    go_wp2_with fail
    refine H.out.mono ?_
    rintro e w' hp
    obtain ⟨a', m', k', rfl, hp2⟩ := parte_value (parte_up (w := w) hp HA.out)
    have HF := Lib.hid hp2
    clear hp hp2
    go_wp2
    go_ret2
    exact HF.out

end Go.Proofs.YtljanfnhmhimiaaGreat.In

namespace Go.Proofs.YtljanfnhmhimiaaGreat.In
open Go.RowKit Go.Joins
open Is (IsI)
open Oct (Rd ReadN ofB)
open Dv (Turn nowhere)

theorem wrap_sg (v : Int) (h0 : 0 ≤ v) (h1 : v < 18446744073709551616) : wrap64 v = sg v := by
  rw [← IntWalk.i64_left, IntKind.wrap_i64]; unfold sg; split <;> omega

/-- What reading a form answers: the numbers, and what is left; or an error. -/
def GetsX (b g : Nat) (w : World) (r : Option (List Int × List Int)) (e : Ending) (w' : World) : Prop :=
  Turn w w' (At b) ∧ match r with
    | some (l, rest) => ∃ a c, e = .returned (.tuple #[.slice a l.length c, .int .i64 0]) ∧ Is.Seg w' a l.length c l ∧ Rd w' b g rest
    | none => ∃ E : Int, E ≠ 0 ∧ e = .returned (.tuple #[.slice none 0 0, .int .i64 E])

set_option maxRecDepth 100000 in
set_option maxHeartbeats 2000000 in
theorem getPlain_any (b g n : Nat) (bs : List Int) (w : World) (h : Rd w b g bs) (hg : g < w.heap.size) (hb : Oct.IsB bs) (hn : n ≤ 65536) :
    Calls Tryz.prog 161 #[.pointer (some ⟨b, 0, none⟩), .int .i64 n] w (GetsX b g w (decP n bs)) := by
  obtain ⟨i0, hi, hz0, hz1, hz2⟩ := info_parts Is.info_i64
  have hbl : b < w.heap.size := World.block_lt_of_cell? w _ h.self
  have HBL := Lib.hid hbl
  have HGL := Lib.hid hg
  have hmk := make_roomI n (by omega)
  have h0 := World.ownsRow_made (base := w.heap.size) (e := 2) (size := 1) w (roomI n) n (Nat.le_refl _) (by unfold maxLen; omega) (by rw [roomI_size, Nat.mul_one])
  have HO0 := Lib.hid h0
  have HT0 : Hid (Turn w (w.alloc (.cells (roomI n) 2)) (At b)) := Lib.hid (Turn.alloc w _ _)
  have HR0 : Hid (Rd (w.alloc (.cells (roomI n) 2)) b g bs) := Lib.hid (Turn.rd (Turn.alloc w _ nowhere) h id id)
  have HE0 : Hid (decP n bs = (decP (n - 0) bs).map (fun p => (([] : List Int) ++ p.1, p.2))) := Lib.hid (by simp)
  have HB0 := Lib.hid hb
  clear h0 h hg hb hbl
  go_enter Tryz.func161, Tryz.ntmps161
  go_wp2
  go_loopw [6, 12] (fun so si wr => ∃ (k : Nat) (acc rest : List Int), k ≤ n ∧ si = .int .i64 k ∧ so = .slice (some ⟨w.heap.size, 0, none⟩) k n ∧ Hid (wr.ownsRow w.heap.size 2 1 (.slice (some ⟨w.heap.size, 0, none⟩) k n) k (acc.map (Value.int .i64))) ∧
      Hid (Rd wr b g rest) ∧ Hid (Oct.IsB rest) ∧ Hid (decP n bs = (decP (n - k) rest).map (fun p => (acc ++ p.1, p.2))) ∧ Hid (Turn w wr (At b)) ∧ Hid (w.heap.size < wr.heap.size))
    (fun _ si _ => n - (intOf si).toNat)
  case atStart => exact ⟨0, [], bs, Nat.zero_le _, rfl, rfl, HO0, HR0, HB0, HE0, HT0, Lib.hid (by simp)⟩
  case round =>
    obtain ⟨k, acc, rest, hk, rfl, rfl, HO, HR, HB, HE, HT, HL⟩ := hrel
    by_cases hlt : k < n
    · have hstep := decP_step n k bs acc rest hlt HE.out
      by_cases h8 : rest.length < 8
      · have HN := Lib.hid (Oct.number_more b g rest 8 wr HR.out (by decide) (by decide) (by omega))
        have HF : Hid (GetsX b g w (decP n bs) (.returned (.tuple #[.slice none 0 0, .int .i64 7])) wr) := Lib.hid (by
          rw [hstep.1 h8]
          exact ⟨HT.out, 7, by decide, rfl⟩)
        clear hstep h8
        go_wp2_with fail
        refine HN.out.mono ?_
        rintro e w' ⟨rfl, rfl⟩
        dsimp only
        go_wp2
        go_ret2
        exact HF.out
      · have h8' : 8 ≤ rest.length := by omega
        have HS := Lib.hid (hstep.2 h8')
        have HN := Lib.hid (Oct.number_yes b g rest 8 wr HR.out HB.out (by decide) (by decide) h8')
        have hz := ofB_bd8 (rest.take 8) (isB_take HB.out 8) (by rw [List.length_take]; omega)
        obtain ⟨z, hze⟩ : ∃ z, ofB (rest.take 8) = z := ⟨_, rfl⟩
        rw [hze] at HN HS hz
        have HZ := Lib.hid (wrap_sg z hz.1 hz.2)
        have HB2 := Lib.hid (isB_drop HB.out 8)
        clear hstep h8 h8' hze hz
        go_wp2_with fail
        refine HN.out.mono ?_
        rintro e w1 ⟨rfl, hg1, hr1⟩
        have HO1 : Hid (w1.ownsRow w.heap.size 2 1 (.slice (some ⟨w.heap.size, 0, none⟩) k n) k (acc.map (Value.int .i64))) := Lib.hid (own_at HO.out hg1 (by have := HBL.out; omega))
        have HT1 : Hid (Turn w w1 (At b)) := Lib.hid (turn_more HT.out (turn_read hg1) (fun i e => .inl e))
        have HR1 := Lib.hid hr1
        have HL1 : Hid (w.heap.size < w1.heap.size) := Lib.hid (Nat.lt_of_lt_of_le HL.out hg1.size)
        clear hg1 hr1
        dsimp only
        go_wp2_with (at_builtin; refine wpList_append_fits _ rfl (.tmp 22) (.tmp 25) 131 rfl w.heap.size 2 i0 1 Tryz.underlying131 hi hz1 w.heap.size k n _ rfl (HO1.out.alloc _) ⟨w1.heap.size, 0, none⟩ 1 1 [.int .i64 (wrap64 z)] rfl rfl (by intro t u ht; match t, ht with | 0, ht => simp at ht; subst ht; exact Pk.cell_new w1 _ _) (by intro u hu; simp at hu; subst hu; rfl) (by omega) ?_; intro w2 hown2 hgrow2)
        go_roundw
        case rel =>
          have hT2 := Turn.alloc w1 (.cells #[.int .i64 (wrap64 z)] 2) (At b)
          refine ⟨k + 1, acc ++ [sg z], rest.drop 8, by omega, by go_num, rfl, Lib.hid ?_, Lib.hid ?_, HB2, HS, Lib.hid ?_, Lib.hid (Nat.lt_of_lt_of_le (Nat.lt_of_lt_of_le HL1.out hT2.size) hgrow2.size)⟩
          · rw [List.map_append, ← HZ.out]; exact hown2
          · exact Turn.rd (turn_row hgrow2) (Turn.rd (Turn.alloc w1 _ nowhere) HR1.out id id) (by have := HBL.out; unfold At; omega) (by have := HGL.out; unfold At; omega)
          · exact turn_more (turn_more HT1.out hT2 (fun i e => .inl e)) (turn_row hgrow2) (fun i e => .inr (by unfold At at e; omega))
        case measure => simp [intOf]; omega
    · obtain rfl : k = n := by omega
      have hd := HE.out
      rw [Nat.sub_self] at hd
      have hd2 : decP k bs = some (acc, rest) := by rw [hd]; simp [decP]
      have hal : acc.length = k := by have := HO.out.1; rw [List.length_map] at this; omega
      have HF : Hid (GetsX b g w (decP k bs) (.returned (.tuple #[.slice (some ⟨w.heap.size, 0, none⟩) k k, .int .i64 0])) wr) := Lib.hid (by
        rw [hd2]
        refine ⟨HT.out, _, k, by rw [hal], ?_, HR.out⟩
        rw [hal]
        exact Is.Seg.own HO.out)
      clear hd hd2 hal
      go_wp2
      go_ret2
      exact HF.out
end Go.Proofs.YtljanfnhmhimiaaGreat.In
