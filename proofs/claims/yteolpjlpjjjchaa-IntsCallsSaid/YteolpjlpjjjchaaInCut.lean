/-
  The runs of a column, as slices of it: cut.
-/
import Derived.Test.YteolpjlpjjjchaaInPut
import Derived.Deep.LoopGhost
import Derived.WalkMore
namespace Go.Proofs.Yteolpjlpjjjchaa.In
open Go.RowKit Go.Joins
open Is (IsI)
open Bs (info_u8)
open Ref1 (GrowB)

theorem info_sl : (Try.prog.info? 27).map (fun i => (i.zero, i.size, i.bytes)) = some (some (.slice none 0 0), 1, 24) := by kernel_rfl

/-- a run: where it starts, how long it is, its number -/
structure Run where
  at_ : Nat
  len : Nat
  num : Int
def Run.val (g o c : Nat) (d : Run) : Value := .slice (some ⟨g, o + d.at_, none⟩) d.len (c - d.at_)
def Run.pair (d : Run) : Nat × Int := (d.len, d.num)
/-- runs within a column -/
def Runs (l : List Int) (ds : List Run) : Prop := ∀ d ∈ ds, 1 ≤ d.len ∧ d.at_ + d.len ≤ l.length ∧ l.getD d.at_ 0 = d.num

/-- What cut hands back. -/
def CutX (w : World) (g o c : Nat) (l : List Int) (e : Ending) (w' : World) : Prop :=
  ∃ ds a' g' c', e = .returned (.slice a' ds.length c') ∧ ds.map Run.pair = rle l ∧ Runs l ds ∧ (a' = some ⟨g', 0, none⟩ ∨ ds.length = 0) ∧ (∀ j d, ds[j]? = some d → w'.cell? ⟨g', j, none⟩ = some (d.val g o c)) ∧ Below w.heap.size w w' ∧ ds.length ≤ c' ∧ c' ≤ maxLen

theorem cut_fin {w wr : World} {V : Value} {g o c : Nat} {l : List Int} {ds : List Run} (ho : wr.ownsRow w.heap.size 27 1 V ds.length (ds.map (Run.val g o c))) (hm : ds.map Run.pair = rle l) (hr : Runs l ds) (hb : Below w.heap.size w wr) : CutX w g o c l (.returned V) wr := by
  rcases ho.2 with ⟨rfl, h0⟩ | ⟨g', c', cur, rfl, _, hg, h1, h2, _⟩
  · refine ⟨ds, none, 0, 0, by rw [h0], hm, hr, .inr h0, fun j d hd => ?_, hb, by omega, by unfold maxLen; omega⟩
    obtain rfl := List.eq_nil_of_length_eq_zero h0
    simp at hd
  · refine ⟨ds, _, g', c', rfl, hm, hr, .inl rfl, fun j d hd => ?_, hb, h1, h2⟩
    have := ho.cells (g := g') rfl j (d.val g o c) (by rw [List.getElem?_map, hd]; rfl)
    rw [Addr.add_lit, Nat.zero_add] at this
    exact this

theorem push_own {w2 : World} {base g o c p q i cc : Nat} {x0 : Int} {ds : List Run} {v' : Value} (h : w2.ownsRow base 27 1 v' (ds.length + 1) (ds.map (Run.val g o c) ++ [.slice (some ⟨g, q, none⟩) i cc])) (hq : q = o + p) (hcc : cc = c - p) :
    w2.ownsRow base 27 1 v' (ds ++ [(⟨p, i, x0⟩ : Run)]).length ((ds ++ [(⟨p, i, x0⟩ : Run)]).map (Run.val g o c)) := by
  subst hq hcc
  rw [List.map_append, List.length_append]
  exact h
theorem push_runs {l : List Int} {ds : List Run} {p i : Nat} {x0 : Int} (h : Runs l ds) (h1 : 1 ≤ i) (h2 : p + i ≤ l.length) (h3 : l.getD p 0 = x0) : Runs l (ds ++ [(⟨p, i, x0⟩ : Run)]) := by
  intro d hd
  rcases List.mem_append.1 hd with hd | hd
  · exact h d hd
  · simp only [List.mem_singleton] at hd
    subst hd
    exact ⟨h1, h2, h3⟩
theorem push_pairs {l : List Int} {ds : List Run} {p i : Nat} {x0 : Int} (h : ds.map Run.pair ++ rle (l.drop p) = rle l) (h1 : 1 ≤ i) (h2 : p + i ≤ l.length) (h3 : l.getD p 0 = x0) (hs : ∀ j, j < i → l.getD (p + j) 0 = x0)
    (he : p + i = l.length ∨ l.getD (p + i) 0 ≠ x0) : (ds ++ [(⟨p, i, x0⟩ : Run)]).map Run.pair ++ rle (l.drop (p + i)) = rle l := by
  have hr := rle_at l p (p + i) (by omega) h2 (fun j hj1 hj2 => by
    have := hs (j - p) (by omega)
    rw [show p + (j - p) = j from by omega] at this
    rw [this, h3]) (by rw [h3]; exact he)
  rw [← h, hr, h3, List.map_append, List.append_assoc, Nat.add_sub_cancel_left]
  rfl

set_option maxRecDepth 100000 in
set_option maxHeartbeats 2000000 in
theorem cut_any (g o n c : Nat) (l : List Int) (w : World) (hs : Is.Seg w (some ⟨g, o, none⟩) n c l) (hn0 : 0 < n) (hn : n ≤ 65536) :
    Calls Try.prog 62 #[.slice (some ⟨g, o, none⟩) n c] w (CutX w g o c l) := by
  obtain ⟨i0, hi, hz0, hz1, hz2⟩ := info_parts info_sl
  have hcap := hs.cap
  have hle := hs.le
  unfold maxLen at hcap
  have HLen := Lib.hid hs.len
  have HSeg := Lib.hid hs
  clear hs
  go_enter Try.func62, Try.ntmps62
  go_wp2
  go_step3
  go_wp2
  go_step3
  go_wp2
  go_loopg [0, 3] n (fun gh sl sa wx => ∃ (p q m cc : Nat) (ds : List Run) (V : Value), m = gh ∧ 0 < m ∧ m ≤ cc ∧ cc ≤ c ∧ sl = .slice (some ⟨g, q, none⟩) m cc ∧ V = sa ∧ Hid (q = o + p ∧ m + p = n ∧ cc = c - p ∧ ds.length ≤ p) ∧
      Hid (wx.ownsRow w.heap.size 27 1 V ds.length (ds.map (Run.val g o c))) ∧ Hid (ds.map Run.pair ++ rle (l.drop p) = rle l) ∧ Hid (Runs l ds) ∧ Hid (Below w.heap.size w wx))
  case atStart => exact ⟨0, o, n, c, [], _, rfl, hn0, hle, Nat.le_refl _, rfl, rfl, Lib.hid (by simp), Lib.hid (World.ownsRow_nil _ _ _ _), Lib.hid (by simp), Lib.hid (fun d hd => by cases hd), Lib.hid (Below.refl _ _)⟩
  case round =>
    obtain ⟨p, q, m, cc, ds, V, rfl, hm0, hmc, hcc, rfl, rfl, HQ, HO, HR, HU, HB⟩ := hrel
    have hcell : ∀ j, j < m → wr.cell? ⟨g, q + j, none⟩ = some (.int .i64 (l.getD (p + j) 0)) := fun j hj => by
      obtain ⟨e1, e2, e3, _⟩ := HQ.out
      have hseg := iseg_below HSeg.out HB.out rfl
      obtain ⟨g', o', e, hc⟩ := hseg.addr hn0
      cases e
      have := hc (p + j) (by omega)
      rw [e1, Nat.add_assoc]
      exact this
    have HC := Lib.hid hcell
    have c0 := hcell 0 hm0
    rw [Nat.add_zero, Nat.add_zero] at c0
    obtain ⟨x0, hx0⟩ : ∃ x, l.getD p 0 = x := ⟨_, rfl⟩
    rw [hx0] at c0
    have HX0 := Lib.hid hx0
    clear hcell hx0
    go_wp2
    go_loopg [0, 3, 11] m (fun gi sl sa si wx => ∃ (i : Nat), i + gi = m ∧ si = .int .i64 i ∧ sl = .slice (some ⟨g, q, none⟩) m cc ∧ V = sa ∧ wx = wr ∧ Hid (∀ j, j < i → l.getD (p + j) 0 = x0))
    case atStart => exact ⟨0, by omega, rfl, rfl, rfl, rfl, Lib.hid (fun j hj => by omega)⟩
    case round =>
      obtain ⟨i, hig, rfl, rfl, rfl, rfl, HE⟩ := hrel
      cases gk with
      | zero =>
        obtain rfl : i = m := by omega
        have HO1 : Hid ((wr.alloc (.cells #[.slice (some ⟨g, q, none⟩) i cc] 27)).ownsRow w.heap.size 27 1 V ds.length (ds.map (Run.val g o c))) := Lib.hid (HO.out.alloc _)
        have hcl : (wr.alloc (.cells #[.slice (some ⟨g, q, none⟩) i cc] 27)).cell? ⟨wr.heap.size, 0, none⟩ = some (.slice (some ⟨g, q, none⟩) i cc) := Pk.cell_new wr _ _
        have HCl := Lib.hid hcl
        have HW : Hid (w.heap.size ≤ (wr.alloc (.cells #[.slice (some ⟨g, q, none⟩) i cc] 27)).heap.size) := Lib.hid (by have := HB.out.size; simp; omega)
        have HBd : Hid (ds.length + 1 ≤ 65536) := Lib.hid (by have := HQ.out; omega)
        clear hcl
        go_wp2_with (at_builtin; refine wpList_append_own _ rfl (.tmp 31) (.tmp 33) 84 rfl w.heap.size 27 i0 (.slice none 0 0) 1 24 Try.underlying84 hi hz0 hz1 hz2 rfl (by decide) V ds.length (ds.map (Run.val g o c)) rfl HO1.out ⟨wr.heap.size, 0, none⟩ 1 1 [.slice (some ⟨g, q, none⟩) i cc] rfl rfl (by intro t u ht; match t, ht with | 0, ht => simp at ht; subst ht; exact HCl.out) (by intro u hu; simp at hu; subst hu; rfl) (by have := HBd.out; unfold maxLen; omega) (by have := HBd.out; omega) HW.out ?_; intro v' w2 hown2 hgrow2 _)
        have HF : Hid (CutX w g o c l (.returned v') w2) := by
          obtain ⟨e1, e2, e3, e4⟩ := HQ.out
          have hl := HLen.out
          have h1 := push_own (x0 := x0) hown2 e1 e3
          have h2 := push_pairs HR.out hm0 (by omega) HX0.out HE.out (.inl (by omega))
          rw [List.drop_eq_nil_of_le (by omega)] at h2
          refine Lib.hid (cut_fin h1 (by simpa [rle] using h2) (push_runs HU.out hm0 (by omega) HX0.out) ((HB.out.alloc HB.out.size _).grown hgrow2 HW.out (fun j e => (HO.out.lt j e).1)))
        clear hown2 hgrow2
        go_wp2
        rw [Exit.noGoto_ret]
        go_ret
        exact HF.out
      | succ gi =>
        have hlt : i < m := by omega
        have g1 := HC.out i hlt
        obtain ⟨x, hx⟩ : ∃ x, l.getD (p + i) 0 = x := ⟨_, rfl⟩
        rw [hx] at g1
        have HX := Lib.hid hx
        clear hx
        by_cases hxe : x = x0
        · subst hxe
          go_wp2
          go_roundg gi
          case rel => exact ⟨i + 1, by omega, by go_num, rfl, rfl, rfl, Lib.hid (fun j hj => by
            by_cases hji : j < i
            · exact HE.out j hji
            · rw [show j = i from by omega]; exact HX.out)⟩
          case measure => omega
        · have hi0 : 0 < i := by
            rcases Nat.eq_zero_or_pos i with h | h
            · exfalso
              subst h
              rw [Nat.add_zero] at HX
              exact hxe (HX.out.symm.trans HX0.out)
            · exact h
          have hb : (x == x0) = false := by simpa using hxe
          have HXE := Lib.hid hxe
          clear hxe
          have hic : i ≤ cc := by omega
          have hci : ¬ cc = i := by omega
          have HO1 : Hid ((wr.alloc (.cells #[.slice (some ⟨g, q, none⟩) i cc] 27)).ownsRow w.heap.size 27 1 V ds.length (ds.map (Run.val g o c))) := Lib.hid (HO.out.alloc _)
          have HCl := Lib.hid (Pk.cell_new wr (.slice (some ⟨g, q, none⟩) i cc) 27)
          have HW : Hid (w.heap.size ≤ (wr.alloc (.cells #[.slice (some ⟨g, q, none⟩) i cc] 27)).heap.size) := Lib.hid (by have := HB.out.size; simp; omega)
          have HBd : Hid (ds.length + 1 ≤ 65536) := Lib.hid (by have := HQ.out; omega)
          go_wp2_with (at_builtin; refine wpList_append_own _ rfl (.tmp 21) (.tmp 25) 84 rfl w.heap.size 27 i0 (.slice none 0 0) 1 24 Try.underlying84 hi hz0 hz1 hz2 rfl (by decide) V ds.length (ds.map (Run.val g o c)) rfl HO1.out ⟨wr.heap.size, 0, none⟩ 1 1 [.slice (some ⟨g, q, none⟩) i cc] rfl rfl (by intro t u ht; match t, ht with | 0, ht => simp at ht; subst ht; exact HCl.out) (by intro u hu; simp at hu; subst hu; rfl) (by have := HBd.out; unfold maxLen; omega) (by have := HBd.out; omega) HW.out ?_; intro v' w2 hown2 hgrow2 _)
          go_roundg (m - i)
          case rel =>
            obtain ⟨e1, e2, e3, e4⟩ := HQ.out
            have hl := HLen.out
            refine ⟨p + i, q + i, m - i, cc - i, ds ++ [⟨p, i, x0⟩], v', rfl, by omega, by omega, by omega, rfl, rfl, Lib.hid ⟨by omega, by omega, by omega, by simp; omega⟩, Lib.hid (push_own hown2 e1 e3), Lib.hid (push_pairs HR.out hi0 (by omega) HX0.out HE.out (.inr (by rw [HX.out]; exact HXE.out))), Lib.hid (push_runs HU.out hi0 (by omega) HX0.out), Lib.hid ((HB.out.alloc HB.out.size _).grown hgrow2 HW.out (fun j e => (HO.out.lt j e).1))⟩
          case measure => omega
end Go.Proofs.Yteolpjlpjjjchaa.In
