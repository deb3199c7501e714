/-
  SuperTurns: each newer super goes to the other block; chosen in turn.
-/
import Derived.Test.YtfojkglindpjjaaDoorSuPick
namespace Go.Proofs.YtfojkglindpjjaaDoor.Su
open Go.RowKit Bs Dv Gr Dr
open Fr (getF kindF none3 strE)

theorem empty_get : (getS []).2 ≠ 0 := by decide +kernel
/-- Two blocks of which the one counts: its super is there. -/
structure TurnI (L0 L1 : List Int) (last : Nat) (cur : Sup) : Prop where
  le : last ≤ 1
  b0 : Bs.IsB L0
  b1 : Bs.IsB L1
  n0 : L0.length ≤ 4096
  n1 : L1.length ≤ 4096
  ch : chooseS L0 L1 = ((last : Int), cur, 0)
  here : getS (if last = 0 then L0 else L1) = (cur, 0)
theorem TurnI.start {s : Sup} (h : supE s = 0) (ho : SupOk s) : TurnI (putS s).1 [] 0 s :=
  ⟨by omega, put_isB, (fun _ h => by cases h), put_short s, by decide, choose_first (get_put h ho) (fun h => absurd h empty_get), get_put h ho⟩
theorem TurnI.first {L0 L1 : List Int} {cur t : Sup} (h : TurnI L0 L1 0 cur) (ht : supE t = 0) (ho : SupOk t) (hg : cur.gen < t.gen) : TurnI L0 (putS t).1 1 t := by
  have h1 : getS L0 = (cur, 0) := h.here
  exact ⟨by omega, h.b0, put_isB, h.n0, put_short t, choose_second (get_put ht ho) (.inr (by rw [h1]; exact hg)), get_put ht ho⟩
theorem TurnI.second {L0 L1 : List Int} {cur t : Sup} (h : TurnI L0 L1 1 cur) (ht : supE t = 0) (ho : SupOk t) (hg : cur.gen < t.gen) : TurnI (putS t).1 L1 0 t := by
  have h1 : getS L1 = (cur, 0) := h.here
  exact ⟨by omega, put_isB, h.b1, put_short t, h.n1, choose_first (get_put ht ho) (fun _ => by rw [h1]; show ¬ t.gen < cur.gen; omega), get_put ht ho⟩

/-- two strings in block g -/
def RW (w : World) (g : Nat) (L0 L1 : List Int) : Prop := w.heap[g]? = some (.cells #[.string (strOfNums L0), .string (strOfNums L1)] 9 (0, 0))
theorem SB.gen_root {w : World} {g : Nat} {s : Sup} {a : Option Addr} {n c : Nat} (h : SB w g s a n c) (y x : Int) : SB ((w.setCell ⟨g, 0, none⟩ (.int .u64 y)).setCell ⟨g, 3, none⟩ (.int .u32 x)) g ⟨y, s.size, s.blocks, x, s.pages⟩ a n c := by
  have h1 := Go.heap_setCell_same w g 0 _ _ (.int .u64 y) h
  exact Go.heap_setCell_same _ g 3 _ _ (.int .u32 x) h1

set_option maxRecDepth 100000 in
set_option maxHeartbeats 8000000 in
theorem turns_any (s : Sup) (a : Option Addr) (n c : Nat) (b : Option Addr) (k c2 : Nat) (rs : List Int) (w : World) (hs : Ws.Seg w a n c s.pages) (ho : SupOk s) (hr : Ws.Seg w b k c2 rs) (hrb : ∀ p ∈ rs, 0 ≤ p ∧ p < 4294967296) (hT : T4 w) :
    Calls Tryd.prog 7 #[.agg #[.int .u64 s.gen, .int .i64 s.size, .int .i64 s.blocks, .int .u32 s.root, .slice a n c], .slice b k c2] w fun e w' => e = .returned (.bool true) ∧ w.grownBy w' none := by
  have HB0 := Lib.hid (SB.new w s a n c)
  have HG0 := Lib.hid (grown_alloc w (.cells #[.int .u64 s.gen, .int .i64 s.size, .int .i64 s.blocks, .int .u32 s.root, .slice a n c] 29))
  obtain ⟨W0, hW0⟩ : ∃ X, w.alloc (.cells #[.int .u64 s.gen, .int .i64 s.size, .int .i64 s.blocks, .int .u32 s.root, .slice a n c] 29) = X := ⟨_, rfl⟩
  rw [hW0] at HB0 HG0
  have HT := Lib.hid hT
  have HLV := Lib.hid (lives_any W0 (hT.grown HG0.out))
  have HPU0 := Lib.hid (fun W (k : w.grownBy W none) => put_sup s a n c W (hs.grown k) ho (hT.grown k))
  have HE := Lib.hid (put_e s)
  have HTI := Lib.hid (fun h : supE s = 0 => TurnI.start h ho)
  have HVP := Lib.hid (fun h : supE s = 0 => (sup_ok h).1)
  obtain ⟨⟨PB, E⟩, hp⟩ : ∃ r, putS s = r := ⟨_, rfl⟩
  rw [hp] at HPU0 HE HTI
  unfold strE at HPU0
  dsimp only at HPU0 HE HTI
  obtain ⟨PT, hPT⟩ : ∃ S, strOfNums PB = S := ⟨_, rfl⟩
  rw [hPT] at HPU0
  have HPT := Lib.hid hPT
  have HHS := Lib.hid hs
  have HHR := Lib.hid hr
  have HRB := Lib.hid hrb
  have HSO := Lib.hid ho
  have hle := hs.le
  have hcap := hs.cap
  have hle2 := hr.le
  have hcap2 := hr.cap
  have hgen := ho.gen
  unfold maxLen at hcap hcap2
  clear hp hPT hT ho hs hr hrb
  go_enter Tryd.func7, Tryd.ntmps7
  go_wp2_with fail
  refine HLV.out.mono ?_
  rintro e w1 ⟨rfl, hg⟩
  have G1 := Lib.hid (grown_then HG0.out hg)
  have HB1 := Lib.hid (HB0.out.old hg)
  clear hg HLV HB0 HG0 hW0
  dsimp only
  obtain ⟨a0, a1, a2, a3, a4⟩ := HB1.out.cells
  by_cases h1 : 40 < n
  · have q1 : decide ((40 : Int) < (n : Int)) = true := decide_eq_true (by omega)
    clear h1
    go_wp2
    go_ret
    exact ⟨rfl, G1.out⟩
  by_cases h2 : 20 < k
  · have q1 : decide ((40 : Int) < (n : Int)) = false := decide_eq_false (by omega)
    have q2 : decide ((20 : Int) < (k : Int)) = true := decide_eq_true (by omega)
    clear h1 h2
    go_wp2
    go_ret
    exact ⟨rfl, G1.out⟩
  by_cases h3 : 1152921504606846976 < s.gen
  · have q1 : decide ((40 : Int) < (n : Int)) = false := decide_eq_false (by omega)
    have q2 : decide ((20 : Int) < (k : Int)) = false := decide_eq_false (by omega)
    have q3 : decide (1152921504606846976 < s.gen) = true := decide_eq_true h3
    clear h1 h2 h3
    go_wp2
    go_ret
    exact ⟨rfl, G1.out⟩
  have q1 : decide ((40 : Int) < (n : Int)) = false := decide_eq_false (by omega)
  have q2 : decide ((20 : Int) < (k : Int)) = false := decide_eq_false (by omega)
  have q3 : decide (1152921504606846976 < s.gen) = false := decide_eq_false h3
  have HN : Hid (n ≤ 40 ∧ k ≤ 20 ∧ s.gen ≤ 1152921504606846976) := Lib.hid ⟨by omega, by omega, by omega⟩
  clear h1 h2 h3
  go_wp2_with fail
  refine (HPU0.out _ G1.out).mono ?_
  rintro e w2 ⟨rfl, hg⟩
  have G2 := Lib.hid (grown_then G1.out hg)
  have HB2 := Lib.hid (HB1.out.old hg)
  clear hg HPU0 G1 HB1 a0 a1 a2 a3 a4 q1 q2 q3
  dsimp only
  by_cases hE : E = 0
  · have hs0 : supE s = 0 := by rw [← HE.out]; exact hE
    have HTI0 := Lib.hid (HTI.out hs0)
    have HPG : Hid (0 < s.pages.length) := Lib.hid (by
      have h1 := (HVP.out hs0).2.2.2.1
      have h2 := pages_bounds (HVP.out hs0).1
      omega)
    subst hE
    clear HTI HVP HE hs0
    have G3 := Lib.hid (grown_then G2.out (grown_alloc w2 (.cells #[.string PT, .string ⟨#[]⟩] 9)))
    have HB3 := Lib.hid (HB2.out.old (grown_alloc w2 (.cells #[.string PT, .string ⟨#[]⟩] 9)))
    have HR3 := Lib.hid (heap_alloc_new w2 (.cells #[.string PT, .string ⟨#[]⟩] 9))
    have hgl : w.heap.size < w2.heap.size := HB2.out.lt
    obtain ⟨gb, hgb⟩ : ∃ g, w2.heap.size = g := ⟨_, rfl⟩
    obtain ⟨W3, hW3⟩ : ∃ X, w2.alloc (.cells #[.string PT, .string ⟨#[]⟩] 9) = X := ⟨_, rfl⟩
    rw [hgb, hW3] at HR3
    rw [hW3] at G3 HB3
    rw [hgb] at hgl
    have HRW : Hid (RW W3 gb PB []) := Lib.hid (by unfold RW; rw [HPT.out]; exact HR3.out)
    go_wp2
    clear hW3 hgb
    go_loopw [8, 9] (fun s8 s9 wr => ∃ (i last : Nat) (cur : Sup) (L0 L1 : List Int), i ≤ k ∧ s9 = .int .i64 i ∧ s8 = .int .i64 last ∧ Hid (TurnI L0 L1 last cur) ∧ Hid (SupOk cur ∧ cur.pages = s.pages ∧ cur.gen ≤ 1152921504606846976 + i) ∧ Hid (SB wr w.heap.size cur a n c) ∧ Hid (w.grownBy wr none) ∧ Hid (RW wr gb L0 L1) ∧ Hid (gb < wr.heap.size)) (fun _ s9 _ => k - (intOf s9).toNat)
    case atStart => exact ⟨0, 0, s, PB, [], Nat.zero_le _, rfl, rfl, HTI0, Lib.hid ⟨HSO.out, rfl, by have := HN.out.2.2; omega⟩, HB3, G3, HRW, Lib.hid (block_lt HR3.out)⟩
    case round =>
      clear HTI0 G3 HB3 HR3 HRW G2 HB2
      obtain ⟨i, last, cur, L0, L1, hi, rfl, rfl, HTI, HCU, HSB, HG, HRW, HGB⟩ := hrel
      have HCH : Hid (∀ W, wr.grownBy W none → Calls Tryd.prog 12 #[.string (strOfNums L0), .string (strOfNums L1)] W fun e w' => W.grownBy w' none ∧ ∃ (p : Option Addr) (m q : Nat), e = .returned (.tuple #[.int .i64 (last : Int), .agg #[.int .u64 cur.gen, .int .i64 cur.size, .int .i64 cur.blocks, .int .u32 cur.root, .slice p m q], .int .i64 0]) ∧ Ws.Seg w' p m q cur.pages ∧ ∀ ad, p = some ad → W.heap.size ≤ ad.block) := Lib.hid (fun W hW => by
        have h := choose_any L0 L1 W HTI.out.b0 HTI.out.b1 (Nat.le_trans HTI.out.n0 (by decide)) (Nat.le_trans HTI.out.n1 (by decide)) (HT.out.grown (grown_then HG.out hW))
        rw [HTI.out.ch] at h
        exact h)
      obtain ⟨X0, hX0⟩ : ∃ S, strOfNums L0 = S := ⟨_, rfl⟩
      obtain ⟨X1, hX1⟩ : ∃ S, strOfNums L1 = S := ⟨_, rfl⟩
      rw [hX0, hX1] at HCH
      have HROW : Hid ((∀ W, wr.grownBy W none → W.cell? ⟨gb, 0, none⟩ = some (.string X0)) ∧ ∀ W, wr.grownBy W none → W.cell? ⟨gb, 1, none⟩ = some (.string X1)) := Lib.hid (by
        have h := HRW.out
        unfold RW at h
        rw [hX0, hX1] at h
        refine ⟨fun W hW => hW.cell (?_ : wr.cell? _ = _) (by simp), fun W hW => hW.cell (?_ : wr.cell? _ = _) (by simp)⟩ <;> (rw [cell_of_row _ _ _ _ _ _ h]; rfl))
      have HPC : Hid (0 < cur.pages.length) := Lib.hid (by rw [HCU.out.2.1]; exact HPG.out)
      have hle1 := HTI.out.le
      obtain ⟨z1, hz1⟩ : ∃ z : Int, (last : Int) = z := ⟨_, rfl⟩
      rw [hz1] at HCH ⊢
      have HZ1 := Lib.hid hz1
      have e5 : (z1 != z1) = false := by simp
      have e6 : (cur.gen != cur.gen) = false := by simp
      have e7 : (cur.root != cur.root) = false := by simp
      clear hX0 hX1 hz1
      by_cases hlt : i < k
      · have q0 : decide (i < k) = true := decide_eq_true hlt
        go_upto_region 13 with (fail)
        refine wp_region_inv_at (I := fun a0 L x W => ∃ p m q, CI [51, 52, 53, 54, 55, 56, 57, 50, 58, 59, 60, 10, 12, 11] [51, 52, 53, 54, 55, 56, 57, 50, 58, 59, 60, 1011, 10, 1013, 12] (fun p m q => [.slice (some ⟨gb, 0, none⟩) 2 2, .pointer (some ⟨gb, 0, none⟩), .string X0, .slice (some ⟨gb, 0, none⟩) 2 2, .pointer (some ⟨gb, 1, none⟩), .string X1, .tuple #[.int .i64 z1, .agg #[.int .u64 cur.gen, .int .i64 cur.size, .int .i64 cur.blocks, .int .u32 cur.root, .slice p m q], .int .i64 0], .tuple #[.int .i64 z1, .agg #[.int .u64 cur.gen, .int .i64 cur.size, .int .i64 cur.blocks, .int .u32 cur.root, .slice p m q], .int .i64 0], .int .i64 z1, .agg #[.int .u64 cur.gen, .int .i64 cur.size, .int .i64 cur.blocks, .int .u32 cur.root, .slice p m q], .int .i64 0, undef, .int .i64 z1, undef, .int .i64 0]) 11 cur wr.drew a0 L x W p m q) (by kernel_rfl) (by kernel_rfl) ⟨none, 0, 0, CI.start 133 (by simp) (by decide) (grown_refl _)⟩ ?_ ?_
        · show ∀ i, i < 15 → _
          refine (all_snoc (all_snoc (all_snoc (all_snoc (all_snoc (all_snoc (all_snoc (all_snoc (all_snoc (all_snoc (all_snoc (all_snoc (all_snoc (all_snoc (all_snoc all_nil ?o0) ?o1) ?o2) ?o3) ?o4) ?o5) ?o6) ?o7) ?o8) ?o9) ?o10) ?o11) ?o12) ?o13) ?o14)
          case o0 =>
            refine StepAt.mk rfl (ns := []) (by kernel_rfl) rfl ?_
            intro L x W h0 hn hI
            obtain ⟨p, m, q, hI⟩ := hI
            have e1 : x.tmps[7]?.getD undef = .slice (some ⟨gb, 0, none⟩) 2 2 := hI.vi.old 7 (by decide)
            refine wp_yield (v := .slice (some ⟨gb, 0, none⟩) 2 2) ?_ ⟨p, m, q, (hI.value (by decide) 0 (by decide) (by decide) (by decide) (by decide) (by decide) (by decide) (fun h => absurd h (by decide)) (fun h => absurd h (by decide)) rfl)⟩
            simp [go_sem, e1]
          case o1 =>
            refine StepAt.mk rfl (ns := [0]) (by kernel_rfl) rfl ?_
            intro L x W h0 hn hI
            obtain ⟨p, m, q, hI⟩ := hI
            have e0 : x.tmps[51]?.getD undef = .slice (some ⟨gb, 0, none⟩) 2 2 := hI.vi.get 0 (by decide) (by decide) (hn 0 (by simp))
            refine wp_yield (v := .pointer (some ⟨gb, 0, none⟩)) ?_ ⟨p, m, q, (hI.value (by decide) 1 (by decide) (by decide) (by decide) (by decide) (by decide) (by decide) (fun h => absurd h (by decide)) (fun h => absurd h (by decide)) rfl)⟩
            simp [go_sem, e0]
          case o2 =>
            refine StepAt.mk rfl (ns := [1]) (by kernel_rfl) rfl ?_
            intro L x W h0 hn hI
            obtain ⟨p, m, q, hI⟩ := hI
            have e1 : x.tmps[52]?.getD undef = .pointer (some ⟨gb, 0, none⟩) := hI.vi.get 1 (by decide) (by decide) (hn 1 (by simp))
            have c0 := HROW.out.1 W (grown_then (grown_drew wr) hI.vi.mem)
            refine wp_yield (v := .string X0) ?_ ⟨p, m, q, (hI.value (by decide) 2 (by decide) (by decide) (by decide) (by decide) (by decide) (by decide) (fun h => absurd h (by decide)) (fun h => absurd h (by decide)) rfl)⟩
            simp [go_sem, e1, c0]
          case o3 =>
            refine StepAt.mk rfl (ns := []) (by kernel_rfl) rfl ?_
            intro L x W h0 hn hI
            obtain ⟨p, m, q, hI⟩ := hI
            have e1 : x.tmps[7]?.getD undef = .slice (some ⟨gb, 0, none⟩) 2 2 := hI.vi.old 7 (by decide)
            refine wp_yield (v := .slice (some ⟨gb, 0, none⟩) 2 2) ?_ ⟨p, m, q, (hI.value (by decide) 3 (by decide) (by decide) (by decide) (by decide) (by decide) (by decide) (fun h => absurd h (by decide)) (fun h => absurd h (by decide)) rfl)⟩
            simp [go_sem, e1]
          case o4 =>
            refine StepAt.mk rfl (ns := [3]) (by kernel_rfl) rfl ?_
            intro L x W h0 hn hI
            obtain ⟨p, m, q, hI⟩ := hI
            have e3 : x.tmps[54]?.getD undef = .slice (some ⟨gb, 0, none⟩) 2 2 := hI.vi.get 3 (by decide) (by decide) (hn 3 (by simp))
            refine wp_yield (v := .pointer (some ⟨gb, 1, none⟩)) ?_ ⟨p, m, q, (hI.value (by decide) 4 (by decide) (by decide) (by decide) (by decide) (by decide) (by decide) (fun h => absurd h (by decide)) (fun h => absurd h (by decide)) rfl)⟩
            simp [go_sem, e3]
          case o5 =>
            refine StepAt.mk rfl (ns := [4]) (by kernel_rfl) rfl ?_
            intro L x W h0 hn hI
            obtain ⟨p, m, q, hI⟩ := hI
            have e4 : x.tmps[55]?.getD undef = .pointer (some ⟨gb, 1, none⟩) := hI.vi.get 4 (by decide) (by decide) (hn 4 (by simp))
            have c0 := HROW.out.2 W (grown_then (grown_drew wr) hI.vi.mem)
            refine wp_yield (v := .string X1) ?_ ⟨p, m, q, (hI.value (by decide) 5 (by decide) (by decide) (by decide) (by decide) (by decide) (by decide) (fun h => absurd h (by decide)) (fun h => absurd h (by decide)) rfl)⟩
            simp [go_sem, e4, c0]
          case o6 =>
            refine StepAt.mk rfl (ns := [2, 5]) (by kernel_rfl) rfl ?_
            intro L x W h0 hn hI
            obtain ⟨p, m, q, hI⟩ := hI
            have e2 : x.tmps[53]?.getD undef = .string X0 := hI.vi.get 2 (by decide) (by decide) (hn 2 (by simp))
            have e5 : x.tmps[56]?.getD undef = .string X1 := hI.vi.get 5 (by decide) (by decide) (hn 5 (by simp))
            refine wp_func_any (f := 12) (vs := #[.string X0, .string X1]) ?_ (HCH.out W (grown_then (grown_drew wr) hI.vi.mem)) ?_
            · simp [go_sem, e2, e5]
            · rintro e w' ⟨hg, p', m', q', rfl, hseg, hnew⟩
              refine ⟨_, rfl, p', m', q', hI.call (by decide) (by decide) (by decide) (by decide) h0 hg hseg hnew (fun j j6 j7 j9 => ?_) rfl⟩
              match j with
              | 0 => rfl
              | 1 => rfl
              | 2 => rfl
              | 3 => rfl
              | 4 => rfl
              | 5 => rfl
              | 6 => exact absurd rfl j6
              | 7 => exact absurd rfl j7
              | 8 => rfl
              | 9 => exact absurd rfl j9
              | 10 => rfl
              | 11 => rfl
              | 12 => rfl
              | 13 => rfl
              | 14 => rfl
              | j + 15 => rfl
          case o7 =>
            refine StepAt.mk rfl (ns := [6]) (by kernel_rfl) rfl ?_
            intro L x W h0 hn hI
            obtain ⟨p, m, q, hI⟩ := hI
            have e6 : x.tmps[57]?.getD undef = .tuple #[.int .i64 z1, .agg #[.int .u64 cur.gen, .int .i64 cur.size, .int .i64 cur.blocks, .int .u32 cur.root, .slice p m q], .int .i64 0] := hI.vi.get 6 (by decide) (by decide) (hn 6 (by simp))
            refine wp_yield (v := .tuple #[.int .i64 z1, .agg #[.int .u64 cur.gen, .int .i64 cur.size, .int .i64 cur.blocks, .int .u32 cur.root, .slice p m q], .int .i64 0]) ?_ ⟨p, m, q, (hI.value (by decide) 7 (by decide) (by decide) (by decide) (by decide) (by decide) (by decide) (fun _ => hn 6 (by simp)) (fun h => absurd h (by decide)) rfl)⟩
            simp [go_sem, e6]
          case o8 =>
            refine StepAt.mk rfl (ns := [7]) (by kernel_rfl) rfl ?_
            intro L x W h0 hn hI
            obtain ⟨p, m, q, hI⟩ := hI
            have e7 : x.tmps[50]?.getD undef = .tuple #[.int .i64 z1, .agg #[.int .u64 cur.gen, .int .i64 cur.size, .int .i64 cur.blocks, .int .u32 cur.root, .slice p m q], .int .i64 0] := hI.vi.get 7 (by decide) (by decide) (hn 7 (by simp))
            refine wp_yield (v := .int .i64 z1) ?_ ⟨p, m, q, (hI.value (by decide) 8 (by decide) (by decide) (by decide) (by decide) (by decide) (by decide) (fun h => absurd h (by decide)) (fun h => absurd h (by decide)) rfl)⟩
            simp [go_sem, e7]
          case o9 =>
            refine StepAt.mk rfl (ns := [7]) (by kernel_rfl) rfl ?_
            intro L x W h0 hn hI
            obtain ⟨p, m, q, hI⟩ := hI
            have e7 : x.tmps[50]?.getD undef = .tuple #[.int .i64 z1, .agg #[.int .u64 cur.gen, .int .i64 cur.size, .int .i64 cur.blocks, .int .u32 cur.root, .slice p m q], .int .i64 0] := hI.vi.get 7 (by decide) (by decide) (hn 7 (by simp))
            refine wp_yield (v := .agg #[.int .u64 cur.gen, .int .i64 cur.size, .int .i64 cur.blocks, .int .u32 cur.root, .slice p m q]) ?_ ⟨p, m, q, (hI.value (by decide) 9 (by decide) (by decide) (by decide) (by decide) (by decide) (by decide) (fun h => absurd h (by decide)) (fun _ => hn 7 (by simp)) rfl)⟩
            simp [go_sem, e7]
          case o10 =>
            refine StepAt.mk rfl (ns := [7]) (by kernel_rfl) rfl ?_
            intro L x W h0 hn hI
            obtain ⟨p, m, q, hI⟩ := hI
            have e7 : x.tmps[50]?.getD undef = .tuple #[.int .i64 z1, .agg #[.int .u64 cur.gen, .int .i64 cur.size, .int .i64 cur.blocks, .int .u32 cur.root, .slice p m q], .int .i64 0] := hI.vi.get 7 (by decide) (by decide) (hn 7 (by simp))
            refine wp_yield (v := .int .i64 0) ?_ ⟨p, m, q, (hI.value (by decide) 10 (by decide) (by decide) (by decide) (by decide) (by decide) (by decide) (fun h => absurd h (by decide)) (fun h => absurd h (by decide)) rfl)⟩
            simp [go_sem, e7]
          case o11 =>
            refine StepAt.mk rfl (ns := []) (by kernel_rfl) rfl ?_
            intro L x W h0 hn hI
            obtain ⟨p, m, q, hI⟩ := hI
            refine wp_made (v := .pointer (some ⟨W.heap.size, 0, none⟩)) (w' := W.alloc _) ?_ ⟨p, m, q, hI.made (by decide) (by decide) (by decide) h0 HPC.out rfl⟩
            simp [go_sem]
          case o12 =>
            refine StepAt.mk rfl (ns := [8, 6, 0, 1, 2, 3, 4, 5, 6, 7, 8, 11]) (by kernel_rfl) rfl ?_
            intro L x W h0 hn hI
            obtain ⟨p, m, q, hI⟩ := hI
            have e8 : x.tmps[58]?.getD undef = .int .i64 z1 := hI.vi.get 8 (by decide) (by decide) (hn 8 (by simp))
            refine wp_yield (v := .int .i64 z1) ?_ ⟨p, m, q, (hI.value (by decide) 12 (by decide) (by decide) (by decide) (by decide) (by decide) (by decide) (fun h => absurd h (by decide)) (fun h => absurd h (by decide)) rfl)⟩
            simp [go_sem, e8]
          case o13 =>
            refine StepAt.mk rfl (ns := [11, 9, 12, 0, 1, 2, 3, 4, 5, 6, 7, 8, 9, 11, 12]) (by kernel_rfl) rfl ?_
            intro L x W h0 hn hI
            obtain ⟨p, m, q, hI⟩ := hI
            obtain ⟨g, s', a', n', c', k1, k2, k3⟩ := hI.fill (by decide) (hn 11 (by simp)) (hn 9 (by simp))
            exact wp_store_super rfl (.tmp 11) (.tmp 59) rfl g k1 cur p m q (hI.vi.vals 9 (by decide) (by decide) (hn 9 (by simp))) s' a' n' c' k2 (fun w' hs ht => ⟨p, m, q, k3 w' hs ht⟩)
          case o14 =>
            refine StepAt.mk rfl (ns := [10, 13, 0, 1, 2, 3, 4, 5, 6, 7, 8, 9, 10, 11, 12, 13]) (by kernel_rfl) rfl ?_
            intro L x W h0 hn hI
            obtain ⟨p, m, q, hI⟩ := hI
            have e10 : x.tmps[60]?.getD undef = .int .i64 0 := hI.vi.get 10 (by decide) (by decide) (hn 10 (by simp))
            refine wp_yield (v := .int .i64 0) ?_ ⟨p, m, q, (hI.value (by decide) 14 (by decide) (by decide) (by decide) (by decide) (by decide) (by decide) (fun h => absurd h (by decide)) (fun h => absurd h (by decide)) rfl)⟩
            simp [go_sem, e10]
        · intro L x W hL hI
          obtain ⟨p, m, q, hI⟩ := hI
          replace hL : ∀ i, i < 15 → L i = true := hL
          have hform := hI.vi.agr.form
          have v0 : At x 51 = .slice (some ⟨gb, 0, none⟩) 2 2 := hI.vi.vals 0 (by decide) (by decide) (hL 0 (by omega))
          have v1 : At x 52 = .pointer (some ⟨gb, 0, none⟩) := hI.vi.vals 1 (by decide) (by decide) (hL 1 (by omega))
          have v2 : At x 53 = .string X0 := hI.vi.vals 2 (by decide) (by decide) (hL 2 (by omega))
          have v3 : At x 54 = .slice (some ⟨gb, 0, none⟩) 2 2 := hI.vi.vals 3 (by decide) (by decide) (hL 3 (by omega))
          have v4 : At x 55 = .pointer (some ⟨gb, 1, none⟩) := hI.vi.vals 4 (by decide) (by decide) (hL 4 (by omega))
          have v5 : At x 56 = .string X1 := hI.vi.vals 5 (by decide) (by decide) (hL 5 (by omega))
          have v6 : At x 57 = .tuple #[.int .i64 z1, .agg #[.int .u64 cur.gen, .int .i64 cur.size, .int .i64 cur.blocks, .int .u32 cur.root, .slice p m q], .int .i64 0] := hI.vi.vals 6 (by decide) (by decide) (hL 6 (by omega))
          have v7 : At x 50 = .tuple #[.int .i64 z1, .agg #[.int .u64 cur.gen, .int .i64 cur.size, .int .i64 cur.blocks, .int .u32 cur.root, .slice p m q], .int .i64 0] := hI.vi.vals 7 (by decide) (by decide) (hL 7 (by omega))
          have v8 : At x 58 = .int .i64 z1 := hI.vi.vals 8 (by decide) (by decide) (hL 8 (by omega))
          have v9 : At x 59 = .agg #[.int .u64 cur.gen, .int .i64 cur.size, .int .i64 cur.blocks, .int .u32 cur.root, .slice p m q] := hI.vi.vals 9 (by decide) (by decide) (hL 9 (by omega))
          have v10 : At x 60 = .int .i64 0 := hI.vi.vals 10 (by decide) (by decide) (hL 10 (by omega))
          have v12 : At x 10 = .int .i64 z1 := hI.vi.vals 12 (by decide) (by decide) (hL 12 (by omega))
          have v14 : At x 12 = .int .i64 0 := hI.vi.vals 14 (by decide) (by decide) (hL 14 (by omega))
          obtain ⟨g, vb, hgn, hpn, s', a', n', c', hb9, hcont⟩ := hI.box (hL 11 (by omega))
          obtain ⟨k1, k2, k3, k4⟩ := hcont (hL 13 (by omega))
          rw [k1, k2, k3, k4] at hb9
          clear k1 k2 k3 k4
          have HG9 : Hid (wr.grownBy W none) := Lib.hid (grown_then (grown_drew wr) hI.vi.mem)
          have HS9 := Lib.hid (hI.seg (hL 6 (by omega)))
          have HB9 := Lib.hid hb9
          have hgn9 : wr.heap.size ≤ g := hgn
          clear hI hL hcont hb9 hpn hgn
          rw [List.foldl_cons, List.foldl_cons, List.foldl_cons, List.foldl_cons, List.foldl_cons, List.foldl_cons, List.foldl_cons, List.foldl_cons, List.foldl_cons, List.foldl_cons, List.foldl_cons, List.foldl_cons, List.foldl_cons, List.foldl_cons, List.foldl_nil, v0, v1, v2, v3, v4, v5, v6, v7, v8, v9, v10, v12, v14, vb] at hform
          clear v0 v1 v2 v3 v4 v5 v6 v7 v8 v9 v10 v12 v14 vb
          subst hform
          have HSC := Lib.hid (HSB.out.old HG9.out)
          have G4 := Lib.hid (grown_then HG.out (grown_then HG9.out (grown_alloc W (.cells #[.int .u64 cur.gen, .int .i64 cur.size, .int .i64 cur.blocks, .int .u32 cur.root, .slice a n c] 29))))
          have HSC4 := Lib.hid (HSC.out.old (grown_alloc W (.cells #[.int .u64 cur.gen, .int .i64 cur.size, .int .i64 cur.blocks, .int .u32 cur.root, .slice a n c] 29)))
          have HT4 := Lib.hid (SB.new W cur a n c)
          have HRW4 : Hid (RW (W.alloc (.cells #[.int .u64 cur.gen, .int .i64 cur.size, .int .i64 cur.blocks, .int .u32 cur.root, .slice a n c] 29)) gb L0 L1) := Lib.hid (block_old HRW.out (grown_then HG9.out (grown_alloc W _)))
          have hg9s := HG9.out.size
          have hgbs := HGB.out
          have hbw := HSB.out.lt
          have hsz4 : (W.alloc (.cells #[.int .u64 cur.gen, .int .i64 cur.size, .int .i64 cur.blocks, .int .u32 cur.root, .slice a n c] 29)).heap.size = W.heap.size + 1 := by simp
          have hb0 := HSC.out.cells
          obtain ⟨d0, d1, d2, d3, d4⟩ := HB9.out.cells
          obtain ⟨f0, f1, f2, f3, f4⟩ := HSC.out.cells
          clear hb0
          go_upto_region 17 with (fail)
          obtain ⟨W4, hW4⟩ : ∃ X, W.alloc (.cells #[.int .u64 cur.gen, .int .i64 cur.size, .int .i64 cur.blocks, .int .u32 cur.root, .slice a n c] 29) = X := ⟨_, rfl⟩
          rw [hW4] at G4 HSC4 HT4 HRW4 hsz4 ⊢
          clear hW4 d0 d1 d2 d3 d4 f0 f1 f2 f3 f4 HB9 HS9 HSC
          obtain ⟨gr, or, rfl, hc⟩ := (HHR.out.grown G4.out).addr (by omega)
          have hck := hc i hlt
          have hrb : 0 ≤ rs.getD i 0 ∧ rs.getD i 0 < 4294967296 := by
            have h := HRB.out
            rw [List.getD_eq_getElem?_getD]
            have hl := HHR.out.len
            rw [List.getElem?_eq_getElem (by omega)]
            exact h _ (List.getElem_mem _)
          obtain ⟨x, hx⟩ : ∃ x, rs.getD i 0 = x := ⟨_, rfl⟩
          rw [hx] at hck hrb
          have hcg := HCU.out.2.2
          have hcg0 := HCU.out.1.gen
          have e8 : IntKind.u64.wrap (cur.gen + 1) = cur.gen + 1 := by rw [IntKind.wrap_u64]; omega
          obtain ⟨y, hy⟩ : ∃ y, cur.gen + 1 = y := ⟨_, rfl⟩
          have HY := Lib.hid hy
          rw [hy] at e8
          have e9 : IntKind.u64.wrap (cur.gen + 1) = y := by rw [hy]; exact e8
          have HTO : Hid (SupOk ⟨y, cur.size, cur.blocks, x, cur.pages⟩) := Lib.hid ⟨by show 0 ≤ y ∧ y < 18446744073709551616; omega, hrb, HCU.out.1.pages⟩
          have HYB : Hid (cur.gen < y ∧ y ≤ 1152921504606846976 + (i + 1)) := Lib.hid ⟨by omega, by omega⟩
          obtain ⟨f0, f1, f2, f3, f4⟩ := HSC4.out.cells
          obtain ⟨d0, d1, d2, d3, d4⟩ := HT4.out.cells
          have r0 := HT4.out.froz 0
          have r3 := HT4.out.froz 3
          have hne : w.heap.size ≠ W.heap.size := by omega
          have hne2 : gr ≠ W.heap.size := by
            intro e
            obtain ⟨gr2, or2, e2, hc2⟩ := HHR.out.addr (by omega)
            have h1 := World.block_lt_of_cell? w _ (hc2 i hlt)
            cases e2
            have h2 : gr < w.heap.size := h1
            omega
          have hne3 : gb ≠ W.heap.size := by omega
          clear hc hx hy e8 hrb hcg hcg0
          go_region
          have hs5 := HT4.out.gen_root y x
          have ht5 := (Turn.setCell W4 ⟨W.heap.size, 0, none⟩ (.int .u64 y) (S := (· = W.heap.size)) rfl).trans (Turn.setCell _ ⟨W.heap.size, 3, none⟩ (.int .u32 x) (S := (· = W.heap.size)) rfl) (fun _ _ h => h)
          obtain ⟨W5, hW5⟩ : ∃ X, (W4.setCell ⟨W.heap.size, 0, none⟩ (.int .u64 y)).setCell ⟨W.heap.size, 3, none⟩ (.int .u32 x) = X := ⟨_, rfl⟩
          rw [hW5] at hs5 ht5 ⊢
          have ht6 : Turn W4 W5.drew (· = W.heap.size) := ht5.trans (Turn.drew W5 _) (fun _ _ h => h)
          have HT5 : Hid (SB W5.drew W.heap.size ⟨y, cur.size, cur.blocks, x, cur.pages⟩ a n c) := Lib.hid hs5
          have G5 := Lib.hid (grown_put G4.out ht6 (by omega))
          have HSC5 := Lib.hid (HSC4.out.not ht6 hne)
          have HRW5 : Hid (RW W5.drew gb L0 L1) := Lib.hid (Fr.block_turn HRW4.out ht6 (by omega))
          have hsz5 : gb < W5.drew.heap.size := Nat.lt_of_lt_of_le (by omega) ht6.size
          obtain ⟨W6, hW6⟩ : ∃ X, X = W5.drew := ⟨_, rfl⟩
          rw [← hW6] at HT5 G5 HSC5 HRW5 hsz5 ⊢
          clear hW5 hs5 ht5 ht6 hW6 f0 f1 f2 f3 f4 d0 d1 d2 d3 d4 r0 r3 G4 HSC4 HT4 HRW4 hsz4 hck hne2 e9
          have HPU := Lib.hid (put_sup ⟨y, cur.size, cur.blocks, x, cur.pages⟩ a n c W6 (by show Ws.Seg W6 a n c cur.pages; rw [HCU.out.2.1]; exact HHS.out.grown G5.out) HTO.out (HT.out.grown G5.out))
          have HPE := Lib.hid (put_e ⟨y, cur.size, cur.blocks, x, cur.pages⟩)
          have HPN : Hid (∀ h : supE ⟨y, cur.size, cur.blocks, x, cur.pages⟩ = 0, TurnI (if last = 0 then L0 else (putS ⟨y, cur.size, cur.blocks, x, cur.pages⟩).1) (if last = 0 then (putS ⟨y, cur.size, cur.blocks, x, cur.pages⟩).1 else L1) (1 - last) ⟨y, cur.size, cur.blocks, x, cur.pages⟩) := Lib.hid (fun h => by
            rcases (show last = 0 ∨ last = 1 by omega) with rfl | rfl
            · rw [if_pos rfl, if_pos rfl]; exact HTI.out.first h HTO.out HYB.out.1
            · rw [if_neg (by decide), if_neg (by decide)]; exact HTI.out.second h HTO.out HYB.out.1)
          obtain ⟨⟨QB, E2⟩, hq⟩ : ∃ r, putS ⟨y, cur.size, cur.blocks, x, cur.pages⟩ = r := ⟨_, rfl⟩
          rw [hq] at HPU HPE HPN
          unfold strE at HPU
          dsimp only at HPU HPE HPN
          obtain ⟨QT, hQT⟩ : ∃ S, strOfNums QB = S := ⟨_, rfl⟩
          rw [hQT] at HPU
          obtain ⟨d0, d1, d2, d3, d4⟩ := HT5.out.cells
          clear hq
          go_wp2_with fail
          refine HPU.out.mono ?_
          rintro e w7 ⟨rfl, hg⟩
          have G7 := Lib.hid (grown_then G5.out hg)
          have HT7 := Lib.hid (HT5.out.old hg)
          have HSC7 := Lib.hid (HSC5.out.old hg)
          have HRW7 : Hid (RW w7 gb L0 L1) := Lib.hid (block_old HRW5.out hg)
          have HGB7 : Hid (gb < w7.heap.size) := Lib.hid (Nat.lt_of_lt_of_le hsz5 hg.size)
          clear hg HPU G5 HT5 HSC5 HRW5 hsz5 d0 d1 d2 d3 d4
          dsimp only
          by_cases hE2 : E2 = 0
          · have q1 : (E2 != 0) = false := by rw [hE2]; rfl
            have HNEW := Lib.hid (HPN.out (by rw [← HPE.out]; exact hE2))
            have HOT : Hid (∀ W, Calls Tryd.prog 17 #[.int .i64 z1] W fun e w' => e = .returned (.int .i64 ((1 - last : Nat) : Int)) ∧ W = w') := Lib.hid (fun W => (other_any z1 W).mono fun e w' h => ⟨by rw [h.1, ← HZ1.out]; rcases (show last = 0 ∨ last = 1 by omega) with rfl | rfl <;> rfl, h.2⟩)
            have el : (1 : Int) - z1 = ((1 - last : Nat) : Int) := by rw [← HZ1.out]; omega
            have hl2 : 1 - last < 2 := by omega
            have HRN : Hid (RW (w7.setCell ⟨gb, 1 - last, none⟩ (.string QT)) gb (if last = 0 then L0 else QB) (if last = 0 then QB else L1)) := Lib.hid (by
              have h := HRW7.out
              unfold RW at h ⊢
              rcases (show last = 0 ∨ last = 1 by omega) with rfl | rfl
              · rw [if_pos rfl, if_pos rfl, hQT]
                exact Go.heap_setCell_same w7 gb 1 _ _ (.string QT) h
              · rw [if_neg (by decide), if_neg (by decide), hQT]
                exact Go.heap_setCell_same w7 gb 0 _ _ (.string QT) h)
            have hcl : ∃ v, w7.cell? ⟨gb, 1 - last, none⟩ = some v := by
              have h := HRW7.out
              unfold RW at h
              rw [cell_of_row _ _ _ _ _ _ h]
              rcases (show last = 0 ∨ last = 1 by omega) with rfl | rfl <;> exact ⟨_, rfl⟩
            have hfr : w7.frozen? ⟨gb, 1 - last, none⟩ = false := by
              have h := HRW7.out
              unfold RW at h
              simp [World.frozen?, h]
            obtain ⟨l2, hl2e⟩ : ∃ l2, 1 - last = l2 := ⟨_, rfl⟩
            rw [hl2e] at HNEW HOT el hl2 HRN hcl hfr
            obtain ⟨vold, hcl⟩ := hcl
            have e10 : IntKind.i64.wrap (l2 : Int) = (l2 : Int) := IntWalk.i64_in _ (by omega)
            have e11 : ((l2 : Int) != (l2 : Int)) = false := by simp
            have ht8 := Turn.setCell w7 ⟨gb, l2, none⟩ (.string QT) (S := (· = gb)) rfl
            have HSC8 := Lib.hid (HSC7.out.not ht8 (by omega))
            have HT8 := Lib.hid (HT7.out.not ht8 (by omega))
            have G8 := Lib.hid (grown_put G7.out ht8 (by omega))
            have HGB8 : Hid (gb < (w7.setCell ⟨gb, l2, none⟩ (.string QT)).heap.size) := Lib.hid (Nat.lt_of_lt_of_le HGB7.out ht8.size)
            have hl2i : (l2 : Int) < 2 := by omega
            clear hE2 HPE HPN hl2e HRW7 hQT HGB7 ht8 G7 HTI
            go_wp2_with fail
            refine (HOT.out _).mono ?_
            rintro e w8 ⟨rfl, rfl⟩
            dsimp only
            obtain ⟨d0, d1, d2, d3, d4⟩ := HT8.out.cells
            go_wp2_with (first
              | (with_reducible refine wpList_store_super rfl (.tmp 2) (.tmp 109) rfl w.heap.size rfl ⟨y, cur.size, cur.blocks, x, cur.pages⟩ a n c rfl cur a n c HSC8.out ?_; intro w9 hq9 ht9)
              | fail)
            have HSB9 := Lib.hid hq9
            have G9' := Lib.hid (grown_put G8.out ht9 (Nat.le_refl _))
            have HRW9 : Hid (RW w9 gb (if last = 0 then L0 else QB) (if last = 0 then QB else L1)) := Lib.hid (Fr.block_turn HRN.out ht9 (by omega))
            have HGB9 : Hid (gb < w9.heap.size) := Lib.hid (Nat.lt_of_lt_of_le HGB8.out ht9.size)
            clear hq9 ht9
            go_roundw
            case rel => exact ⟨i + 1, l2, ⟨y, cur.size, cur.blocks, x, cur.pages⟩, _, _, by omega, by go_num, rfl, HNEW, Lib.hid ⟨HTO.out, HCU.out.2.1, HYB.out.2⟩, HSB9, G9', HRW9, HGB9⟩
            case measure => simp [intOf]; omega
          · have q1 : (E2 != 0) = true := bne_iff_ne.2 hE2
            clear hE2 HPE HPN
            go_wp2
            go_roundw
            case rel => exact ⟨i + 1, last, cur, L0, L1, by omega, by go_num, by rw [HZ1.out], HTI, Lib.hid ⟨HCU.out.1, HCU.out.2.1, by have := HCU.out.2.2; omega⟩, HSC7, G7, HRW7, HGB7⟩
            case measure => simp [intOf]; omega
      · have q0 : decide (i < k) = false := decide_eq_false hlt
        go_upto_region 25 with (fail)
        refine wp_region_inv_at (I := fun a0 L x W => ∃ p m q, CI [111, 112, 113, 114, 115, 116, 117, 110, 118, 119, 120, 16, 18, 17] [111, 112, 113, 114, 115, 116, 117, 110, 118, 119, 120, 1011, 16, 1013, 18] (fun p m q => [.slice (some ⟨gb, 0, none⟩) 2 2, .pointer (some ⟨gb, 0, none⟩), .string X0, .slice (some ⟨gb, 0, none⟩) 2 2, .pointer (some ⟨gb, 1, none⟩), .string X1, .tuple #[.int .i64 z1, .agg #[.int .u64 cur.gen, .int .i64 cur.size, .int .i64 cur.blocks, .int .u32 cur.root, .slice p m q], .int .i64 0], .tuple #[.int .i64 z1, .agg #[.int .u64 cur.gen, .int .i64 cur.size, .int .i64 cur.blocks, .int .u32 cur.root, .slice p m q], .int .i64 0], .int .i64 z1, .agg #[.int .u64 cur.gen, .int .i64 cur.size, .int .i64 cur.blocks, .int .u32 cur.root, .slice p m q], .int .i64 0, undef, .int .i64 z1, undef, .int .i64 0]) 17 cur wr.drew a0 L x W p m q) (by kernel_rfl) (by kernel_rfl) ⟨none, 0, 0, CI.start 133 (by simp) (by decide) (grown_refl _)⟩ ?_ ?_
        · show ∀ i, i < 15 → _
          refine (all_snoc (all_snoc (all_snoc (all_snoc (all_snoc (all_snoc (all_snoc (all_snoc (all_snoc (all_snoc (all_snoc (all_snoc (all_snoc (all_snoc (all_snoc all_nil ?o0) ?o1) ?o2) ?o3) ?o4) ?o5) ?o6) ?o7) ?o8) ?o9) ?o10) ?o11) ?o12) ?o13) ?o14)
          case o0 =>
            refine StepAt.mk rfl (ns := []) (by kernel_rfl) rfl ?_
            intro L x W h0 hn hI
            obtain ⟨p, m, q, hI⟩ := hI
            have e1 : x.tmps[7]?.getD undef = .slice (some ⟨gb, 0, none⟩) 2 2 := hI.vi.old 7 (by decide)
            refine wp_yield (v := .slice (some ⟨gb, 0, none⟩) 2 2) ?_ ⟨p, m, q, (hI.value (by decide) 0 (by decide) (by decide) (by decide) (by decide) (by decide) (by decide) (fun h => absurd h (by decide)) (fun h => absurd h (by decide)) rfl)⟩
            simp [go_sem, e1]
          case o1 =>
            refine StepAt.mk rfl (ns := [0]) (by kernel_rfl) rfl ?_
            intro L x W h0 hn hI
            obtain ⟨p, m, q, hI⟩ := hI
            have e0 : x.tmps[111]?.getD undef = .slice (some ⟨gb, 0, none⟩) 2 2 := hI.vi.get 0 (by decide) (by decide) (hn 0 (by simp))
            refine wp_yield (v := .pointer (some ⟨gb, 0, none⟩)) ?_ ⟨p, m, q, (hI.value (by decide) 1 (by decide) (by decide) (by decide) (by decide) (by decide) (by decide) (fun h => absurd h (by decide)) (fun h => absurd h (by decide)) rfl)⟩
            simp [go_sem, e0]
          case o2 =>
            refine StepAt.mk rfl (ns := [1]) (by kernel_rfl) rfl ?_
            intro L x W h0 hn hI
            obtain ⟨p, m, q, hI⟩ := hI
            have e1 : x.tmps[112]?.getD undef = .pointer (some ⟨gb, 0, none⟩) := hI.vi.get 1 (by decide) (by decide) (hn 1 (by simp))
            have c0 := HROW.out.1 W (grown_then (grown_drew wr) hI.vi.mem)
            refine wp_yield (v := .string X0) ?_ ⟨p, m, q, (hI.value (by decide) 2 (by decide) (by decide) (by decide) (by decide) (by decide) (by decide) (fun h => absurd h (by decide)) (fun h => absurd h (by decide)) rfl)⟩
            simp [go_sem, e1, c0]
          case o3 =>
            refine StepAt.mk rfl (ns := []) (by kernel_rfl) rfl ?_
            intro L x W h0 hn hI
            obtain ⟨p, m, q, hI⟩ := hI
            have e1 : x.tmps[7]?.getD undef = .slice (some ⟨gb, 0, none⟩) 2 2 := hI.vi.old 7 (by decide)
            refine wp_yield (v := .slice (some ⟨gb, 0, none⟩) 2 2) ?_ ⟨p, m, q, (hI.value (by decide) 3 (by decide) (by decide) (by decide) (by decide) (by decide) (by decide) (fun h => absurd h (by decide)) (fun h => absurd h (by decide)) rfl)⟩
            simp [go_sem, e1]
          case o4 =>
            refine StepAt.mk rfl (ns := [3]) (by kernel_rfl) rfl ?_
            intro L x W h0 hn hI
            obtain ⟨p, m, q, hI⟩ := hI
            have e3 : x.tmps[114]?.getD undef = .slice (some ⟨gb, 0, none⟩) 2 2 := hI.vi.get 3 (by decide) (by decide) (hn 3 (by simp))
            refine wp_yield (v := .pointer (some ⟨gb, 1, none⟩)) ?_ ⟨p, m, q, (hI.value (by decide) 4 (by decide) (by decide) (by decide) (by decide) (by decide) (by decide) (fun h => absurd h (by decide)) (fun h => absurd h (by decide)) rfl)⟩
            simp [go_sem, e3]
          case o5 =>
            refine StepAt.mk rfl (ns := [4]) (by kernel_rfl) rfl ?_
            intro L x W h0 hn hI
            obtain ⟨p, m, q, hI⟩ := hI
            have e4 : x.tmps[115]?.getD undef = .pointer (some ⟨gb, 1, none⟩) := hI.vi.get 4 (by decide) (by decide) (hn 4 (by simp))
            have c0 := HROW.out.2 W (grown_then (grown_drew wr) hI.vi.mem)
            refine wp_yield (v := .string X1) ?_ ⟨p, m, q, (hI.value (by decide) 5 (by decide) (by decide) (by decide) (by decide) (by decide) (by decide) (fun h => absurd h (by decide)) (fun h => absurd h (by decide)) rfl)⟩
            simp [go_sem, e4, c0]
          case o6 =>
            refine StepAt.mk rfl (ns := [2, 5]) (by kernel_rfl) rfl ?_
            intro L x W h0 hn hI
            obtain ⟨p, m, q, hI⟩ := hI
            have e2 : x.tmps[113]?.getD undef = .string X0 := hI.vi.get 2 (by decide) (by decide) (hn 2 (by simp))
            have e5 : x.tmps[116]?.getD undef = .string X1 := hI.vi.get 5 (by decide) (by decide) (hn 5 (by simp))
            refine wp_func_any (f := 12) (vs := #[.string X0, .string X1]) ?_ (HCH.out W (grown_then (grown_drew wr) hI.vi.mem)) ?_
            · simp [go_sem, e2, e5]
            · rintro e w' ⟨hg, p', m', q', rfl, hseg, hnew⟩
              refine ⟨_, rfl, p', m', q', hI.call (by decide) (by decide) (by decide) (by decide) h0 hg hseg hnew (fun j j6 j7 j9 => ?_) rfl⟩
              match j with
              | 0 => rfl
              | 1 => rfl
              | 2 => rfl
              | 3 => rfl
              | 4 => rfl
              | 5 => rfl
              | 6 => exact absurd rfl j6
              | 7 => exact absurd rfl j7
              | 8 => rfl
              | 9 => exact absurd rfl j9
              | 10 => rfl
              | 11 => rfl
              | 12 => rfl
              | 13 => rfl
              | 14 => rfl
              | j + 15 => rfl
          case o7 =>
            refine StepAt.mk rfl (ns := [6]) (by kernel_rfl) rfl ?_
            intro L x W h0 hn hI
            obtain ⟨p, m, q, hI⟩ := hI
            have e6 : x.tmps[117]?.getD undef = .tuple #[.int .i64 z1, .agg #[.int .u64 cur.gen, .int .i64 cur.size, .int .i64 cur.blocks, .int .u32 cur.root, .slice p m q], .int .i64 0] := hI.vi.get 6 (by decide) (by decide) (hn 6 (by simp))
            refine wp_yield (v := .tuple #[.int .i64 z1, .agg #[.int .u64 cur.gen, .int .i64 cur.size, .int .i64 cur.blocks, .int .u32 cur.root, .slice p m q], .int .i64 0]) ?_ ⟨p, m, q, (hI.value (by decide) 7 (by decide) (by decide) (by decide) (by decide) (by decide) (by decide) (fun _ => hn 6 (by simp)) (fun h => absurd h (by decide)) rfl)⟩
            simp [go_sem, e6]
          case o8 =>
            refine StepAt.mk rfl (ns := [7]) (by kernel_rfl) rfl ?_
            intro L x W h0 hn hI
            obtain ⟨p, m, q, hI⟩ := hI
            have e7 : x.tmps[110]?.getD undef = .tuple #[.int .i64 z1, .agg #[.int .u64 cur.gen, .int .i64 cur.size, .int .i64 cur.blocks, .int .u32 cur.root, .slice p m q], .int .i64 0] := hI.vi.get 7 (by decide) (by decide) (hn 7 (by simp))
            refine wp_yield (v := .int .i64 z1) ?_ ⟨p, m, q, (hI.value (by decide) 8 (by decide) (by decide) (by decide) (by decide) (by decide) (by decide) (fun h => absurd h (by decide)) (fun h => absurd h (by decide)) rfl)⟩
            simp [go_sem, e7]
          case o9 =>
            refine StepAt.mk rfl (ns := [7]) (by kernel_rfl) rfl ?_
            intro L x W h0 hn hI
            obtain ⟨p, m, q, hI⟩ := hI
            have e7 : x.tmps[110]?.getD undef = .tuple #[.int .i64 z1, .agg #[.int .u64 cur.gen, .int .i64 cur.size, .int .i64 cur.blocks, .int .u32 cur.root, .slice p m q], .int .i64 0] := hI.vi.get 7 (by decide) (by decide) (hn 7 (by simp))
            refine wp_yield (v := .agg #[.int .u64 cur.gen, .int .i64 cur.size, .int .i64 cur.blocks, .int .u32 cur.root, .slice p m q]) ?_ ⟨p, m, q, (hI.value (by decide) 9 (by decide) (by decide) (by decide) (by decide) (by decide) (by decide) (fun h => absurd h (by decide)) (fun _ => hn 7 (by simp)) rfl)⟩
            simp [go_sem, e7]
          case o10 =>
            refine StepAt.mk rfl (ns := [7]) (by kernel_rfl) rfl ?_
            intro L x W h0 hn hI
            obtain ⟨p, m, q, hI⟩ := hI
            have e7 : x.tmps[110]?.getD undef = .tuple #[.int .i64 z1, .agg #[.int .u64 cur.gen, .int .i64 cur.size, .int .i64 cur.blocks, .int .u32 cur.root, .slice p m q], .int .i64 0] := hI.vi.get 7 (by decide) (by decide) (hn 7 (by simp))
            refine wp_yield (v := .int .i64 0) ?_ ⟨p, m, q, (hI.value (by decide) 10 (by decide) (by decide) (by decide) (by decide) (by decide) (by decide) (fun h => absurd h (by decide)) (fun h => absurd h (by decide)) rfl)⟩
            simp [go_sem, e7]
          case o11 =>
            refine StepAt.mk rfl (ns := []) (by kernel_rfl) rfl ?_
            intro L x W h0 hn hI
            obtain ⟨p, m, q, hI⟩ := hI
            refine wp_made (v := .pointer (some ⟨W.heap.size, 0, none⟩)) (w' := W.alloc _) ?_ ⟨p, m, q, hI.made (by decide) (by decide) (by decide) h0 HPC.out rfl⟩
            simp [go_sem]
          case o12 =>
            refine StepAt.mk rfl (ns := [8, 6, 0, 1, 2, 3, 4, 5, 6, 7, 8, 11]) (by kernel_rfl) rfl ?_
            intro L x W h0 hn hI
            obtain ⟨p, m, q, hI⟩ := hI
            have e8 : x.tmps[118]?.getD undef = .int .i64 z1 := hI.vi.get 8 (by decide) (by decide) (hn 8 (by simp))
            refine wp_yield (v := .int .i64 z1) ?_ ⟨p, m, q, (hI.value (by decide) 12 (by decide) (by decide) (by decide) (by decide) (by decide) (by decide) (fun h => absurd h (by decide)) (fun h => absurd h (by decide)) rfl)⟩
            simp [go_sem, e8]
          case o13 =>
            refine StepAt.mk rfl (ns := [11, 9, 12, 0, 1, 2, 3, 4, 5, 6, 7, 8, 9, 11, 12]) (by kernel_rfl) rfl ?_
            intro L x W h0 hn hI
            obtain ⟨p, m, q, hI⟩ := hI
            obtain ⟨g, s', a', n', c', k1, k2, k3⟩ := hI.fill (by decide) (hn 11 (by simp)) (hn 9 (by simp))
            exact wp_store_super rfl (.tmp 17) (.tmp 119) rfl g k1 cur p m q (hI.vi.vals 9 (by decide) (by decide) (hn 9 (by simp))) s' a' n' c' k2 (fun w' hs ht => ⟨p, m, q, k3 w' hs ht⟩)
          case o14 =>
            refine StepAt.mk rfl (ns := [10, 13, 0, 1, 2, 3, 4, 5, 6, 7, 8, 9, 10, 11, 12, 13]) (by kernel_rfl) rfl ?_
            intro L x W h0 hn hI
            obtain ⟨p, m, q, hI⟩ := hI
            have e10 : x.tmps[120]?.getD undef = .int .i64 0 := hI.vi.get 10 (by decide) (by decide) (hn 10 (by simp))
            refine wp_yield (v := .int .i64 0) ?_ ⟨p, m, q, (hI.value (by decide) 14 (by decide) (by decide) (by decide) (by decide) (by decide) (by decide) (fun h => absurd h (by decide)) (fun h => absurd h (by decide)) rfl)⟩
            simp [go_sem, e10]
        · intro L x W hL hI
          obtain ⟨p, m, q, hI⟩ := hI
          replace hL : ∀ i, i < 15 → L i = true := hL
          have hform := hI.vi.agr.form
          have v0 : At x 111 = .slice (some ⟨gb, 0, none⟩) 2 2 := hI.vi.vals 0 (by decide) (by decide) (hL 0 (by omega))
          have v1 : At x 112 = .pointer (some ⟨gb, 0, none⟩) := hI.vi.vals 1 (by decide) (by decide) (hL 1 (by omega))
          have v2 : At x 113 = .string X0 := hI.vi.vals 2 (by decide) (by decide) (hL 2 (by omega))
          have v3 : At x 114 = .slice (some ⟨gb, 0, none⟩) 2 2 := hI.vi.vals 3 (by decide) (by decide) (hL 3 (by omega))
          have v4 : At x 115 = .pointer (some ⟨gb, 1, none⟩) := hI.vi.vals 4 (by decide) (by decide) (hL 4 (by omega))
          have v5 : At x 116 = .string X1 := hI.vi.vals 5 (by decide) (by decide) (hL 5 (by omega))
          have v6 : At x 117 = .tuple #[.int .i64 z1, .agg #[.int .u64 cur.gen, .int .i64 cur.size, .int .i64 cur.blocks, .int .u32 cur.root, .slice p m q], .int .i64 0] := hI.vi.vals 6 (by decide) (by decide) (hL 6 (by omega))
          have v7 : At x 110 = .tuple #[.int .i64 z1, .agg #[.int .u64 cur.gen, .int .i64 cur.size, .int .i64 cur.blocks, .int .u32 cur.root, .slice p m q], .int .i64 0] := hI.vi.vals 7 (by decide) (by decide) (hL 7 (by omega))
          have v8 : At x 118 = .int .i64 z1 := hI.vi.vals 8 (by decide) (by decide) (hL 8 (by omega))
          have v9 : At x 119 = .agg #[.int .u64 cur.gen, .int .i64 cur.size, .int .i64 cur.blocks, .int .u32 cur.root, .slice p m q] := hI.vi.vals 9 (by decide) (by decide) (hL 9 (by omega))
          have v10 : At x 120 = .int .i64 0 := hI.vi.vals 10 (by decide) (by decide) (hL 10 (by omega))
          have v12 : At x 16 = .int .i64 z1 := hI.vi.vals 12 (by decide) (by decide) (hL 12 (by omega))
          have v14 : At x 18 = .int .i64 0 := hI.vi.vals 14 (by decide) (by decide) (hL 14 (by omega))
          obtain ⟨g, vb, hgn, hpn, s', a', n', c', hb9, hcont⟩ := hI.box (hL 11 (by omega))
          obtain ⟨k1, k2, k3, k4⟩ := hcont (hL 13 (by omega))
          rw [k1, k2, k3, k4] at hb9
          clear k1 k2 k3 k4
          have HG9 : Hid (wr.grownBy W none) := Lib.hid (grown_then (grown_drew wr) hI.vi.mem)
          have HS9 := Lib.hid (hI.seg (hL 6 (by omega)))
          have HB9 := Lib.hid hb9
          have hgn9 : wr.heap.size ≤ g := hgn
          clear hI hL hcont hb9 hpn hgn
          rw [List.foldl_cons, List.foldl_cons, List.foldl_cons, List.foldl_cons, List.foldl_cons, List.foldl_cons, List.foldl_cons, List.foldl_cons, List.foldl_cons, List.foldl_cons, List.foldl_cons, List.foldl_cons, List.foldl_cons, List.foldl_cons, List.foldl_nil, v0, v1, v2, v3, v4, v5, v6, v7, v8, v9, v10, v12, v14, vb] at hform
          clear v0 v1 v2 v3 v4 v5 v6 v7 v8 v9 v10 v12 v14 vb
          subst hform
          have HSC := Lib.hid (HSB.out.old HG9.out)
          have GF := Lib.hid (grown_then HG.out HG9.out)
          have HSM := Lib.hid (same_yes cur p a m q n c W HS9.out (by rw [HCU.out.2.1]; exact HHS.out.grown GF.out))
          have e9 : (z1 == z1) = true := by simp
          obtain ⟨d0, d1, d2, d3, d4⟩ := HB9.out.cells
          obtain ⟨f0, f1, f2, f3, f4⟩ := HSC.out.cells
          clear HCU HTI HRW HSB HG HG9 HS9
          go_wp2_with fail
          refine HSM.out.mono ?_
          rintro e w9 ⟨rfl, hg⟩
          have GE := Lib.hid (grown_then GF.out hg)
          clear hg HSM HB9 HSC d0 d1 d2 d3 d4 f0 f1 f2 f3 f4
          dsimp only
          go_wp2
          go_ret
          exact ⟨rfl, GE.out⟩
  · have e0 : (E != 0) = true := bne_iff_ne.2 hE
    clear hE HTI HVP HE
    go_wp2
    go_ret
    exact ⟨rfl, G2.out⟩
end Go.Proofs.YtfojkglindpjjaaDoor.Su
