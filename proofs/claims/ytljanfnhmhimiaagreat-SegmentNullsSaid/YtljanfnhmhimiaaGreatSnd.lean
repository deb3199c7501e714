/-
  What the program's and the document's functions do, in memory and as plain functions: SgNullsA, SgNullsL.
-/
import Derived.Deep.AppendLies
import Derived.BigRegion
import Derived.Deep.RegionHeld3
import Derived.Test.YtljanfnhmhimiaaGreatSnD
import Derived.Test.YtljanfnhmhimiaaGreatSnG
import Derived.Test.YtljanfnhmhimiaaGreatSnH
import Derived.Test.YtljanfnhmhimiaaGreatSnL
import Derived.Test.YtljanfnhmhimiaaGreatSnP
import Derived.Test.YtljanfnhmhimiaaGreatSnc

namespace Go.Proofs.YtljanfnhmhimiaaGreat.Sg
open Go.RowKit Bs Dv Zn

/-- the two rows after k cells -/
structure TwoC (base : Nat) (l : List Cel) (k : Nat) (V1 V2 : Value) (w : World) : Prop where
  one : w.ownsRow base 24 3 V1 (someL (l.take k)).length (flatC (someL (l.take k)))
  two : w.ownsRow base 24 3 V2 (2 * (someL (l.take k)).length) (flatC (moreL (someL (l.take k))))
  apart : ∀ g, V1.ownBlock = some g → V2.ownBlock ≠ some g
theorem TwoC.skip {base k : Nat} {l : List Cel} {V1 V2 : Value} {w : World} (h : TwoC base l k V1 V2 w) (hk : k < l.length) (h0 : (l.getD k zeroC).k = 0) : TwoC base l (k + 1) V1 V2 w := by
  have e := some_take hk
  rw [if_pos h0] at e
  exact ⟨by rw [e]; exact h.one, by rw [e]; exact h.two, h.apart⟩
/-- a row, and the row that an append made of it -/
structure App (base : Nat) (w : World) (V : Value) (w' : World) (V' : Value) (n : Nat) (xs : List Value) : Prop where
  own : w'.ownsRow base 24 3 V' n xs
  grown : w.grownBy w' V.ownBlock
  lies : ∃ g, V'.ownBlock = some g ∧ (V.ownBlock = some g ∨ g = w.heap.size) ∧ g < w'.heap.size
theorem step_cells {ops : Array Oper} {o : Oper} {a : Act} {w : World} {K : Act → World → Prop} {Q : Exit → Act → World → Prop} {E : Prop} (hgd : o.guard = none) (s x : Operand)
    (ho : o.op = .call { callee := .builtin .append, args := #[s, x], argTypes := #[26, 26] }) (base n : Nat) (V : Value) (xs : List Value) (hs : a.eval s = V) (hown : w.ownsRow base 24 3 V n xs)
    (b m : Nat) (cs : Array Value) (hx : a.eval x = .slice (some ⟨b, 0, none⟩) m m) (hb : w.heap[b]? = some (.cells cs 24 (0, 0))) (hl : cs.toList.length = m * 3) (h1 : ∀ u ∈ cs.toList, u.oneCell' = true)
    (hm : 0 < m) (hn : n + m ≤ 100000) (hbase : base ≤ w.heap.size)
    (h : ∀ V' w', App base w V w' V' (n + m) (xs ++ cs.toList) → K (a.put o.dst V') w') :
    if Region.wanted o (yielded ops a.tmps) = true then Oper.wp Tryz.prog o a w K Q else E := by
  obtain ⟨i0, ii, iz0, iz1, iz2⟩ := infoC_parts
  exact step_append_lies w hgd s x 26 ho base 24 i0 _ 3 32 Tryz.underlying26 ii iz0 iz1 iz2 rfl (by decide) V n xs hs hown ⟨b, 0, none⟩ m m cs.toList hx hl (World.news_of_block hb) h1 hm (by unfold maxLen; omega) (by omega) hbase w.heap.size rfl
    fun g cap w' h2 h3 h4 h5 => h _ w' ⟨h2, h3, g, rfl, h4, h5⟩
theorem own_low {w : World} {base base' e s n : Nat} {v : Value} {xs : List Value} (h : w.ownsRow base e s v n xs) (hb : base' ≤ base) : w.ownsRow base' e s v n xs := by
  obtain ⟨q1, q2⟩ := h
  refine ⟨q1, ?_⟩
  rcases q2 with q3 | ⟨g, cap, cur, q3, q4, q5⟩
  · exact .inl q3
  · exact .inr ⟨g, cap, cur, q3, Nat.le_trans hb q4, q5⟩
/-- the first of two new blocks -/
theorem heap_first (w : World) (o o' : Obj) : ((w.alloc o).alloc o').heap[w.heap.size]? = some o := by
  have h : ((w.alloc o).alloc o').heap[w.heap.size]? = (w.alloc o).heap[w.heap.size]? := (grown_alloc (w.alloc o) o').block w.heap.size (by simp) (fun h => by cases h)
  exact h.trans (heap_alloc_new w o)
/-- the second of two new blocks -/
theorem heap_second (w : World) (o o' : Obj) : ((w.alloc o).alloc o').heap[w.heap.size + 1]? = some o' := by
  have h := heap_alloc_new (w.alloc o) o'
  rwa [show (w.alloc o).heap.size = w.heap.size + 1 from by simp] at h
/-- both rows grown -/
theorem TwoC.grow {w wr c1 w1 c2 w2 : World} {l : List Cel} {k : Nat} {V1 V2 U1 U2 : Value} {x : Cel} (h : TwoC w.heap.size l k V1 V2 wr) (g0 : w.grownBy wr none) (hk : k < l.length) (hx : x = l.getD k zeroC) (h0 : x.k ≠ 0)
    (e1 : wr.grownBy c1 none) (A1 : App w.heap.size c1 V1 w1 U1 ((someL (l.take k)).length + 1) (flatC (someL (l.take k)) ++ [.int .i64 x.k, .int .i64 x.n, .string x.s]))
    (e2 : w1.grownBy c2 none) (A2 : App w.heap.size c2 V2 w2 U2 (2 * (someL (l.take k)).length + 2) (flatC (moreL (someL (l.take k))) ++ [.int .i64 x.k, .int .i64 x.n, .string x.s, .int .i64 0, .int .i64 0, .string ⟨#[]⟩])) :
    TwoC w.heap.size l (k + 1) U1 U2 w2 ∧ w.grownBy w2 none := by
  have e := some_take hk
  rw [if_neg (by rw [← hx]; exact h0), ← hx] at e
  have hv1 := h.one.lt
  have hv2 := h.two.lt
  obtain ⟨g1, q1, p1, s1⟩ := A1.lies
  obtain ⟨g2, q2, p2, s2⟩ := A2.lies
  have z1 := e1.size
  have z2 := e2.size
  have z3 := A1.grown.size
  have hne : ∀ g, V2.ownBlock = some g → g ≠ g1 := by
    rintro g hg rfl
    rcases p1 with h5 | h5
    · exact h.apart _ h5 hg
    · have := (hv2 _ hg).2
      omega
  refine ⟨⟨?_, ?_, ?_⟩, ?_⟩
  · rw [e, List.length_append, List.length_singleton, flatC_app]
    refine (A1.own.kept e2 (.inr (by rw [q1]; exact fun h => by cases h))).kept A2.grown (.inr ?_)
    rw [q1]
    exact fun h6 => hne g1 h6.symm rfl
  · rw [e, more_app, List.length_append, List.length_singleton, flatC_app, show 2 * ((someL (l.take k)).length + 1) = 2 * (someL (l.take k)).length + 2 from by omega]
    exact A2.own
  · intro g hg h6
    rw [q1] at hg
    cases hg
    rw [q2] at h6
    cases h6
    rcases p2 with h5 | h5
    · exact hne _ h5 rfl
    · omega
  · have t1 := grownBy_trans (grown_then g0 e1) A1.grown (fun g hg => (hv1 g hg).1)
    exact grownBy_trans (grown_then t1 e2) A2.grown (fun g hg => (hv2 g hg).1)
end Go.Proofs.YtljanfnhmhimiaaGreat.Sg

namespace Go.Proofs.YtljanfnhmhimiaaGreat.Sg
open Go.RowKit Go.Joins Bs Dv Zn Zr
open Nu (roomF encN)

/-- a row of the call's own, nil too, as a slice of cells -/
theorem row_seg {w : World} {base m : Nat} {v : Value} {l : List Cel} (h : w.ownsRow base 24 3 v m (flatC l)) : ∃ a c, v = .slice a m c ∧ CSeg w a m c l := by
  rcases h.2 with ⟨rfl, h0⟩ | ⟨g, cap, cur, rfl, _⟩
  · have hl := h.1
    rw [flatC_len] at hl
    obtain rfl : m = 0 := h0
    obtain rfl : l = [] := List.length_eq_zero_iff.1 (by omega)
    exact ⟨none, 0, rfl, CSeg.nil w⟩
  · exact ⟨_, cap, rfl, CSeg.own h⟩
set_option maxRecDepth 100000 in
set_option maxHeartbeats 8000000 in
theorem nulls_any (HP : PutC) (HC : CheckC) (kind : Int) (a : Option Addr) (n c : Nat) (l : List Cel) (pn : Int) (w : World) (hs : CSeg w a n c l) (ho : StrsOk l) (hi : IntOk l) :
    Calls Tryz.prog 7 #[.int .i64 kind, .slice a n c, .int .i64 pn] w fun e w' => e = .returned (.bool true) ∧ Below w.heap.size w w' := by
  have HS := Lib.hid hs
  have HL := Lib.hid hs.len
  have HOK := Lib.hid ho
  have HI := Lib.hid hi
  have HP1 := Lib.hid HP
  have HC1 := Lib.hid HC
  clear hs ho hi HP HC
  go_enter Tryz.func7, Tryz.ntmps7
  go_wp2_with fail
  refine (lives_any HP1.out _).mono ?_
  rintro e w1 ⟨rfl, hg⟩
  have G1 := Lib.hid hg
  clear hg
  dsimp only
  go_wp2_with fail
  refine (light_any a n c l _ (HS.out.old G1.out) HOK.out).mono ?_
  rintro e wl ⟨lb, rfl, hlb, rfl⟩
  have HLB := Lib.hid hlb
  clear hlb
  cases lb
  · dsimp only
    go_wp2
    go_ret
    exact ⟨rfl, below_of G1.out⟩
  have hn60 : n ≤ 60 := HLB.out rfl
  clear HLB
  dsimp only
  obtain ⟨E, hE⟩ : ∃ E, E = checkS kind l := ⟨_, rfl⟩
  have hck := HC1.out kind a n c l w1 (HS.out.old G1.out) HI.out HOK.out (by omega)
  rw [← hE] at hck
  have HCK := Lib.hid hck
  clear hck
  by_cases h0 : E = 0
  · have q0 : (E != 0) = false := by rw [h0]; rfl
    have HCol : Hid (Col kind l) := Lib.hid (check_iff.1 (by rw [← hE]; exact h0))
    clear h0 hE
    go_wp2_with fail
    refine HCK.out.mono ?_
    rintro e w2 ⟨rfl, hg⟩
    have G2 := Lib.hid (grown_then G1.out hg)
    clear hg HCK G1
    dsimp only
    have HPA := Lib.hid (fun W => pick_any pn 200 W (by omega) (by omega))
    have hra := pick_range pn 200 (by omega)
    obtain ⟨p, hp⟩ : ∃ p : Nat, pick pn 200 = (p : Int) := ⟨(pick pn 200).toNat, by omega⟩
    rw [hp] at HPA hra
    clear hp
    obtain ⟨N, hN⟩ : ∃ N : Nat, N = 1 + p := ⟨_, rfl⟩
    have hN1 : 1 ≤ N := by omega
    have hN2 : N ≤ 200 := by omega
    have hw1 : IntKind.i64.wrap (1 + (p : Int)) = (N : Int) := by rw [IntKind.wrap_i64]; omega
    clear hN
    go_wp2_with fail
    refine (HPA.out _).mono ?_
    rintro e w' ⟨rfl, rfl⟩
    clear HPA
    dsimp only
    have hmk := make_cells N (by omega)
    go_wp2_with fail
    obtain ⟨W3, hW3⟩ : ∃ V, w2.alloc (.cells (roomC N) 24) = V := ⟨_, rfl⟩
    have hg : w2.grownBy W3 none := by rw [← hW3]; exact grown_alloc _ _
    have hsn : CSeg W3 (some ⟨w2.heap.size, 0, none⟩) N N (List.replicate N zeroC) := by rw [← hW3]; exact seg_cells N (by omega) w2
    have G3 := Lib.hid (grown_then G2.out hg)
    have hk1 := HCol.out.k1
    have hk3 := HCol.out.k3
    have hpn := HP1.out kind _ N N (List.replicate N zeroC) W3 hsn (fun x hx => by rw [List.eq_of_mem_replicate hx]; exact ⟨by decide, by decide⟩) (fun x hx => by rw [List.eq_of_mem_replicate hx]; show (0 : Nat) ≤ _; exact Nat.zero_le _) (by omega)
    rw [put_of (none_col hk1 hk3 N (by omega))] at hpn
    obtain ⟨T, hT⟩ : ∃ T, T = strOfNums (encS kind (List.replicate N zeroC)) := ⟨_, rfl⟩
    have hts : T.size ≤ 4 := by rw [hT, strOfNums_size]; exact enc_none kind N hN1 (by omega)
    dsimp only at hpn
    rw [← hT] at hpn
    have HPN := Lib.hid hpn
    rw [hW3]
    clear hpn hT hW3 hg hsn G2 hmk hw1 hra hk1 hk3
    generalize w2.heap.size = gn at *
    refine HPN.out.mono ?_
    rintro e w4 ⟨rfl, hg⟩
    have G4 := Lib.hid (grown_then G3.out hg)
    clear hg HPN G3
    dsimp only
    go_upto_region 9 with (fail)
    go_loopw [9, 10, 11] (fun v1 v2 iv wx => ∃ (k : Nat) (V1 V2 : Value), iv = .int .i64 k ∧ k ≤ n ∧ V1 = v1 ∧ V2 = v2 ∧ TwoC w.heap.size l k V1 V2 wx ∧ w.grownBy wx none) (fun _ _ iv _ => n - (intOf iv).toNat)
    case atStart => exact ⟨0, _, _, rfl, Nat.zero_le _, rfl, rfl, ⟨World.ownsRow_nil _ _ _ _, World.ownsRow_nil _ _ _ _, fun g e => by cases e⟩, G4.out⟩
    case round =>
      obtain ⟨k, V1, V2, rfl, hk, rfl, rfl, ht, hg⟩ := hrel
      have HG := Lib.hid hg
      have HT := Lib.hid ht
      clear ht hg G4
      by_cases hlt : k < n
      · obtain ⟨B, O, rfl, hcs⟩ := (HS.out.old HG.out).form (by omega)
        obtain ⟨x, hx⟩ : ∃ x, x = l.getD k zeroC := ⟨_, rfl⟩
        have HXE := Lib.hid hx
        have hkl : Hid (k < l.length) := Lib.hid (by rw [HL.out]; exact hlt)
        clear hcs hx
        have hlt2 : (k : Int) < (n : Int) := by omega
        obtain ⟨c0, c1, c2⟩ := cells_at (HS.out.old HG.out) hlt HXE.out
        by_cases hx0 : x.k = 0
        · have q1 : (x.k != 0) = false := by rw [hx0]; rfl
          have HT2 := Lib.hid (HT.out.skip hkl.out (by rw [← HXE.out]; exact hx0))
          clear hx0 HT
          go_wp2
          go_roundw
          case rel => exact ⟨k + 1, _, _, by go_num, by omega, rfl, rfl, HT2.out, HG.out⟩
          case measure => simp [intOf]; omega
        · have q1 : (x.k != 0) = true := bne_iff_ne.2 hx0
          go_upto_region 12 with (fail)
          obtain ⟨n1, hn1⟩ : ∃ m, m = (someL (l.take k)).length := ⟨_, rfl⟩
          have hn1k : n1 ≤ 60 := by have h3 := some_few (l.take k); rw [List.length_take] at h3; omega
          have HW1 := Lib.hid HT.out.one
          have HW2 := Lib.hid HT.out.two
          rw [← hn1] at HW1 HW2
          have HN1 := Lib.hid hn1
          clear hn1
          have hBw : B < w.heap.size := World.block_lt_of_cell? w _ (cells_at HS.out hlt HXE.out).1
          have hBr : B < wr.heap.size := Nat.lt_of_lt_of_le hBw HG.out.size
          have hwr : w.heap.size ≤ wr.heap.size := HG.out.size
          have hB1 : some B ≠ V1.ownBlock := fun e => by have := (HW1.out.lt _ e.symm).1; omega
          have hB2 : some B ≠ V2.ownBlock := fun e => by have := (HW2.out.lt _ e.symm).1; omega
          have hap := Lib.hid HT.out.apart
          have hV1 : ∀ d, some (wr.heap.size + d) ≠ V1.ownBlock := fun d e => by have := (HW1.out.lt _ e.symm).2; omega
          have HV1 := Lib.hid hV1
          have hap : V2.ownBlock = none ∨ V2.ownBlock ≠ V1.ownBlock := by
            by_cases e : V2.ownBlock = none
            · exact .inl e
            · obtain ⟨g, hg⟩ := Option.ne_none_iff_exists'.1 e
              exact .inr fun h => HT.out.apart g (h ▸ hg) hg
          have HAP := Lib.hid hap
          clear hV1 hap
          have hk0 : (0 : Int) ≤ (k : Int) := by omega
          go_region_held3 (fun w' => w'.cell? ⟨B, O + k * 3, none⟩ = some (.int .i64 x.k) ∧ w'.cell? ⟨B, O + k * 3 + 1, none⟩ = some (.int .i64 x.n) ∧ w'.cell? ⟨B, O + k * 3 + 2, none⟩ = some (.string x.s))
            (first | go_keep | (go_split_ands; refine ⟨?_, ?_, ?_⟩ <;> (first | (rw [A2.grown.cell_far _ (by simp; omega) hB2]; assumption) | (rw [A1.grown.cell_far _ (by simp; omega) hB1]; assumption))))
            (first
              | (refine step_cells (by rfl) (.tmp 56) (.tmp 61) (by rfl) w.heap.size n1 V1 (flatC (someL (l.take k))) (by rfl) (by first | exact HW1.out.alloc _ | exact (HW1.out.alloc _).alloc _) wr.heap.size 1 #[.int .i64 x.k, .int .i64 x.n, .string x.s] (by rfl) (by first | exact heap_alloc_new wr _ | exact heap_first wr _ _) (by rfl) (by intro u hu; simp at hu; rcases hu with rfl | rfl | rfl <;> rfl) (by omega) (by omega) (by simp; omega) ?_; intro U1 wA A1; have hBA : B < wA.heap.size := Nat.lt_of_lt_of_le (by simp; omega) A1.grown.size; have hWA : w.heap.size ≤ wA.heap.size := Nat.le_trans (by simp; omega) A1.grown.size)
              | (refine step_cells (by rfl) (.tmp 56) (.tmp 61) (by rfl) w.heap.size n1 V1 (flatC (someL (l.take k))) (by rfl) (by first | exact HW1.out.alloc _ | exact (HW1.out.alloc _).alloc _) (wr.heap.size + 1) 1 #[.int .i64 x.k, .int .i64 x.n, .string x.s] (by rfl) (by first | exact heap_second wr _ _) (by rfl) (by intro u hu; simp at hu; rcases hu with rfl | rfl | rfl <;> rfl) (by omega) (by omega) (by simp; omega) ?_; intro U1 wA A1; have hBA : B < wA.heap.size := Nat.lt_of_lt_of_le (by simp; omega) A1.grown.size; have hWA : w.heap.size ≤ wA.heap.size := Nat.le_trans (by simp; omega) A1.grown.size)
              | (refine step_cells (by rfl) (.tmp 63) (.tmp 69) (by rfl) w.heap.size (2 * n1) V2 (flatC (moreL (someL (l.take k)))) (by rfl) (by first | exact World.ownsRow.kept (by first | exact (HW2.out.alloc _).drew | exact ((HW2.out.alloc _).drew.alloc _).drew | exact ((HW2.out.alloc _).alloc _).drew) A1.grown HAP.out | exact ((World.ownsRow.kept (by first | exact (HW2.out.alloc _).drew | exact ((HW2.out.alloc _).drew.alloc _).drew | exact ((HW2.out.alloc _).alloc _).drew) A1.grown HAP.out).alloc _).drew) wA.heap.size 2 #[.int .i64 x.k, .int .i64 x.n, .string x.s, .int .i64 0, .int .i64 0, .string ⟨#[]⟩] (by rfl) (by exact heap_alloc_new wA _) (by rfl) (by intro u hu; simp at hu; rcases hu with rfl | rfl | rfl | rfl | rfl | rfl <;> rfl) (by omega) (by omega) (by first | (simp; omega) | omega) ?_; intro U2 wB A2)
              | (refine step_cells (by rfl) (.tmp 63) (.tmp 69) (by rfl) w.heap.size (2 * n1) V2 (flatC (moreL (someL (l.take k)))) (by rfl) (by first | exact World.ownsRow.kept (by first | exact (HW2.out.alloc _).drew | exact ((HW2.out.alloc _).drew.alloc _).drew | exact ((HW2.out.alloc _).alloc _).drew) A1.grown HAP.out | exact ((World.ownsRow.kept (by first | exact (HW2.out.alloc _).drew | exact ((HW2.out.alloc _).drew.alloc _).drew | exact ((HW2.out.alloc _).alloc _).drew) A1.grown HAP.out).alloc _).drew) (wr.heap.size + 1) 2 #[.int .i64 x.k, .int .i64 x.n, .string x.s, .int .i64 0, .int .i64 0, .string ⟨#[]⟩] (by rfl) (by exact (A1.grown.block (wr.heap.size + 1) (by simp) (HV1.out 1)).trans (heap_second wr _ _)) (by rfl) (by intro u hu; simp at hu; rcases hu with rfl | rfl | rfl | rfl | rfl | rfl <;> rfl) (by omega) (by omega) (by first | (simp; omega) | omega) ?_; intro U2 wB A2)
              | (refine step_cells (by rfl) (.tmp 63) (.tmp 69) (by rfl) w.heap.size (2 * n1) V2 (flatC (moreL (someL (l.take k)))) (by rfl) (by first | exact World.ownsRow.kept (by first | exact (HW2.out.alloc _).drew | exact ((HW2.out.alloc _).drew.alloc _).drew | exact ((HW2.out.alloc _).alloc _).drew) A1.grown HAP.out | exact ((World.ownsRow.kept (by first | exact (HW2.out.alloc _).drew | exact ((HW2.out.alloc _).drew.alloc _).drew | exact ((HW2.out.alloc _).alloc _).drew) A1.grown HAP.out).alloc _).drew) wr.heap.size 2 #[.int .i64 x.k, .int .i64 x.n, .string x.s, .int .i64 0, .int .i64 0, .string ⟨#[]⟩] (by rfl) (by exact (A1.grown.block wr.heap.size (by simp; omega) (HV1.out 0)).trans (heap_first wr _ _)) (by rfl) (by intro u hu; simp at hu; rcases hu with rfl | rfl | rfl | rfl | rfl | rfl <;> rfl) (by omega) (by omega) (by first | (simp; omega) | omega) ?_; intro U2 wB A2))
          all_goals
            have hA1 := A1
            have hA2 := A2
            rw [HN1.out] at hA1 hA2
            obtain ⟨ht, hg⟩ := HT.out.grow HG.out hkl.out HXE.out hx0 (by first | exact grown_then (grown_alloc _ _) (grown_drew _) | exact grown_then (grown_then (grown_alloc _ _) (grown_alloc _ _)) (grown_drew _)) hA1 (by first | exact grown_alloc _ _ | exact ⟨rfl, rfl, rfl, Nat.le_refl _, fun _ _ _ => rfl⟩) hA2
            have HT3 := Lib.hid ht
            have HG3 := Lib.hid hg
            clear ht hg A1 A2 hA1 hA2 HW1 HW2 HN1 HV1 HAP HT
            go_simp
            go_wp2
            go_roundw
            case rel => exact ⟨k + 1, _, _, by go_num, by omega, rfl, rfl, HT3.out, HG3.out⟩
            case measure => simp [intOf]; omega
      · obtain rfl : k = n := by omega
        have hT : l.take k = l := List.take_of_length_le (by rw [HL.out]; exact Nat.le_refl _)
        have ht := HT.out
        have h1 := ht.one
        have h2 := ht.two
        have hap := Lib.hid ht.apart
        rw [hT] at h1 h2
        clear ht HT hT hlt
        obtain ⟨m, hm⟩ : ∃ m, m = (someL l).length := ⟨_, rfl⟩
        have hmn : m ≤ 60 := by have h3 := some_few l; have h4 := HL.out; omega
        obtain ⟨q, hq⟩ : ∃ q, q = 2 * m := ⟨_, rfl⟩
        have hq2 : q ≤ 120 := by omega
        rw [← hm] at h1 h2
        rw [← hq] at h2
        obtain ⟨a1, p1, rfl, s1⟩ := row_seg h1
        obtain ⟨a2, p2, rfl, s2⟩ := row_seg h2
        have hc1 := HCol.out.some_col
        have hc2 := HCol.out.more_col (by rw [HL.out]; omega)
        have HN := Lib.hid (nulls_between kind l)
        have hs1 := HP1.out kind a1 m p1 (someL l) wr s1 (fun y hy => HI.out y (some_mem.1 hy).1) (fun y hy => HOK.out y (some_mem.1 hy).1) (by omega)
        rw [put_of hc1] at hs1
        dsimp only at hs1
        obtain ⟨T1, hT1⟩ : ∃ T, T = strOfNums (encS kind (someL l)) := ⟨_, rfl⟩
        obtain ⟨T2, hT2⟩ : ∃ T, T = strOfNums (encS kind (moreL (someL l))) := ⟨_, rfl⟩
        rw [← hT1] at hs1
        have HQ1 := Lib.hid hs1
        have S2 := Lib.hid s2
        have HHM := Lib.hid hm
        have HQQ := Lib.hid hq
        have HT1 := Lib.hid hT1
        have HT2 := Lib.hid hT2
        have HC2 := Lib.hid hc2
        clear hs1 s1 s2 h1 h2 hm hq hT1 hT2 hc1 hc2
        go_wp2_with fail
        refine HQ1.out.mono ?_
        rintro e w5 ⟨rfl, hg⟩
        have G5 := Lib.hid (grown_then HG.out hg)
        have hs2 := HP1.out kind a2 q p2 (moreL (someL l)) w5 (S2.out.old hg) (fun y hy => (more_mem hy).elim (fun h => HI.out y (some_mem.1 h).1) (fun h => by rw [h]; exact ⟨by decide, by decide⟩)) (fun y hy => (more_mem hy).elim (fun h => HOK.out y (some_mem.1 h).1) (fun h => by rw [h]; show (0 : Nat) ≤ _; exact Nat.zero_le _)) (by omega)
        rw [put_of HC2.out] at hs2
        dsimp only at hs2
        rw [← HT2.out] at hs2
        have HQ2 := Lib.hid hs2
        clear hg hs2 HQ1 HG S2
        dsimp only
        go_wp2_with fail
        refine HQ2.out.mono ?_
        rintro e w6 ⟨rfl, hg⟩
        have G6 := Lib.hid (grown_then G5.out hg)
        clear hg HQ2 G5
        have hmk1 := make_bools m (by omega)
        have hmk2 := make_bools q (by omega)
        dsimp only
        go_upto_region 18 with (fail)
        obtain ⟨W7, hW7⟩ : ∃ V, (w6.alloc (.cells (roomF m) 4)).alloc (.cells (roomF q) 4) = V := ⟨_, rfl⟩
        have R1 : Hid (W7.ownsRow w.heap.size 4 1 (.slice (some ⟨w6.heap.size, 0, none⟩) m m) m ((List.replicate m false).map Value.bool)) := Lib.hid (by
          have h := Nu.made_flags w6 (List.replicate m false) m (by omega) (by simp)
          rw [Nu.fillF_zero, List.length_replicate] at h
          rw [← hW7]
          exact own_low (World.ownsRow.alloc h _) G6.out.size)
        have R2 : Hid (W7.ownsRow w.heap.size 4 1 (.slice (some ⟨w6.heap.size + 1, 0, none⟩) q q) q ((wideL 0 ++ List.replicate (2 * (m - 0)) false).map Value.bool)) := Lib.hid (by
          have h := Nu.made_flags (w6.alloc (.cells (roomF m) 4)) (List.replicate q false) q (by omega) (by simp)
          rw [Nu.fillF_zero, List.length_replicate, show (w6.alloc (.cells (roomF m) 4)).heap.size = w6.heap.size + 1 from by simp] at h
          rw [← hW7, Nat.sub_zero, ← HQQ.out]
          exact own_low h (Nat.le_trans G6.out.size (Nat.le_succ _)))
        have G7 : Hid (w.grownBy W7 none) := Lib.hid (by rw [← hW7]; exact grown_then G6.out (grown_then (grown_alloc _ _) (grown_alloc _ _)))
        rw [hW7]
        clear hW7 hmk1 hmk2 G6
        generalize w6.heap.size = g6 at *
        go_loopw [18] (fun iv wx => ∃ j e : Nat, e = 2 * j + 1 ∧ iv = .int .i64 e ∧ j ≤ m ∧ wx.ownsRow w.heap.size 4 1 (.slice (some ⟨g6, 0, none⟩) m m) m ((List.replicate m false).map Value.bool) ∧ wx.ownsRow w.heap.size 4 1 (.slice (some ⟨g6 + 1, 0, none⟩) q q) q ((wideL j ++ List.replicate (2 * (m - j)) false).map Value.bool) ∧ w.grownBy wx none) (fun iv _ => q + 2 - (intOf iv).toNat)
        case atStart => exact ⟨0, 1, rfl, rfl, Nat.zero_le _, R1.out, R2.out, G7.out⟩
        case round =>
          obtain ⟨j, e, he, rfl, hj, r1, r2, hg⟩ := hrel
          have HG := Lib.hid hg
          have HR1 := Lib.hid r1
          have HR2 := Lib.hid r2
          have HE := Lib.hid he
          clear r1 r2 hg he R1 R2 G7
          by_cases hlt : j < m
          · have heq : e < q := by have h1 := HQQ.out; have h2 := HE.out; omega
            have heq2 : (e : Int) < (q : Int) := by omega
            have he0 : (0 : Int) ≤ (e : Int) := by omega
            have hws := wide_set j m hlt
            rw [← HE.out] at hws
            have hcell := HR2.out.cellAt e (by omega)
            have hfl : e < (wideL j ++ List.replicate (2 * (m - j)) false).length := by rw [List.length_append, wide_len, List.length_replicate]; have h1 := HQQ.out; omega
            rw [List.getElem?_map, List.getElem?_eq_getElem hfl] at hcell
            simp only [Option.map_some] at hcell
            have hfree := HR2.out.frozenAt e
            generalize (wideL j ++ List.replicate (2 * (m - j)) false)[e]'_ = bq at hcell
            have hst := HR2.out.stored e (.bool true)
            rw [← List.map_set, hws] at hst
            have HST := Lib.hid hst
            clear hst hws hfl
            go_wp2
            go_roundw
            case rel => exact ⟨j + 1, e + 2, by have h2 := HE.out; omega, by go_num, by omega, own_keep HR1.out HST.out.2 (fun g e => by cases e; simp), HST.out.1, Bs.grownBy_trans HG.out HST.out.2 (fun i e => by cases e; exact (HR2.out.lt _ rfl).1)⟩
            case measure => simp [intOf]; omega
          · obtain rfl : j = m := by omega
            have heq2 : ¬ ((e : Int) < (q : Int)) := by have h1 := HQQ.out; have h2 := HE.out; omega
            have hr2 := HR2.out
            rw [Nat.sub_self, Nat.mul_zero, List.replicate_zero, List.append_nil] at hr2
            have s1 := Bl.Seg.own HR1.out
            have s2 := Bl.Seg.own hr2
            have hl1 : (List.replicate j false).length = j := List.length_replicate
            have hl2 : (wideL j).length = q := by rw [wide_len]; exact HQQ.out.symm
            have hb1 := Nu.enc_len (l := List.replicate j false) (by omega)
            have hb2 := Nu.enc_len (l := wideL j) (by omega)
            have HN2 := HN.out
            rw [← HHM.out] at HN2
            obtain ⟨X, hX⟩ : ∃ X, X = encN (List.replicate j false) := ⟨_, rfl⟩
            obtain ⟨Y, hY⟩ : ∃ Y, Y = encN (wideL j) := ⟨_, rfl⟩
            obtain ⟨EA, hEA⟩ : ∃ L, L = encS kind (someL l) := ⟨_, rfl⟩
            obtain ⟨EB, hEB⟩ : ∃ L, L = encS kind (moreL (someL l)) := ⟨_, rfl⟩
            have ht1 := HT1.out
            have ht2 := HT2.out
            rw [← hX, ← hY, ← hEA, ← hEB] at HN2
            rw [← hX] at hb1
            rw [← hY] at hb2
            rw [← hEA] at ht1
            rw [← hEB] at ht2
            have hpx := Nu.rput_form (l := List.replicate j false) (E := 0) (B := X) (m := X.length) (by unfold Nu.putN; rw [if_neg (by rw [hl1]; omega), hX]) rfl _ j j wr s1
            have hpy : ∀ W, wr.grownBy W none → Calls Tryz.prog 24 #[.slice (some ⟨g6 + 1, 0, none⟩) q q] W (Pk.PutF W Y.length 0 Y) := fun W hW => Nu.rput_form (l := wideL j) (E := 0) (B := Y) (m := Y.length) (by unfold Nu.putN; rw [if_neg (by rw [hl2]; omega), hY]) rfl _ q q W (s2.grown hW)
            obtain ⟨n1, n2, n3, n4⟩ := HN2
            obtain ⟨D, hD⟩ : ∃ D, D = strOfNums (EA.drop (1 + X.length)) := ⟨_, rfl⟩
            obtain ⟨SY, hSY⟩ : ∃ D, D = strOfNums Y := ⟨_, rfl⟩
            have z1 : T1.size = EA.length := by rw [ht1, strOfNums_size]
            have z2 : T2.size = EB.length := by rw [ht2, strOfNums_size]
            have x1 : T1.extract (1 + X.length) T1.size = D := by
              rw [z1, ht1, str_extract, hD, List.take_of_length_le (by rw [List.length_drop]; exact Nat.le_refl _)]
            have x2 : T2.extract (1 + Y.length) T2.size = D := by
              rw [z2, ht2, str_extract, hD, n3, List.take_of_length_le (by rw [List.length_drop]; exact Nat.le_refl _)]
            have x3 : T2.extract 1 (1 + Y.length) = SY := by
              rw [ht2, str_extract, show 1 + Y.length - 1 = Y.length from by omega, n4, hSY]
            have HPX := Lib.hid hpx
            have HPY := Lib.hid hpy
            have HSY := Lib.hid hSY
            clear hpx hpy hSY hD n3 n4 hX hY hEA hEB ht1 ht2 s1 s2 HR1 HR2 hr2 hl1 hl2 HN HT1 HT2
            rw [← z1] at n1
            rw [← z2] at n2
            clear z1 z2
            have hy0 : 0 < Y.length := by omega
            obtain ⟨px, hpx⟩ : ∃ m, X.length = m := ⟨_, rfl⟩
            obtain ⟨py, hpy⟩ : ∃ m, Y.length = m := ⟨_, rfl⟩
            rw [hpx] at HPX n1 x1 hb1
            rw [hpy] at HPY n2 x2 x3 hb2 hy0
            obtain ⟨na, hna⟩ : ∃ m, T1.size = m := ⟨_, rfl⟩
            obtain ⟨nb, hnb⟩ : ∃ m, T2.size = m := ⟨_, rfl⟩
            rw [hna] at n1 x1
            rw [hnb] at n2 x2
            clear hpx hpy
            go_wp2_with fail
            refine HPX.out.mono ?_
            rintro e w8 ⟨a8, k8, he8, hs8, ht8⟩
            have G8 := Lib.hid (grown_then HG.out ht8.grown)
            have HQ8 := Lib.hid (HPY.out w8 ht8.grown)
            subst he8
            clear hs8 ht8 HPX HPY HG
            dsimp only
            go_wp2_with fail
            refine HQ8.out.mono ?_
            rintro e w9 ⟨a9, k9, he9, hs9, ht9⟩
            have G9 := Lib.hid (grown_then G8.out ht9.grown)
            have HC9 : ∀ W : Gw w9, (convert 45 9 (.slice a9 py k9)).run Tryz.prog W.at_ = .ok (.string SY) W.at_ := fun W => by rw [HSY.out]; exact In.conv_seg (hs9.grown W.grown) hy0
            subst he9
            clear hs9 ht9 HQ8 G8 HSY
            dsimp only
            obtain ⟨ex, hex⟩ : ∃ m : Nat, 1 + px = m := ⟨_, rfl⟩
            obtain ⟨ey, hey⟩ : ∃ m : Nat, 1 + py = m := ⟨_, rfl⟩
            have hw1 : IntKind.i64.wrap (1 + (px : Int)) = (ex : Int) := by rw [IntKind.wrap_i64]; omega
            have hw2 : IntKind.i64.wrap (1 + (py : Int)) = (ey : Int) := by rw [IntKind.wrap_i64]; omega
            rw [hex] at n1 x1
            rw [hey] at n2 x2 x3
            have j1 : (0 : Int) ≤ (ex : Int) := by omega
            have j2 : (0 : Int) ≤ (ey : Int) := by omega
            have j3 : (ex : Int) ≤ (na : Int) := by omega
            have j4 : (ey : Int) ≤ (nb : Int) := by omega
            have j5 : (1 : Int) ≤ (ey : Int) := by omega
            have j6 : (T.size : Int) ≤ 4 := by omega
            clear hex hey hb1 hb2 hy0 hts
            go_upto_region 23 with (fail)
            refine wp_region_grow (by kernel_rfl) ?_
            repeat (go_big_quiet_step (fail))
            refine wpQuiet_nil ?_
            rintro _ ⟨pw, rfl⟩
            have G12 := Lib.hid (grown_then G9.out pw.grown)
            go_wp2
            go_ret
            exact ⟨rfl, below_of G12.out⟩
  · have q0 : (E != 0) = true := bne_iff_ne.2 h0
    clear h0 hE
    go_wp2_with fail
    refine HCK.out.mono ?_
    rintro e w2 ⟨rfl, hg⟩
    have G2 := Lib.hid (grown_then G1.out hg)
    clear hg HCK G1
    dsimp only
    go_wp2
    go_ret
    exact ⟨rfl, below_of G2.out⟩
end Go.Proofs.YtljanfnhmhimiaaGreat.Sg
