/-
  Slices of cells that read as a list; Of: the zone of cells.
-/
import Derived.Test.YtpincfofnlfjiaaZnJoin
import Derived.Deep.RegionWith
import Derived.BigFrame
namespace Go.Proofs.Ytpincfofnlfjiaa.Zn
open Go.RowKit Bs Dv

def flatC : List Cel → List Value
  | [] => []
  | c :: l => .int .i64 c.k :: .int .i64 c.n :: .string c.s :: flatC l
theorem flatC_len : ∀ l : List Cel, (flatC l).length = l.length * 3
  | [] => rfl
  | c :: l => by simp only [flatC, List.length_cons, flatC_len l]; omega
theorem flatC_app : ∀ l m : List Cel, flatC (l ++ m) = flatC l ++ flatC m
  | [], _ => rfl
  | c :: l, m => by simp only [List.cons_append, flatC, flatC_app l m]
theorem flatC_one : ∀ l : List Cel, ∀ v ∈ flatC l, v.oneCell' = true
  | [], _, h => by cases h
  | c :: l, v, h => by
    simp only [flatC, List.mem_cons] at h
    rcases h with rfl | rfl | rfl | h
    · rfl
    · rfl
    · rfl
    · exact flatC_one l v h
theorem flatC_at : ∀ (l : List Cel) (k : Nat) (_ : k < l.length), (flatC l)[k * 3]? = some (.int .i64 (l.getD k zeroC).k) ∧ (flatC l)[k * 3 + 1]? = some (.int .i64 (l.getD k zeroC).n) ∧ (flatC l)[k * 3 + 2]? = some (.string (l.getD k zeroC).s)
  | [], _, h => by cases h
  | c :: l, 0, _ => ⟨rfl, rfl, rfl⟩
  | c :: l, k + 1, h => by
    have ih := flatC_at l k (by simpa using h)
    rw [show (k + 1) * 3 = k * 3 + 1 + 1 + 1 from by omega, show k * 3 + 1 + 1 + 1 + 1 = k * 3 + 1 + 1 + 1 + 1 from rfl, show k * 3 + 1 + 1 + 1 + 2 = k * 3 + 2 + 1 + 1 + 1 from rfl]
    simpa only [flatC, List.getElem?_cons_succ, List.getD_cons_succ] using ih

/-- A slice of cells that reads as l. -/
structure CSeg (w : World) (a : Option Addr) (n c : Nat) (l : List Cel) : Prop where
  len : l.length = n
  le : n ≤ c
  cap : c ≤ maxLen
  nil_ : a = none → n = 0 ∧ c = 0
  at_ : ∀ ad, a = some ad → ∀ j u, (flatC l)[j]? = some u → w.cell? (ad.add j) = some u

theorem CSeg.nil (w : World) : CSeg w none 0 0 [] := ⟨rfl, Nat.le_refl _, by unfold maxLen; omega, fun _ => ⟨rfl, rfl⟩, fun _ h => by cases h⟩
theorem CSeg.old {w w' : World} {a : Option Addr} {n c : Nat} {l : List Cel} (h : CSeg w a n c l) (k : w.grownBy w' none) : CSeg w' a n c l :=
  ⟨h.len, h.le, h.cap, h.nil_, fun ad had j u hu => (grown_turn k).cell (h.at_ ad had j u hu) id⟩
theorem spot_none {w : World} {a : Addr} {v : Value} (h : w.cell? a = some v) : a.spot = none := by
  unfold World.cell? at h
  split at h
  · split at h
    · cases h
    · rename_i h2
      simpa using h2
  · cases h
/-- A slice of cells that holds some, with its address. -/
theorem CSeg.form {w : World} {a : Option Addr} {n c : Nat} {l : List Cel} (h : CSeg w a n c l) (hn : n ≠ 0) : ∃ B O, a = some ⟨B, O, none⟩ ∧ ∀ k, k < n → w.cell? ⟨B, O + k * 3, none⟩ = some (.int .i64 (l.getD k zeroC).k) ∧ w.cell? ⟨B, O + k * 3 + 1, none⟩ = some (.int .i64 (l.getD k zeroC).n) ∧ w.cell? ⟨B, O + k * 3 + 2, none⟩ = some (.string (l.getD k zeroC).s) := by
  cases a with
  | none => exact absurd (h.nil_ rfl).1 hn
  | some ad =>
    have hl := h.len
    have h0 := spot_none (h.at_ ad rfl (0 * 3) _ (flatC_at l 0 (by omega)).1)
    obtain ⟨B, O, sp⟩ := ad
    have : sp = none := by
      have h1 := h0
      unfold Addr.add at h1
      simpa using h1
    subst this
    refine ⟨B, O, rfl, fun k hk => ?_⟩
    obtain ⟨h1, h2, h3⟩ := flatC_at l k (by omega)
    have e1 := h.at_ _ rfl _ _ h1
    have e2 := h.at_ _ rfl _ _ h2
    have e3 := h.at_ _ rfl _ _ h3
    rw [Addr.add_lit] at e1 e2 e3
    exact ⟨e1, by rw [Nat.add_assoc]; exact e2, by rw [Nat.add_assoc]; exact e3⟩

theorem ZB.setAll {w : World} {g : Nat} {q : Zon} (h : ZB w g q) (z : Zon) : ZB ((((((((w.setCell ⟨g, 0, none⟩ (.int .i64 z.cnt)).setCell ⟨g, 1, none⟩ (.int .i64 z.nul)).setCell ⟨g, 2, none⟩ (.int .i64 z.min.k)).setCell ⟨g, 3, none⟩ (.int .i64 z.min.n)).setCell ⟨g, 4, none⟩ (.string z.min.s)).setCell ⟨g, 5, none⟩ (.int .i64 z.max.k)).setCell ⟨g, 6, none⟩ (.int .i64 z.max.n)).setCell ⟨g, 7, none⟩ (.string z.max.s)) g z := by
  obtain ⟨W1, e1⟩ : ∃ W', W' = w.setCell ⟨g, 0, none⟩ (.int .i64 z.cnt) := ⟨_, rfl⟩
  have h1 : W1.heap[g]? = some (.cells #[.int .i64 z.cnt, .int .i64 q.nul, .int .i64 q.min.k, .int .i64 q.min.n, .string q.min.s, .int .i64 q.max.k, .int .i64 q.max.n, .string q.max.s] 26 (0, 0)) := by rw [e1]; exact Go.heap_setCell_same w g 0 _ _ (.int .i64 z.cnt) h
  obtain ⟨W2, e2⟩ : ∃ W', W' = W1.setCell ⟨g, 1, none⟩ (.int .i64 z.nul) := ⟨_, rfl⟩
  have h2 : W2.heap[g]? = some (.cells #[.int .i64 z.cnt, .int .i64 z.nul, .int .i64 q.min.k, .int .i64 q.min.n, .string q.min.s, .int .i64 q.max.k, .int .i64 q.max.n, .string q.max.s] 26 (0, 0)) := by rw [e2]; exact Go.heap_setCell_same W1 g 1 _ _ (.int .i64 z.nul) h1
  obtain ⟨W3, e3⟩ : ∃ W', W' = W2.setCell ⟨g, 2, none⟩ (.int .i64 z.min.k) := ⟨_, rfl⟩
  have h3 : W3.heap[g]? = some (.cells #[.int .i64 z.cnt, .int .i64 z.nul, .int .i64 z.min.k, .int .i64 q.min.n, .string q.min.s, .int .i64 q.max.k, .int .i64 q.max.n, .string q.max.s] 26 (0, 0)) := by rw [e3]; exact Go.heap_setCell_same W2 g 2 _ _ (.int .i64 z.min.k) h2
  obtain ⟨W4, e4⟩ : ∃ W', W' = W3.setCell ⟨g, 3, none⟩ (.int .i64 z.min.n) := ⟨_, rfl⟩
  have h4 : W4.heap[g]? = some (.cells #[.int .i64 z.cnt, .int .i64 z.nul, .int .i64 z.min.k, .int .i64 z.min.n, .string q.min.s, .int .i64 q.max.k, .int .i64 q.max.n, .string q.max.s] 26 (0, 0)) := by rw [e4]; exact Go.heap_setCell_same W3 g 3 _ _ (.int .i64 z.min.n) h3
  obtain ⟨W5, e5⟩ : ∃ W', W' = W4.setCell ⟨g, 4, none⟩ (.string z.min.s) := ⟨_, rfl⟩
  have h5 : W5.heap[g]? = some (.cells #[.int .i64 z.cnt, .int .i64 z.nul, .int .i64 z.min.k, .int .i64 z.min.n, .string z.min.s, .int .i64 q.max.k, .int .i64 q.max.n, .string q.max.s] 26 (0, 0)) := by rw [e5]; exact Go.heap_setCell_same W4 g 4 _ _ (.string z.min.s) h4
  obtain ⟨W6, e6⟩ : ∃ W', W' = W5.setCell ⟨g, 5, none⟩ (.int .i64 z.max.k) := ⟨_, rfl⟩
  have h6 : W6.heap[g]? = some (.cells #[.int .i64 z.cnt, .int .i64 z.nul, .int .i64 z.min.k, .int .i64 z.min.n, .string z.min.s, .int .i64 z.max.k, .int .i64 q.max.n, .string q.max.s] 26 (0, 0)) := by rw [e6]; exact Go.heap_setCell_same W5 g 5 _ _ (.int .i64 z.max.k) h5
  obtain ⟨W7, e7⟩ : ∃ W', W' = W6.setCell ⟨g, 6, none⟩ (.int .i64 z.max.n) := ⟨_, rfl⟩
  have h7 : W7.heap[g]? = some (.cells #[.int .i64 z.cnt, .int .i64 z.nul, .int .i64 z.min.k, .int .i64 z.min.n, .string z.min.s, .int .i64 z.max.k, .int .i64 z.max.n, .string q.max.s] 26 (0, 0)) := by rw [e7]; exact Go.heap_setCell_same W6 g 6 _ _ (.int .i64 z.max.n) h6
  obtain ⟨W8, e8⟩ : ∃ W', W' = W7.setCell ⟨g, 7, none⟩ (.string z.max.s) := ⟨_, rfl⟩
  have h8 : W8.heap[g]? = some (.cells #[.int .i64 z.cnt, .int .i64 z.nul, .int .i64 z.min.k, .int .i64 z.min.n, .string z.min.s, .int .i64 z.max.k, .int .i64 z.max.n, .string z.max.s] 26 (0, 0)) := by rw [e8]; exact Go.heap_setCell_same W7 g 7 _ _ (.string z.max.s) h7
  rw [← e1, ← e2, ← e3, ← e4, ← e5, ← e6, ← e7, ← e8]
  exact h8
theorem turn_set8 (w : World) (g : Nat) (z : Zon) : Turn w ((((((((w.setCell ⟨g, 0, none⟩ (.int .i64 z.cnt)).setCell ⟨g, 1, none⟩ (.int .i64 z.nul)).setCell ⟨g, 2, none⟩ (.int .i64 z.min.k)).setCell ⟨g, 3, none⟩ (.int .i64 z.min.n)).setCell ⟨g, 4, none⟩ (.string z.min.s)).setCell ⟨g, 5, none⟩ (.int .i64 z.max.k)).setCell ⟨g, 6, none⟩ (.int .i64 z.max.n)).setCell ⟨g, 7, none⟩ (.string z.max.s)) (· = g) :=
  ((((((((Turn.setCell w _ _ (S := (· = g)) rfl).trans (Turn.setCell _ _ _ (S := (· = g)) rfl) (fun _ _ e => e)).trans (Turn.setCell _ _ _ (S := (· = g)) rfl) (fun _ _ e => e)).trans (Turn.setCell _ _ _ (S := (· = g)) rfl) (fun _ _ e => e)).trans (Turn.setCell _ _ _ (S := (· = g)) rfl) (fun _ _ e => e)).trans (Turn.setCell _ _ _ (S := (· = g)) rfl) (fun _ _ e => e)).trans (Turn.setCell _ _ _ (S := (· = g)) rfl) (fun _ _ e => e)).trans (Turn.setCell _ _ _ (S := (· = g)) rfl) (fun _ _ e => e))

theorem take_snoc (l : List Cel) (k : Nat) (h : k < l.length) : l.take (k + 1) = l.take k ++ [l.getD k zeroC] := by
  rw [List.take_succ_eq_append_getElem h]
  simp [List.getD, h]
theorem small_of (l : List Cel) (h : l.length ≤ 400) : Small (ofZ l) := by
  have g := good_of l
  have c := of_cnt l
  have h1 := g.nul
  have h2 := g.le
  unfold Small
  omega
theorem small_one (c : Cel) : Small (oneZ c) := by
  unfold Small
  rw [one_cnt, one_nul]
  split <;> omega

set_option maxRecDepth 100000 in
set_option maxHeartbeats 4000000 in
theorem Of_any (a : Option Addr) (n c : Nat) (l : List Cel) (w : World) (hs : CSeg w a n c l) (hn : n ≤ 300) : Calls Try.prog 9 #[.slice a n c] w fun e w' =>
    e = .returned (.agg #[.int .i64 (ofZ l).cnt, .int .i64 (ofZ l).nul, .int .i64 (ofZ l).min.k, .int .i64 (ofZ l).min.n, .string (ofZ l).min.s, .int .i64 (ofZ l).max.k, .int .i64 (ofZ l).max.n, .string (ofZ l).max.s]) ∧ w.grownBy w' none := by
  have HS := Lib.hid hs
  have HL := Lib.hid hs.len
  have R0 := Lib.hid (ZB.new w zeroZ)
  have Z0 : Hid (ZB ((w.alloc (.cells #[.int .i64 zeroZ.cnt, .int .i64 zeroZ.nul, .int .i64 zeroZ.min.k, .int .i64 zeroZ.min.n, .string zeroZ.min.s, .int .i64 zeroZ.max.k, .int .i64 zeroZ.max.n, .string zeroZ.max.s] 26)).alloc (.cells #[.int .i64 zeroZ.cnt, .int .i64 zeroZ.nul, .int .i64 zeroZ.min.k, .int .i64 zeroZ.min.n, .string zeroZ.min.s, .int .i64 zeroZ.max.k, .int .i64 zeroZ.max.n, .string zeroZ.max.s] 26)) (w.heap.size + 1) zeroZ) := Lib.hid (by
    have h := ZB.new (w.alloc (.cells #[.int .i64 zeroZ.cnt, .int .i64 zeroZ.nul, .int .i64 zeroZ.min.k, .int .i64 zeroZ.min.n, .string zeroZ.min.s, .int .i64 zeroZ.max.k, .int .i64 zeroZ.max.n, .string zeroZ.max.s] 26)) zeroZ
    rw [World.size_alloc] at h
    exact h)
  have G0 := Lib.hid (grown_then (grown_alloc w (.cells #[.int .i64 zeroZ.cnt, .int .i64 zeroZ.nul, .int .i64 zeroZ.min.k, .int .i64 zeroZ.min.n, .string zeroZ.min.s, .int .i64 zeroZ.max.k, .int .i64 zeroZ.max.n, .string zeroZ.max.s] 26)) (grown_alloc _ (.cells #[.int .i64 zeroZ.cnt, .int .i64 zeroZ.nul, .int .i64 zeroZ.min.k, .int .i64 zeroZ.min.n, .string zeroZ.min.s, .int .i64 zeroZ.max.k, .int .i64 zeroZ.max.n, .string zeroZ.max.s] 26)))
  have R1 := Lib.hid (R0.out.old (grown_alloc _ (.cells #[.int .i64 zeroZ.cnt, .int .i64 zeroZ.nul, .int .i64 zeroZ.min.k, .int .i64 zeroZ.min.n, .string zeroZ.min.s, .int .i64 zeroZ.max.k, .int .i64 zeroZ.max.n, .string zeroZ.max.s] 26)))
  clear hs R0
  go_enter Try.func9, Try.ntmps9
  go_wp2
  go_loopw [9] (fun iv wx => ∃ k : Nat, iv = .int .i64 k ∧ k ≤ n ∧ ZB wx (w.heap.size + 1) (ofZ (l.take k)) ∧ ZB wx w.heap.size zeroZ ∧ w.grownBy wx none) (fun iv _ => n - (intOf iv).toNat)
  case atStart => exact ⟨0, rfl, Nat.zero_le _, Z0.out, R1.out, G0.out⟩
  case round =>
    obtain ⟨k, rfl, hk, hz, hr, hg⟩ := hrel
    have HZ := Lib.hid hz
    have HR := Lib.hid hr
    have HG := Lib.hid hg
    clear hz hr hg
    by_cases hlt : k < n
    · obtain ⟨B, O, rfl, hcs⟩ := (HS.out.old HG.out).form (by omega)
      obtain ⟨c0, c1, c2⟩ := hcs k hlt
      clear hcs
      obtain ⟨x, hx⟩ : ∃ x, x = l.getD k zeroC := ⟨_, rfl⟩
      rw [← hx] at c0 c1 c2
      obtain ⟨z, hz⟩ : ∃ z, z = ofZ (l.take k) := ⟨_, rfl⟩
      obtain ⟨o, ho⟩ : ∃ o, o = oneZ x := ⟨_, rfl⟩
      obtain ⟨j, hj⟩ : ∃ j, j = joinZ z o := ⟨_, rfl⟩
      have HN := Lib.hid (fun W => one_any x W)
      have HJ := Lib.hid (fun W => Join_any z o W (by rw [hz]; exact small_of _ (by rw [List.length_take]; have := HL.out; omega)) (by rw [ho]; exact small_one x))
      have HT : Hid (j = ofZ (l.take (k + 1))) := Lib.hid (by rw [take_snoc l k (by have := HL.out; omega), ofZ_snoc, hj, hz, ho, hx])
      rw [← ho] at HN
      rw [← hj] at HJ
      rw [← hz] at HZ
      clear hx hz ho hj
      obtain ⟨z0, z1, ⟨z2, z3, z4⟩, z5, z6, z7⟩ := HZ.out.cells
      go_wp2_with fail
      obtain ⟨W1, hW1⟩ : ∃ W1, wr.alloc (.cells #[.int .i64 x.k, .int .i64 x.n, .string x.s] 24) = W1 := ⟨_, rfl⟩
      have G1 : Hid (w.grownBy W1 none) := Lib.hid (by rw [← hW1]; exact grown_then HG.out (grown_alloc _ _))
      have R1 : Hid (ZB W1 w.heap.size zeroZ) := Lib.hid (by rw [← hW1]; exact HR.out.old (grown_alloc _ _))
      have Z1 : Hid (ZB W1 (w.heap.size + 1) z) := Lib.hid (by rw [← hW1]; exact HZ.out.old (grown_alloc _ _))
      have X1 : Hid (CB W1 wr.heap.size x) := Lib.hid (by rw [← hW1]; exact CB.new wr x)
      rw [hW1]
      clear hW1 z0 z1 z2 z3 z4 z5 z6 z7 c0 c1 c2
      obtain ⟨z0, z1, ⟨z2, z3, z4⟩, z5, z6, z7⟩ := Z1.out.cells
      obtain ⟨c0, c1, c2⟩ := X1.out.cells
      go_region_with (first
        | (go_at_call 22
           (with_reducible refine (HN.out _).mono ?_)
           rintro e wa ⟨rfl, hga⟩
           have GA := Lib.hid (grown_then (grown_drew W1) hga)
           obtain ⟨a0, a1, ⟨a2, a3, a4⟩, a5, a6, a7⟩ := (Z1.out.old GA.out).cells
           clear hga)
        | (go_at_call 18
           (with_reducible refine (HJ.out _).mono ?_)
           rintro e wb ⟨rfl, hgb⟩
           have GB := Lib.hid (grown_then GA.out hgb)
           have ZB2 := Lib.hid (Z1.out.old GB.out)
           obtain ⟨b0, b1, ⟨b2, b3, b4⟩, b5, b6, b7⟩ := ZB2.out.cells
           have y0 := ZB2.out.froz 0
           have y1 := ZB2.out.froz 1
           have y2 := ZB2.out.froz 2
           have y3 := ZB2.out.froz 3
           have y4 := ZB2.out.froz 4
           have y5 := ZB2.out.froz 5
           have y6 := ZB2.out.froz 6
           have y7 := ZB2.out.froz 7
           clear hgb)
        | fail)
      all_goals
        obtain ⟨W9, hW9⟩ : ∃ W9, (((((((wb.setCell ⟨w.heap.size + 1, 0, none⟩ (.int .i64 j.cnt)).setCell ⟨w.heap.size + 1, 1, none⟩ (.int .i64 j.nul)).setCell ⟨w.heap.size + 1, 2, none⟩ (.int .i64 j.min.k)).setCell ⟨w.heap.size + 1, 3, none⟩ (.int .i64 j.min.n)).setCell ⟨w.heap.size + 1, 4, none⟩ (.string j.min.s)).setCell ⟨w.heap.size + 1, 5, none⟩ (.int .i64 j.max.k)).setCell ⟨w.heap.size + 1, 6, none⟩ (.int .i64 j.max.n)).setCell ⟨w.heap.size + 1, 7, none⟩ (.string j.max.s) = W9 := ⟨_, rfl⟩
        have t9 := turn_set8 wb (w.heap.size + 1) j
        have Z9 := ZB2.out.setAll j
        rw [hW9] at t9 Z9
        rw [hW9]
        clear hW9
        have R9 := ((R1.out.old GB.out)).not t9 (by omega)
        have G9 := grown_put (grown_then G1.out GB.out) t9 (by omega)
        have HF := Lib.hid (And.intro (show ZB W9 (w.heap.size + 1) (ofZ (l.take (k + 1))) from by rw [← HT.out]; exact Z9) (And.intro R9 G9))
        clear Z9 R9 G9 t9
        go_wp2
        go_roundw
        case rel => exact ⟨k + 1, by go_num, by omega, HF.out.1, HF.out.2.1, HF.out.2.2⟩
        case measure => simp [intOf]; omega
    · obtain rfl : k = n := by omega
      have HT : Hid (ofZ (l.take k) = ofZ l) := Lib.hid (by rw [List.take_of_length_le (by rw [HL.out]; exact Nat.le_refl _)])
      rw [HT.out] at HZ
      obtain ⟨z, hz⟩ : ∃ z, z = ofZ l := ⟨_, rfl⟩
      rw [← hz] at HZ
      have HE := Lib.hid hz
      clear hz HT hlt
      obtain ⟨z0, z1, ⟨z2, z3, z4⟩, z5, z6, z7⟩ := HZ.out.cells
      go_wp2_with (first
        | (with_reducible refine wpList_store_zone rfl (.tmp 2) (.tmp 18) rfl w.heap.size rfl z rfl zeroZ HR.out ?_; intro w9 hz9 ht9)
        | fail)
      refine bodyPost_ret (run_results_zone rfl _ _ _ _ rfl hz9) rfl ⟨by rw [HE.out], grown_put HG.out ht9 (Nat.le_refl _)⟩
end Go.Proofs.Ytpincfofnlfjiaa.Zn
