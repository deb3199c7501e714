/-
  What the program's and the document's functions do, in memory and as plain functions: ZnLight, SgRow, ZrJoin, ZnMake.
-/
import Derived.Laws.OwnMore
import Derived.BigRegion
import Derived.Test.YtljanfnhmhimiaaGreatSrP

namespace Go.Proofs.YtljanfnhmhimiaaGreat.Zn
open Go.RowKit Bs Dv

/-- Are cells gone through? Then they are few. -/
def LightX (n most : Nat) (w : World) (e : Ending) (w' : World) : Prop := ∃ b : Bool, e = .returned (.bool b) ∧ (b = true → n ≤ most) ∧ w = w'
def StrsOk (l : List Cel) : Prop := ∀ x ∈ l, x.s.size ≤ 140737488355328
theorem StrsOk.at {l : List Cel} (h : StrsOk l) (k : Nat) : (l.getD k zeroC).s.size ≤ 140737488355328 := by
  by_cases hk : k < l.length
  · rw [List.getD_eq_getElem?_getD, List.getElem?_eq_getElem hk]; exact h _ (List.getElem_mem hk)
  · rw [List.getD_eq_getElem?_getD, List.getElem?_eq_none (Nat.not_lt.1 hk)]; show (0 : Nat) ≤ _; omega

set_option maxRecDepth 100000 in
set_option maxHeartbeats 2000000 in
theorem lightCells_any (a : Option Addr) (n c : Nat) (l : List Cel) (w : World) (hs : CSeg w a n c l) (ho : StrsOk l) :
    Calls Tryz.prog 36 #[.slice a n c, .int .i64 60, .int .i64 600] w (LightX n 60 w) := by
  have hcap := hs.le
  have hcap2 := hs.cap
  unfold maxLen at hcap2
  have HS := Lib.hid hs
  clear hs
  have H0 : Hid (LightX n 60 w (.returned (.bool false)) w) := Lib.hid ⟨false, rfl, (fun h => by cases h), rfl⟩
  by_cases h60 : 60 < n
  · have h60' : (60 : Int) < n := by omega
    clear h60
    go_enter Tryz.func36, Tryz.ntmps36
    go_wp2
    go_ret
    exact H0.out
  · have h60' : ¬ (60 : Int) < n := by omega
    have H1 : Hid (LightX n 60 w (.returned (.bool true)) w) := Lib.hid ⟨true, rfl, (fun _ => by omega), rfl⟩
    clear h60
    go_enter Tryz.func36, Tryz.ntmps36
    go_wp2
    go_loop [7, 8] (fun tv iv => ∃ k t : Nat, tv = .int .i64 t ∧ iv = .int .i64 k ∧ k ≤ n ∧ t ≤ 600) (fun _ iv => n - (intOf iv).toNat)
    case atStart => exact ⟨0, 0, rfl, rfl, Nat.zero_le _, Nat.zero_le _⟩
    case round =>
      obtain ⟨k, t, rfl, rfl, hk, ht⟩ := hrel
      by_cases hlt : k < n
      · obtain ⟨B, O, rfl, hcs⟩ := HS.out.form (by omega)
        obtain ⟨-, -, c2⟩ := hcs k hlt
        clear hcs
        have hz := ho.at k
        obtain ⟨s, hs⟩ : ∃ s, s = (l.getD k zeroC).s := ⟨_, rfl⟩
        rw [← hs] at c2 hz
        clear hs
        have hw : IntKind.i64.wrap ((t : Int) + (s.size : Int)) = (t : Int) + (s.size : Int) := IntWalk.i64_in _ (by omega)
        by_cases h6 : 600 < t + s.size
        · have h6' : (600 : Int) < (t : Int) + (s.size : Int) := by omega
          clear h6
          go_wp2
          go_ret
          exact H0.out
        · have h6' : ¬ (600 : Int) < (t : Int) + (s.size : Int) := by omega
          have HT := Lib.hid (show t + s.size ≤ 600 by omega)
          clear h6
          go_wp2
          go_round
          case rel => exact ⟨k + 1, t + s.size, by go_num, by go_num, by omega, HT.out⟩
          case measure => simp [intOf]; omega
      · obtain rfl : k = n := by omega
        clear hlt
        go_wp2
        go_ret
        exact H1.out
end Go.Proofs.YtljanfnhmhimiaaGreat.Zn

namespace Go.Proofs.YtljanfnhmhimiaaGreat.Sg
open Go.RowKit Bs Dv Zn

theorem flatC_set : ∀ (l : List Cel) (i : Nat) (x : Cel), flatC (l.set i x) = if i < l.length then (((flatC l).set (i * 3) (.int .i64 x.k)).set (i * 3 + 1) (.int .i64 x.n)).set (i * 3 + 2) (.string x.s) else flatC l
  | [], i, x => by rw [if_neg (by simp)]; rfl
  | c :: l, 0, x => by rw [if_pos (by simp)]; rfl
  | c :: l, i + 1, x => by
    have ih := flatC_set l i x
    rw [List.set_cons_succ, flatC, ih]
    by_cases h : i < l.length
    · rw [if_pos h, if_pos (by rw [List.length_cons]; omega), flatC, show (i + 1) * 3 = i * 3 + 1 + 1 + 1 from by omega]
      rfl
    · rw [if_neg h, if_neg (by rw [List.length_cons]; omega)]
      rfl
/-- an own row of cells, one of them written over -/
theorem row_set {w : World} {base g n c : Nat} {l : List Cel} (h : w.ownsRow base 24 3 (.slice (some ⟨g, 0, none⟩) n c) n (flatC l)) (i : Nat) (x : Cel) (hi : i < l.length) :
    (((w.setCell ⟨g, i * 3, none⟩ (.int .i64 x.k)).setCell ⟨g, i * 3 + 1, none⟩ (.int .i64 x.n)).setCell ⟨g, i * 3 + 2, none⟩ (.string x.s)).ownsRow base 24 3 (.slice (some ⟨g, 0, none⟩) n c) n (flatC (l.set i x)) ∧
    w.grownBy (((w.setCell ⟨g, i * 3, none⟩ (.int .i64 x.k)).setCell ⟨g, i * 3 + 1, none⟩ (.int .i64 x.n)).setCell ⟨g, i * 3 + 2, none⟩ (.string x.s)) (some g) := by
  obtain ⟨h1, g1⟩ := h.stored (i * 3) (.int .i64 x.k)
  obtain ⟨h2, g2⟩ := h1.stored (i * 3 + 1) (.int .i64 x.n)
  obtain ⟨h3, g3⟩ := h2.stored (i * 3 + 2) (.string x.s)
  refine ⟨by rw [flatC_set, if_pos hi]; exact h3, ⟨?_, ?_, ?_, ?_, ?_⟩⟩
  · exact g3.os.trans (g2.os.trans g1.os)
  · exact g3.tape.trans (g2.tape.trans g1.tape)
  · exact g3.output.trans (g2.output.trans g1.output)
  · exact Nat.le_trans g1.size (Nat.le_trans g2.size g3.size)
  · intro k hk hn
    rw [g3.block k (Nat.lt_of_lt_of_le hk (Nat.le_trans g1.size g2.size)) hn, g2.block k (Nat.lt_of_lt_of_le hk g1.size) hn, g1.block k hk hn]
theorem _root_.Go.Proofs.YtljanfnhmhimiaaGreat.Zn.CSeg.cells0 {w : World} {g n c : Nat} {l : List Cel} (h : CSeg w (some ⟨g, 0, none⟩) n c l) (k : Nat) (hk : k < n) :
    w.cell? ⟨g, k * 3, none⟩ = some (.int .i64 (l.getD k zeroC).k) ∧ w.cell? ⟨g, k * 3 + 1, none⟩ = some (.int .i64 (l.getD k zeroC).n) ∧ w.cell? ⟨g, k * 3 + 2, none⟩ = some (.string (l.getD k zeroC).s) := by
  obtain ⟨B, O, e, f⟩ := h.form (by omega)
  cases e
  have h1 := f k hk
  simpa using h1
end Go.Proofs.YtljanfnhmhimiaaGreat.Sg

namespace Go.Proofs.YtljanfnhmhimiaaGreat.Zr
open Go.RowKit Bs Dv Zn

set_option maxRecDepth 100000 in
set_option maxHeartbeats 8000000 in
theorem rjoin_any (a b : Zon) (w : World) (ha : Small a) (hb : Small b) : Calls Tryz.prog 26 #[.agg #[.int .i64 a.cnt, .int .i64 a.nul, .int .i64 a.min.k, .int .i64 a.min.n, .string a.min.s, .int .i64 a.max.k, .int .i64 a.max.n, .string a.max.s], .agg #[.int .i64 b.cnt, .int .i64 b.nul, .int .i64 b.min.k, .int .i64 b.min.n, .string b.min.s, .int .i64 b.max.k, .int .i64 b.max.n, .string b.max.s]] w fun e w' =>
    e = .returned (.agg #[.int .i64 (joinZ a b).cnt, .int .i64 (joinZ a b).nul, .int .i64 (joinZ a b).min.k, .int .i64 (joinZ a b).min.n, .string (joinZ a b).min.s, .int .i64 (joinZ a b).max.k, .int .i64 (joinZ a b).max.n, .string (joinZ a b).max.s]) ∧ w.grownBy w' none := by
  unfold Small at ha hb
  have s1 : IntKind.i64.wrap (a.cnt + b.cnt) = a.cnt + b.cnt := IntWalk.i64_in _ (by omega)
  have s2 : IntKind.i64.wrap (a.nul + b.nul) = a.nul + b.nul := IntWalk.i64_in _ (by omega)
  have hs3 : -9223372036854775808 ≤ a.cnt + b.cnt ∧ a.cnt + b.cnt ≤ 9223372036854775807 := by omega
  have hs4 : -9223372036854775808 ≤ a.nul + b.nul ∧ a.nul + b.nul ≤ 9223372036854775807 := by omega
  obtain ⟨W0, hW0⟩ : ∃ W0, (((w.alloc (.cells #[.int .i64 a.cnt, .int .i64 a.nul, .int .i64 a.min.k, .int .i64 a.min.n, .string a.min.s, .int .i64 a.max.k, .int .i64 a.max.n, .string a.max.s] 33)).alloc (.cells #[.int .i64 b.cnt, .int .i64 b.nul, .int .i64 b.min.k, .int .i64 b.min.n, .string b.min.s, .int .i64 b.max.k, .int .i64 b.max.n, .string b.max.s] 33)).alloc (.cells #[.int .i64 0, .int .i64 0, .int .i64 0, .int .i64 0, .string ⟨#[]⟩, .int .i64 0, .int .i64 0, .string ⟨#[]⟩] 33)).alloc (.cells #[.int .i64 (a.cnt + b.cnt), .int .i64 (a.nul + b.nul), .int .i64 a.min.k, .int .i64 a.min.n, .string a.min.s, .int .i64 a.max.k, .int .i64 a.max.n, .string a.max.s] 33) = W0 := ⟨_, rfl⟩
  have GC : Hid (w.grownBy W0 none) := Lib.hid (by rw [← hW0]; exact grown_then (grown_then (grown_then (grown_alloc _ _) (grown_alloc _ _)) (grown_alloc _ _)) (grown_alloc _ _))
  have AB : Hid (ZB W0 w.heap.size a) := Lib.hid (by rw [← hW0]; exact (((ZB.new w a).old (grown_alloc _ _)).old (grown_alloc _ _)).old (grown_alloc _ _))
  have BB : Hid (ZB W0 (w.heap.size + 1) b) := Lib.hid (by
    have h := ZB.new (w.alloc (.cells #[.int .i64 a.cnt, .int .i64 a.nul, .int .i64 a.min.k, .int .i64 a.min.n, .string a.min.s, .int .i64 a.max.k, .int .i64 a.max.n, .string a.max.s] 33)) b
    rw [World.size_alloc] at h
    rw [← hW0]; exact (h.old (grown_alloc _ _)).old (grown_alloc _ _))
  have RB : Hid (ZB W0 (w.heap.size + 1 + 1) zeroZ) := Lib.hid (by
    have h := ZB.new ((w.alloc (.cells #[.int .i64 a.cnt, .int .i64 a.nul, .int .i64 a.min.k, .int .i64 a.min.n, .string a.min.s, .int .i64 a.max.k, .int .i64 a.max.n, .string a.max.s] 33)).alloc (.cells #[.int .i64 b.cnt, .int .i64 b.nul, .int .i64 b.min.k, .int .i64 b.min.n, .string b.min.s, .int .i64 b.max.k, .int .i64 b.max.n, .string b.max.s] 33)) zeroZ
    rw [World.size_alloc, World.size_alloc] at h
    rw [← hW0]; exact h.old (grown_alloc _ _))
  have ZZ : Hid (ZB W0 (w.heap.size + 1 + 1 + 1) ⟨a.cnt + b.cnt, a.nul + b.nul, a.min, a.max⟩) := Lib.hid (by
    have h := ZB.new (((w.alloc (.cells #[.int .i64 a.cnt, .int .i64 a.nul, .int .i64 a.min.k, .int .i64 a.min.n, .string a.min.s, .int .i64 a.max.k, .int .i64 a.max.n, .string a.max.s] 33)).alloc (.cells #[.int .i64 b.cnt, .int .i64 b.nul, .int .i64 b.min.k, .int .i64 b.min.n, .string b.min.s, .int .i64 b.max.k, .int .i64 b.max.n, .string b.max.s] 33)).alloc (.cells #[.int .i64 0, .int .i64 0, .int .i64 0, .int .i64 0, .string ⟨#[]⟩, .int .i64 0, .int .i64 0, .string ⟨#[]⟩] 33)) ⟨a.cnt + b.cnt, a.nul + b.nul, a.min, a.max⟩
    rw [World.size_alloc, World.size_alloc, World.size_alloc] at h
    rw [← hW0]; exact h)
  have HW0 := Lib.hid hW0
  clear hW0
  by_cases h : a.cnt = a.nul
  · have q0 : (a.cnt == a.nul) = true := beq_iff_eq.2 h
    have HE := Lib.hid (join_none (b := b) h)
    clear h
    go_enter Tryz.func26, Tryz.ntmps26
    go_upto_region 2 with (fail)
    rw [HW0.out]
    obtain ⟨a0, a1, ⟨a2, a3, a4⟩, a5, a6, a7⟩ := AB.out.cells
    obtain ⟨b0, b1, ⟨b2, b3, b4⟩, b5, b6, b7⟩ := BB.out.cells
    obtain ⟨c0, c1, ⟨c2, c3, c4⟩, c5, c6, c7⟩ := ZZ.out.cells
    have y2 := ZZ.out.froz 2
    have y3 := ZZ.out.froz 3
    have y4 := ZZ.out.froz 4
    have y5 := ZZ.out.froz 5
    have y6 := ZZ.out.froz 6
    have y7 := ZZ.out.froz 7
    go_upto_region 3 with (fail)
    go_region
    obtain ⟨W2, hW2⟩ : ∃ V, ((W0.setCell ⟨w.heap.size + 1 + 1 + 1, 2, none⟩ (.int .i64 b.min.k)).setCell ⟨w.heap.size + 1 + 1 + 1, 3, none⟩ (.int .i64 b.min.n)).setCell ⟨w.heap.size + 1 + 1 + 1, 4, none⟩ (.string b.min.s) = V := ⟨_, rfl⟩
    have t9 : Turn W0 W2 (· = w.heap.size + 1 + 1 + 1) := by rw [← hW2]; exact turn_set3 _ _ _ _ _ _ _ _
    have ZZ : Hid (ZB W2 (w.heap.size + 1 + 1 + 1) ⟨a.cnt + b.cnt, a.nul + b.nul, b.min, a.max⟩) := Lib.hid (by rw [← hW2]; exact ZZ.out.setMin b.min)
    have RB := Lib.hid (RB.out.not t9 (by omega))
    have GC := Lib.hid (grown_put GC.out t9 (by omega))
    rw [hW2]
    clear hW2 t9
    obtain ⟨W3, hW3⟩ : ∃ V, (((W2.setCell ⟨w.heap.size + 1 + 1 + 1, 5, none⟩ (.int .i64 b.max.k)).setCell ⟨w.heap.size + 1 + 1 + 1, 6, none⟩ (.int .i64 b.max.n)).setCell ⟨w.heap.size + 1 + 1 + 1, 7, none⟩ (.string b.max.s)).drew = V := ⟨_, rfl⟩
    have t9 : Turn W2 (((W2.setCell ⟨w.heap.size + 1 + 1 + 1, 5, none⟩ (.int .i64 b.max.k)).setCell ⟨w.heap.size + 1 + 1 + 1, 6, none⟩ (.int .i64 b.max.n)).setCell ⟨w.heap.size + 1 + 1 + 1, 7, none⟩ (.string b.max.s)) (· = w.heap.size + 1 + 1 + 1) := turn_set3 _ _ _ _ _ _ _ _
    have ZZ : Hid (ZB W3 (w.heap.size + 1 + 1 + 1) ⟨a.cnt + b.cnt, a.nul + b.nul, b.min, b.max⟩) := Lib.hid (by rw [← hW3]; exact (ZZ.out.setMax b.max).old (grown_drew _))
    have RB : Hid (ZB W3 (w.heap.size + 1 + 1) zeroZ) := Lib.hid (by rw [← hW3]; exact (RB.out.not t9 (by omega)).old (grown_drew _))
    have GC : Hid (w.grownBy W3 none) := Lib.hid (by rw [← hW3]; exact grown_then (grown_put GC.out t9 (by omega)) (grown_drew _))
    rw [hW3]
    clear hW3 t9 y2 y3 y4 y5 y6 y7
    clear a0 a1 a2 a3 a4 a5 a6 a7 b0 b1 b2 b3 b4 b5 b6 b7 c0 c1 c2 c3 c4 c5 c6 c7
    obtain ⟨c0, c1, ⟨c2, c3, c4⟩, c5, c6, c7⟩ := ZZ.out.cells
    go_wp2_with (first
      | (with_reducible refine wpList_store_zone rfl (.tmp 4) (.tmp 55) rfl (w.heap.size + 1 + 1) rfl ⟨a.cnt + b.cnt, a.nul + b.nul, b.min, b.max⟩ rfl zeroZ RB.out ?_; intro w9 hz9 ht9)
      | fail)
    refine bodyPost_ret (run_results_zone rfl _ _ _ _ rfl hz9) rfl ⟨by rw [HE.out], grown_put GC.out ht9 (by omega)⟩
  · have q0 : (a.cnt == a.nul) = false := beq_eq_false_iff_ne.2 h
    by_cases k : b.cnt = b.nul
    · have q1 : (b.cnt != b.nul) = false := by rw [k]; exact bne_self_eq_false _
      have HE := Lib.hid (join_left h k)
      clear h k
      go_enter Tryz.func26, Tryz.ntmps26
      go_upto_region 2 with (fail)
      rw [HW0.out]
      obtain ⟨a0, a1, ⟨a2, a3, a4⟩, a5, a6, a7⟩ := AB.out.cells
      obtain ⟨b0, b1, ⟨b2, b3, b4⟩, b5, b6, b7⟩ := BB.out.cells
      obtain ⟨c0, c1, ⟨c2, c3, c4⟩, c5, c6, c7⟩ := ZZ.out.cells
      go_wp2_with (first
        | (with_reducible refine wpList_store_zone rfl (.tmp 4) (.tmp 55) rfl (w.heap.size + 1 + 1) rfl ⟨a.cnt + b.cnt, a.nul + b.nul, a.min, a.max⟩ rfl zeroZ RB.out ?_; intro w9 hz9 ht9)
        | fail)
      refine bodyPost_ret (run_results_zone rfl _ _ _ _ rfl hz9) rfl ⟨by rw [HE.out], grown_put GC.out ht9 (by omega)⟩
    · have q1 : (b.cnt != b.nul) = true := bne_iff_ne.2 k
      have HE := Lib.hid (join_both h k)
      rw [min_ref, max_ref] at HE
      have H1 := Lib.hid (fun W => rcompare_any b.min a.min W)
      obtain ⟨o1, ho1⟩ : ∃ o, o = cmpC b.min a.min := ⟨_, rfl⟩
      obtain ⟨o2, ho2⟩ : ∃ o, o = cmpC b.max a.max := ⟨_, rfl⟩
      have H2 := Lib.hid (fun W => rcompare_any b.max a.max W)
      rw [← ho1] at H1
      rw [← ho2] at H2
      rw [← ho1, ← ho2] at HE
      clear h k ho1 ho2
      by_cases b1 : o1 < 0
      · rw [if_pos b1] at HE
        have d1 : decide (o1 < 0) = true := decide_eq_true b1
        clear b1
        by_cases b2 : 0 < o2
        · rw [if_pos b2] at HE
          have d2 : decide (0 < o2) = true := decide_eq_true b2
          clear b2
          go_enter Tryz.func26, Tryz.ntmps26
          go_upto_region 2 with (fail)
          rw [HW0.out]
          obtain ⟨a0, a1, ⟨a2, a3, a4⟩, a5, a6, a7⟩ := AB.out.cells
          obtain ⟨b0, b1, ⟨b2, b3, b4⟩, b5, b6, b7⟩ := BB.out.cells
          obtain ⟨c0, c1, ⟨c2, c3, c4⟩, c5, c6, c7⟩ := ZZ.out.cells
          go_wp2_with fail
          refine (H1.out _).mono ?_
          rintro e wk ⟨rfl, hg⟩
          have AB := Lib.hid (AB.out.old hg)
          have BB := Lib.hid (BB.out.old hg)
          have RB := Lib.hid (RB.out.old hg)
          have ZZ := Lib.hid (ZZ.out.old hg)
          have GC := Lib.hid (grown_then GC.out hg)
          clear hg
          clear a0 a1 a2 a3 a4 a5 a6 a7 b0 b1 b2 b3 b4 b5 b6 b7 c0 c1 c2 c3 c4 c5 c6 c7
          obtain ⟨a0, a1, ⟨a2, a3, a4⟩, a5, a6, a7⟩ := AB.out.cells
          obtain ⟨b0, b1, ⟨b2, b3, b4⟩, b5, b6, b7⟩ := BB.out.cells
          obtain ⟨c0, c1, ⟨c2, c3, c4⟩, c5, c6, c7⟩ := ZZ.out.cells
          dsimp only
          have y2 := ZZ.out.froz 2
          have y3 := ZZ.out.froz 3
          have y4 := ZZ.out.froz 4
          go_upto_region 7 with (fail)
          obtain ⟨W2, hW2⟩ : ∃ V, ((wk.setCell ⟨w.heap.size + 1 + 1 + 1, 2, none⟩ (.int .i64 b.min.k)).setCell ⟨w.heap.size + 1 + 1 + 1, 3, none⟩ (.int .i64 b.min.n)).setCell ⟨w.heap.size + 1 + 1 + 1, 4, none⟩ (.string b.min.s) = V := ⟨_, rfl⟩
          have t9 : Turn wk W2 (· = w.heap.size + 1 + 1 + 1) := by rw [← hW2]; exact turn_set3 _ _ _ _ _ _ _ _
          have ZZ : Hid (ZB W2 (w.heap.size + 1 + 1 + 1) ⟨a.cnt + b.cnt, a.nul + b.nul, b.min, a.max⟩) := Lib.hid (by rw [← hW2]; exact ZZ.out.setMin b.min)
          have AB := Lib.hid (AB.out.not t9 (by omega))
          have BB := Lib.hid (BB.out.not t9 (by omega))
          have RB := Lib.hid (RB.out.not t9 (by omega))
          have GC := Lib.hid (grown_put GC.out t9 (by omega))
          rw [hW2]
          clear hW2 t9 y2 y3 y4
          clear a0 a1 a2 a3 a4 a5 a6 a7 b0 b1 b2 b3 b4 b5 b6 b7 c0 c1 c2 c3 c4 c5 c6 c7
          obtain ⟨a0, a1, ⟨a2, a3, a4⟩, a5, a6, a7⟩ := AB.out.cells
          obtain ⟨b0, b1, ⟨b2, b3, b4⟩, b5, b6, b7⟩ := BB.out.cells
          obtain ⟨c0, c1, ⟨c2, c3, c4⟩, c5, c6, c7⟩ := ZZ.out.cells
          go_wp2_with fail
          refine (H2.out _).mono ?_
          rintro e wk ⟨rfl, hg⟩
          have AB := Lib.hid (AB.out.old hg)
          have BB := Lib.hid (BB.out.old hg)
          have RB := Lib.hid (RB.out.old hg)
          have ZZ := Lib.hid (ZZ.out.old hg)
          have GC := Lib.hid (grown_then GC.out hg)
          clear hg
          clear a0 a1 a2 a3 a4 a5 a6 a7 b0 b1 b2 b3 b4 b5 b6 b7 c0 c1 c2 c3 c4 c5 c6 c7
          obtain ⟨a0, a1, ⟨a2, a3, a4⟩, a5, a6, a7⟩ := AB.out.cells
          obtain ⟨b0, b1, ⟨b2, b3, b4⟩, b5, b6, b7⟩ := BB.out.cells
          obtain ⟨c0, c1, ⟨c2, c3, c4⟩, c5, c6, c7⟩ := ZZ.out.cells
          dsimp only
          have y5 := ZZ.out.froz 5
          have y6 := ZZ.out.froz 6
          have y7 := ZZ.out.froz 7
          go_upto_region 9 with (fail)
          obtain ⟨W2, hW2⟩ : ∃ V, ((wk.setCell ⟨w.heap.size + 1 + 1 + 1, 5, none⟩ (.int .i64 b.max.k)).setCell ⟨w.heap.size + 1 + 1 + 1, 6, none⟩ (.int .i64 b.max.n)).setCell ⟨w.heap.size + 1 + 1 + 1, 7, none⟩ (.string b.max.s) = V := ⟨_, rfl⟩
          have t9 : Turn wk W2 (· = w.heap.size + 1 + 1 + 1) := by rw [← hW2]; exact turn_set3 _ _ _ _ _ _ _ _
          have ZZ : Hid (ZB W2 (w.heap.size + 1 + 1 + 1) ⟨a.cnt + b.cnt, a.nul + b.nul, b.min, b.max⟩) := Lib.hid (by rw [← hW2]; exact ZZ.out.setMax b.max)
          have AB := Lib.hid (AB.out.not t9 (by omega))
          have BB := Lib.hid (BB.out.not t9 (by omega))
          have RB := Lib.hid (RB.out.not t9 (by omega))
          have GC := Lib.hid (grown_put GC.out t9 (by omega))
          rw [hW2]
          clear hW2 t9 y5 y6 y7
          clear a0 a1 a2 a3 a4 a5 a6 a7 b0 b1 b2 b3 b4 b5 b6 b7 c0 c1 c2 c3 c4 c5 c6 c7
          obtain ⟨a0, a1, ⟨a2, a3, a4⟩, a5, a6, a7⟩ := AB.out.cells
          obtain ⟨b0, b1, ⟨b2, b3, b4⟩, b5, b6, b7⟩ := BB.out.cells
          obtain ⟨c0, c1, ⟨c2, c3, c4⟩, c5, c6, c7⟩ := ZZ.out.cells
          go_wp2_with (first
            | (with_reducible refine wpList_store_zone rfl (.tmp 4) (.tmp 55) rfl (w.heap.size + 1 + 1) rfl ⟨a.cnt + b.cnt, a.nul + b.nul, b.min, b.max⟩ rfl zeroZ RB.out ?_; intro w9 hz9 ht9)
            | fail)
          refine bodyPost_ret (run_results_zone rfl _ _ _ _ rfl hz9) rfl ⟨by rw [HE.out], grown_put GC.out ht9 (by omega)⟩
        · rw [if_neg b2] at HE
          have d2 : decide (0 < o2) = false := decide_eq_false b2
          clear b2
          go_enter Tryz.func26, Tryz.ntmps26
          go_upto_region 2 with (fail)
          rw [HW0.out]
          obtain ⟨a0, a1, ⟨a2, a3, a4⟩, a5, a6, a7⟩ := AB.out.cells
          obtain ⟨b0, b1, ⟨b2, b3, b4⟩, b5, b6, b7⟩ := BB.out.cells
          obtain ⟨c0, c1, ⟨c2, c3, c4⟩, c5, c6, c7⟩ := ZZ.out.cells
          go_wp2_with fail
          refine (H1.out _).mono ?_
          rintro e wk ⟨rfl, hg⟩
          have AB := Lib.hid (AB.out.old hg)
          have BB := Lib.hid (BB.out.old hg)
          have RB := Lib.hid (RB.out.old hg)
          have ZZ := Lib.hid (ZZ.out.old hg)
          have GC := Lib.hid (grown_then GC.out hg)
          clear hg
          clear a0 a1 a2 a3 a4 a5 a6 a7 b0 b1 b2 b3 b4 b5 b6 b7 c0 c1 c2 c3 c4 c5 c6 c7
          obtain ⟨a0, a1, ⟨a2, a3, a4⟩, a5, a6, a7⟩ := AB.out.cells
          obtain ⟨b0, b1, ⟨b2, b3, b4⟩, b5, b6, b7⟩ := BB.out.cells
          obtain ⟨c0, c1, ⟨c2, c3, c4⟩, c5, c6, c7⟩ := ZZ.out.cells
          dsimp only
          have y2 := ZZ.out.froz 2
          have y3 := ZZ.out.froz 3
          have y4 := ZZ.out.froz 4
          go_upto_region 7 with (fail)
          obtain ⟨W2, hW2⟩ : ∃ V, ((wk.setCell ⟨w.heap.size + 1 + 1 + 1, 2, none⟩ (.int .i64 b.min.k)).setCell ⟨w.heap.size + 1 + 1 + 1, 3, none⟩ (.int .i64 b.min.n)).setCell ⟨w.heap.size + 1 + 1 + 1, 4, none⟩ (.string b.min.s) = V := ⟨_, rfl⟩
          have t9 : Turn wk W2 (· = w.heap.size + 1 + 1 + 1) := by rw [← hW2]; exact turn_set3 _ _ _ _ _ _ _ _
          have ZZ : Hid (ZB W2 (w.heap.size + 1 + 1 + 1) ⟨a.cnt + b.cnt, a.nul + b.nul, b.min, a.max⟩) := Lib.hid (by rw [← hW2]; exact ZZ.out.setMin b.min)
          have AB := Lib.hid (AB.out.not t9 (by omega))
          have BB := Lib.hid (BB.out.not t9 (by omega))
          have RB := Lib.hid (RB.out.not t9 (by omega))
          have GC := Lib.hid (grown_put GC.out t9 (by omega))
          rw [hW2]
          clear hW2 t9 y2 y3 y4
          clear a0 a1 a2 a3 a4 a5 a6 a7 b0 b1 b2 b3 b4 b5 b6 b7 c0 c1 c2 c3 c4 c5 c6 c7
          obtain ⟨a0, a1, ⟨a2, a3, a4⟩, a5, a6, a7⟩ := AB.out.cells
          obtain ⟨b0, b1, ⟨b2, b3, b4⟩, b5, b6, b7⟩ := BB.out.cells
          obtain ⟨c0, c1, ⟨c2, c3, c4⟩, c5, c6, c7⟩ := ZZ.out.cells
          go_wp2_with fail
          refine (H2.out _).mono ?_
          rintro e wk ⟨rfl, hg⟩
          have AB := Lib.hid (AB.out.old hg)
          have BB := Lib.hid (BB.out.old hg)
          have RB := Lib.hid (RB.out.old hg)
          have ZZ := Lib.hid (ZZ.out.old hg)
          have GC := Lib.hid (grown_then GC.out hg)
          clear hg
          clear a0 a1 a2 a3 a4 a5 a6 a7 b0 b1 b2 b3 b4 b5 b6 b7 c0 c1 c2 c3 c4 c5 c6 c7
          obtain ⟨a0, a1, ⟨a2, a3, a4⟩, a5, a6, a7⟩ := AB.out.cells
          obtain ⟨b0, b1, ⟨b2, b3, b4⟩, b5, b6, b7⟩ := BB.out.cells
          obtain ⟨c0, c1, ⟨c2, c3, c4⟩, c5, c6, c7⟩ := ZZ.out.cells
          dsimp only
          go_wp2_with (first
            | (with_reducible refine wpList_store_zone rfl (.tmp 4) (.tmp 55) rfl (w.heap.size + 1 + 1) rfl ⟨a.cnt + b.cnt, a.nul + b.nul, b.min, a.max⟩ rfl zeroZ RB.out ?_; intro w9 hz9 ht9)
            | fail)
          refine bodyPost_ret (run_results_zone rfl _ _ _ _ rfl hz9) rfl ⟨by rw [HE.out], grown_put GC.out ht9 (by omega)⟩
      · rw [if_neg b1] at HE
        have d1 : decide (o1 < 0) = false := decide_eq_false b1
        clear b1
        by_cases b2 : 0 < o2
        · rw [if_pos b2] at HE
          have d2 : decide (0 < o2) = true := decide_eq_true b2
          clear b2
          go_enter Tryz.func26, Tryz.ntmps26
          go_upto_region 2 with (fail)
          rw [HW0.out]
          obtain ⟨a0, a1, ⟨a2, a3, a4⟩, a5, a6, a7⟩ := AB.out.cells
          obtain ⟨b0, b1, ⟨b2, b3, b4⟩, b5, b6, b7⟩ := BB.out.cells
          obtain ⟨c0, c1, ⟨c2, c3, c4⟩, c5, c6, c7⟩ := ZZ.out.cells
          go_wp2_with fail
          refine (H1.out _).mono ?_
          rintro e wk ⟨rfl, hg⟩
          have AB := Lib.hid (AB.out.old hg)
          have BB := Lib.hid (BB.out.old hg)
          have RB := Lib.hid (RB.out.old hg)
          have ZZ := Lib.hid (ZZ.out.old hg)
          have GC := Lib.hid (grown_then GC.out hg)
          clear hg
          clear a0 a1 a2 a3 a4 a5 a6 a7 b0 b1 b2 b3 b4 b5 b6 b7 c0 c1 c2 c3 c4 c5 c6 c7
          obtain ⟨a0, a1, ⟨a2, a3, a4⟩, a5, a6, a7⟩ := AB.out.cells
          obtain ⟨b0, b1, ⟨b2, b3, b4⟩, b5, b6, b7⟩ := BB.out.cells
          obtain ⟨c0, c1, ⟨c2, c3, c4⟩, c5, c6, c7⟩ := ZZ.out.cells
          dsimp only
          go_wp2_with fail
          refine (H2.out _).mono ?_
          rintro e wk ⟨rfl, hg⟩
          have AB := Lib.hid (AB.out.old hg)
          have BB := Lib.hid (BB.out.old hg)
          have RB := Lib.hid (RB.out.old hg)
          have ZZ := Lib.hid (ZZ.out.old hg)
          have GC := Lib.hid (grown_then GC.out hg)
          clear hg
          clear a0 a1 a2 a3 a4 a5 a6 a7 b0 b1 b2 b3 b4 b5 b6 b7 c0 c1 c2 c3 c4 c5 c6 c7
          obtain ⟨a0, a1, ⟨a2, a3, a4⟩, a5, a6, a7⟩ := AB.out.cells
          obtain ⟨b0, b1, ⟨b2, b3, b4⟩, b5, b6, b7⟩ := BB.out.cells
          obtain ⟨c0, c1, ⟨c2, c3, c4⟩, c5, c6, c7⟩ := ZZ.out.cells
          dsimp only
          have y5 := ZZ.out.froz 5
          have y6 := ZZ.out.froz 6
          have y7 := ZZ.out.froz 7
          go_upto_region 9 with (fail)
          obtain ⟨W2, hW2⟩ : ∃ V, ((wk.setCell ⟨w.heap.size + 1 + 1 + 1, 5, none⟩ (.int .i64 b.max.k)).setCell ⟨w.heap.size + 1 + 1 + 1, 6, none⟩ (.int .i64 b.max.n)).setCell ⟨w.heap.size + 1 + 1 + 1, 7, none⟩ (.string b.max.s) = V := ⟨_, rfl⟩
          have t9 : Turn wk W2 (· = w.heap.size + 1 + 1 + 1) := by rw [← hW2]; exact turn_set3 _ _ _ _ _ _ _ _
          have ZZ : Hid (ZB W2 (w.heap.size + 1 + 1 + 1) ⟨a.cnt + b.cnt, a.nul + b.nul, a.min, b.max⟩) := Lib.hid (by rw [← hW2]; exact ZZ.out.setMax b.max)
          have AB := Lib.hid (AB.out.not t9 (by omega))
          have BB := Lib.hid (BB.out.not t9 (by omega))
          have RB := Lib.hid (RB.out.not t9 (by omega))
          have GC := Lib.hid (grown_put GC.out t9 (by omega))
          rw [hW2]
          clear hW2 t9 y5 y6 y7
          clear a0 a1 a2 a3 a4 a5 a6 a7 b0 b1 b2 b3 b4 b5 b6 b7 c0 c1 c2 c3 c4 c5 c6 c7
          obtain ⟨a0, a1, ⟨a2, a3, a4⟩, a5, a6, a7⟩ := AB.out.cells
          obtain ⟨b0, b1, ⟨b2, b3, b4⟩, b5, b6, b7⟩ := BB.out.cells
          obtain ⟨c0, c1, ⟨c2, c3, c4⟩, c5, c6, c7⟩ := ZZ.out.cells
          go_wp2_with (first
            | (with_reducible refine wpList_store_zone rfl (.tmp 4) (.tmp 55) rfl (w.heap.size + 1 + 1) rfl ⟨a.cnt + b.cnt, a.nul + b.nul, a.min, b.max⟩ rfl zeroZ RB.out ?_; intro w9 hz9 ht9)
            | fail)
          refine bodyPost_ret (run_results_zone rfl _ _ _ _ rfl hz9) rfl ⟨by rw [HE.out], grown_put GC.out ht9 (by omega)⟩
        · rw [if_neg b2] at HE
          have d2 : decide (0 < o2) = false := decide_eq_false b2
          clear b2
          go_enter Tryz.func26, Tryz.ntmps26
          go_upto_region 2 with (fail)
          rw [HW0.out]
          obtain ⟨a0, a1, ⟨a2, a3, a4⟩, a5, a6, a7⟩ := AB.out.cells
          obtain ⟨b0, b1, ⟨b2, b3, b4⟩, b5, b6, b7⟩ := BB.out.cells
          obtain ⟨c0, c1, ⟨c2, c3, c4⟩, c5, c6, c7⟩ := ZZ.out.cells
          go_wp2_with fail
          refine (H1.out _).mono ?_
          rintro e wk ⟨rfl, hg⟩
          have AB := Lib.hid (AB.out.old hg)
          have BB := Lib.hid (BB.out.old hg)
          have RB := Lib.hid (RB.out.old hg)
          have ZZ := Lib.hid (ZZ.out.old hg)
          have GC := Lib.hid (grown_then GC.out hg)
          clear hg
          clear a0 a1 a2 a3 a4 a5 a6 a7 b0 b1 b2 b3 b4 b5 b6 b7 c0 c1 c2 c3 c4 c5 c6 c7
          obtain ⟨a0, a1, ⟨a2, a3, a4⟩, a5, a6, a7⟩ := AB.out.cells
          obtain ⟨b0, b1, ⟨b2, b3, b4⟩, b5, b6, b7⟩ := BB.out.cells
          obtain ⟨c0, c1, ⟨c2, c3, c4⟩, c5, c6, c7⟩ := ZZ.out.cells
          dsimp only
          go_wp2_with fail
          refine (H2.out _).mono ?_
          rintro e wk ⟨rfl, hg⟩
          have AB := Lib.hid (AB.out.old hg)
          have BB := Lib.hid (BB.out.old hg)
          have RB := Lib.hid (RB.out.old hg)
          have ZZ := Lib.hid (ZZ.out.old hg)
          have GC := Lib.hid (grown_then GC.out hg)
          clear hg
          clear a0 a1 a2 a3 a4 a5 a6 a7 b0 b1 b2 b3 b4 b5 b6 b7 c0 c1 c2 c3 c4 c5 c6 c7
          obtain ⟨a0, a1, ⟨a2, a3, a4⟩, a5, a6, a7⟩ := AB.out.cells
          obtain ⟨b0, b1, ⟨b2, b3, b4⟩, b5, b6, b7⟩ := BB.out.cells
          obtain ⟨c0, c1, ⟨c2, c3, c4⟩, c5, c6, c7⟩ := ZZ.out.cells
          dsimp only
          go_wp2_with (first
            | (with_reducible refine wpList_store_zone rfl (.tmp 4) (.tmp 55) rfl (w.heap.size + 1 + 1) rfl ⟨a.cnt + b.cnt, a.nul + b.nul, a.min, a.max⟩ rfl zeroZ RB.out ?_; intro w9 hz9 ht9)
            | fail)
          refine bodyPost_ret (run_results_zone rfl _ _ _ _ rfl hz9) rfl ⟨by rw [HE.out], grown_put GC.out ht9 (by omega)⟩
end Go.Proofs.YtljanfnhmhimiaaGreat.Zr

namespace Go.Proofs.YtljanfnhmhimiaaGreat.Zn
open Go.RowKit

def roomC (S : Nat) : Array Value := madeCells #[.int .i64 0, .int .i64 0, .string ⟨#[]⟩] (S * 3)
theorem roomC_size (S : Nat) : (roomC S).size = S * 3 := size_madeCells _ _
theorem roomC_list (S : Nat) : (roomC S).toList = flatC (List.replicate S zeroC) := by
  unfold roomC madeCells
  rw [Array.toList_map, Array.toList_range]
  induction S with
  | zero => rfl
  | succ S ih =>
    rw [show (S + 1) * 3 = S * 3 + 1 + 1 + 1 from by omega, List.range_succ, List.range_succ, List.range_succ, List.append_assoc, List.append_assoc, List.map_append, ih, List.replicate_succ', flatC_app]
    have h0 : S * 3 % 3 = 0 := by omega
    have h1 : (S * 3 + 1) % 3 = 1 := by omega
    have h2 : (S * 3 + 1 + 1) % 3 = 2 := by omega
    simp [flatC, zeroC, h0, h1, h2]
theorem make_cells (S : Nat) (hS : S ≤ 1000000) (W : World) : (Instr.makeSlice 26 (.int .i64 (S : Int)) (.int .i64 (S : Int))).run Tryz.prog W = .ok (.slice (some ⟨W.heap.size, 0, none⟩) S S) (W.alloc (.cells (roomC S) 24)) := by
  obtain ⟨i0, hi, hz0, hz1, hz2⟩ := infoC_parts
  have h := run_make (P := Tryz.prog) W 26 24 i0 (.agg #[.int .i64 0, .int .i64 0, .string ⟨#[]⟩]) Tryz.underlying26 hi hz0 .i64 .i64 (S : Int) (S : Int) (by omega) (by omega) (by rw [hz2]; omega) (by omega)
  rw [hz1, Int.toNat_natCast] at h
  exact h
theorem made_cells (S : Nat) (hS : S ≤ 1000000) (W : World) : (W.alloc (.cells (roomC S) 24)).ownsRow W.heap.size 24 3 (.slice (some ⟨W.heap.size, 0, none⟩) S S) S (flatC (List.replicate S zeroC)) := by
  exact ⟨by rw [flatC_len, List.length_replicate], .inr ⟨W.heap.size, S, roomC S, rfl, Nat.le_refl _, heap_alloc_new W _, Nat.le_refl _, by unfold maxLen; omega, roomC_size S, by rw [roomC_list]; exact List.take_of_length_le (by rw [flatC_len, List.length_replicate]; omega)⟩⟩
theorem seg_cells (S : Nat) (hS : S ≤ 1000000) (W : World) : CSeg (W.alloc (.cells (roomC S) 24)) (some ⟨W.heap.size, 0, none⟩) S S (List.replicate S zeroC) := CSeg.own (made_cells S hS W)
end Go.Proofs.YtljanfnhmhimiaaGreat.Zn
