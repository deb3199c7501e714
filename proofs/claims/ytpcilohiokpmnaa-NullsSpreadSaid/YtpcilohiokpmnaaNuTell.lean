/-
  The law's runs: how long each run is, and its flag, one behind the other.
-/
import Derived.Test.YtpcilohiokpmnaaNuTwo
namespace Go.Proofs.Ytpcilohiokpmnaa.Nu
open Go.RowKit Go.Shelf
open Dv (Turn nowhere)
open Pk (Kept Turn.then)

attribute [local go_sem] Oper.semAt_some

theorem below_boxed {n₀ : Nat} {W W' : World} {B : Nat} {t : TypeId} {v : Value} (h : Below n₀ W W') (hB : B < n₀) (hb : Boxed W B t v) : Boxed W' B t v := (h.block B hB).trans hb
theorem turn_boxed {W W' : World} {B : Nat} {t : TypeId} {v : Value} (h : Turn W W' nowhere) (hb : Boxed W B t v) : Boxed W' B t v := (h.block B hb.lt id).trans hb
theorem bown_slice {w : World} {base n : Nat} {V : Value} {l : List Bool} (h : w.ownsRow base 4 1 V n (l.map Value.bool)) : ∃ a c, V = .slice a n c ∧ Bl.Seg w a n c l := by
  have h1 := h.1
  rw [List.length_map, Nat.mul_one] at h1
  have hh := h
  rcases h.2 with ⟨rfl, rfl⟩ | ⟨g', cap, cur, rfl, _⟩
  · obtain rfl := List.eq_nil_of_length_eq_zero h1
    exact ⟨none, 0, rfl, Bl.Seg.nil w⟩
  · exact ⟨_, cap, rfl, Bl.Seg.own hh⟩
/-- the flags of the runs -/
def flgs (l : List Bool) : List Bool := (runsL l).map Prod.snd
theorem lens_len (l : List Bool) : (lens l).length = (runsL l).length := by simp [lens]
theorem flgs_len (l : List Bool) : (flgs l).length = (runsL l).length := by simp [flgs]
theorem lens_succ (l : List Bool) (k : Nat) (hk : k < (runsL l).length) : (lens l).take (k + 1) = (lens l).take k ++ [(((runsL l).getD k (0, false)).1 : Int)] := by
  rw [List.take_succ_eq_append_getElem (by rw [lens_len]; exact hk)]
  simp [lens, List.getD, hk]
theorem flgs_succ (l : List Bool) (k : Nat) (hk : k < (runsL l).length) : (flgs l).take (k + 1) = (flgs l).take k ++ [((runsL l).getD k (0, false)).2] := by
  rw [List.take_succ_eq_append_getElem (by rw [flgs_len]; exact hk)]
  simp [flgs, List.getD, hk]

/-- the law's answer: lengths, flags, and that it ended -/
def TellX (w : World) (m : Nat) (L : List Int) (F : List Bool) (e : Ending) (w' : World) : Prop :=
  ∃ a k b j, e = .returned (.tuple #[.slice a m k, .slice b m j, .bool true]) ∧ Js.Seg w' a m k L ∧ Bl.Seg w' b m j F ∧ Turn w w' nowhere

set_option maxRecDepth 100000 in
set_option maxHeartbeats 4000000 in
theorem tell_any (a : Option Addr) (n c : Nat) (l : List Bool) (w : World) (hs : Bl.Seg w a n c l) (hn : n ≤ 1000000) :
    Calls Try.prog 18 #[.slice a n c] w (TellX w (runsL l).length (lens l) (flgs l)) := by
  obtain ⟨i0, hi, hz0, hz1, hz2⟩ := info_parts info_int
  obtain ⟨j0, hj, hy0, hy1, hy2⟩ := info_parts Bl.info_bool
  have hNn : (runsL l).length ≤ n := by have := runs_len l; rw [hs.len] at this; exact this
  have HR := Lib.hid (fun W (h : Bl.Seg W a n c l) => runs_any a n c l W h hn)
  have HS := Lib.hid hs
  have HT0 : Hid (Turn w ((((w.alloc (.cells #[.slice a n c] 27)).alloc (.cells #[.slice none 0 0] 34)).alloc (.cells #[.slice none 0 0] 27)).alloc (.cells #[.bool false] 4)) nowhere) := Lib.hid
    (Turn.then (Turn.then (Turn.then (Turn.alloc w _ nowhere) (Turn.alloc _ _ nowhere)) (Turn.alloc _ _ nowhere)) (Turn.alloc _ _ nowhere))
  have heq : ∀ (v : Array Value) (W : World), (binOp .eql 66 (.func (.func 58) v #[]) .nilFunc).run Try.prog W = .ok (.bool false) W := fun v W => by kernel_rfl
  have b1 := Boxed.new w 27 (.slice a n c)
  have b2 := Boxed.new (w.alloc (.cells #[.slice a n c] 27)) 34 (.slice none 0 0)
  have b3 := Boxed.new ((w.alloc (.cells #[.slice a n c] 27)).alloc (.cells #[.slice none 0 0] 34)) 27 (.slice none 0 0)
  have b4 := Boxed.new (((w.alloc (.cells #[.slice a n c] 27)).alloc (.cells #[.slice none 0 0] 34)).alloc (.cells #[.slice none 0 0] 27)) 4 (.bool false)
  simp only [World.size_alloc] at b2 b3 b4
  have HB1 := Lib.hid (((b1.alloc (.cells #[.slice none 0 0] 34)).alloc (.cells #[.slice none 0 0] 27)).alloc (.cells #[.bool false] 4))
  have HB2 := Lib.hid ((b2.alloc (.cells #[.slice none 0 0] 27)).alloc (.cells #[.bool false] 4))
  have HB3 := Lib.hid (b3.alloc (.cells #[.bool false] 4))
  have HB4 := Lib.hid b4
  clear hs b1 b2 b3 b4
  refine (callsIn_wide (n := 3)).1 ?_
  refine callsIn_of_wp_marks Try.func18 rfl trivial ?_ rfl
  simp only [Try.ntmps18, List.size_toArray, List.length_cons, List.length_nil, Nat.reduceAdd, Nat.reduceSub, Array.replicate_succ, Array.replicate_zero, List.push_toArray, List.append_toArray, List.nil_append, List.cons_append]
  gi_wp2_with (refine ⟨trivial, ?_⟩; gi_at_call 44; refine (callsIn_wide.2 (HR.out _ (bseg_stay HS.out HT0.out))).mono ?_; rintro e w5 ⟨a5, k5, rfl, hs5, hT5, hf5⟩)
  have hz0' : (((((w.alloc (.cells #[.slice a n c] 27)).alloc (.cells #[.slice none 0 0] 34)).alloc (.cells #[.slice none 0 0] 27)).alloc (.cells #[.bool false] 4)).heap.size) = w.heap.size + 4 := by simp [World.size_alloc]
  have hz5 := hT5.size
  rw [hz0'] at hz5 hf5
  have B1 := Lib.hid (turn_boxed hT5 HB1.out)
  have B2 := Lib.hid (turn_boxed hT5 HB2.out)
  have B3 := Lib.hid (turn_boxed hT5 HB3.out)
  have B4 := Lib.hid (turn_boxed hT5 HB4.out)
  have T5 := Lib.hid (Turn.then HT0.out hT5)
  have S5 := Lib.hid hs5
  have L5 := Lib.hid (bseg_lt hs5)
  clear HB1 HB2 HB3 HB4 hT5 hs5 hf5 hz0' HR HT0 heq
  have c0 := Boxed.new w5 34 (.slice none 0 0)
  have c1 := Boxed.new (w5.alloc (.cells #[.slice none 0 0] 34)) 27 (.slice none 0 0)
  rw [World.size_alloc] at c1
  obtain ⟨W7, hW7⟩ : ∃ W7, (w5.alloc (.cells #[.slice none 0 0] 34)).alloc (.cells #[.slice none 0 0] 27) = W7 := ⟨_, rfl⟩
  have hB7 : Below w5.heap.size w5 W7 := by rw [← hW7]; exact ((Below.refl _ w5).alloc (Nat.le_refl _) _).alloc (by simp) _
  have hz7 : W7.heap.size = w5.heap.size + 2 := by rw [← hW7]; simp [World.size_alloc]
  have hb6 : Boxed W7 w5.heap.size 34 (.slice none 0 0) := by rw [← hW7]; exact c0.alloc _
  have hb7 : Boxed W7 (w5.heap.size + 1) 27 (.slice none 0 0) := by rw [← hW7]; exact c1
  rw [hW7]
  have HS7 := Lib.hid (bseg_below S5.out hB7 rfl)
  have hPw : ∀ i, blockOf a5 n i → i < W7.heap.size := fun i hi => by have := L5.out i hi; omega
  have HB7 := Lib.hid hB7
  have H6 := Lib.hid hb6
  have H7 := Lib.hid hb7
  have HW7 := Lib.hid hW7
  clear c0 c1 hB7 hb6 hb7 hW7
  refine wpIn_feeds rfl (by decide) (gf := 58) (first := #[.slice a5 n k5]) (lb := #[]) rfl trivial (enters_of Try.func58 (by kernel_rfl) rfl)
    (runs_feeds 2 (by decide) (blockOf a5 n) a5 n k5 l _ HS7.out (fun ad e h0 => ⟨ad, e, h0, rfl⟩) hPw) (Below.refl _ _) (fun h k => Kept.t h k) (Kept.b hPw) (fun _ => rfl)
    (fun k W => ((∃ V, Boxed W w5.heap.size 34 V ∧ W.ownsRow w5.heap.size 3 1 V k (((lens l).take k).map (Value.int .i64)) ∧ True) ∧ (∃ U, Boxed W (w5.heap.size + 1) 27 U ∧ W.ownsRow w5.heap.size 4 1 U k (((flgs l).take k).map Value.bool) ∧ True)) ∧ Below w5.heap.size w5 W)
    (OwnFrom.and (OwnFrom.and (Own.from (holdsRow_own w5.heap.size w5.heap.size 34 3 1 (fun k : Nat => k) (fun k => ((lens l).take k).map (Value.int .i64)) (fun _ _ => True)) _) (Own.from (holdsRow_own w5.heap.size (w5.heap.size + 1) 27 4 1 (fun k : Nat => k) (fun k => ((flgs l).take k).map Value.bool) (fun _ _ => True)) _)) (ownFrom_below (Nat.le_refl _) (by omega)))
    ⟨⟨⟨_, H6.out, World.ownsRow_nil _ _ _ _, trivial⟩, ⟨_, H7.out, World.ownsRow_nil _ _ _ _, trivial⟩⟩, HB7.out⟩
    (fun k => { tmps := #[.slice a n c, .pointer (some ⟨w.heap.size, 0, none⟩), .pointer (some ⟨w.heap.size + 1, 0, none⟩), .pointer (some ⟨w.heap.size + 1 + 1, 0, none⟩), .pointer (some ⟨w.heap.size + 1 + 1 + 1, 0, none⟩), .func (.func 58) #[.slice a5 n k5] #[], .pointer (some ⟨w5.heap.size, 0, none⟩), .pointer (some ⟨w5.heap.size + 1, 0, none⟩),
      .int .i64 (((runsL l).getD k (0, false)).1 : Int), .bool ((runsL l).getD k (0, false)).2, .slice a n c, .func (.func 58) #[.slice a5 n k5] #[], .func (.func 58) #[.slice a5 n k5] #[], .bool false, .func (.func 58) #[.slice a5 n k5] #[],
      .int .i64 (((runsL l).getD k (0, false)).1 : Int), .bool ((runsL l).getD k (0, false)).2, undef, undef, undef, undef, undef, undef, undef, undef, undef, undef, undef, undef, undef, undef, undef], defers := [] }) ?assign ?body ?done
  case assign =>
    intro l k W K hK
    unfold encR
    gi_wp2
    exact hK
  case body =>
    rintro y k W hk ⟨⟨⟨V, hv, hrow, -⟩, ⟨U, hu, hrou, -⟩⟩, hB⟩
    obtain ⟨A, cp, rfl⟩ : ∃ A cp, V = .slice A k cp := by
      rcases hrow.2 with ⟨rfl, h0⟩ | ⟨g, cap, cur, rfl, _⟩
      · exact ⟨none, 0, by rw [h0]⟩
      · exact ⟨_, _, rfl⟩
    have hf := flags_len _ _ hk
    rw [runs_join] at hf
    have hlen := HS.out.len
    have HL1 := Lib.hid (lens_succ l k hk)
    have HL2 := Lib.hid (flgs_succ l k hk)
    have bl := below_boxed hB (by omega) B1.out
    have c1 := bl.cell
    have c6 := hv.cell
    have f6 := hv.frozen
    have c7 := hu.cell
    have f7 := hu.frozen
    have hkn : ¬ (n : Int) < (k : Int) := by omega
    obtain ⟨q, hq⟩ : ∃ q, ((runsL l).getD k (0, false)).1 = q := ⟨_, rfl⟩
    obtain ⟨b, hb⟩ : ∃ b, ((runsL l).getD k (0, false)).2 = b := ⟨_, rfl⟩
    rw [hq] at HL1
    rw [hb] at HL2
    rw [hq, hb]
    clear hq hb hf hlen bl hk
    have HT : Hid (Two w5.heap.size w5 W (.slice A k cp) U (.slice A k cp) U k k ((lens l).take k) ((flgs l).take k) W.drew) := Lib.hid (two_drew ⟨hv, hu, hrow, hrou, hB, KeepsOthers.refl W, hB.size⟩)
    have d6 : W.drew.cell? ⟨w5.heap.size, 0, none⟩ = some (.slice A k cp) := c6
    have d7 : W.drew.cell? ⟨w5.heap.size + 1, 0, none⟩ = some U := c7
    have HBw := Lib.hid hB
    have HKn : Hid (k ≤ 1000000) := Lib.hid (by omega)
    clear hv hu hrow hrou hB
    gi_wp2
    refine region_round (by kernel_rfl) (by kernel_rfl) (by rintro ⟨_, _, h⟩; exact h) ?_
    generalize W.drew = W2 at HT d6 d7 ⊢
    refine wpAny_take (i := 1) (v := .int .i64 q) rfl (by kernel_rfl) (by kernel_rfl) (by kernel_rfl) (fun _ _ _ h => h) (Or.inl ⟨by rfl, ?_⟩) ?_
    · intro w; go_simp
    simp only [Act.put, List.getElem_toArray, List.getElem_cons_succ, List.getElem_cons_zero, List.setIfInBounds_toArray, List.set_cons_zero, List.set_cons_succ]
    refine wpAny_take (i := 5) (v := .bool b) rfl (by kernel_rfl) (by kernel_rfl) (by kernel_rfl) (fun _ _ _ h => h) (Or.inl ⟨by rfl, ?_⟩) ?_
    · intro w; go_simp
    simp only [Act.put, List.getElem_toArray, List.getElem_cons_succ, List.getElem_cons_zero, List.setIfInBounds_toArray, List.set_cons_zero, List.set_cons_succ]
    have E1 := Lib.hid (Pk.cell_new W2 (.int .i64 (q : Int)) 3)
    have E2 := Lib.hid (Pk.cell_new W2 (.bool b) 4)
    have E3 := Lib.hid ((Turn.alloc (W2.alloc (.cells #[.int .i64 (q : Int)] 3)) (.cells #[.bool b] 4) nowhere).cell E1.out id)
    have e4 := Pk.cell_new (W2.alloc (.cells #[.int .i64 (q : Int)] 3)) (.bool b) 4
    have E5 := Lib.hid ((Turn.alloc (W2.alloc (.cells #[.bool b] 4)) (.cells #[.int .i64 (q : Int)] 3) nowhere).cell E2.out id)
    have e6 := Pk.cell_new (W2.alloc (.cells #[.bool b] 4)) (.int .i64 (q : Int)) 3
    rw [World.size_alloc] at e4 e6
    have E4 := Lib.hid e4
    have E6 := Lib.hid e6
    clear e4 e6
    have dA6 : ∀ o, (W2.alloc o).cell? ⟨w5.heap.size, 0, none⟩ = some (.slice A k cp) := fun o => (two_alloc HT.out o).b6.cell
    have dB6 : ∀ o o', ((W2.alloc o).alloc o').cell? ⟨w5.heap.size, 0, none⟩ = some (.slice A k cp) := fun o o' => (two_alloc (two_alloc HT.out o) o').b6.cell
    have dA7 : ∀ o, (W2.alloc o).cell? ⟨w5.heap.size + 1, 0, none⟩ = some U := fun o => (two_alloc HT.out o).b7.cell
    have dB7 : ∀ o o', ((W2.alloc o).alloc o').cell? ⟨w5.heap.size + 1, 0, none⟩ = some U := fun o o' => (two_alloc (two_alloc HT.out o) o').b7.cell
    all_goals (first
      | refine wpAny_ready (rs := [0, 2, 4, 6]) (by decide +kernel) (by simp) ?_)
    all_goals (repeat' (first | exact AllReady.nil | (refine AllReady.cons (o := _) rfl (fun K hK => ?_) ?_)))
    all_goals (first
      | (go_simp; refine hK _ _ ?_; clear hK K))
    all_goals (first
      | refine wpAny_ready (rs := [0, 2, 4]) (by decide +kernel) (by simp) ?_
      | refine wpAny_ready (rs := [0, 2, 6]) (by decide +kernel) (by simp) ?_
      | refine wpAny_ready (rs := [0, 4, 6]) (by decide +kernel) (by simp) ?_
      | refine wpAny_ready (rs := [2, 4, 6]) (by decide +kernel) (by simp) ?_)
    all_goals (repeat' (first | exact AllReady.nil | (refine AllReady.cons (o := _) rfl (fun K hK => ?_) ?_)))
    all_goals (first
      | (go_simp; refine hK _ _ ?_; clear hK K))
    all_goals (first
      | refine wpAny_ready (rs := [3, 4, 6]) (by decide +kernel) (by simp) ?_
      | refine wpAny_ready (rs := [0, 2]) (by decide +kernel) (by simp) ?_
      | refine wpAny_ready (rs := [0, 4]) (by decide +kernel) (by simp) ?_
      | refine wpAny_ready (rs := [0, 6]) (by decide +kernel) (by simp) ?_
      | refine wpAny_ready (rs := [2, 4]) (by decide +kernel) (by simp) ?_
      | refine wpAny_ready (rs := [2, 6]) (by decide +kernel) (by simp) ?_)
    all_goals (repeat' (first | exact AllReady.nil | (refine AllReady.cons (o := _) rfl (fun K hK => ?_) ?_)))
    all_goals (first
      | (refine step_append_own rfl (.tmp 22) (.tmp 24) 34 rfl w5.heap.size 3 i0 (.int .i64 0) 8 Try.underlying34 hi hz0 hz1 hz2 rfl (.slice A k cp) k _ rfl (show World.ownsRow _ _ _ _ _ _ _ from (Two.row (by first | exact two_alloc HT.out _ | exact two_alloc (two_alloc HT.out _) _))) _ (.int .i64 q) rfl (by first | exact E1.out | exact E3.out | exact E6.out) rfl (by have := HKn.out; unfold maxLen; omega) (by have := HKn.out; omega) (by have := HT.out.big; simp; omega) ?_
         intro V2 w3 hown hg
         obtain ⟨g2, c2, rfl⟩ := ownsRow_succ hown
         have T3 := Lib.hid (two_app1 (by first | exact two_alloc HT.out _ | exact two_alloc (two_alloc HT.out _) _) hown hg)
         have K3 := Lib.hid (fun i u (hi : W2.heap.size ≤ i) hc => hg.cell (a := ⟨i, 0, none⟩) (v := u) hc (fun e => by have := own_lt HT.out.row e.symm; dsimp only at this; omega))
         have d7' := T3.out.b7.cell
         have dA7' : ∀ o, (w3.alloc o).cell? ⟨w5.heap.size + 1, 0, none⟩ = some U := fun o => (two_alloc T3.out o).b7.cell
         clear hown hg
         refine hK _ _ ?_
         clear hK K
         simp only [Act.put, List.getElem_toArray, List.getElem_cons_succ, List.getElem_cons_zero, List.setIfInBounds_toArray, List.set_cons_zero, List.set_cons_succ])
      | (go_simp; refine hK _ _ ?_; clear hK K))
    all_goals (first
      | refine wpAny_ready (rs := [3, 4]) (by decide +kernel) (by simp) ?_
      | refine wpAny_ready (rs := [3, 6]) (by decide +kernel) (by simp) ?_
      | refine wpAny_ready (rs := [4, 6]) (by decide +kernel) (by simp) ?_
      | refine wpAny_ready (rs := [0]) (by decide +kernel) (by simp) ?_
      | refine wpAny_ready (rs := [2]) (by decide +kernel) (by simp) ?_)
    all_goals (repeat' (first | exact AllReady.nil | (refine AllReady.cons (o := _) rfl (fun K hK => ?_) ?_)))
    all_goals (first
      | (refine step_append_own rfl (.tmp 22) (.tmp 24) 34 rfl w5.heap.size 3 i0 (.int .i64 0) 8 Try.underlying34 hi hz0 hz1 hz2 rfl (.slice A k cp) k _ rfl (show World.ownsRow _ _ _ _ _ _ _ from (Two.row (by first | exact two_alloc HT.out _ | exact two_alloc (two_alloc HT.out _) _))) _ (.int .i64 q) rfl (by first | exact E1.out | exact E3.out | exact E6.out) rfl (by have := HKn.out; unfold maxLen; omega) (by have := HKn.out; omega) (by have := HT.out.big; simp; omega) ?_
         intro V2 w3 hown hg
         obtain ⟨g2, c2, rfl⟩ := ownsRow_succ hown
         have T3 := Lib.hid (two_app1 (by first | exact two_alloc HT.out _ | exact two_alloc (two_alloc HT.out _) _) hown hg)
         have K3 := Lib.hid (fun i u (hi : W2.heap.size ≤ i) hc => hg.cell (a := ⟨i, 0, none⟩) (v := u) hc (fun e => by have := own_lt HT.out.row e.symm; dsimp only at this; omega))
         have d7' := T3.out.b7.cell
         have dA7' : ∀ o, (w3.alloc o).cell? ⟨w5.heap.size + 1, 0, none⟩ = some U := fun o => (two_alloc T3.out o).b7.cell
         clear hown hg
         refine hK _ _ ?_
         clear hK K
         simp only [Act.put, List.getElem_toArray, List.getElem_cons_succ, List.getElem_cons_zero, List.setIfInBounds_toArray, List.set_cons_zero, List.set_cons_succ])
      | (go_simp; refine hK _ _ ?_; clear hK K))
    all_goals (first
      | refine wpAny_ready (rs := [3]) (by decide +kernel) (by simp) ?_
      | refine wpAny_ready (rs := [4]) (by decide +kernel) (by simp) ?_
      | refine wpAny_ready (rs := [6]) (by decide +kernel) (by simp) ?_)
    all_goals (repeat' (first | exact AllReady.nil | (refine AllReady.cons (o := _) rfl (fun K hK => ?_) ?_)))
    all_goals (first
      | (refine step_append_own rfl (.tmp 22) (.tmp 24) 34 rfl w5.heap.size 3 i0 (.int .i64 0) 8 Try.underlying34 hi hz0 hz1 hz2 rfl (.slice A k cp) k _ rfl (show World.ownsRow _ _ _ _ _ _ _ from (Two.row (by first | exact two_alloc HT.out _ | exact two_alloc (two_alloc HT.out _) _))) _ (.int .i64 q) rfl (by first | exact E1.out | exact E3.out | exact E6.out) rfl (by have := HKn.out; unfold maxLen; omega) (by have := HKn.out; omega) (by have := HT.out.big; simp; omega) ?_
         intro V2 w3 hown hg
         obtain ⟨g2, c2, rfl⟩ := ownsRow_succ hown
         have T3 := Lib.hid (two_app1 (by first | exact two_alloc HT.out _ | exact two_alloc (two_alloc HT.out _) _) hown hg)
         have K3 := Lib.hid (fun i u (hi : W2.heap.size ≤ i) hc => hg.cell (a := ⟨i, 0, none⟩) (v := u) hc (fun e => by have := own_lt HT.out.row e.symm; dsimp only at this; omega))
         have d7' := T3.out.b7.cell
         have dA7' : ∀ o, (w3.alloc o).cell? ⟨w5.heap.size + 1, 0, none⟩ = some U := fun o => (two_alloc T3.out o).b7.cell
         clear hown hg
         refine hK _ _ ?_
         clear hK K
         simp only [Act.put, List.getElem_toArray, List.getElem_cons_succ, List.getElem_cons_zero, List.setIfInBounds_toArray, List.set_cons_zero, List.set_cons_succ])
      | (go_simp; refine hK _ _ ?_; clear hK K))
    all_goals (first
      | refine wpAny_ready (rs := [7]) (by decide +kernel) (by simp) ?_)
    all_goals (repeat' (first | exact AllReady.nil | (refine AllReady.cons (o := _) rfl (fun K hK => ?_) ?_)))
    all_goals (first
      | (refine step_append_own rfl (.tmp 26) (.tmp 28) 27 rfl w5.heap.size 4 j0 (.bool false) 1 Try.underlying27 hj hy0 hy1 hy2 rfl U k _ rfl (show World.ownsRow _ _ _ _ _ _ _ from (Two.rou (by first | exact T3.out | exact two_alloc T3.out _))) _ (.bool b) rfl (by first | exact Pk.cell_new _ _ _ | exact K3.out _ _ (by omega) E4.out | exact K3.out _ _ (by omega) E5.out) rfl (by have := HKn.out; unfold maxLen; omega) (by have := HKn.out; omega) (by have := T3.out.big; simp; omega) ?_
         intro U2 w7 hown hg
         obtain ⟨g7, c7, rfl⟩ := ownsRow_succ hown
         have T7 := Lib.hid (two_app2 (by first | exact T3.out | exact two_alloc T3.out _) hown hg)
         have d6'' := T7.out.b6.cell
         have f6'' := T7.out.b6.frozen
         have d7'' := T7.out.b7.cell
         have f7'' := T7.out.b7.frozen
         clear hown hg
         refine hK _ _ ?_
         clear hK K
         simp only [Act.put, List.getElem_toArray, List.getElem_cons_succ, List.getElem_cons_zero, List.setIfInBounds_toArray, List.set_cons_zero, List.set_cons_succ])
      | (go_simp; refine hK _ _ ?_; clear hK K))
    all_goals (first
      | refine wpAny_ready (rs := [8]) (by decide +kernel) (by simp) ?_)
    all_goals (repeat' (first | exact AllReady.nil | (refine AllReady.cons (o := _) rfl (fun K hK => ?_) ?_)))
    all_goals (first
      | (go_simp; refine hK _ _ ?_; clear hK K))
    all_goals (first
      | refine wpAny_ready (rs := [9]) (by decide +kernel) (by simp) ?_)
    all_goals (repeat' (first | exact AllReady.nil | (refine AllReady.cons (o := _) rfl (fun K hK => ?_) ?_)))
    all_goals (first
      | (go_simp; refine hK _ _ ?_; clear hK K))
    all_goals
      refine wpAny_done (by decide +kernel) ?_ _
      have TF := two_set T7.out
      refine ⟨TF.keeps.from _, below_kept ⟨TF.below.os.trans HBw.out.os.symm, TF.below.tape.trans HBw.out.tape.symm, TF.below.output.trans HBw.out.output.symm, TF.keeps.size, fun i hi => (TF.below.block i hi).trans (HBw.out.block i hi).symm⟩ L5.out, ?_⟩
      refine ⟨⟨⟨_, TF.b6, ?_, trivial⟩, ⟨_, TF.b7, ?_, trivial⟩⟩, TF.below⟩
      · rw [HL1.out]; exact TF.row
      · rw [HL2.out]; exact TF.rou
  case done =>
    rintro D W hD ⟨⟨⟨V, hv, hrow, -⟩, ⟨U, hu, hrou, -⟩⟩, hB⟩ hK
    have eL : (lens l).take (runsL l).length = lens l := by rw [← lens_len]; exact List.take_length
    have eF : (flgs l).take (runsL l).length = flgs l := by rw [← flgs_len]; exact List.take_length
    rw [eL] at hrow
    rw [eF] at hrou
    obtain ⟨A, cp, rfl, -⟩ := own_slice hrow
    obtain ⟨A', cp', rfl, -⟩ := bown_slice hrou
    have b2 := below_boxed hB (by omega) B2.out
    have b3 := below_boxed hB (by omega) B3.out
    have b4 := below_boxed hB (by omega) B4.out
    have ne : ∀ {v : Value} {e n : Nat} {xs : List Value} {X : World}, X.ownsRow w5.heap.size e 1 v n xs → ∀ i, i < w5.heap.size → v.ownBlock ≠ some i := fun h i hi e => by have := (own_below h i e).1; omega
    have r1 := own_drew (((hrow.kept (grownBy_setCell' _ (w.heap.size + 1) (.slice A (runsL l).length cp)) (.inr (ne hrow _ (by omega)))).kept (grownBy_setCell' _ (w.heap.size + 1 + 1) (.slice A' (runsL l).length cp')) (.inr (ne hrow _ (by omega)))).kept (grownBy_setCell' _ (w.heap.size + 1 + 1 + 1) (.bool true)) (.inr (ne hrow _ (by omega))))
    have r2 := own_drew (((hrou.kept (grownBy_setCell' _ (w.heap.size + 1) (.slice A (runsL l).length cp)) (.inr (ne hrou _ (by omega)))).kept (grownBy_setCell' _ (w.heap.size + 1 + 1) (.slice A' (runsL l).length cp')) (.inr (ne hrou _ (by omega)))).kept (grownBy_setCell' _ (w.heap.size + 1 + 1 + 1) (.bool true)) (.inr (ne hrou _ (by omega))))
    have hK1 := (KeepsOthers.setCell W ⟨w.heap.size + 1, 0, none⟩ (.slice A (runsL l).length cp)).same D _ hK rfl
    have hK2 := (KeepsOthers.setCell _ ⟨w.heap.size + 1 + 1, 0, none⟩ (.slice A' (runsL l).length cp')).same D _ hK1 rfl
    have hK3 := (KeepsOthers.setCell _ ⟨w.heap.size + 1 + 1 + 1, 0, none⟩ (.bool true)).same D _ hK2 rfl
    have hK3 := (KeepsOthers.drew _).same D _ hK3 rfl
    have x2 : Boxed W (w.heap.size + 1) 34 (.slice none 0 0) := b2
    have x3 : Boxed W (w.heap.size + 1 + 1) 27 (.slice none 0 0) := b3
    have x4 : Boxed W (w.heap.size + 1 + 1 + 1) 4 (.bool false) := b4
    have y2 := ((x2.set (.slice A (runsL l).length cp)).other (show w.heap.size + 1 ≠ w.heap.size + 1 + 1 by omega) (.slice A' (runsL l).length cp')).other (show w.heap.size + 1 ≠ w.heap.size + 1 + 1 + 1 by omega) (.bool true)
    have y3 := ((x3.other (show w.heap.size + 1 + 1 ≠ w.heap.size + 1 by omega) (.slice A (runsL l).length cp)).set (.slice A' (runsL l).length cp')).other (show w.heap.size + 1 + 1 ≠ w.heap.size + 1 + 1 + 1 by omega) (.bool true)
    have y4 := ((x4.other (show w.heap.size + 1 + 1 + 1 ≠ w.heap.size + 1 by omega) (.slice A (runsL l).length cp)).other (show w.heap.size + 1 + 1 + 1 ≠ w.heap.size + 1 + 1 by omega) (.slice A' (runsL l).length cp')).set (.bool true)
    have d1 := cell_kept (cell_drew y2.cell) (grownBy_putObj' _ D (.deferred none)) (fun r e => by cases e; exact ⟨_, hK3, rfl⟩)
    have d2 := cell_kept (cell_drew y3.cell) (grownBy_putObj' _ D (.deferred none)) (fun r e => by cases e; exact ⟨_, hK3, rfl⟩)
    have d3 := cell_kept (cell_drew y4.cell) (grownBy_putObj' _ D (.deferred none)) (fun r e => by cases e; exact ⟨_, hK3, rfl⟩)
    obtain ⟨A2, cp2, e2, hs2⟩ := own_slice (ownsRow_putObj r1 (.deferred none) hK3 rfl)
    cases e2
    obtain ⟨A3, cp3, e3, hs3⟩ := bown_slice (ownsRow_putObj r2 (.deferred none) hK3 rfl)
    cases e3
    have hBw : Below w.heap.size w W := (below_turn T5.out).trans (In.below_mono hB (by omega))
    have hBf := (((hBw.setCell (p := ⟨w.heap.size + 1, 0, none⟩) (Nat.le_succ _) (.slice A (runsL l).length cp)).setCell (p := ⟨w.heap.size + 1 + 1, 0, none⟩) (Nat.le_add_right _ 2) (.slice A' (runsL l).length cp')).setCell (p := ⟨w.heap.size + 1 + 1 + 1, 0, none⟩) (Nat.le_add_right _ 3) (.bool true)).drew.trans (belowK_b (w := w) (Nat.le_refl _) _ D _ (.deferred none) (by omega) hK3 rfl rfl)
    have HF := Lib.hid (show TellX w (runsL l).length (lens l) (flgs l) (.returned (.tuple #[.slice A (runsL l).length cp, .slice A' (runsL l).length cp', .bool true])) _ from ⟨A, cp, A', cp', rfl, hs2, hs3, turn_below hBf⟩)
    have HD1 := Lib.hid d1
    have HD2 := Lib.hid d2
    have HD3 := Lib.hid d3
    have HK3 := Lib.hid hK3
    have c6 := hv.cell
    have c7 := hu.cell
    have g2 := b2.cell
    have k2 := b2.frozen
    have g3 := b3.cell
    have k3 := b3.frozen
    have g4 := b4.cell
    have k4 := b4.frozen
    have a12 : ¬ w.heap.size + 1 = w5.heap.size := by omega
    have a13 : ¬ w.heap.size + 1 = w5.heap.size + 1 := by omega
    have a22 : ¬ w.heap.size + 1 + 1 = w5.heap.size := by omega
    have a23 : ¬ w.heap.size + 1 + 1 = w5.heap.size + 1 := by omega
    clear hrow hrou hs2 hs3 r1 r2 hBw hBf hB d1 d2 d3 hK1 hK2 hK3 x2 x3 x4 y2 y3 y4 b2 b3 b4 hv hu eL eF ne
    generalize hN : (runsL l).length = N at HF HD1 HD2 HD3 HK3 c6 c7
    have HN := Lib.hid hN
    clear hN
    gi_wp2
    gi_region
    all_goals gi_wp2
    refine ⟨by simp, .inl ⟨_, _, rfl, run_takeDeferred HK3.out, ?_⟩⟩
    refine ⟨.tuple #[.slice A N cp, .slice A' N cp', .bool true], ?_, by rw [HN.out]; exact HF.out⟩
    have d1 := HD1.out
    have d2 := HD2.out
    have d3 := HD3.out
    simp [results, Try.f18, go_sem, d1, d2, d3]
end Go.Proofs.Ytpcilohiokpmnaa.Nu
