/-
  The law's each: what an iterator tells, one behind the other.
-/
import Derived.Test.YtpjiadoicpfhgaaPkEach
import Derived.Test.YtpjiadoicpfhgaaPkRGet
import Derived.Maps.AppendAt
namespace Go.Proofs.Ytpjiadoicpfhgaa.Pk
open Go.RowKit Bs Dv Go.Shelf

attribute [local go_sem] Oper.semAt_some

/-- the law's answer: the numbers L, and that it ended -/
def TellX (w : World) (m : Nat) (L : List Int) (e : Ending) (w' : World) : Prop :=
  ∃ a k, e = .returned (.tuple #[.slice a m k, .bool true]) ∧ Us.Seg w' a m k L ∧ Turn w w' nowhere

theorem below_kept {P : Nat → Prop} {n₀ : Nat} {W W' : World} (h : Below n₀ W W') (hP : ∀ i, P i → i < n₀) : Kept P W W' :=
  ⟨h.os, h.tape, h.output, h.size, fun k _ hn => h.block k (hP k (Classical.not_not.1 hn))⟩
theorem below_boxed {n₀ : Nat} {W W' : World} {B : Nat} {t : TypeId} {v : Value} (h : Below n₀ W W') (hB : B < n₀) (hb : Boxed W B t v) : Boxed W' B t v := (h.block B hB).trans hb
theorem turn_boxed {W W' : World} {B : Nat} {t : TypeId} {v : Value} (h : Turn W W' nowhere) (hb : Boxed W B t v) : Boxed W' B t v := (h.block B hb.lt id).trans hb
theorem useg_own {w : World} {base n : Nat} {V : Value} {l : List Int} (h : w.ownsRow base 27 1 V n (l.map (Value.int .u64))) : ∃ a c, V = .slice a n c ∧ Us.Seg w a n c l := by
  have h1 := h
  rcases h.2 with ⟨rfl, rfl⟩ | ⟨g, cap, cur, rfl, _⟩
  · have : l = [] := List.eq_nil_of_length_eq_zero (by simpa using h.1)
    subst this
    exact ⟨none, 0, rfl, Us.Seg.nil _⟩
  · exact ⟨_, _, rfl, Us.Seg.own h1⟩
theorem fin_map (cnt : Nat) (g : Nat → Int) : (List.finRange cnt).map (fun x => Value.int .u64 (g x.1)) = ((List.range cnt).map g).map (Value.int .u64) := by
  apply List.ext_getElem
  · simp
  · intro i h1 h2; simp
theorem not_prefix {cnt : Nat} {pre : List (Fin cnt)} {x : Fin cnt} (hx : x.1 ≠ pre.length) : ¬ ∃ k, k ≤ cnt ∧ pre ++ [x] = (List.finRange cnt).take k := by
  rintro ⟨k, hk, e⟩
  have h1 := congrArg List.length e
  rw [fin_take_len cnt k hk, List.length_append, List.length_singleton] at h1
  have h2 := congrArg (fun l => l[pre.length]?) e
  simp only [List.getElem?_append_right (Nat.le_refl _), Nat.sub_self, List.getElem?_cons_zero] at h2
  rw [List.getElem?_take_of_lt (by omega), List.getElem?_eq_getElem (by simp; omega)] at h2
  simp at h2
  rw [h2] at hx
  exact hx rfl
theorem is_prefix {cnt : Nat} {pre : List (Fin cnt)} {x : Fin cnt} (hp : pre = (List.finRange cnt).take pre.length) (hx : x.1 = pre.length) : pre ++ [x] = (List.finRange cnt).take (pre ++ [x]).length := by
  have hlt : pre.length < cnt := by rw [← hx]; exact x.2
  rw [List.length_append, List.length_singleton, fin_take_succ cnt pre.length hlt, ← hp]
  congr 2
  exact Fin.ext hx

set_option maxRecDepth 100000 in
set_option maxHeartbeats 2000000 in
theorem tell_any (a : Option Addr) (len c : Nat) (l : List Int) (n v : Int) (w : World) (hs : Seg w a len c l) (hb : Fit 8 l) :
    Calls Try.prog 16 #[.slice a len c, .int .i64 n, .int .i64 v] w (TellX w (getR l n v).2.length (getR l n v).2) := by
  obtain ⟨j0, hj, hy0, hy1, hy2⟩ := info_parts Us.info_u64
  have hLlen := get_len l n v
  have HE := Lib.hid (fun W (hs : Seg W a len c l) => each_any a len c l n v W hs hb)
  have HS := Lib.hid hs
  obtain ⟨L, hL⟩ : ∃ L, (getR l n v).2 = L := ⟨_, rfl⟩
  rw [hL] at HE hLlen ⊢
  have HT0 : Hid (Turn w (((w.alloc (.cells #[.int .i64 n] 3)).alloc (.cells #[.slice none 0 0] 28)).alloc (.cells #[.bool false] 4)) nowhere) := Lib.hid
    (Turn.then (Turn.then (Turn.alloc w _ nowhere) (Turn.alloc _ _ nowhere)) (Turn.alloc _ _ nowhere))
  have heq : ∀ (lb : Array Value) (W : World), (binOp .eql 39 (.func (.func 33) #[] lb) .nilFunc).run Try.prog W = .ok (.bool false) W := fun lb W => by kernel_rfl
  have bN := Boxed.new w 3 (.int .i64 n)
  have bR := Boxed.new (w.alloc (.cells #[.int .i64 n] 3)) 28 (.slice none 0 0)
  have bF := Boxed.new ((w.alloc (.cells #[.int .i64 n] 3)).alloc (.cells #[.slice none 0 0] 28)) 4 (.bool false)
  rw [World.size_alloc] at bR
  rw [World.size_alloc, World.size_alloc] at bF
  have bN0 := (bN.alloc (.cells #[.slice none 0 0] 28)).alloc (.cells #[.bool false] 4)
  have bR0 := bR.alloc (.cells #[.bool false] 4)
  have cN := bN0.cell
  clear hs hb hL bN bR
  refine (callsIn_wide (n := 3)).1 ?_
  refine callsIn_of_wp_marks Try.func16 rfl trivial ?_ rfl
  simp only [Try.ntmps16, List.size_toArray, List.length_cons, List.length_nil, Nat.reduceAdd, Nat.reduceSub, Array.replicate_succ, Array.replicate_zero, List.push_toArray, List.append_toArray, List.nil_append, List.cons_append]
  gi_wp2_with (refine ⟨trivial, ?_⟩; gi_at_call 20; refine (callsIn_wide.2 (HE.out _ (seg_stay HS.out HT0.out))).mono ?_; rintro e w1 ⟨lb, P, l', cnt, v', rfl, hI, hP, hT1, hLL, hcn⟩)
  have hz0 : ((((w.alloc (.cells #[.int .i64 n] 3)).alloc (.cells #[.slice none 0 0] 28)).alloc (.cells #[.bool false] 4)).heap.size) = w.heap.size + 3 := by simp [World.size_alloc]
  have bN1 := turn_boxed hT1 bN0
  have bR1 := turn_boxed hT1 bR0
  have bF1 := turn_boxed hT1 bF
  have hT01 := Turn.then HT0.out hT1
  have hz1 := hT1.size
  rw [hz0] at hz1 hP
  clear cN bN0 bR0 bF hz0 heq HE HS HT0 hT1
  have hPn : ∀ i, P i → i < w1.heap.size := fun i hi => (hP i hi).2
  have hB0 : Below w1.heap.size w1 (w1.alloc (.cells #[.slice none 0 0] 28)) := (Below.refl _ w1).alloc (Nat.le_refl _) _
  have HI := Lib.hid hI
  have hI2 := hI.turn (Turn.alloc w1 (.cells #[.slice none 0 0] 28) nowhere) (fun _ _ => id)
  have hcb := hI.hc
  have hsz2 : (w1.alloc (.cells #[.slice none 0 0] 28)).heap.size = w1.heap.size + 1 := World.size_alloc _ _
  have hP2 : ∀ i, P i → i < (w1.alloc (.cells #[.slice none 0 0] 28)).heap.size := fun i hi => by rw [hsz2]; have := hPn i hi; omega
  clear hI
  refine wpIn_rangeFunc_ownG rfl (by decide) (gf := 33) (lb := lb) rfl trivial (enters_of Try.func33 (by kernel_rfl) rfl)
    (iter_stops 2 (by decide) P l' cnt v' lb _ hI2 hP2) (fun h k => Kept.t h k) (Kept.b hP2) (Below.refl _ _) (fun _ => rfl)
    (fun pre W => ((∃ V, Boxed W w1.heap.size 28 V ∧ W.ownsRow w1.heap.size 27 1 V pre.length (pre.map (fun x => Value.int .u64 (nth l' v' x.1 : Int))) ∧ True) ∧ Below w1.heap.size w1 W) ∧ pre = (List.finRange cnt).take pre.length)
    (fun _ pre _ => ¬ ∃ k, k ≤ cnt ∧ pre = (List.finRange cnt).take k)
    (OwnFrom.and (OwnFrom.and (Own.from (holdsRow_own w1.heap.size w1.heap.size 28 27 1 (fun (pre : List (Fin cnt)) => pre.length) (fun (pre : List (Fin cnt)) => pre.map (fun x => Value.int .u64 (nth l' v' x.1 : Int))) (fun _ _ => True)) _) (ownFrom_below (Nat.le_refl _) (by rw [hsz2]; omega))) (ownFrom_pure _ (fun (pre : List (Fin cnt)) => pre = (List.finRange cnt).take pre.length)))
    (fun _ => ownFrom_pure _ (fun (pre : List (Fin cnt)) => ¬ ∃ k, k ≤ cnt ∧ pre = (List.finRange cnt).take k))
    ⟨⟨⟨_, Boxed.new w1 _ _, World.ownsRow_nil _ _ _ _, trivial⟩, hB0⟩, rfl⟩
    (fun x => { tmps := #[.slice a len c, .int .i64 n, .int .i64 v, undef, .pointer (some ⟨w.heap.size, 0, none⟩), undef, .pointer (some ⟨w.heap.size + 1, 0, none⟩), .pointer (some ⟨w.heap.size + 1 + 1, 0, none⟩), .func (.func 33) #[] lb, .pointer (some ⟨w1.heap.size, 0, none⟩),
      .int .i64 (x.1 : Int), .int .u64 (nth l' v' x.1 : Int), .slice a len c, .int .i64 n, .int .i64 v, .func (.func 33) #[] lb, .func (.func 33) #[] lb, .bool false, .func (.func 33) #[] lb, .int .i64 (x.1 : Int), .int .u64 (nth l' v' x.1 : Int),
      undef, undef, undef, undef, undef, undef, undef, undef, undef, undef, undef, undef, undef, undef], defers := [] }) ?assign ?body ?done ?stop
  case assign =>
    intro l x W K hK
    gi_wp2
    exact hK
  case body =>
    rintro y pre ⟨i, hi⟩ W ⟨⟨⟨V, hv, hrow, _⟩, hB⟩, hpre⟩ _
    have HPre := Lib.hid hpre
    have hc0 := hcn (by omega)
    have cN := (below_boxed hB (by omega) bN1).cell
    have hlen : pre.length ≤ 65536 := by have := congrArg List.length hpre; rw [List.length_take, List.length_finRange] at this; omega
    clear hpre
    dsimp only
    obtain ⟨A, cp, rfl⟩ : ∃ A cp, V = .slice A pre.length cp := by
      rcases hrow.2 with ⟨rfl, h0⟩ | ⟨g, cap, cur, rfl, _⟩
      · exact ⟨none, 0, by rw [h0]⟩
      · exact ⟨_, _, rfl⟩
    have hc := hv.cell
    by_cases he : i = pre.length
    · have HNP := Lib.hid (is_prefix (x := ⟨i, hi⟩) HPre.out he)
      have hle : (pre.length : Int) ≤ n := by omega
      have HEn := Lib.hid he
      have ei : ((i : Int) != (pre.length : Int)) = false := by rw [he]; exact bne_self_eq_false _
      have ei2 : ((i : Int) == (pre.length : Int)) = true := by rw [he]; exact beq_self_eq_true _
      have ein : (i : Int) ≤ n := by omega
      obtain ⟨z, hz⟩ : ∃ z, nth l' v' i = z := ⟨_, rfl⟩
      have HZ := Lib.hid hz
      rw [hz]
      clear he hz
      gi_wp2_with (gi_at_builtin; refine wpListIn_append_own _ rfl _ _ 28 rfl w1.heap.size 27 j0 (.int .u64 0) 1 8 Try.underlying28 hj hy0 hy1 hy2 rfl (by decide) _ _ _ rfl (hrow.alloc _) ⟨W.heap.size, 0, none⟩ 1 1 [.int .u64 (z : Int)] rfl rfl (cell_one_new _ _ _) (by simp [Value.oneCell']) (by unfold maxLen; omega) (by omega) (by have := hB.size; simp; omega) ?_; intro v2 w2 hown' hgrow _; obtain ⟨g', cap', rfl⟩ := ownsRow_succ hown'; obtain ⟨hv1, hv2, hr2, hk2, hb2⟩ := hv.appended (by decide) hrow hB.size (Nat.le_refl _) hown' hgrow; have hc1 := hv1.cell; have hf1 := hv1.frozen)
      refine ⟨hk2.from _, below_kept hb2 hPn, ⟨⟨_, hv2, ?_, trivial⟩, hB.trans hb2⟩, HNP.out⟩
      rw [List.length_append, List.length_singleton, List.map_append, List.map_cons, List.map_nil]
      dsimp only
      rw [HZ.out]
      exact hr2
    · have HNP := Lib.hid (not_prefix (pre := pre) (x := ⟨i, hi⟩) he)
      have ei : ((i : Int) != (pre.length : Int)) = true := bne_iff_ne.2 (by omega)
      have ei2 : ((i : Int) == (pre.length : Int)) = false := beq_eq_false_iff_ne.2 (by omega)
      have bR2 := below_boxed hB (by omega) bR1
      have bF2 := below_boxed hB (by omega) bF1
      have c1 := bR2.cell
      have f1 := bR2.frozen
      have c2 := bF2.cell
      have f2 := bF2.frozen
      gi_wp2
      exact ⟨((KeepsOthers.setCell _ _ _).trans (KeepsOthers.setCell _ _ _)).from _, HNP.out⟩
  case done =>
    rintro D ys W hD rfl ⟨⟨⟨V, hv, hrow, _⟩, hB⟩, _⟩ hK
    rw [List.length_finRange, fin_map cnt (fun i => (nth l' v' i : Int)), show (List.range cnt).map (fun i => (nth l' v' i : Int)) = L from hLL.symm] at hrow
    obtain ⟨A, cp, rfl, hseg⟩ := useg_own hrow
    have hc := hv.cell
    have bR2 := below_boxed hB (by omega) bR1
    have bF2 := below_boxed hB (by omega) bF1
    have c1 := bR2.cell
    have f1 := bR2.frozen
    have c2 := bF2.cell
    have f2 := bF2.frozen
    gi_wp2
    have hK1 := (KeepsOthers.setCell W ⟨w.heap.size + 1, 0, none⟩ (.slice A cnt cp)).same D _ hK rfl
    have hK2 := (KeepsOthers.setCell (W.setCell ⟨w.heap.size + 1, 0, none⟩ (.slice A cnt cp)) ⟨w.heap.size + 1 + 1, 0, none⟩ (.bool true)).same D _ hK1 rfl
    have r1 := hrow.kept (grownBy_setCell' W (w.heap.size + 1) (.slice A cnt cp)) (.inr (bR2.not_row (by decide) hrow).symm)
    have bF3 := bF2.other (show w.heap.size + 1 + 1 ≠ w.heap.size + 1 by omega) (.slice A cnt cp)
    have r2 := r1.kept (grownBy_setCell' _ (w.heap.size + 1 + 1) (.bool true)) (.inr (bF3.not_row (by decide) r1).symm)
    have r3 := ownsRow_putObj r2 (.deferred none) hK2 rfl
    obtain ⟨A2, cp2, e2, hs2⟩ := useg_own r3
    cases e2
    have d1 := cell_kept (cell_other (cell_same (v := .slice A cnt cp) c1) (show w.heap.size + 1 ≠ w.heap.size + 1 + 1 by omega) (v := .bool true)) (grownBy_putObj' _ D (.deferred none)) (fun r e => by cases e; exact ⟨_, hK2, rfl⟩)
    have d2 := cell_kept (cell_same (v := .bool true) (cell_other c2 (show w.heap.size + 1 + 1 ≠ w.heap.size + 1 by omega) (v := .slice A cnt cp))) (grownBy_putObj' _ D (.deferred none)) (fun r e => by cases e; exact ⟨_, hK2, rfl⟩)
    have hm : L.length = cnt := by rw [hLL, getL_length]
    have tW : Turn w1 W (fun i => w1.heap.size ≤ i) := ⟨hB.os, hB.tape, hB.output, hB.size, fun i _ hn => hB.block i (by omega)⟩
    have tF : Turn w (((W.setCell ⟨w.heap.size + 1, 0, none⟩ (.slice A cnt cp)).setCell ⟨w.heap.size + 1 + 1, 0, none⟩ (.bool true)).putObj D (.deferred none)) nowhere :=
      Turn.trans (Turn.trans (Turn.trans (Turn.trans hT01 tW (S' := fun i => w1.heap.size ≤ i) (fun i hi h => by omega)) (Turn.setCell W ⟨w.heap.size + 1, 0, none⟩ (.slice A cnt cp) (S := fun i => i = w.heap.size + 1) rfl) (fun i hi h => by omega))
        (Turn.setCell _ ⟨w.heap.size + 1 + 1, 0, none⟩ (.bool true) (S := fun i => i = w.heap.size + 1 + 1) rfl) (fun i hi h => by omega)) (Turn.of_grown (S := fun i => i = D) (grownBy_putObj' _ D (.deferred none)) (fun i e _ => by cases e; rfl)) (fun i hi h => by have : D = i := h.symm; omega)
    refine ⟨by simp, .inl ⟨_, _, rfl, run_takeDeferred hK2, ?_⟩⟩
    rw [hm]
    refine ⟨.tuple #[.slice A cnt cp, .bool true], ?_, A, cp, rfl, hs2, tF⟩
    simp [results, Try.f16, go_sem, d1, d2]
  case stop =>
    rintro D cx pre W _ h1 h2 _
    exact absurd h1 h2
end Go.Proofs.Ytpjiadoicpfhgaa.Pk
