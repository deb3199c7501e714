/-
  Get.
-/
import Derived.Test.YtpcilohiokpmnaaPkIter
namespace Go.Proofs.Ytpcilohiokpmnaa.Pk
open Go.RowKit Bs Dv Go.Shelf

attribute [local go_sem] Oper.semAt_some

/-- Get's answer r: its numbers, in new memory, or none and an error. -/
def GetX (w : World) (r : Int × List Int) (e : Ending) (w' : World) : Prop :=
  ∃ a k, e = .returned (.tuple #[.slice a r.2.length k, .int .i64 r.1]) ∧ Us.Seg w' a r.2.length k r.2 ∧ w.grownBy w' none

set_option maxHeartbeats 1000000 in
theorem get_no_any (a : Option Addr) (len c : Nat) (l : List Int) (n v : Int) (w : World) (hs : Seg w a len c l) (hb : Fit 8 l) (hno : ¬ (getR l n v).1 = 0) :
    Calls Try.prog 66 #[.slice a len c, .int .i64 n, .int .i64 v] w (GetX w (getR l n v)) := by
  have h2 := get_no l n v hno
  have HC := Lib.hid (check_any a len c l n v w hs hb)
  obtain ⟨R, hR⟩ : ∃ R, getR l n v = R := ⟨_, rfl⟩
  rw [hR] at hno h2 HC ⊢
  obtain ⟨E, L⟩ := R
  obtain rfl : L = [] := h2
  replace hno : ¬ E = 0 := hno
  have e0 : (E == 0) = false := by simp; exact hno
  have e1 : (E != 0) = true := by simp; exact hno
  have HX : Hid (∀ q, GetX w (E, []) (.returned (.tuple #[.slice none 0 0, .int .i64 E])) (w.drewN q)) := Lib.hid (fun q => ⟨none, 0, rfl, Us.Seg.nil _, ⟨rfl, rfl, rfl, Nat.le_refl _, fun _ _ _ => rfl⟩⟩)
  clear hR hno hs hb
  dsimp only at HC
  go_enter Try.func66, Try.ntmps66
  go_wp2_with (go_at_call 70; refine HC.out.mono ?_; rintro e w' ⟨rfl, q, rfl⟩)
  go_ret2
  exact HX.out _

def roomU (S : Nat) : Array Value := madeCells (Value.int .u64 0).cells S
theorem roomU_size (S : Nat) : (roomU S).size = S := size_madeCells _ _
theorem roomU_list (S : Nat) : (roomU S).toList = (List.replicate S (0 : Int)).map (Value.int .u64) := by
  rw [List.map_replicate]; exact toList_madeCells_one _ _
theorem make_nums (S : Nat) (hS : S ≤ 100000000) (W : World) : (Instr.makeSlice 48 (.int .i64 (S : Int)) (.int .i64 (S : Int))).run Try.prog W = .ok (.slice (some ⟨W.heap.size, 0, none⟩) S S) (W.alloc (.cells (roomU S) 46)) := by
  obtain ⟨i0, hi, hz0, hz1, hz2⟩ := info_parts Us.info_u64
  have h := run_make (P := Try.prog) W 48 46 i0 (.int .u64 0) Try.underlying48 hi hz0 .i64 .i64 (S : Int) (S : Int) (by omega) (by omega) (by rw [hz2]; omega) (by omega)
  rw [hz1, Int.toNat_natCast, Nat.mul_one] at h
  exact h
theorem made_own (W : World) (S : Nat) (hS : S ≤ 100000000) : (W.alloc (.cells (roomU S) 46)).ownsRow W.heap.size 46 1 (.slice (some ⟨W.heap.size, 0, none⟩) S S) S ((List.replicate S (0 : Int)).map (Value.int .u64)) :=
  ⟨by simp, .inr ⟨W.heap.size, S, roomU S, rfl, Nat.le_refl _, heap_alloc_new W _, Nat.le_refl _, by unfold maxLen; omega, by rw [roomU_size, Nat.mul_one], by rw [roomU_list]; exact List.take_of_length_le (by simp)⟩⟩

/-- what has been filled in -/
def fill (l : List Int) (v cnt : Nat) (pre : List (Fin cnt)) : List Int := pre.foldl (fun r x => r.set x.1 (nth l v x.1 : Int)) (List.replicate cnt 0)
theorem fill_snoc (l : List Int) (v cnt : Nat) (pre : List (Fin cnt)) (x : Fin cnt) : fill l v cnt (pre ++ [x]) = (fill l v cnt pre).set x.1 (nth l v x.1 : Int) := by simp [fill]
theorem fill_len (l : List Int) (v cnt : Nat) (pre : List (Fin cnt)) : (fill l v cnt pre).length = cnt := by
  unfold fill
  suffices h : ∀ (pre : List (Fin cnt)) (r : List Int), (pre.foldl (fun r x => r.set x.1 (nth l v x.1 : Int)) r).length = r.length by rw [h]; simp
  intro pre
  induction pre with
  | nil => intro r; rfl
  | cons x t ih => intro r; rw [List.foldl_cons, ih, List.length_set]
theorem fill_take (l : List Int) (v cnt : Nat) : ∀ k, k ≤ cnt → fill l v cnt ((List.finRange cnt).take k) = getL v (packN 8 l) k ++ List.replicate (cnt - k) 0 := by
  intro k
  induction k with
  | zero => intro _; simp [fill, getL_zero]
  | succ k ih =>
    intro hk
    rw [fin_take_succ cnt k hk, fill_snoc, ih (by omega), getL_snoc]
    have e : cnt - k = (cnt - (k + 1)) + 1 := by omega
    rw [e, List.replicate_succ, List.set_append_right _ _ (by rw [getL_length]; exact Nat.le_refl _), getL_length, Nat.sub_self, List.set_cons_zero, List.append_assoc]
    rfl
theorem fill_all (l : List Int) (v cnt : Nat) : fill l v cnt (List.finRange cnt) = getL v (packN 8 l) cnt := by
  have h := fill_take l v cnt cnt (Nat.le_refl _)
  rwa [fin_take_all, Nat.sub_self, List.replicate_zero, List.append_nil] at h

theorem getX_of {w w' : World} {v N n : Nat} (h : w'.ownsRow w.heap.size 46 1 (.slice (some ⟨w.heap.size, 0, none⟩) n n) n ((getL v N n).map (Value.int .u64))) (hg : w.grownBy w' none) :
    GetX w ((0 : Int), getL v N n) (.returned (.tuple #[.slice (some ⟨w.heap.size, 0, none⟩) n n, .int .i64 0])) w' := by
  have e : (((0 : Int), getL v N n) : Int × List Int).2.length = n := getL_length v N n
  refine ⟨some ⟨w.heap.size, 0, none⟩, n, by rw [e], ?_, hg⟩
  rw [e]
  exact Us.Seg.own h

theorem own_turn_any {w w' : World} {base e size n g c : Nat} {xs : List Value} {S : Nat → Prop} (h : w.ownsRow base e size (.slice (some ⟨g, 0, none⟩) n c) n xs) (k : Turn w w' S) (hS : ¬ S g) : w'.ownsRow base e size (.slice (some ⟨g, 0, none⟩) n c) n xs := by
  refine ⟨h.1, ?_⟩
  rcases h.2 with ⟨e1, _⟩ | ⟨g', cap, cur, e1, hb, hgg, rest⟩
  · cases e1
  · cases e1
    exact .inr ⟨g, c, cur, rfl, hb, (k.block g (Array.getElem?_eq_some_iff.1 hgg).1 hS).trans hgg, rest⟩

set_option maxRecDepth 100000 in
set_option maxHeartbeats 2000000 in
theorem get_yes_any (a : Option Addr) (len c : Nat) (l : List Int) (n v : Nat) (w : World) (hs : Seg w a len c l) (hb : Fit 8 l) (hok : (getR l n v).1 = 0) :
    Calls Try.prog 66 #[.slice a len c, .int .i64 (n : Int), .int .i64 (v : Int)] w (GetX w (getR l n v)) := by
  have HC := Lib.hid (check_any a len c l n v w hs hb)
  rw [hok] at HC
  obtain ⟨hc, hl, hz⟩ : canB n v = true ∧ l.length = sizeN n v ∧ packN 8 l / 2 ^ (n * v) = 0 := by
    unfold getR at hok
    by_cases h1 : canB n v = true
    · rw [if_pos h1] at hok
      by_cases h2 : l.length = sizeN (n : Int).toNat (v : Int).toNat ∧ packN 8 l / 2 ^ ((n : Int).toNat * (v : Int).toNat) = 0
      · exact ⟨h1, by simpa only [Int.toNat_natCast] using h2.1, by simpa only [Int.toNat_natCast] using h2.2⟩
      · rw [if_neg h2] at hok; simp at hok
    · rw [if_neg h1] at hok; simp at hok
  rw [get_yes hc hl hz]
  have hc' := (canB_iff _ _).1 hc
  have hsz := sizeF_bd n v
  rw [sizeF_N hc] at hsz
  have hlen := hs.len
  have h8 := size8 n v
  have HN : Hid (∀ W : World, Turn w W nowhere → Calls Try.prog 71 #[.slice a len c, .int .i64 (n : Int), .int .i64 (v : Int)] W fun e w' =>
      ∃ lb, e = .returned (.func (.func 73) #[] lb) ∧ Iter w' lb (fun i => (W.heap.size ≤ i ∧ i < w'.heap.size) ∨ ∃ ad, a = some ad ∧ 0 < len ∧ i = ad.block) l n v ∧ Turn W w' nowhere) :=
    Lib.hid (fun W hT => numbers_iter a len c n v l W (Seg.turn hs hT (fun _ _ _ => id)) hb (by omega) (by omega) (by omega) (by omega))
  have hn : n ≤ 65536 := by omega
  have hmk := make_nums n (by omega)
  have HAD : Hid (∀ ad, a = some ad → 0 < len → ad.block < w.heap.size) := Lib.hid (fun ad had h0 => by
    have h := hs.at_ ad had 0 _ (by rw [List.getElem?_map, List.getElem?_eq_getElem (by omega)]; rfl)
    have h2 := World.block_lt_of_cell? w _ h
    rwa [block_add] at h2)
  have HTm : Hid (∀ q, Turn w (((w.drewN q).alloc (.cells (roomU n) 46)).alloc (.cells #[.slice (some ⟨w.heap.size, 0, none⟩) n n] 48)) nowhere) := Lib.hid (fun q =>
    ((Turn.drewN w q nowhere).trans (Turn.alloc _ _ nowhere) (fun _ _ h => h)).trans (Turn.alloc _ _ nowhere) (fun _ _ h => h))
  have HMO := Lib.hid (fun W => made_own W n (by omega))
  clear hok hc hl hz hc' hsz hlen h8 hs hb
  refine (callsIn_wide (n := 3)).1 ?_
  refine callsIn_of_wp_marks Try.func66 rfl trivial ?_ rfl
  simp only [Try.ntmps66, List.size_toArray, List.length_cons, List.length_nil, Nat.reduceAdd, Nat.reduceSub, Array.replicate_succ, Array.replicate_zero, List.push_toArray, List.append_toArray, List.nil_append, List.cons_append]
  gi_wp2_with (first
    | (refine ⟨trivial, ?_⟩; gi_at_call 70; refine (callsIn_wide.2 HC.out).mono ?_; rintro e w' ⟨rfl, q, rfl⟩)
    | (refine ⟨trivial, ?_⟩; gi_at_call 71; refine (callsIn_wide.2 (HN.out _ (HTm.out q))).mono ?_; rintro e w1 ⟨lb, rfl, hI, hT1⟩))
  have hsz : (((w.drewN q).alloc (.cells (roomU n) 46)).alloc (.cells #[.slice (some ⟨w.heap.size, 0, none⟩) n n] 48)).heap.size = w.heap.size + 2 := by simp [World.size_alloc]
  have hT0 := (HTm.out q).trans hT1 (fun _ _ h => h)
  have o1 := own_turn_any ((HMO.out (w.drewN q)).alloc (.cells #[.slice (some ⟨w.heap.size, 0, none⟩) n n] 48)) hT1 id
  have c1 := hT1.cell (cell_new ((w.drewN q).alloc (.cells (roomU n) 46)) (.slice (some ⟨w.heap.size, 0, none⟩) n n) 48) id
  have f1 := (hT1.frozen (p := ⟨((w.drewN q).alloc (.cells (roomU n) 46)).heap.size, 0, none⟩) (by simp) id).trans (froz_new ((w.drewN q).alloc (.cells (roomU n) 46)) (.slice (some ⟨w.heap.size, 0, none⟩) n n) 48)
  have e1 : ((w.drewN q).alloc (.cells (roomU n) 46)).heap.size = w.heap.size + 1 := by simp [World.size_alloc]
  rw [e1] at c1 f1
  rw [hsz] at hI
  have hz1 := hT1.size
  rw [hsz] at hz1
  have hP : ∀ i, ((w.heap.size + 2 ≤ i ∧ i < w1.heap.size) ∨ ∃ ad, a = some ad ∧ 0 < len ∧ i = ad.block) → i < w1.heap.size := by
    rintro i (h | ⟨ad, h1, h2, rfl⟩)
    · exact h.2
    · have := HAD.out ad h1 h2; omega
  have hG : ∀ i, i = w.heap.size ∨ i = w.heap.size + 1 → ¬ ((w.heap.size + 2 ≤ i ∧ i < w1.heap.size) ∨ ∃ ad, a = some ad ∧ 0 < len ∧ i = ad.block) := by
    rintro i hi (h | ⟨ad, h1, h2, rfl⟩)
    · omega
    · have := HAD.out ad h1 h2; omega
  have HG := Lib.hid hG
  clear hG e1 hsz hmk HMO HN HC
  refine wpIn_rangeFunc_ownG rfl (by decide) (gf := 73) (lb := lb) rfl trivial (enters_of Try.func73 (by kernel_rfl) rfl)
    (iter_stops 2 (by decide) (fun i => (w.heap.size + 2 ≤ i ∧ i < w1.heap.size) ∨ ∃ ad, a = some ad ∧ 0 < len ∧ i = ad.block) l n v lb w1 hI hP) (fun h k => Kept.t h k) (Kept.b hP) (Below.refl _ _) (fun _ => rfl)
    (fun pre W => (W.ownsRow w.heap.size 46 1 (.slice (some ⟨w.heap.size, 0, none⟩) n n) n ((fill l v n pre).map (Value.int .u64)) ∧ W.cell? ⟨w.heap.size + 1, 0, none⟩ = some (.slice (some ⟨w.heap.size, 0, none⟩) n n)) ∧ Below w.heap.size w W)
    (fun _ _ _ => False)
    (OwnFrom.and (fun s A B row hs hg hr => ⟨hs.1.kept hg (.inr (fun e => by have h2 : w1.heap.size ≤ w.heap.size := (hr _ e.symm).1; omega)), hg.cell hs.2 (fun e => by have := (hr _ e.symm).1; simp at this; omega)⟩) (ownFrom_below (Nat.le_refl _) (by omega)))
    (fun _ _ _ _ _ hs _ _ => hs)
    ⟨⟨o1, c1⟩, ⟨hT0.os, hT0.tape, hT0.output, hT0.size, fun i hi => hT0.block i hi id⟩⟩
    (fun x => { tmps := #[.slice a len c, .int .i64 (n : Int), .int .i64 (v : Int), undef, undef, undef, .slice none 0 0, .int .i64 0, .int .i64 0, .pointer (some ⟨w.heap.size + 1, 0, none⟩), .int .i64 (x.1 : Int), .int .u64 (nth l v x.1 : Int), .slice a len c, .int .i64 (n : Int), .int .i64 (v : Int), .int .i64 0, .int .i64 0, .bool false, undef, .int .i64 (n : Int), .slice (some ⟨w.heap.size, 0, none⟩) n n,
      .slice a len c, .int .i64 (n : Int), .int .i64 (v : Int), .func (.func 73) #[] lb, .int .i64 (x.1 : Int), .int .u64 (nth l v x.1 : Int), undef, undef, undef, undef, undef], defers := [] }) ?assign ?body ?done ?stop
  case assign =>
    intro l x W K hK
    gi_wp2
    exact hK
  case body =>
    rintro y pre ⟨i, hi⟩ W ⟨⟨hR, hc⟩, hB⟩ _
    have hcell := hR.cellAt i (by omega)
    rw [List.getElem?_map, List.getElem?_eq_getElem (by rw [fill_len]; exact hi)] at hcell
    simp only [Option.map_some] at hcell
    have hfree := hR.frozenAt i
    have hst := (hR.stored i (.int .u64 (nth l v i : Int))).1
    rw [← List.map_set, ← fill_snoc l v n pre ⟨i, hi⟩] at hst
    have HST := Lib.hid hst
    have HB := Lib.hid hB
    clear hst hR hB c1 f1 o1
    dsimp only
    generalize nth l v i = p at HST ⊢
    generalize (fill l v n pre)[i]'_ = z at hcell
    have hi' : (i : Int) < (n : Int) := by omega
    gi_wp2
    exact ⟨(KeepsOthers.setCell _ _ _).from _, Turn.setCell W ⟨w.heap.size, i, none⟩ _ (S := fun j => ¬ ((w.heap.size + 2 ≤ j ∧ j < w1.heap.size) ∨ ∃ ad, a = some ad ∧ 0 < len ∧ j = ad.block)) (HG.out _ (.inl rfl)),
      ⟨HST.out, Turn.cell (Turn.setCell W ⟨w.heap.size, i, none⟩ _ (S := fun j => j = w.heap.size) rfl) hc (by simp)⟩, HB.out.setCell (p := ⟨w.heap.size, i, none⟩) (Nat.le_refl _) _⟩
  case done =>
    rintro D ys W hD rfl ⟨⟨hR, hc⟩, hB⟩ hK
    gi_wp2
    refine ⟨by simp, .inl ⟨_, _, rfl, run_takeDeferred hK, ?_⟩⟩
    refine ⟨_, results_tmp2 rfl _ _ _, ?_⟩
    exact getX_of (by rw [← fill_all]; exact ownsRow_putObj hR _ hK rfl) (grown_of (hB.trans (belowK_b (w := w) (Nat.le_refl _) W D _ _ (by omega) hK rfl rfl)))
  case stop =>
    rintro D c pre W _ _ h _
    exact h.elim

/-- Get, whatever it is asked. -/
theorem get_any (a : Option Addr) (len c : Nat) (l : List Int) (n v : Int) (w : World) (hs : Seg w a len c l) (hb : Fit 8 l) :
    Calls Try.prog 66 #[.slice a len c, .int .i64 n, .int .i64 v] w (GetX w (getR l n v)) := by
  by_cases h : (getR l n v).1 = 0
  · have hc := (canB_iff n v).1 (by
      cases hc : canB n v with
      | true => rfl
      | false => rw [get_no_can hc] at h; simp at h)
    obtain ⟨v', rfl⟩ := Int.eq_ofNat_of_zero_le hc.2.2.1
    obtain ⟨n', rfl⟩ := Int.eq_ofNat_of_zero_le hc.1
    exact get_yes_any a len c l n' v' w hs hb h
  · exact get_no_any a len c l n v w hs hb h
end Go.Proofs.Ytpcilohiokpmnaa.Pk
