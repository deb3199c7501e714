/-
  What the program's and the document's functions do, in memory and as plain functions: PkIter, PkGet, PkForm, PkRPut, PkRGet, Feed, NuIter, NuCount.
-/
import Derived.RangeFuncNested
import Derived.RangeFuncBound
import Derived.RangeFuncCalls
import Derived.RangeFuncLeaves
import Derived.RangeFuncBox
import Derived.Shelf.Abstract
import Derived.Shelf.RegionOpen
import Derived.OwnWalkIn
import Derived.TacticsInMore
import Derived.LoopNIn
import Derived.LoopIn
import Derived.Test.YtljanfnhmhimiaaGreatSmB
import Derived.Test.YtljanfnhmhimiaaGreatSmD
import Derived.Test.YtljanfnhmhimiaaGreatSmI

namespace Go.Proofs.YtljanfnhmhimiaaGreat.Pk
open Go.RowKit Bs Dv Go.Shelf

attribute [local go_sem] Oper.semAt_some

/-- what a loop's body keeps: the blocks of P -/
def Kept (P : Nat → Prop) (W W' : World) : Prop := Turn W W' (fun i => ¬ P i)
theorem Kept.t {P : Nat → Prop} {A B C : World} (h : Kept P A B) (k : Kept P B C) : Kept P A C := Turn.trans h k (fun _ _ h => h)
theorem Kept.b {P : Nat → Prop} {w : World} (hP : ∀ i, P i → i < w.heap.size) (W : World) (l : Nat) (o o' : Obj) (hl : w.heap.size ≤ l) (_ : W.heap[l]? = some o) (_ : o.isCells = false) (_ : o.isWalk = false) : Kept P W (W.putObj l o') :=
  Turn.of_grown (grownBy_putObj' W l o') (fun i e _ h => by cases e; have := hP _ h; omega)

/-- An iterator value: what it has caught. -/
structure Iter (w : World) (lb : Array Value) (P : Nat → Prop) (l : List Int) (cnt v : Nat) : Prop where
  ex : ∃ Bn Bb Bv a n c, lb = #[.pointer (some ⟨Bn, 0, none⟩), .pointer (some ⟨Bb, 0, none⟩), .pointer (some ⟨Bv, 0, none⟩)] ∧
    w.cell? ⟨Bn, 0, none⟩ = some (.int .i64 (cnt : Int)) ∧ w.cell? ⟨Bb, 0, none⟩ = some (.slice a n c) ∧ w.cell? ⟨Bv, 0, none⟩ = some (.int .i64 (v : Int)) ∧ Seg w a n c l ∧ n ≤ 524288 ∧ cnt * v ≤ 8 * n ∧
    P Bn ∧ P Bb ∧ P Bv ∧ (∀ ad, a = some ad → 0 < n → P ad.block)
  fit : Fit 8 l
  hv : v ≤ 64
  hc : cnt ≤ 65536

theorem Seg.turn {w w' : World} {a : Option Addr} {n c : Nat} {l : List Int} {S : Nat → Prop} (h : Seg w a n c l) (k : Turn w w' S) (hne : ∀ ad, a = some ad → 0 < n → ¬ S ad.block) : Seg w' a n c l :=
  ⟨h.len, h.le, h.cap, h.nil_, fun ad had j u hu => k.cell (h.at_ ad had j u hu) (by
    rw [block_add]
    have hj := (List.getElem?_eq_some_iff.1 hu).1
    rw [List.length_map, h.len] at hj
    exact hne ad had (by omega))⟩

theorem Iter.turn {w w' : World} {lb : Array Value} {P : Nat → Prop} {l : List Int} {cnt v : Nat} {S : Nat → Prop} (h : Iter w lb P l cnt v) (k : Turn w w' S) (hS : ∀ i, P i → ¬ S i) : Iter w' lb P l cnt v := by
  obtain ⟨⟨Bn, Bb, Bv, a, n, c, e, h1, h2, h3, h4, h5, h6, p1, p2, p3, p4⟩, hf, hv, hc⟩ := h
  exact ⟨⟨Bn, Bb, Bv, a, n, c, e, k.cell h1 (hS _ p1), k.cell h2 (hS _ p2), k.cell h3 (hS _ p3), Seg.turn h4 k (fun ad had hn => hS _ (p4 ad had hn)), h5, h6, p1, p2, p3, p4⟩, hf, hv, hc⟩

/-- the number at i -/
def nth (l : List Int) (v i : Nat) : Nat := packN 8 l / 2 ^ (i * v) % 2 ^ v

theorem fin_take_succ (cnt k : Nat) (hk : k < cnt) : (List.finRange cnt).take (k + 1) = (List.finRange cnt).take k ++ [⟨k, hk⟩] := by
  rw [List.take_succ_eq_append_getElem (by simpa using hk)]
  congr 2
  simp
theorem fin_take_len (cnt k : Nat) (hk : k ≤ cnt) : ((List.finRange cnt).take k).length = k := by
  rw [List.length_take, List.length_finRange, Nat.min_eq_left hk]
theorem fin_take_all (cnt : Nat) : (List.finRange cnt).take cnt = List.finRange cnt := List.take_of_length_le (by simp)

set_option maxRecDepth 100000 in
set_option maxHeartbeats 2000000 in
theorem iter1_in (m : Nat) (hm : 1 ≤ m) (y : Nat) (P : Nat → Prop) (b : List Int) (cnt v : Nat) (lb : Array Value) (J Jx : List (Fin cnt) → World → Prop) (B : Nat)
    (hJ : AbidesFrom B J)
    (hY : ∀ pre x W1, J pre W1 → pre.length < cnt → YieldAt Fence.wide (m - 1) Tryz.prog y #[.int .i64 ((x : Fin cnt).1 : Int), .int .u64 (nth b v x.1 : Int)] W1 fun e W' =>
      (e = .returned (.bool true) ∧ J (pre ++ [x]) W' ∧ Kept P W1 W') ∨ (e = .returned (.bool false) ∧ Jx (pre ++ [x]) W'))
    (W : World) (hI : Iter W lb P b cnt v) (h0 : J [] W) :
    CallsIn Fence.wide m Tryz.prog 167 (#[.func (.yield y) #[] #[]] ++ lb) W fun e W' => (∃ z, e = .returned z) ∧
      ((∃ ys, ys = List.finRange cnt ∧ J ys W') ∨ (∃ pre, (∃ k, k ≤ cnt ∧ pre = (List.finRange cnt).take k) ∧ Jx pre W')) := by
  have HI := Lib.hid hI
  have hv := hI.hv
  have hcn := hI.hc
  obtain ⟨Bn, Bb, Bv, a, n, c, rfl, h1, h2, h3, h4, h5, h6, p1, p2, p3, p4⟩ := hI.ex
  have HSg := Lib.hid h4
  have HP := Lib.hid p4
  have HP1 := Lib.hid p1
  have HP2 := Lib.hid p2
  have HP3 := Lib.hid p3
  have HJ := Lib.hid hJ
  have HY := Lib.hid hY
  have HFit := Lib.hid hI.fit
  have H6 := Lib.hid h6
  have hb1 := h1
  clear hI h4 p4 p1 p2 p3 hJ hY h6 hb1
  refine callsIn_of_wp Tryz.func167 rfl trivial ?_ rfl
  simp only [Tryz.ntmps167, List.size_toArray, List.length_cons, List.length_nil, Nat.reduceAdd, Nat.reduceSub, Array.replicate_succ, Array.replicate_zero, List.push_toArray, List.append_toArray, List.nil_append, List.cons_append]
  gi_wp2
  gi_loopw [7] (fun i wr => ∃ k : Nat, k ≤ cnt ∧ i = .int .i64 k ∧ Hid (J ((List.finRange cnt).take k) wr) ∧ Hid (Kept P W wr)) (fun i _ => cnt - (intOf i).toNat)
  case atStart => exact ⟨0, Nat.zero_le _, rfl, h0, Turn.refl _ _⟩
  case round =>
    obtain ⟨k, hk, rfl, HJs, HK⟩ := hrel
    by_cases hlt : k < cnt
    · have c2 := HK.out.cell h2 (fun h => h HP2.out)
      have c3 := HK.out.cell h3 (fun h => h HP3.out)
      have hs := Seg.turn HSg.out HK.out (fun ad had hn h => h (HP.out ad had hn))
      have hkv : k * v + v ≤ 8 * n := by
        have h1 : (k + 1) * v ≤ cnt * v := Nat.mul_le_mul_right _ hlt
        rw [Nat.add_mul, Nat.one_mul] at h1
        have := H6.out
        omega
      have HTK := Lib.hid (take_any a n c b (k * v) v wr hs HFit.out h5 hv hkv)
      have e1 : (k : Int) * (v : Int) = ((k * v : Nat) : Int) := by rw [Int.natCast_mul]
      have hb : k * v ≤ 4194304 := by omega
      have HN : Hid (packN 8 b / 2 ^ (k * v) % 2 ^ v = nth b v k) := Lib.hid rfl
      rw [HN.out] at HTK
      clear hs hkv HN
      generalize k * v = kv at HTK e1 hb
      obtain ⟨p, hp⟩ : ∃ p, nth b v k = p := ⟨_, rfl⟩
      rw [hp] at HTK
      have HPp := Lib.hid hp
      clear hp
      gi_wp2_with ((refine ⟨trivial, ?_⟩; gi_at_call 166; refine (callsIn_wide.2 HTK.out).mono ?_; rintro e w' ⟨rfl, q, rfl⟩; have hJ2 := HJ.out _ _ (wr.drewN q) none HJs.out ⟨rfl, rfl, rfl, Nat.le_refl _, fun _ _ _ => rfl⟩ (fun _ e => by cases e); obtain ⟨fn, tmps, assign, body, hy, hR⟩ := HY.out _ ⟨k, hlt⟩ _ hJ2 (by rw [fin_take_len _ _ hk]; exact hlt); dsimp only at hy; rw [HPp.out] at hy))
      refine hR.mono ?_
      rintro e W3 (⟨rfl, hJ3, hk3⟩ | ⟨rfl, hJx3⟩)
      · have HJ3 := Lib.hid hJ3
        have HK3 := Lib.hid (Kept.t (Kept.t HK.out (Turn.drewN wr q _)) hk3)
        clear hJ3 hk3 hR hy hJ2
        gi_wp2
        go_roundw
        case rel => exact ⟨k + 1, by omega, by go_num, Lib.hid (by rw [fin_take_succ cnt k hlt]; exact HJ3.out), HK3⟩
        case measure => simp [intOf]; omega
      · have HJ3 := Lib.hid hJx3
        clear hJx3 hR hy hJ2
        gi_wp2
        refine bodyPost_ret (results_none rfl _ _ _) rfl ?_
        exact ⟨⟨_, rfl⟩, .inr ⟨_, ⟨k + 1, by omega, (fin_take_succ cnt k hlt).symm⟩, HJ3.out⟩⟩
    · obtain rfl : k = cnt := by omega
      gi_wp2
      go_end0
      exact ⟨⟨_, rfl⟩, .inl ⟨_, rfl, by rw [← fin_take_all]; exact HJs.out⟩⟩

/-- The iterator goes over all the numbers, or, being left, over the first ones. -/
theorem iter_stops (m : Nat) (hm : 1 ≤ m) (P : Nat → Prop) (b : List Int) (cnt v : Nat) (lb : Array Value) (w : World) (hI : Iter w lb P b cnt v) (hP : ∀ i, P i → i < w.heap.size) :
    SeqStopsK Fence.wide m Tryz.prog 167 lb (fun x : Fin cnt => #[.int .i64 (x.1 : Int), .int .u64 (nth b v x.1 : Int)]) (Kept P) (fun ys => ys = List.finRange cnt) (fun pre => ∃ k, k ≤ cnt ∧ pre = (List.finRange cnt).take k) cnt w :=
  fun l J Jx W hW hJ _ hY h0 => iter1_in m hm l P b cnt v lb J Jx W.heap.size hJ hY W (hI.turn (S := fun i => w.heap.size ≤ i) ⟨hW.os, hW.tape, hW.output, hW.size, fun k hk _ => hW.block k hk⟩ (fun i hi h => by have := hP i hi; omega)) h0

set_option maxHeartbeats 1000000 in
/-- numbers: three boxes, and the closure that has caught them. -/
theorem numbers_any (a : Option Addr) (n c : Nat) (cnt v : Int) (w : World) :
    Calls Tryz.prog 143 #[.slice a n c, .int .i64 cnt, .int .i64 v] w fun e w' =>
      e = .returned (.func (.func 167) #[] #[.pointer (some ⟨w.heap.size + 1, 0, none⟩), .pointer (some ⟨w.heap.size, 0, none⟩), .pointer (some ⟨w.heap.size + 1 + 1, 0, none⟩)]) ∧
      w' = (((w.alloc (.cells #[.slice a n c] 45)).alloc (.cells #[.int .i64 cnt] 3)).alloc (.cells #[.int .i64 v] 3)) := by
  have hmf : ∀ (fn : Fn) (first cap : Array Value) (w : World), (Instr.makeFunc fn first cap).run Tryz.prog w = .ok (.func fn first cap) w := fun _ _ _ _ => rfl
  go_enter Tryz.func143, Tryz.ntmps143
  go_wp2
  go_ret
  exact ⟨rfl, rfl⟩

/-- what numbers hands back is an iterator over the numbers of l -/
theorem numbers_iter (a : Option Addr) (n c cnt v : Nat) (l : List Int) (w : World) (hs : Seg w a n c l) (hb : Fit 8 l) (hv : v ≤ 64) (hc : cnt ≤ 65536) (hn : n ≤ 524288) (hk : cnt * v ≤ 8 * n) :
    Calls Tryz.prog 143 #[.slice a n c, .int .i64 cnt, .int .i64 v] w fun e w' =>
      ∃ lb, e = .returned (.func (.func 167) #[] lb) ∧ Iter w' lb (fun i => (w.heap.size ≤ i ∧ i < w'.heap.size) ∨ ∃ ad, a = some ad ∧ 0 < n ∧ i = ad.block) l cnt v ∧ Turn w w' nowhere := by
  refine (numbers_any a n c cnt v w).mono ?_
  rintro e w' ⟨rfl, rfl⟩
  have b1 := cell_new w (.slice a n c) 45
  have b2 := cell_new (w.alloc (.cells #[.slice a n c] 45)) (.int .i64 (cnt : Int)) 3
  have b3 := cell_new ((w.alloc (.cells #[.slice a n c] 45)).alloc (.cells #[.int .i64 (cnt : Int)] 3)) (.int .i64 (v : Int)) 3
  simp only [World.size_alloc] at b2 b3
  have up : ∀ {W : World} {B : Nat} {x : Value} (o : Obj), W.cell? ⟨B, 0, none⟩ = some x → (W.alloc o).cell? ⟨B, 0, none⟩ = some x := fun {W B x} o h => (Turn.alloc W o nowhere).cell h id
  have hT : Turn w (((w.alloc (.cells #[.slice a n c] 45)).alloc (.cells #[.int .i64 (cnt : Int)] 3)).alloc (.cells #[.int .i64 (v : Int)] 3)) nowhere :=
    ((Turn.alloc w _ nowhere).trans (Turn.alloc _ _ nowhere) (fun _ _ h => h)).trans (Turn.alloc _ _ nowhere) (fun _ _ h => h)
  refine ⟨_, rfl, ⟨⟨w.heap.size + 1, w.heap.size, w.heap.size + 1 + 1, a, n, c, rfl, up _ b2, up _ (up _ b1), b3, Seg.turn hs hT (fun _ _ _ => id), hn, hk, ?_, ?_, ?_, fun ad e hn => .inr ⟨ad, e, hn, rfl⟩⟩, hb, hv, hc⟩, hT⟩
  all_goals
    left
    simp only [World.size_alloc]
    omega
end Go.Proofs.YtljanfnhmhimiaaGreat.Pk

namespace Go.Proofs.YtljanfnhmhimiaaGreat.Pk
open Go.RowKit Bs Dv Go.Shelf

attribute [local go_sem] Oper.semAt_some

/-- Get's answer r: its numbers, in new memory, or none and an error. -/
def GetX (w : World) (r : Int × List Int) (e : Ending) (w' : World) : Prop :=
  ∃ a k, e = .returned (.tuple #[.slice a r.2.length k, .int .i64 r.1]) ∧ Us.Seg w' a r.2.length k r.2 ∧ w.grownBy w' none

set_option maxHeartbeats 1000000 in
theorem get_no_any (a : Option Addr) (len c : Nat) (l : List Int) (n v : Int) (w : World) (hs : Seg w a len c l) (hb : Fit 8 l) (hno : ¬ (getR l n v).1 = 0) :
    Calls Tryz.prog 104 #[.slice a len c, .int .i64 n, .int .i64 v] w (GetX w (getR l n v)) := by
  have h2 := get_no l n v hno
  have HC := Lib.hid (check_any a len c l n v w hs hb)
  obtain ⟨R, hR⟩ : ∃ R, getR l n v = R := ⟨_, rfl⟩
  rw [hR] at hno h2 HC ⊢
  obtain ⟨E, L⟩ := R
  obtain rfl : L = [] := h2
  replace hno : ¬ E = 0 := hno
  have e0 : (E == 0) = false := by simp; exact hno
  have e1 : (E != 0) = true := by simp; exact hno
  have HX : Hid (∀ q, GetX w (E, []) (.returned (.tuple #[.slice none 0 0, .int .i64 E])) (w.drewN q)) := Lib.hid (fun q => ⟨none, 0, rfl, Us.Seg.nil _, ⟨rfl, rfl, rfl, Nat.le_refl _, fun _ _ _ => rfl⟩⟩)
  clear hR hno hs hb
  dsimp only at HC
  go_enter Tryz.func104, Tryz.ntmps104
  go_wp2_with (go_at_call 142; refine HC.out.mono ?_; rintro e w' ⟨rfl, q, rfl⟩)
  go_ret2
  exact HX.out _

def roomU (S : Nat) : Array Value := madeCells (Value.int .u64 0).cells S
theorem roomU_size (S : Nat) : (roomU S).size = S := size_madeCells _ _
theorem roomU_list (S : Nat) : (roomU S).toList = (List.replicate S (0 : Int)).map (Value.int .u64) := by
  rw [List.map_replicate]; exact toList_madeCells_one _ _
theorem make_nums (S : Nat) (hS : S ≤ 100000000) (W : World) : (Instr.makeSlice 88 (.int .i64 (S : Int)) (.int .i64 (S : Int))).run Tryz.prog W = .ok (.slice (some ⟨W.heap.size, 0, none⟩) S S) (W.alloc (.cells (roomU S) 85)) := by
  obtain ⟨i0, hi, hz0, hz1, hz2⟩ := info_parts Us.info_u64
  have h := run_make (P := Tryz.prog) W 88 85 i0 (.int .u64 0) Tryz.underlying88 hi hz0 .i64 .i64 (S : Int) (S : Int) (by omega) (by omega) (by rw [hz2]; omega) (by omega)
  rw [hz1, Int.toNat_natCast, Nat.mul_one] at h
  exact h
theorem made_own (W : World) (S : Nat) (hS : S ≤ 100000000) : (W.alloc (.cells (roomU S) 85)).ownsRow W.heap.size 85 1 (.slice (some ⟨W.heap.size, 0, none⟩) S S) S ((List.replicate S (0 : Int)).map (Value.int .u64)) :=
  ⟨by simp, .inr ⟨W.heap.size, S, roomU S, rfl, Nat.le_refl _, heap_alloc_new W _, Nat.le_refl _, by unfold maxLen; omega, by rw [roomU_size, Nat.mul_one], by rw [roomU_list]; exact List.take_of_length_le (by simp)⟩⟩

/-- what has been filled in -/
def fill (l : List Int) (v cnt : Nat) (pre : List (Fin cnt)) : List Int := pre.foldl (fun r x => r.set x.1 (nth l v x.1 : Int)) (List.replicate cnt 0)
theorem fill_snoc (l : List Int) (v cnt : Nat) (pre : List (Fin cnt)) (x : Fin cnt) : fill l v cnt (pre ++ [x]) = (fill l v cnt pre).set x.1 (nth l v x.1 : Int) := by simp [fill]
theorem fill_len (l : List Int) (v cnt : Nat) (pre : List (Fin cnt)) : (fill l v cnt pre).length = cnt := by
  unfold fill
  suffices h : ∀ (pre : List (Fin cnt)) (r : List Int), (pre.foldl (fun r x => r.set x.1 (nth l v x.1 : Int)) r).length = r.length by rw [h]; simp
  intro pre
  induction pre with
  | nil => intro r; rfl
  | cons x t ih => intro r; rw [List.foldl_cons, ih, List.length_set]
theorem fill_take (l : List Int) (v cnt : Nat) : ∀ k, k ≤ cnt → fill l v cnt ((List.finRange cnt).take k) = getL v (packN 8 l) k ++ List.replicate (cnt - k) 0 := by
  intro k
  induction k with
  | zero => intro _; simp [fill, getL_zero]
  | succ k ih =>
    intro hk
    rw [fin_take_succ cnt k hk, fill_snoc, ih (by omega), getL_snoc]
    have e : cnt - k = (cnt - (k + 1)) + 1 := by omega
    rw [e, List.replicate_succ, List.set_append_right _ _ (by rw [getL_length]; exact Nat.le_refl _), getL_length, Nat.sub_self, List.set_cons_zero, List.append_assoc]
    rfl
theorem fill_all (l : List Int) (v cnt : Nat) : fill l v cnt (List.finRange cnt) = getL v (packN 8 l) cnt := by
  have h := fill_take l v cnt cnt (Nat.le_refl _)
  rwa [fin_take_all, Nat.sub_self, List.replicate_zero, List.append_nil] at h

theorem getX_of {w w' : World} {v N n : Nat} (h : w'.ownsRow w.heap.size 85 1 (.slice (some ⟨w.heap.size, 0, none⟩) n n) n ((getL v N n).map (Value.int .u64))) (hg : w.grownBy w' none) :
    GetX w ((0 : Int), getL v N n) (.returned (.tuple #[.slice (some ⟨w.heap.size, 0, none⟩) n n, .int .i64 0])) w' := by
  have e : (((0 : Int), getL v N n) : Int × List Int).2.length = n := getL_length v N n
  refine ⟨some ⟨w.heap.size, 0, none⟩, n, by rw [e], ?_, hg⟩
  rw [e]
  exact Us.Seg.own h

theorem own_turn_any {w w' : World} {base e size n g c : Nat} {xs : List Value} {S : Nat → Prop} (h : w.ownsRow base e size (.slice (some ⟨g, 0, none⟩) n c) n xs) (k : Turn w w' S) (hS : ¬ S g) : w'.ownsRow base e size (.slice (some ⟨g, 0, none⟩) n c) n xs := by
  refine ⟨h.1, ?_⟩
  rcases h.2 with ⟨e1, _⟩ | ⟨g', cap, cur, e1, hb, hgg, rest⟩
  · cases e1
  · cases e1
    exact .inr ⟨g, c, cur, rfl, hb, (k.block g (Array.getElem?_eq_some_iff.1 hgg).1 hS).trans hgg, rest⟩

set_option maxRecDepth 100000 in
set_option maxHeartbeats 2000000 in
theorem get_yes_any (a : Option Addr) (len c : Nat) (l : List Int) (n v : Nat) (w : World) (hs : Seg w a len c l) (hb : Fit 8 l) (hok : (getR l n v).1 = 0) :
    Calls Tryz.prog 104 #[.slice a len c, .int .i64 (n : Int), .int .i64 (v : Int)] w (GetX w (getR l n v)) := by
  have HC := Lib.hid (check_any a len c l n v w hs hb)
  rw [hok] at HC
  obtain ⟨hc, hl, hz⟩ : canB n v = true ∧ l.length = sizeN n v ∧ packN 8 l / 2 ^ (n * v) = 0 := by
    unfold getR at hok
    by_cases h1 : canB n v = true
    · rw [if_pos h1] at hok
      by_cases h2 : l.length = sizeN (n : Int).toNat (v : Int).toNat ∧ packN 8 l / 2 ^ ((n : Int).toNat * (v : Int).toNat) = 0
      · exact ⟨h1, by simpa only [Int.toNat_natCast] using h2.1, by simpa only [Int.toNat_natCast] using h2.2⟩
      · rw [if_neg h2] at hok; simp at hok
    · rw [if_neg h1] at hok; simp at hok
  rw [get_yes hc hl hz]
  have hc' := (canB_iff _ _).1 hc
  have hsz := sizeF_bd n v
  rw [sizeF_N hc] at hsz
  have hlen := hs.len
  have h8 := size8 n v
  have HN : Hid (∀ W : World, Turn w W nowhere → Calls Tryz.prog 143 #[.slice a len c, .int .i64 (n : Int), .int .i64 (v : Int)] W fun e w' =>
      ∃ lb, e = .returned (.func (.func 167) #[] lb) ∧ Iter w' lb (fun i => (W.heap.size ≤ i ∧ i < w'.heap.size) ∨ ∃ ad, a = some ad ∧ 0 < len ∧ i = ad.block) l n v ∧ Turn W w' nowhere) :=
    Lib.hid (fun W hT => numbers_iter a len c n v l W (Seg.turn hs hT (fun _ _ _ => id)) hb (by omega) (by omega) (by omega) (by omega))
  have hn : n ≤ 65536 := by omega
  have hmk := make_nums n (by omega)
  have HAD : Hid (∀ ad, a = some ad → 0 < len → ad.block < w.heap.size) := Lib.hid (fun ad had h0 => by
    have h := hs.at_ ad had 0 _ (by rw [List.getElem?_map, List.getElem?_eq_getElem (by omega)]; rfl)
    have h2 := World.block_lt_of_cell? w _ h
    rwa [block_add] at h2)
  have HTm : Hid (∀ q, Turn w (((w.drewN q).alloc (.cells (roomU n) 85)).alloc (.cells #[.slice (some ⟨w.heap.size, 0, none⟩) n n] 88)) nowhere) := Lib.hid (fun q =>
    ((Turn.drewN w q nowhere).trans (Turn.alloc _ _ nowhere) (fun _ _ h => h)).trans (Turn.alloc _ _ nowhere) (fun _ _ h => h))
  have HMO := Lib.hid (fun W => made_own W n (by omega))
  clear hok hc hl hz hc' hsz hlen h8 hs hb
  refine (callsIn_wide (n := 3)).1 ?_
  refine callsIn_of_wp_marks Tryz.func104 rfl trivial ?_ rfl
  simp only [Tryz.ntmps104, List.size_toArray, List.length_cons, List.length_nil, Nat.reduceAdd, Nat.reduceSub, Array.replicate_succ, Array.replicate_zero, List.push_toArray, List.append_toArray, List.nil_append, List.cons_append]
  gi_wp2_with (first
    | (refine ⟨trivial, ?_⟩; gi_at_call 142; refine (callsIn_wide.2 HC.out).mono ?_; rintro e w' ⟨rfl, q, rfl⟩)
    | (refine ⟨trivial, ?_⟩; gi_at_call 143; refine (callsIn_wide.2 (HN.out _ (HTm.out q))).mono ?_; rintro e w1 ⟨lb, rfl, hI, hT1⟩))
  have hsz : (((w.drewN q).alloc (.cells (roomU n) 85)).alloc (.cells #[.slice (some ⟨w.heap.size, 0, none⟩) n n] 88)).heap.size = w.heap.size + 2 := by simp [World.size_alloc]
  have hT0 := (HTm.out q).trans hT1 (fun _ _ h => h)
  have o1 := own_turn_any ((HMO.out (w.drewN q)).alloc (.cells #[.slice (some ⟨w.heap.size, 0, none⟩) n n] 88)) hT1 id
  have c1 := hT1.cell (cell_new ((w.drewN q).alloc (.cells (roomU n) 85)) (.slice (some ⟨w.heap.size, 0, none⟩) n n) 88) id
  have f1 := (hT1.frozen (p := ⟨((w.drewN q).alloc (.cells (roomU n) 85)).heap.size, 0, none⟩) (by simp) id).trans (froz_new ((w.drewN q).alloc (.cells (roomU n) 85)) (.slice (some ⟨w.heap.size, 0, none⟩) n n) 88)
  have e1 : ((w.drewN q).alloc (.cells (roomU n) 85)).heap.size = w.heap.size + 1 := by simp [World.size_alloc]
  rw [e1] at c1 f1
  rw [hsz] at hI
  have hz1 := hT1.size
  rw [hsz] at hz1
  have hP : ∀ i, ((w.heap.size + 2 ≤ i ∧ i < w1.heap.size) ∨ ∃ ad, a = some ad ∧ 0 < len ∧ i = ad.block) → i < w1.heap.size := by
    rintro i (h | ⟨ad, h1, h2, rfl⟩)
    · exact h.2
    · have := HAD.out ad h1 h2; omega
  have hG : ∀ i, i = w.heap.size ∨ i = w.heap.size + 1 → ¬ ((w.heap.size + 2 ≤ i ∧ i < w1.heap.size) ∨ ∃ ad, a = some ad ∧ 0 < len ∧ i = ad.block) := by
    rintro i hi (h | ⟨ad, h1, h2, rfl⟩)
    · omega
    · have := HAD.out ad h1 h2; omega
  have HG := Lib.hid hG
  clear hG e1 hsz hmk HMO HN HC
  refine wpIn_rangeFunc_ownG rfl (by decide) (gf := 167) (lb := lb) rfl trivial (enters_of Tryz.func167 (by kernel_rfl) rfl)
    (iter_stops 2 (by decide) (fun i => (w.heap.size + 2 ≤ i ∧ i < w1.heap.size) ∨ ∃ ad, a = some ad ∧ 0 < len ∧ i = ad.block) l n v lb w1 hI hP) (fun h k => Kept.t h k) (Kept.b hP) (Below.refl _ _) (fun _ => rfl)
    (fun pre W => (W.ownsRow w.heap.size 85 1 (.slice (some ⟨w.heap.size, 0, none⟩) n n) n ((fill l v n pre).map (Value.int .u64)) ∧ W.cell? ⟨w.heap.size + 1, 0, none⟩ = some (.slice (some ⟨w.heap.size, 0, none⟩) n n)) ∧ Below w.heap.size w W)
    (fun _ _ _ => False)
    (OwnFrom.and (fun s A B row hs hg hr => ⟨hs.1.kept hg (.inr (fun e => by have h2 : w1.heap.size ≤ w.heap.size := (hr _ e.symm).1; omega)), hg.cell hs.2 (fun e => by have := (hr _ e.symm).1; simp at this; omega)⟩) (ownFrom_below (Nat.le_refl _) (by omega)))
    (fun _ _ _ _ _ hs _ _ => hs)
    ⟨⟨o1, c1⟩, ⟨hT0.os, hT0.tape, hT0.output, hT0.size, fun i hi => hT0.block i hi id⟩⟩
    (fun x => { tmps := #[.slice a len c, .int .i64 (n : Int), .int .i64 (v : Int), undef, undef, undef, .slice none 0 0, .int .i64 0, .int .i64 0, .pointer (some ⟨w.heap.size + 1, 0, none⟩), .int .i64 (x.1 : Int), .int .u64 (nth l v x.1 : Int), .slice a len c, .int .i64 (n : Int), .int .i64 (v : Int), .int .i64 0, .int .i64 0, .bool false, undef, .int .i64 (n : Int), .slice (some ⟨w.heap.size, 0, none⟩) n n,
      .slice a len c, .int .i64 (n : Int), .int .i64 (v : Int), .func (.func 167) #[] lb, .int .i64 (x.1 : Int), .int .u64 (nth l v x.1 : Int), undef, undef, undef, undef, undef], defers := [] }) ?assign ?body ?done ?stop
  case assign =>
    intro l x W K hK
    gi_wp2
    exact hK
  case body =>
    rintro y pre ⟨i, hi⟩ W ⟨⟨hR, hc⟩, hB⟩ _
    have hcell := hR.cellAt i (by omega)
    rw [List.getElem?_map, List.getElem?_eq_getElem (by rw [fill_len]; exact hi)] at hcell
    simp only [Option.map_some] at hcell
    have hfree := hR.frozenAt i
    have hst := (hR.stored i (.int .u64 (nth l v i : Int))).1
    rw [← List.map_set, ← fill_snoc l v n pre ⟨i, hi⟩] at hst
    have HST := Lib.hid hst
    have HB := Lib.hid hB
    clear hst hR hB c1 f1 o1
    dsimp only
    generalize nth l v i = p at HST ⊢
    generalize (fill l v n pre)[i]'_ = z at hcell
    have hi' : (i : Int) < (n : Int) := by omega
    gi_wp2
    exact ⟨(KeepsOthers.setCell _ _ _).from _, Turn.setCell W ⟨w.heap.size, i, none⟩ _ (S := fun j => ¬ ((w.heap.size + 2 ≤ j ∧ j < w1.heap.size) ∨ ∃ ad, a = some ad ∧ 0 < len ∧ j = ad.block)) (HG.out _ (.inl rfl)),
      ⟨HST.out, Turn.cell (Turn.setCell W ⟨w.heap.size, i, none⟩ _ (S := fun j => j = w.heap.size) rfl) hc (by simp)⟩, HB.out.setCell (p := ⟨w.heap.size, i, none⟩) (Nat.le_refl _) _⟩
  case done =>
    rintro D ys W hD rfl ⟨⟨hR, hc⟩, hB⟩ hK
    gi_wp2
    refine ⟨by simp, .inl ⟨_, _, rfl, run_takeDeferred hK, ?_⟩⟩
    refine ⟨_, results_tmp2 rfl _ _ _, ?_⟩
    exact getX_of (by rw [← fill_all]; exact ownsRow_putObj hR _ hK rfl) (grown_of (hB.trans (belowK_b (w := w) (Nat.le_refl _) W D _ _ (by omega) hK rfl rfl)))
  case stop =>
    rintro D c pre W _ _ h _
    exact h.elim

/-- Get, whatever it is asked. -/
theorem get_any (a : Option Addr) (len c : Nat) (l : List Int) (n v : Int) (w : World) (hs : Seg w a len c l) (hb : Fit 8 l) :
    Calls Tryz.prog 104 #[.slice a len c, .int .i64 n, .int .i64 v] w (GetX w (getR l n v)) := by
  by_cases h : (getR l n v).1 = 0
  · have hc := (canB_iff n v).1 (by
      cases hc : canB n v with
      | true => rfl
      | false => rw [get_no_can hc] at h; simp at h)
    obtain ⟨v', rfl⟩ := Int.eq_ofNat_of_zero_le hc.2.2.1
    obtain ⟨n', rfl⟩ := Int.eq_ofNat_of_zero_le hc.1
    exact get_yes_any a len c l n' v' w hs hb h
  · exact get_no_any a len c l n v w hs hb h
end Go.Proofs.YtljanfnhmhimiaaGreat.Pk

namespace Go.Proofs.YtljanfnhmhimiaaGreat.Pk
open Go.RowKit Bs Dv

theorem below_of {w w' : World} (h : Turn w w' nowhere) : Below w.heap.size w w' := ⟨h.os, h.tape, h.output, h.size, fun k hk => h.block k hk id⟩
theorem turn_of {w w' : World} (h : w.grownBy w' none) : Turn w w' nowhere := Turn.of_grown h (fun _ e => by cases e)
theorem Turn.then {a b c : World} (h : Turn a b nowhere) (k : Turn b c nowhere) : Turn a c nowhere := Turn.trans h k (fun _ _ h => h)
/-- a result of bytes and an error -/
def PutF (w : World) (m : Nat) (E : Int) (B : List Int) (e : Ending) (w' : World) : Prop :=
  ∃ a k, e = .returned (.tuple #[.slice a m k, .int .i64 E]) ∧ Seg w' a m k B ∧ Turn w w' nowhere
/-- a result of numbers and an error -/
def GetF (w : World) (m : Nat) (E : Int) (B : List Int) (e : Ending) (w' : World) : Prop :=
  ∃ a k, e = .returned (.tuple #[.slice a m k, .int .i64 E]) ∧ Us.Seg w' a m k B ∧ Turn w w' nowhere

theorem put_form {l : List Int} {v E : Int} {B : List Int} {m : Nat} (hR : putR l v = (E, B)) (hm : B.length = m) (hu : IsU l) (a : Option Addr) (n c : Nat) (W : World) (hs : Us.Seg W a n c l) :
    Calls Tryz.prog 50 #[.slice a n c, .int .i64 v] W (PutF W m E B) :=
  (put_any a n c l v W hs hu).mono fun e w' h => by
    rw [hR] at h
    obtain ⟨a', k, he, h1, h2, _⟩ := h
    subst hm
    exact ⟨a', k, he, h1, turn_of h2⟩
/-- the same, and that the bytes are new memory -/
def PutO (w : World) (m : Nat) (E : Int) (B : List Int) (e : Ending) (w' : World) : Prop :=
  ∃ a k, e = .returned (.tuple #[.slice a m k, .int .i64 E]) ∧ Seg w' a m k B ∧ Turn w w' nowhere ∧ (E = 0 → ∃ g, a = some ⟨g, 0, none⟩ ∧ w'.ownsRow w.heap.size 5 1 (.slice (some ⟨g, 0, none⟩) m k) m (B.map (Value.int .u8)))
theorem put_own_form {l : List Int} {v E : Int} {B : List Int} {m : Nat} (hR : putR l v = (E, B)) (hm : B.length = m) (hu : IsU l) (a : Option Addr) (n c : Nat) (W : World) (hs : Us.Seg W a n c l) :
    Calls Tryz.prog 50 #[.slice a n c, .int .i64 v] W (PutO W m E B) :=
  (put_any a n c l v W hs hu).mono fun e w' h => by
    rw [hR] at h
    obtain ⟨a', k, he, h1, h2, h3⟩ := h
    subst hm
    exact ⟨a', k, he, h1, turn_of h2, h3⟩
theorem get_form {l : List Int} {n v E : Int} {B : List Int} {m : Nat} (hR : getR l n v = (E, B)) (hm : B.length = m) (hb : Fit 8 l) (a : Option Addr) (len c : Nat) (W : World) (hs : Seg W a len c l) :
    Calls Tryz.prog 104 #[.slice a len c, .int .i64 n, .int .i64 v] W (GetF W m E B) :=
  (get_any a len c l n v W hs hb).mono fun e w' h => by
    rw [hR] at h
    obtain ⟨a', k, he, h1, h2⟩ := h
    subst hm
    exact ⟨a', k, he, h1, turn_of h2⟩
end Go.Proofs.YtljanfnhmhimiaaGreat.Pk

namespace Go.Proofs.YtljanfnhmhimiaaGreat.Nu
open Go.RowKit Go.Shelf Go
variable {F : Fence} {n : Nat} {P : Program}

/-- a function that hands on e 0, e 1, .. e (N - 1), and returns -/
def Feeds (F : Fence) (n : Nat) (P : Program) (g : Nat) (first lb : Array Value) (e : Nat → Array Value) (N : Nat) (Kp : World → World → Prop) (w : World) : Prop :=
  ∀ (l : Nat) (J : Nat → World → Prop) (W : World), Below w.heap.size w W → AbidesFrom W.heap.size J →
    (∀ k W1, k < N → J k W1 → YieldAt F (n - 1) P l (e k) W1 fun x W' => x = .returned (.bool true) ∧ J (k + 1) W' ∧ Kp W1 W') →
    J 0 W → CallsIn F n P g (first ++ #[.func (.yield l) #[] #[]] ++ lb) W fun x W' => (∃ v, x = .returned v) ∧ J N W'

/-- a round's body goes on -/
def roundOn (B : Nat) (Kp : World → World → Prop) (I : Nat → World → Prop) (k : Nat) (W : World) : Exit → Act → World → Prop
  | .normal, _, W' => KeepsFrom B W W' ∧ Kp W W' ∧ I (k + 1) W'
  | _, _, _ => False

set_option maxRecDepth 100000 in
set_option maxHeartbeats 1000000 in
theorem wpIn_feeds {g : Operand} {ps : Array Tmp} {assign body : Code} {Q : Exit → Act → World → Prop} {a : Act} {w : World}
    (hro : F.round = none) (h1 : 1 ≤ n) {gf : Nat} {first lb : Array Value} (hg : a.eval g = .func (.func gf) first lb) (hFg : F.fn gf) (eg : ∀ args w, (callFunc gf args).run P w = .ok (.enter gf args) w)
    {e : Nat → Array Value} {N : Nat} {Kp : World → World → Prop} {w0 : World} (hf : Feeds F (n - 1) P gf first lb e N Kp w0) (hb0 : Below w0.heap.size w0 w)
    (hKt : ∀ {A B C : World}, Kp A B → Kp B C → Kp A C) (hKb : ∀ (W : World) (l : Nat) (o o' : Obj), w.heap.size ≤ l → W.heap[l]? = some o → o.isCells = false → o.isWalk = false → Kp W (W.putObj l o'))
    (hps : ∀ k, (e k).size = ps.size) (I : Nat → World → Prop) (hI : OwnFrom w.heap.size I) (h0 : I 0 w) (a₁ : Nat → Act)
    (hassign : ∀ (l k : Nat) (W : World) (K : Act → World → Prop), K (a₁ k) W →
      assign.wpIn (F.inRound l) (n - 1 - 1) P (Exit.then K (fun _ _ _ => False)) { tmps := (ps.zip (e k)).foldl (fun t (p, v) => t.setIfInBounds p v) a.tmps, defers := [] } W)
    (hbody : ∀ (l k : Nat) (W : World), k < N → I k W → body.wpIn (F.inRound l) (n - 1 - 1) P (roundOn w.heap.size Kp I k W) (a₁ k) W)
    (hdone : ∀ (D : Nat) (W : World), w.heap.size ≤ D → I N W → W.heap[D]? = some (.deferred (some [])) → Q .normal { a with defers := { target := .collected D, args := #[] } :: a.defers } W) :
    (Code.rangeFunc g ps assign body).wpIn F n P Q a w := by
  refine wpIn_rangeFunc fun fn hfn => ?_
  rw [hro]
  -- the loop's record, block D + 1; the block for deferred calls, D
  obtain ⟨D, hD⟩ : ∃ D, w.heap.size = D := ⟨_, rfl⟩
  let rec' : LoopState → Loop := fun st => { state := st, pending := none, fn, tmps := a.tmps, params := ps, assign, body, defers := D }
  obtain ⟨W1, hW1⟩ : ∃ W1, (w.alloc (.deferred (some []))).alloc (.loop (rec' .ready)) = W1 := ⟨_, rfl⟩
  have hsz : W1.heap.size = D + 2 := by rw [← hW1]; simp [World.size_alloc, hD]
  have hL : W1.heap[D + 1]? = some (.loop (rec' .ready)) := by
    have h := World.alloc_heap_new (w.alloc (.deferred (some []))) (.loop (rec' .ready))
    rw [World.size_alloc, hD, hW1] at h
    exact h
  have hK : W1.heap[D]? = some (.deferred (some [])) := by
    have h := World.alloc_heap_new w (.deferred (some []))
    rw [hD] at h
    rw [← hW1]
    exact (Below.heap_alloc _ _ _ (by simp [hD])).trans h
  have hB1 : Below w0.heap.size w0 W1 := by
    rw [← hW1]
    exact (hb0.alloc hb0.size _).alloc (Nat.le_trans hb0.size (by simp)) _
  have hI1 : I 0 W1 := by rw [← hW1]; exact hI.alloc _ (hI.alloc _ h0)
  -- what stands beside the caller's own word
  let J : Nat → World → Prop := fun k W => I k W ∧ W.heap[D + 1]? = some (.loop (rec' .ready)) ∧ W.heap[D]? = some (.deferred (some []))
  have hJ : AbidesFrom W1.heap.size J := by
    rintro k A B row ⟨j1, j2, j3⟩ hgr hrow
    have hcell : ∀ r, row = some r → w.heap.size ≤ r ∧ ∃ o : Obj, A.heap[r]? = some o ∧ o.isCells = false := fun r er => by
      obtain ⟨hr, o, ho, hw⟩ := hrow r er
      exact ⟨by omega, o, ho, Obj.not_cells_of_walk hw⟩
    have keep := fun {i : Nat} {o : Obj} (hi : A.heap[i]? = some o) (ho : o.isWalk = false) => (grownBy_keeps hgr (fun r er => (hrow r er).2) hi ho).trans hi
    exact ⟨hI k A B row j1 hgr hcell, keep j2 rfl, keep j3 rfl⟩
  have hround : ∀ k W, k < N → J k W → YieldAt F (n - 1 - 1) P (D + 1) (e k) W fun x W' => x = .returned (.bool true) ∧ J (k + 1) W' ∧ Kp W W' := by
    rintro k W hk ⟨j1, j2, j3⟩
    refine ⟨fn, _, assign, body, run_yield (args := e k) j2 (hps k), roundIn_of_wpIn hfn (hassign _ k W _ ⟨_, run_beginRound j2 rfl, ?_⟩)⟩
    have hlt := (Array.getElem?_eq_some_iff.1 j2).1
    have b2 : (W.putObj (D + 1) (.loop (rec' .busy))).heap[D + 1]? = some (.loop (rec' .busy)) := World.putObj_heap_same hlt
    have b3 : (W.putObj (D + 1) (.loop (rec' .busy))).heap[D]? = some (.deferred (some [])) := (World.putObj_heap_other (by omega)).trans j3
    refine wpIn_mono (hbody _ k _ hk (hI.putObj (.loop (rec' .busy)) j1 (by omega) j2 rfl)) ?_
    rintro x a3 W3 hx
    cases x with
    | normal =>
      obtain ⟨x1, x2, x3⟩ := hx
      have c2 := x1.same _ _ (by omega) b2 rfl
      have c3 := x1.same _ _ (by omega) b3 rfl
      refine ⟨_, _, run_endRound none c2, rfl, ⟨hI.putObj _ x3 (by omega) c2 rfl, World.putObj_heap_same (Array.getElem?_eq_some_iff.1 c2).1, (World.putObj_heap_other (by omega)).trans c3⟩, ?_⟩
      exact hKt (hKt (hKb W _ _ _ (by omega) j2 rfl rfl) x2) (hKb W3 _ _ _ (by omega) c2 rfl rfl)
    | ret => exact hx.elim
    | exit => exact hx.elim
    | goto => exact hx.elim
    | panic => exact hx.elim
    | outgrown => exact hx.elim
  refine ⟨D + 1, [{ target := .collected D, args := #[] }], W1, { target := .fn (.func gf) lb, args := first ++ #[.func (.yield (D + 1)) #[] #[]] }, W1, gf, first ++ #[.func (.yield (D + 1)) #[] #[]] ++ lb, W1, ?_, ?_, ?_, ?_, fun _ => h1, ?_⟩
  · have h := run_enterLoop_outer (P := P) (w := w) fn a.tmps ps assign body
    rw [hD] at h
    rw [h, ← hW1]
  · simp only [resolve, hg]
    simp [go_sem]
  · intro f' hf'
    simp [Target.leads] at hf'
    exact hf' ▸ hFg
  · simp [invoke, go_sem, eg]
  · refine (hf (D + 1) J W1 hB1 hJ hround ⟨hI1, hL, hK⟩).mono ?_
    rintro x W2 ⟨⟨v, rfl⟩, j1, j2, j3⟩
    refine ⟨none, _, run_endLoop j2 (by simp [rec']), ?_⟩
    exact hdone D _ (by omega) (hI.putObj _ j1 (by omega) j2 rfl) ((World.putObj_heap_other (by omega)).trans j3)
end Go.Proofs.YtljanfnhmhimiaaGreat.Nu

namespace Go.Proofs.YtljanfnhmhimiaaGreat.Nu
open Go.RowKit Go.Shelf
open Dv (Turn)
open Pk (Kept)

attribute [local go_sem] Oper.semAt_some

theorem bseg_turn {w w' : World} {a : Option Addr} {n c : Nat} {l : List Bool} {S : Nat → Prop} (h : Bl.Seg w a n c l) (k : Turn w w' S) (hne : ∀ ad, a = some ad → 0 < n → ¬ S ad.block) : Bl.Seg w' a n c l :=
  ⟨h.len, h.le, h.cap, h.nil_, fun ad had j u hu => k.cell (h.at_ ad had j u hu) (by
    rw [Dv.block_add]
    have hj := (List.getElem?_eq_some_iff.1 hu).1
    rw [List.length_map, h.len] at hj
    exact hne ad had (by omega))⟩

/-- run k, as yield is handed it -/
def encR (l : List Bool) (k : Nat) : Array Value := #[.int .i64 (((runsL l).getD k (0, false)).1 : Int), .bool ((runsL l).getD k (0, false)).2]

/-- the first i are alike, the next one is not -/
theorem lead_cut {m : List Bool} {i : Nat} (h0 : 0 < i) (hi : i < m.length) (hs : ∀ j, j < i → m.getD j false = m.getD 0 false) (hn : ¬ m.getD i false = m.getD 0 false) : runsL m = (i, m.getD 0 false) :: runsL (m.drop i) := by
  have e : m = List.replicate ((i - 1) + 1) (m.getD 0 false) ++ m.drop i := by
    conv => lhs; rw [← List.take_append_drop i m]
    congr 1
    rw [show i - 1 + 1 = i from by omega]
    apply List.ext_getElem
    · simp; omega
    · intro j h1 h2
      have hj : j < i := by simp at h1; omega
      have h3 := hs j hj
      rw [List.getD_eq_getElem?_getD, List.getElem?_eq_getElem (by omega)] at h3
      rw [List.getElem_take, List.getElem_replicate]
      exact h3
  have := runs_lead (m.getD 0 false) (m.drop i) (fun y t h => by
    have h4 : (m.drop i)[0]? = some y := by rw [h]; rfl
    rw [List.getElem?_drop, Nat.add_zero] at h4
    rw [List.getD_eq_getElem?_getD, h4] at hn
    exact hn) (i - 1)
  rw [← e, show i - 1 + 1 = i from by omega] at this
  exact this
theorem lead_all {m : List Bool} (h0 : 0 < m.length) (hs : ∀ j, j < m.length → m.getD j false = m.getD 0 false) : runsL m = [(m.length, m.getD 0 false)] := by
  have e : m = List.replicate ((m.length - 1) + 1) (m.getD 0 false) ++ [] := by
    rw [List.append_nil, show m.length - 1 + 1 = m.length from by omega]
    apply List.ext_getElem
    · simp
    · intro j h1 h2
      have h3 := hs j h1
      rw [List.getD_eq_getElem?_getD, List.getElem?_eq_getElem h1] at h3
      rw [List.getElem_replicate]
      exact h3
  have := runs_lead (m.getD 0 false) [] (fun y t h => by cases h) (m.length - 1)
  rw [← e, show m.length - 1 + 1 = m.length from by omega] at this
  exact this
/-- what is left of the runs -/
theorem left_at {R S : List (Nat × Bool)} {k : Nat} {q : Nat × Bool} (h : q :: S = R.drop k) : k < R.length ∧ R.getD k (0, false) = q ∧ S = R.drop (k + 1) := by
  have hk : k < R.length := by
    apply Classical.byContradiction
    intro hc
    rw [List.drop_eq_nil_of_le (by omega)] at h
    cases h
  rw [List.drop_eq_getElem_cons hk] at h
  obtain ⟨h1, h2⟩ := List.cons.inj h
  exact ⟨hk, by rw [List.getD_eq_getElem?_getD, List.getElem?_eq_getElem hk, h1]; rfl, h2⟩

set_option maxRecDepth 100000 in
set_option maxHeartbeats 4000000 in
theorem runs_in (m : Nat) (hm : 1 ≤ m) (y : Nat) (P : Nat → Prop) (a : Option Addr) (n c : Nat) (l : List Bool) (J : Nat → World → Prop)
    (hY : ∀ k W1, k < (runsL l).length → J k W1 → YieldAt Fence.wide (m - 1) Tryz.prog y (encR l k) W1 fun x W' => x = .returned (.bool true) ∧ J (k + 1) W' ∧ Kept P W1 W')
    (W : World) (hs : Bl.Seg W a n c l) (hP : ∀ ad, a = some ad → 0 < n → P ad.block) (h0 : J 0 W) :
    CallsIn Fence.wide m Tryz.prog 135 #[.slice a n c, .func (.yield y) #[] #[]] W fun e W' => (∃ z, e = .returned z) ∧ J (runsL l).length W' := by
  have HY := Lib.hid hY
  have HS0 := Lib.hid hs
  have HP0 := Lib.hid hP
  have HJ0 := Lib.hid h0
  clear hY hs hP h0
  refine callsIn_of_wp Tryz.func135 rfl trivial ?_ rfl
  simp only [Tryz.ntmps135, List.size_toArray, List.length_cons, List.length_nil, Nat.reduceAdd, Nat.reduceSub, Array.replicate_succ, Array.replicate_zero, List.push_toArray, List.append_toArray, List.nil_append, List.cons_append]
  refine wpIn_wide.2 ?_
  go_wp2
  go_step3
  go_wp2
  go_step3
  go_wp2
  go_loopw [0] (fun sf wr => ∃ (k : Nat) (a' : Option Addr) (n' c' : Nat) (r : List Bool), sf = .slice a' n' c' ∧ Hid (k ≤ (runsL l).length) ∧ Hid (Bl.Seg W a' n' c' r) ∧ Hid (∀ ad, a' = some ad → 0 < n' → P ad.block) ∧ Hid (runsL r = (runsL l).drop k) ∧ Hid (J k wr) ∧ Hid (Kept P W wr))
    (fun sf _ => match sf with | .slice _ k _ => k | _ => 0)
  case atStart => exact ⟨0, a, n, c, l, rfl, Lib.hid (Nat.zero_le _), HS0, HP0, Lib.hid rfl, HJ0, Lib.hid (Turn.refl _ _)⟩
  case round =>
    obtain ⟨k, a', n', c', r, rfl, HKN, HS, HP, HR, HJ, HK⟩ := hrel
    have hle := HS.out.le
    have hcap := HS.out.cap
    unfold maxLen at hcap
    by_cases hn0 : n' = 0
    · subst hn0
      have HF : Hid (J (runsL l).length wr) := Lib.hid (by
        have hr := HR.out
        rw [List.eq_nil_of_length_eq_zero HS.out.len] at hr
        have h2 := congrArg List.length hr
        rw [List.length_drop] at h2
        have h3 := HKN.out
        have : k = (runsL l).length := by
          have h4 : (runsL []).length = 0 := rfl
          omega
        rw [← this]
        exact HJ.out)
      go_wp2
      rw [Exit.noGoto_normal]
      go_end0
      exact ⟨⟨_, rfl⟩, HF.out⟩
    · obtain ⟨g, o, rfl, hc⟩ := HS.out.addr (by omega)
      have hc0 := hc 0 (by omega)
      rw [Nat.add_zero] at hc0
      obtain ⟨x, hx⟩ : ∃ x, r.getD 0 false = x := ⟨_, rfl⟩
      have HX := Lib.hid hx
      have HL := Lib.hid HS.out.len
      have HC := Lib.hid hc
      rw [hx] at hc0
      have hw0 := HK.out.cell hc0 (fun h => h (HP.out _ rfl (by omega)))
      clear hx hc hc0
      have hn1 : (0 : Int) < (n' : Int) := by omega
      go_wp2
      go_loopw [0, 11] (fun sf si w2 => ∃ i : Nat, i ≤ n' ∧ si = .int .i64 i ∧ sf = .slice (some ⟨g, o, none⟩) n' c' ∧ wr = w2 ∧ Hid (∀ j, j < i → r.getD j false = x)) (fun _ si _ => n' - (intOf si).toNat)
      case atStart => exact ⟨0, Nat.zero_le _, rfl, rfl, rfl, Lib.hid (fun j h => absurd h (Nat.not_lt_zero j))⟩
      case round =>
        obtain ⟨i, hi, rfl, rfl, rfl, HI⟩ := hrel
        by_cases hlt : i < n'
        · have hwi := HK.out.cell (HC.out i hlt) (fun h => h (HP.out ⟨g, o, none⟩ rfl (by omega)))
          by_cases he : r.getD i false = x
          · have HI2 : Hid (∀ j, j < i + 1 → r.getD j false = x) := Lib.hid (fun j hj => by
              by_cases hji : j = i
              · rw [hji]; exact he
              · exact HI.out j (by omega))
            rw [he] at hwi
            clear he
            cases x
            all_goals
              go_wp2
              go_roundw
              case rel => exact ⟨i + 1, by omega, by go_num, rfl, trivial, HI2⟩
              case measure => simp [intOf]; omega
          · have hi0 : 0 < i := by
              rcases Nat.eq_zero_or_pos i with h | h
              · subst h; exact absurd HX.out he
              · exact h
            have HI0 := Lib.hid hi0
            have HCut := Lib.hid (lead_cut (m := r) (i := i) hi0 (by rw [HL.out]; exact hlt) (fun j hj => by rw [HI.out j hj, HX.out]) (by rw [HX.out]; exact he))
            rw [HX.out] at HCut
            obtain ⟨hkN, hq, hrest⟩ := left_at (HCut.out.symm.trans HR.out)
            have hE : encR l k = #[.int .i64 (i : Int), .bool x] := by unfold encR; rw [hq]
            obtain ⟨fn, tmps, assign, body, hy, hR⟩ := HY.out k wr hkN HJ.out
            rw [hE] at hy
            have HKN2 := Lib.hid hkN
            have HRest := Lib.hid hrest
            have HS2 := Lib.hid (HS.out.drop (k := i) (by omega))
            have hci : ¬ c' = i := by omega
            obtain ⟨y2, hy2⟩ : ∃ y, r.getD i false = y := ⟨_, rfl⟩
            rw [hy2] at hwi he
            clear hE hq hkN hrest hy2 hi0
            refine (wpIn_wide (n := m)).1 ?_
            cases x <;> cases y2 <;> first | exact absurd rfl he | skip
            all_goals clear he
            all_goals
              gi_wp2
              refine hR.mono ?_
              rintro e W3 ⟨rfl, hJ3, hk3⟩
              have HJ3 := Lib.hid hJ3
              have HK3 := Lib.hid (Kept.t HK.out hk3)
              clear hJ3 hk3 hR hy
              gi_wp2
              go_roundw
              case rel => exact ⟨k + 1, _, _, _, _, rfl, HKN2, HS2, Lib.hid (fun ad e _ => by cases e; exact HP.out ⟨g, o, none⟩ rfl (by omega)), HRest, HJ3, HK3⟩
              case measure => dsimp only; have := HI0.out; omega
        · obtain rfl : i = n' := by omega
          have HAll := Lib.hid (lead_all (m := r) (by rw [HL.out]; omega) (fun j hj => by rw [HI.out j (by rw [HL.out] at hj; exact hj), HX.out]))
          rw [HX.out, HL.out] at HAll
          obtain ⟨hkN, hq, hrest⟩ := left_at (HAll.out.symm.trans HR.out)
          have hE : encR l k = #[.int .i64 (i : Int), .bool x] := by unfold encR; rw [hq]
          obtain ⟨fn, tmps, assign, body, hy, hR⟩ := HY.out k wr hkN HJ.out
          rw [hE] at hy
          have HN : Hid ((runsL l).length = k + 1) := Lib.hid (by
            have h := congrArg List.length hrest
            rw [List.length_drop] at h
            simp at h
            omega)
          clear hE hq hkN hrest
          refine (wpIn_wide (n := m)).1 ?_
          cases x
          all_goals
            gi_wp2
            refine (wpIn_wide (n := m)).1 ?_
            gi_wp2
            refine hR.mono ?_
            rintro e W3 ⟨rfl, hJ3, hk3⟩
            have HJ3 : Hid (J (runsL l).length W3) := Lib.hid (by rw [HN.out]; exact hJ3)
            clear hJ3 hk3 hR hy
            gi_wp2
            rw [Exit.noGoto_ret]
            refine bodyPost_ret (results_none rfl _ _ _) rfl ?_
            exact ⟨⟨_, rfl⟩, HJ3.out⟩

/-- The runs of flags, handed on one by one. -/
theorem runs_feeds (m : Nat) (hm : 1 ≤ m) (P : Nat → Prop) (a : Option Addr) (n c : Nat) (l : List Bool) (w : World) (hs : Bl.Seg w a n c l) (hP : ∀ ad, a = some ad → 0 < n → P ad.block) (hPw : ∀ i, P i → i < w.heap.size) :
    Feeds Fence.wide m Tryz.prog 135 #[.slice a n c] #[] (encR l) (runsL l).length (Kept P) w :=
  fun y J W hW _ hY h0 => runs_in m hm y P a n c l J hY W (bseg_turn hs (S := fun i => w.heap.size ≤ i) ⟨hW.os, hW.tape, hW.output, hW.size, fun k hk _ => hW.block k hk⟩ (fun ad had hn h => by have := hPw _ (hP ad had hn); omega)) hP h0
end Go.Proofs.YtljanfnhmhimiaaGreat.Nu

namespace Go.Proofs.YtljanfnhmhimiaaGreat.Nu
open Go.RowKit Go.Shelf
open Dv (Turn nowhere)
open Pk (Kept Turn.then)

attribute [local go_sem] Oper.semAt_some

/-- the block of a slice that is not empty -/
def blockOf (a : Option Addr) (n : Nat) (i : Nat) : Prop := ∃ ad, a = some ad ∧ 0 < n ∧ i = ad.block
theorem bseg_lt {w : World} {a : Option Addr} {n c : Nat} {l : List Bool} (h : Bl.Seg w a n c l) : ∀ i, blockOf a n i → i < w.heap.size := by
  rintro i ⟨ad, rfl, h0, rfl⟩
  obtain ⟨g, o, e, hc⟩ := h.addr h0
  cases e
  exact World.block_lt_of_cell? w _ (hc 0 h0)
theorem bseg_stay {w w' : World} {a : Option Addr} {n c : Nat} {l : List Bool} (h : Bl.Seg w a n c l) (k : Turn w w' nowhere) : Bl.Seg w' a n c l := h.grown k.grown
theorem bseg_below {w w' : World} {n₀ : Nat} {a : Option Addr} {n c : Nat} {l : List Bool} (h : Bl.Seg w a n c l) (k : Below n₀ w w') (hn : n₀ = w.heap.size) : Bl.Seg w' a n c l := by
  subst hn
  exact bseg_turn h (S := fun i => w.heap.size ≤ i) ⟨k.os, k.tape, k.output, k.size, fun i hi _ => k.block i hi⟩ (fun ad had h0 hS => by
    have := bseg_lt h ad.block ⟨ad, had, h0, rfl⟩
    omega)
/-- how many of the first k runs are true -/
def cntR (l : List Bool) (k : Nat) : Nat := cnt (flagsR ((runsL l).take k))
theorem cntR_all (l : List Bool) : cntR l (runsL l).length = cnt l := by
  unfold cntR
  rw [List.take_length, runs_join]
theorem cntR_succ (l : List Bool) (k : Nat) (hk : k < (runsL l).length) : cntR l (k + 1) = cntR l k + (if ((runsL l).getD k (0, false)).2 = true then ((runsL l).getD k (0, false)).1 else 0) ∧ cntR l k + ((runsL l).getD k (0, false)).1 ≤ l.length := by
  have h1 := (flags_at _ _ hk).2
  have h2 := flags_len _ _ hk
  rw [runs_join] at h2
  unfold cntR
  have h3 := cnt_le (flagsR ((runsL l).take k))
  rw [h1, cnt_app, cnt_rep]
  exact ⟨rfl, by omega⟩

set_option maxRecDepth 100000 in
set_option maxHeartbeats 4000000 in
theorem count_any (a : Option Addr) (n c : Nat) (l : List Bool) (w : World) (hs : Bl.Seg w a n c l) :
    Calls Tryz.prog 80 #[.slice a n c] w fun e w' => e = .returned (.int .i64 (cnt l : Int)) ∧ Below w.heap.size w w' := by
  have hcap := hs.cap
  have hle := hs.le
  unfold maxLen at hcap
  have hT0 : Turn w (w.alloc (.cells #[.int .i64 0] 3)) nowhere := Turn.alloc w _ _
  have HS1 := Lib.hid (bseg_stay hs hT0)
  have HL := Lib.hid hs.len
  have HLt := Lib.hid (bseg_lt hs)
  have bB := Boxed.new w 3 (.int .i64 0)
  have HB0 : Hid (Below w.heap.size w (w.alloc (.cells #[.int .i64 0] 3))) := Lib.hid ((Below.refl _ w).alloc (Nat.le_refl _) _)
  have hmf : ∀ (fn : Fn) (first cap : Array Value) (w : World), (Instr.makeFunc fn first cap).run Tryz.prog w = .ok (.func fn first cap) w := fun _ _ _ _ => rfl
  have HBB := Lib.hid bB
  clear hs hT0 bB
  refine (callsIn_wide (n := 3)).1 ?_
  refine callsIn_of_wp_marks Tryz.func80 rfl trivial ?_ rfl
  simp only [Tryz.ntmps80, List.size_toArray, List.length_cons, List.length_nil, Nat.reduceAdd, Nat.reduceSub, Array.replicate_succ, Array.replicate_zero, List.push_toArray, List.append_toArray, List.nil_append, List.cons_append]
  gi_wp2
  have hPw : ∀ i, blockOf a n i → i < (w.alloc (.cells #[.int .i64 0] 3)).heap.size := fun i hi => by have := HLt.out i hi; simp; omega
  refine wpIn_feeds rfl (by decide) (gf := 135) (first := #[.slice a n c]) (lb := #[]) rfl trivial (enters_of Tryz.func135 (by kernel_rfl) rfl)
    (runs_feeds 2 (by decide) (blockOf a n) a n c l _ HS1.out (fun ad e h0 => ⟨ad, e, h0, rfl⟩) hPw) (Below.refl _ _) (fun h k => Kept.t h k) (Kept.b hPw) (fun _ => rfl)
    (fun k W => Boxed W w.heap.size 3 (.int .i64 (cntR l k : Int)) ∧ Below w.heap.size w W)
    (OwnFrom.and (Own.from (boxed_own w.heap.size 3 (fun k : Nat => .int .i64 (cntR l k : Int))) _) (ownFrom_below (Nat.le_refl _) (by simp)))
    ⟨HBB.out, HB0.out⟩
    (fun k => { tmps := #[.slice a n c, undef, .int .i64 0, .pointer (some ⟨w.heap.size, 0, none⟩), .int .i64 (((runsL l).getD k (0, false)).1 : Int), .bool ((runsL l).getD k (0, false)).2, .slice a n c, .func (.func 135) #[.slice a n c] #[],
      .int .i64 (((runsL l).getD k (0, false)).1 : Int), .bool ((runsL l).getD k (0, false)).2, undef, undef, undef, undef, undef], defers := [] }) ?assign ?body ?done
  case assign =>
    intro l k W K hK
    unfold encR
    gi_wp2
    exact hK
  case body =>
    rintro y k W hk ⟨hbx, hB⟩
    obtain ⟨h1, h2⟩ := cntR_succ l k hk
    rw [HL.out] at h2
    have HB := Lib.hid hB
    have hfin : ∀ W', Boxed W' w.heap.size 3 (.int .i64 (((cntR l k : Nat) : Int) + (if ((runsL l).getD k (0, false)).2 = true then (((runsL l).getD k (0, false)).1 : Int) else 0))) → Boxed W' w.heap.size 3 (.int .i64 (cntR l (k + 1) : Int)) := fun W' h => by
      rw [h1]
      revert h
      split <;> intro h
      · rw [Int.natCast_add]; exact h
      · simpa using h
    have HFin := Lib.hid hfin
    have hc1 := hbx.cell
    have hf1 := hbx.frozen
    have HBx := Lib.hid hbx
    have HKp : Hid (¬ blockOf a n w.heap.size) := Lib.hid (fun h => by have := HLt.out _ h; omega)
    clear h1 hfin hB hbx
    obtain ⟨z, hz⟩ : ∃ z, cntR l k = z := ⟨_, rfl⟩
    obtain ⟨q, hq⟩ : ∃ q, ((runsL l).getD k (0, false)).1 = q := ⟨_, rfl⟩
    obtain ⟨b, hb⟩ : ∃ b, ((runsL l).getD k (0, false)).2 = b := ⟨_, rfl⟩
    rw [hz, hq, hb] at HFin
    rw [hz, hq] at h2
    rw [hz] at hc1 HBx
    rw [hq, hb]
    clear hz hq hb
    have hw : IntKind.i64.wrap ((z : Int) + (q : Int)) = (z : Int) + (q : Int) := by rw [IntKind.wrap_i64]; omega
    cases b with
    | true =>
      gi_wp2
      exact ⟨(KeepsOthers.setCell _ _ _).from _, Turn.setCell W ⟨w.heap.size, 0, none⟩ _ (fun h => HKp.out h), HFin.out _ (HBx.out.set _), HB.out.setCell (p := ⟨w.heap.size, 0, none⟩) (Nat.le_refl _) _⟩
    | false =>
      gi_wp2
      exact ⟨KeepsFrom.refl _ _, Turn.refl _ _, HFin.out _ (by simpa using HBx.out), HB.out⟩
  case done =>
    rintro D W hD ⟨hbx, hB⟩ hK
    rw [cntR_all] at hbx
    have hc1 := hbx.cell
    have HB : Hid (Below w.heap.size w (W.putObj D (.deferred none))) := Lib.hid (hB.trans (belowK_b (w := w) (Nat.le_refl _) W D _ (.deferred none) (by simp at hD; omega) hK rfl rfl))
    clear hbx hB
    gi_wp2
    refine ⟨by simp, .inl ⟨_, _, rfl, run_takeDeferred hK, ?_⟩⟩
    exact ⟨_, results_tmp rfl _ _ _, rfl, HB.out⟩
end Go.Proofs.YtljanfnhmhimiaaGreat.Nu
