/-
  numbers: the iterator over packed numbers, and what it promises to whatever loop goes over it.
-/
import Derived.Test.YtpcilohiokpmnaaPkPut
import Derived.RangeFuncNested
import Derived.RangeFuncBound
import Derived.RangeFuncCalls
import Derived.RangeFuncLeaves
import Derived.RangeFuncBox
import Derived.Shelf.Abstract
import Derived.Shelf.RegionOpen
import Derived.OwnWalkIn
import Derived.TacticsInMore
import Derived.LoopNIn
import Derived.LoopIn
namespace Go.Proofs.Ytpcilohiokpmnaa.Pk
open Go.RowKit Bs Dv Go.Shelf

attribute [local go_sem] Oper.semAt_some

/-- what a loop's body keeps: the blocks of P -/
def Kept (P : Nat → Prop) (W W' : World) : Prop := Turn W W' (fun i => ¬ P i)
theorem Kept.t {P : Nat → Prop} {A B C : World} (h : Kept P A B) (k : Kept P B C) : Kept P A C := Turn.trans h k (fun _ _ h => h)
theorem Kept.b {P : Nat → Prop} {w : World} (hP : ∀ i, P i → i < w.heap.size) (W : World) (l : Nat) (o o' : Obj) (hl : w.heap.size ≤ l) (_ : W.heap[l]? = some o) (_ : o.isCells = false) (_ : o.isWalk = false) : Kept P W (W.putObj l o') :=
  Turn.of_grown (grownBy_putObj' W l o') (fun i e _ h => by cases e; have := hP _ h; omega)

/-- An iterator value: what it has caught. -/
structure Iter (w : World) (lb : Array Value) (P : Nat → Prop) (l : List Int) (cnt v : Nat) : Prop where
  ex : ∃ Bn Bb Bv a n c, lb = #[.pointer (some ⟨Bn, 0, none⟩), .pointer (some ⟨Bb, 0, none⟩), .pointer (some ⟨Bv, 0, none⟩)] ∧
    w.cell? ⟨Bn, 0, none⟩ = some (.int .i64 (cnt : Int)) ∧ w.cell? ⟨Bb, 0, none⟩ = some (.slice a n c) ∧ w.cell? ⟨Bv, 0, none⟩ = some (.int .i64 (v : Int)) ∧ Seg w a n c l ∧ n ≤ 524288 ∧ cnt * v ≤ 8 * n ∧
    P Bn ∧ P Bb ∧ P Bv ∧ (∀ ad, a = some ad → 0 < n → P ad.block)
  fit : Fit 8 l
  hv : v ≤ 64
  hc : cnt ≤ 65536

theorem Seg.turn {w w' : World} {a : Option Addr} {n c : Nat} {l : List Int} {S : Nat → Prop} (h : Seg w a n c l) (k : Turn w w' S) (hne : ∀ ad, a = some ad → 0 < n → ¬ S ad.block) : Seg w' a n c l :=
  ⟨h.len, h.le, h.cap, h.nil_, fun ad had j u hu => k.cell (h.at_ ad had j u hu) (by
    rw [block_add]
    have hj := (List.getElem?_eq_some_iff.1 hu).1
    rw [List.length_map, h.len] at hj
    exact hne ad had (by omega))⟩

theorem Iter.turn {w w' : World} {lb : Array Value} {P : Nat → Prop} {l : List Int} {cnt v : Nat} {S : Nat → Prop} (h : Iter w lb P l cnt v) (k : Turn w w' S) (hS : ∀ i, P i → ¬ S i) : Iter w' lb P l cnt v := by
  obtain ⟨⟨Bn, Bb, Bv, a, n, c, e, h1, h2, h3, h4, h5, h6, p1, p2, p3, p4⟩, hf, hv, hc⟩ := h
  exact ⟨⟨Bn, Bb, Bv, a, n, c, e, k.cell h1 (hS _ p1), k.cell h2 (hS _ p2), k.cell h3 (hS _ p3), Seg.turn h4 k (fun ad had hn => hS _ (p4 ad had hn)), h5, h6, p1, p2, p3, p4⟩, hf, hv, hc⟩

/-- the number at i -/
def nth (l : List Int) (v i : Nat) : Nat := packN 8 l / 2 ^ (i * v) % 2 ^ v

theorem fin_take_succ (cnt k : Nat) (hk : k < cnt) : (List.finRange cnt).take (k + 1) = (List.finRange cnt).take k ++ [⟨k, hk⟩] := by
  rw [List.take_succ_eq_append_getElem (by simpa using hk)]
  congr 2
  simp
theorem fin_take_len (cnt k : Nat) (hk : k ≤ cnt) : ((List.finRange cnt).take k).length = k := by
  rw [List.length_take, List.length_finRange, Nat.min_eq_left hk]
theorem fin_take_all (cnt : Nat) : (List.finRange cnt).take cnt = List.finRange cnt := List.take_of_length_le (by simp)

set_option maxRecDepth 100000 in
set_option maxHeartbeats 2000000 in
theorem iter1_in (m : Nat) (hm : 1 ≤ m) (y : Nat) (P : Nat → Prop) (b : List Int) (cnt v : Nat) (lb : Array Value) (J Jx : List (Fin cnt) → World → Prop) (B : Nat)
    (hJ : AbidesFrom B J)
    (hY : ∀ pre x W1, J pre W1 → pre.length < cnt → YieldAt Fence.wide (m - 1) Try.prog y #[.int .i64 ((x : Fin cnt).1 : Int), .int .u64 (nth b v x.1 : Int)] W1 fun e W' =>
      (e = .returned (.bool true) ∧ J (pre ++ [x]) W' ∧ Kept P W1 W') ∨ (e = .returned (.bool false) ∧ Jx (pre ++ [x]) W'))
    (W : World) (hI : Iter W lb P b cnt v) (h0 : J [] W) :
    CallsIn Fence.wide m Try.prog 73 (#[.func (.yield y) #[] #[]] ++ lb) W fun e W' => (∃ z, e = .returned z) ∧
      ((∃ ys, ys = List.finRange cnt ∧ J ys W') ∨ (∃ pre, (∃ k, k ≤ cnt ∧ pre = (List.finRange cnt).take k) ∧ Jx pre W')) := by
  have HI := Lib.hid hI
  have hv := hI.hv
  have hcn := hI.hc
  obtain ⟨Bn, Bb, Bv, a, n, c, rfl, h1, h2, h3, h4, h5, h6, p1, p2, p3, p4⟩ := hI.ex
  have HSg := Lib.hid h4
  have HP := Lib.hid p4
  have HP1 := Lib.hid p1
  have HP2 := Lib.hid p2
  have HP3 := Lib.hid p3
  have HJ := Lib.hid hJ
  have HY := Lib.hid hY
  have HFit := Lib.hid hI.fit
  have H6 := Lib.hid h6
  have hb1 := h1
  clear hI h4 p4 p1 p2 p3 hJ hY h6 hb1
  refine callsIn_of_wp Try.func73 rfl trivial ?_ rfl
  simp only [Try.ntmps73, List.size_toArray, List.length_cons, List.length_nil, Nat.reduceAdd, Nat.reduceSub, Array.replicate_succ, Array.replicate_zero, List.push_toArray, List.append_toArray, List.nil_append, List.cons_append]
  gi_wp2
  gi_loopw [7] (fun i wr => ∃ k : Nat, k ≤ cnt ∧ i = .int .i64 k ∧ Hid (J ((List.finRange cnt).take k) wr) ∧ Hid (Kept P W wr)) (fun i _ => cnt - (intOf i).toNat)
  case atStart => exact ⟨0, Nat.zero_le _, rfl, h0, Turn.refl _ _⟩
  case round =>
    obtain ⟨k, hk, rfl, HJs, HK⟩ := hrel
    by_cases hlt : k < cnt
    · have c2 := HK.out.cell h2 (fun h => h HP2.out)
      have c3 := HK.out.cell h3 (fun h => h HP3.out)
      have hs := Seg.turn HSg.out HK.out (fun ad had hn h => h (HP.out ad had hn))
      have hkv : k * v + v ≤ 8 * n := by
        have h1 : (k + 1) * v ≤ cnt * v := Nat.mul_le_mul_right _ hlt
        rw [Nat.add_mul, Nat.one_mul] at h1
        have := H6.out
        omega
      have HTK := Lib.hid (take_any a n c b (k * v) v wr hs HFit.out h5 hv hkv)
      have e1 : (k : Int) * (v : Int) = ((k * v : Nat) : Int) := by rw [Int.natCast_mul]
      have hb : k * v ≤ 4194304 := by omega
      have HN : Hid (packN 8 b / 2 ^ (k * v) % 2 ^ v = nth b v k) := Lib.hid rfl
      rw [HN.out] at HTK
      clear hs hkv HN
      generalize k * v = kv at HTK e1 hb
      obtain ⟨p, hp⟩ : ∃ p, nth b v k = p := ⟨_, rfl⟩
      rw [hp] at HTK
      have HPp := Lib.hid hp
      clear hp
      gi_wp2_with ((refine ⟨trivial, ?_⟩; gi_at_call 72; refine (callsIn_wide.2 HTK.out).mono ?_; rintro e w' ⟨rfl, q, rfl⟩; have hJ2 := HJ.out _ _ (wr.drewN q) none HJs.out ⟨rfl, rfl, rfl, Nat.le_refl _, fun _ _ _ => rfl⟩ (fun _ e => by cases e); obtain ⟨fn, tmps, assign, body, hy, hR⟩ := HY.out _ ⟨k, hlt⟩ _ hJ2 (by rw [fin_take_len _ _ hk]; exact hlt); dsimp only at hy; rw [HPp.out] at hy))
      refine hR.mono ?_
      rintro e W3 (⟨rfl, hJ3, hk3⟩ | ⟨rfl, hJx3⟩)
      · have HJ3 := Lib.hid hJ3
        have HK3 := Lib.hid (Kept.t (Kept.t HK.out (Turn.drewN wr q _)) hk3)
        clear hJ3 hk3 hR hy hJ2
        gi_wp2
        go_roundw
        case rel => exact ⟨k + 1, by omega, by go_num, Lib.hid (by rw [fin_take_succ cnt k hlt]; exact HJ3.out), HK3⟩
        case measure => simp [intOf]; omega
      · have HJ3 := Lib.hid hJx3
        clear hJx3 hR hy hJ2
        gi_wp2
        refine bodyPost_ret (results_none rfl _ _ _) rfl ?_
        exact ⟨⟨_, rfl⟩, .inr ⟨_, ⟨k + 1, by omega, (fin_take_succ cnt k hlt).symm⟩, HJ3.out⟩⟩
    · obtain rfl : k = cnt := by omega
      gi_wp2
      go_end0
      exact ⟨⟨_, rfl⟩, .inl ⟨_, rfl, by rw [← fin_take_all]; exact HJs.out⟩⟩

/-- The iterator goes over all the numbers, or, being left, over the first ones. -/
theorem iter_stops (m : Nat) (hm : 1 ≤ m) (P : Nat → Prop) (b : List Int) (cnt v : Nat) (lb : Array Value) (w : World) (hI : Iter w lb P b cnt v) (hP : ∀ i, P i → i < w.heap.size) :
    SeqStopsK Fence.wide m Try.prog 73 lb (fun x : Fin cnt => #[.int .i64 (x.1 : Int), .int .u64 (nth b v x.1 : Int)]) (Kept P) (fun ys => ys = List.finRange cnt) (fun pre => ∃ k, k ≤ cnt ∧ pre = (List.finRange cnt).take k) cnt w :=
  fun l J Jx W hW hJ _ hY h0 => iter1_in m hm l P b cnt v lb J Jx W.heap.size hJ hY W (hI.turn (S := fun i => w.heap.size ≤ i) ⟨hW.os, hW.tape, hW.output, hW.size, fun k hk _ => hW.block k hk⟩ (fun i hi h => by have := hP i hi; omega)) h0

set_option maxHeartbeats 1000000 in
/-- numbers: three boxes, and the closure that has caught them. -/
theorem numbers_any (a : Option Addr) (n c : Nat) (cnt v : Int) (w : World) :
    Calls Try.prog 71 #[.slice a n c, .int .i64 cnt, .int .i64 v] w fun e w' =>
      e = .returned (.func (.func 73) #[] #[.pointer (some ⟨w.heap.size + 1, 0, none⟩), .pointer (some ⟨w.heap.size, 0, none⟩), .pointer (some ⟨w.heap.size + 1 + 1, 0, none⟩)]) ∧
      w' = (((w.alloc (.cells #[.slice a n c] 23)).alloc (.cells #[.int .i64 cnt] 3)).alloc (.cells #[.int .i64 v] 3)) := by
  have hmf : ∀ (fn : Fn) (first cap : Array Value) (w : World), (Instr.makeFunc fn first cap).run Try.prog w = .ok (.func fn first cap) w := fun _ _ _ _ => rfl
  go_enter Try.func71, Try.ntmps71
  go_wp2
  go_ret
  exact ⟨rfl, rfl⟩

/-- what numbers hands back is an iterator over the numbers of l -/
theorem numbers_iter (a : Option Addr) (n c cnt v : Nat) (l : List Int) (w : World) (hs : Seg w a n c l) (hb : Fit 8 l) (hv : v ≤ 64) (hc : cnt ≤ 65536) (hn : n ≤ 524288) (hk : cnt * v ≤ 8 * n) :
    Calls Try.prog 71 #[.slice a n c, .int .i64 cnt, .int .i64 v] w fun e w' =>
      ∃ lb, e = .returned (.func (.func 73) #[] lb) ∧ Iter w' lb (fun i => (w.heap.size ≤ i ∧ i < w'.heap.size) ∨ ∃ ad, a = some ad ∧ 0 < n ∧ i = ad.block) l cnt v ∧ Turn w w' nowhere := by
  refine (numbers_any a n c cnt v w).mono ?_
  rintro e w' ⟨rfl, rfl⟩
  have b1 := cell_new w (.slice a n c) 23
  have b2 := cell_new (w.alloc (.cells #[.slice a n c] 23)) (.int .i64 (cnt : Int)) 3
  have b3 := cell_new ((w.alloc (.cells #[.slice a n c] 23)).alloc (.cells #[.int .i64 (cnt : Int)] 3)) (.int .i64 (v : Int)) 3
  simp only [World.size_alloc] at b2 b3
  have up : ∀ {W : World} {B : Nat} {x : Value} (o : Obj), W.cell? ⟨B, 0, none⟩ = some x → (W.alloc o).cell? ⟨B, 0, none⟩ = some x := fun {W B x} o h => (Turn.alloc W o nowhere).cell h id
  have hT : Turn w (((w.alloc (.cells #[.slice a n c] 23)).alloc (.cells #[.int .i64 (cnt : Int)] 3)).alloc (.cells #[.int .i64 (v : Int)] 3)) nowhere :=
    ((Turn.alloc w _ nowhere).trans (Turn.alloc _ _ nowhere) (fun _ _ h => h)).trans (Turn.alloc _ _ nowhere) (fun _ _ h => h)
  refine ⟨_, rfl, ⟨⟨w.heap.size + 1, w.heap.size, w.heap.size + 1 + 1, a, n, c, rfl, up _ b2, up _ (up _ b1), b3, Seg.turn hs hT (fun _ _ _ => id), hn, hk, ?_, ?_, ?_, fun ad e hn => .inr ⟨ad, e, hn, rfl⟩⟩, hb, hv, hc⟩, hT⟩
  all_goals
    left
    simp only [World.size_alloc]
    omega
end Go.Proofs.Ytpcilohiokpmnaa.Pk
