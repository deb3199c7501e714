/-
  What the program's and the document's functions do, in memory and as plain functions: PkIter, PkGet, PkForm, PkRPut, PkRGet, Feed, NuIter, NuCount.
-/
import Derived.RangeFuncNested
import Derived.RangeFuncBound
import Derived.RangeFuncCalls
import Derived.RangeFuncLeaves
import Derived.RangeFuncBox
import Derived.Shelf.Abstract
import Derived.Shelf.RegionOpen
import Derived.OwnWalkIn
import Derived.TacticsInMore
import Derived.LoopNIn
import Derived.LoopIn
import Derived.Test.YtljanfnhmhimiaaGreatSnB
import Derived.Test.YtljanfnhmhimiaaGreatSnD
import Derived.Test.YtljanfnhmhimiaaGreatSnI

namespace Go.Proofs.YtljanfnhmhimiaaGreat.Pk
open Go.RowKit Bs Dv Go.Shelf

attribute [local go_sem] Oper.semAt_some

/-- what a loop's body keeps: the blocks of P -/
def Kept (P : Nat → Prop) (W W' : World) : Prop := Turn W W' (fun i => ¬ P i)
theorem Kept.t {P : Nat → Prop} {A B C : World} (h : Kept P A B) (k : Kept P B C) : Kept P A C := Turn.trans h k (fun _ _ h => h)
theorem Kept.b {P : Nat → Prop} {w : World} (hP : ∀ i, P i → i < w.heap.size) (W : World) (l : Nat) (o o' : Obj) (hl : w.heap.size ≤ l) (_ : W.heap[l]? = some o) (_ : o.isCells = false) (_ : o.isWalk = false) : Kept P W (W.putObj l o') :=
  Turn.of_grown (grownBy_putObj' W l o') (fun i e _ h => by cases e; have := hP _ h; omega)

/-- An iterator value: what it has caught. -/
structure Iter (w : World) (lb : Array Value) (P : Nat → Prop) (l : List Int) (cnt v : Nat) : Prop where
  ex : ∃ Bn Bb Bv a n c, lb = #[.pointer (some ⟨Bn, 0, none⟩), .pointer (some ⟨Bb, 0, none⟩), .pointer (some ⟨Bv, 0, none⟩)] ∧
    w.cell? ⟨Bn, 0, none⟩ = some (.int .i64 (cnt : Int)) ∧ w.cell? ⟨Bb, 0, none⟩ = some (.slice a n c) ∧ w.cell? ⟨Bv, 0, none⟩ = some (.int .i64 (v : Int)) ∧ Seg w a n c l ∧ n ≤ 524288 ∧ cnt * v ≤ 8 * n ∧
    P Bn ∧ P Bb ∧ P Bv ∧ (∀ ad, a = some ad → 0 < n → P ad.block)
  fit : Fit 8 l
  hv : v ≤ 64
  hc : cnt ≤ 65536

theorem Seg.turn {w w' : World} {a : Option Addr} {n c : Nat} {l : List Int} {S : Nat → Prop} (h : Seg w a n c l) (k : Turn w w' S) (hne : ∀ ad, a = some ad → 0 < n → ¬ S ad.block) : Seg w' a n c l :=
  ⟨h.len, h.le, h.cap, h.nil_, fun ad had j u hu => k.cell (h.at_ ad had j u hu) (by
    rw [block_add]
    have hj := (List.getElem?_eq_some_iff.1 hu).1
    rw [List.length_map, h.len] at hj
    exact hne ad had (by omega))⟩

theorem Iter.turn {w w' : World} {lb : Array Value} {P : Nat → Prop} {l : List Int} {cnt v : Nat} {S : Nat → Prop} (h : Iter w lb P l cnt v) (k : Turn w w' S) (hS : ∀ i, P i → ¬ S i) : Iter w' lb P l cnt v := by
  obtain ⟨⟨Bn, Bb, Bv, a, n, c, e, h1, h2, h3, h4, h5, h6, p1, p2, p3, p4⟩, hf, hv, hc⟩ := h
  exact ⟨⟨Bn, Bb, Bv, a, n, c, e, k.cell h1 (hS _ p1), k.cell h2 (hS _ p2), k.cell h3 (hS _ p3), Seg.turn h4 k (fun ad had hn => hS _ (p4 ad had hn)), h5, h6, p1, p2, p3, p4⟩, hf, hv, hc⟩

end Go.Proofs.YtljanfnhmhimiaaGreat.Pk

namespace Go.Proofs.YtljanfnhmhimiaaGreat.Pk
open Go.RowKit Bs Dv Go.Shelf

attribute [local go_sem] Oper.semAt_some

def roomU (S : Nat) : Array Value := madeCells (Value.int .u64 0).cells S
theorem roomU_size (S : Nat) : (roomU S).size = S := size_madeCells _ _
theorem roomU_list (S : Nat) : (roomU S).toList = (List.replicate S (0 : Int)).map (Value.int .u64) := by
  rw [List.map_replicate]; exact toList_madeCells_one _ _
theorem make_nums (S : Nat) (hS : S ≤ 100000000) (W : World) : (Instr.makeSlice 88 (.int .i64 (S : Int)) (.int .i64 (S : Int))).run Tryz.prog W = .ok (.slice (some ⟨W.heap.size, 0, none⟩) S S) (W.alloc (.cells (roomU S) 85)) := by
  obtain ⟨i0, hi, hz0, hz1, hz2⟩ := info_parts Us.info_u64
  have h := run_make (P := Tryz.prog) W 88 85 i0 (.int .u64 0) Tryz.underlying88 hi hz0 .i64 .i64 (S : Int) (S : Int) (by omega) (by omega) (by rw [hz2]; omega) (by omega)
  rw [hz1, Int.toNat_natCast, Nat.mul_one] at h
  exact h
theorem made_own (W : World) (S : Nat) (hS : S ≤ 100000000) : (W.alloc (.cells (roomU S) 85)).ownsRow W.heap.size 85 1 (.slice (some ⟨W.heap.size, 0, none⟩) S S) S ((List.replicate S (0 : Int)).map (Value.int .u64)) :=
  ⟨by simp, .inr ⟨W.heap.size, S, roomU S, rfl, Nat.le_refl _, heap_alloc_new W _, Nat.le_refl _, by unfold maxLen; omega, by rw [roomU_size, Nat.mul_one], by rw [roomU_list]; exact List.take_of_length_le (by simp)⟩⟩

theorem own_turn_any {w w' : World} {base e size n g c : Nat} {xs : List Value} {S : Nat → Prop} (h : w.ownsRow base e size (.slice (some ⟨g, 0, none⟩) n c) n xs) (k : Turn w w' S) (hS : ¬ S g) : w'.ownsRow base e size (.slice (some ⟨g, 0, none⟩) n c) n xs := by
  refine ⟨h.1, ?_⟩
  rcases h.2 with ⟨e1, _⟩ | ⟨g', cap, cur, e1, hb, hgg, rest⟩
  · cases e1
  · cases e1
    exact .inr ⟨g, c, cur, rfl, hb, (k.block g (Array.getElem?_eq_some_iff.1 hgg).1 hS).trans hgg, rest⟩

end Go.Proofs.YtljanfnhmhimiaaGreat.Pk

namespace Go.Proofs.YtljanfnhmhimiaaGreat.Pk
open Go.RowKit Bs Dv

theorem below_of {w w' : World} (h : Turn w w' nowhere) : Below w.heap.size w w' := ⟨h.os, h.tape, h.output, h.size, fun k hk => h.block k hk id⟩
theorem turn_of {w w' : World} (h : w.grownBy w' none) : Turn w w' nowhere := Turn.of_grown h (fun _ e => by cases e)
theorem Turn.then {a b c : World} (h : Turn a b nowhere) (k : Turn b c nowhere) : Turn a c nowhere := Turn.trans h k (fun _ _ h => h)
/-- a result of bytes and an error -/
def PutF (w : World) (m : Nat) (E : Int) (B : List Int) (e : Ending) (w' : World) : Prop :=
  ∃ a k, e = .returned (.tuple #[.slice a m k, .int .i64 E]) ∧ Seg w' a m k B ∧ Turn w w' nowhere
theorem put_form {l : List Int} {v E : Int} {B : List Int} {m : Nat} (hR : putR l v = (E, B)) (hm : B.length = m) (hu : IsU l) (a : Option Addr) (n c : Nat) (W : World) (hs : Us.Seg W a n c l) :
    Calls Tryz.prog 50 #[.slice a n c, .int .i64 v] W (PutF W m E B) :=
  (put_any a n c l v W hs hu).mono fun e w' h => by
    rw [hR] at h
    obtain ⟨a', k, he, h1, h2, _⟩ := h
    subst hm
    exact ⟨a', k, he, h1, turn_of h2⟩
/-- the same, and that the bytes are new memory -/
def PutO (w : World) (m : Nat) (E : Int) (B : List Int) (e : Ending) (w' : World) : Prop :=
  ∃ a k, e = .returned (.tuple #[.slice a m k, .int .i64 E]) ∧ Seg w' a m k B ∧ Turn w w' nowhere ∧ (E = 0 → ∃ g, a = some ⟨g, 0, none⟩ ∧ w'.ownsRow w.heap.size 5 1 (.slice (some ⟨g, 0, none⟩) m k) m (B.map (Value.int .u8)))
theorem put_own_form {l : List Int} {v E : Int} {B : List Int} {m : Nat} (hR : putR l v = (E, B)) (hm : B.length = m) (hu : IsU l) (a : Option Addr) (n c : Nat) (W : World) (hs : Us.Seg W a n c l) :
    Calls Tryz.prog 50 #[.slice a n c, .int .i64 v] W (PutO W m E B) :=
  (put_any a n c l v W hs hu).mono fun e w' h => by
    rw [hR] at h
    obtain ⟨a', k, he, h1, h2, h3⟩ := h
    subst hm
    exact ⟨a', k, he, h1, turn_of h2, h3⟩
end Go.Proofs.YtljanfnhmhimiaaGreat.Pk

namespace Go.Proofs.YtljanfnhmhimiaaGreat.Pk
open Go.RowKit Bs Dv

theorem getL_0 (S : Nat) : getL 8 0 S = List.replicate S 0 := by
  unfold getL
  apply List.ext_getElem
  · simp
  · intro i h1 h2
    simp
/-- one bit more, above all the others -/
theorem getL_set (M p S : Nat) (hM : M < 2 ^ p) (hp : p / 8 < S) : getL 8 (M + 2 ^ p) S = (getL 8 M S).set (p / 8) ((M / 2 ^ (p / 8 * 8) + 2 ^ (p % 8) : Nat) : Int) := by
  have hpe : 2 ^ p = 2 ^ (p / 8 * 8) * 2 ^ (p % 8) := by rw [← Nat.pow_add]; congr 1; omega
  have hT : M / 2 ^ (p / 8 * 8) < 2 ^ (p % 8) := Nat.div_lt_of_lt_mul (by rw [← hpe]; exact hM)
  have h7 : 2 ^ (p % 8) ≤ 2 ^ 7 := Nat.pow_le_pow_right (by decide) (by omega)
  apply List.ext_getElem?
  intro j
  rw [List.getElem?_set]
  by_cases hj : j < S
  · rw [getL_at? 8 _ S j hj]
    by_cases he : p / 8 = j
    · rw [if_pos he, if_pos (by rw [getL_length]; omega), ← he]
      congr 2
      rw [hpe, Nat.add_mul_div_left _ _ (two_pos _)]
      exact Nat.mod_eq_of_lt (by omega)
    · rw [if_neg he, getL_at? 8 _ S j hj]
      congr 2
      by_cases hlt : j < p / 8
      · have e2 : 2 ^ p = 2 ^ (j * 8) * (2 ^ 8 * 2 ^ (p - j * 8 - 8)) := by rw [← Nat.pow_add, ← Nat.pow_add]; congr 1; omega
        rw [e2, Nat.add_mul_div_left _ _ (two_pos _), Nat.add_mul_mod_self_left]
      · have h3 : 2 ^ (p + 1) ≤ 2 ^ (j * 8) := Nat.pow_le_pow_right (by decide) (by omega)
        rw [Nat.pow_succ] at h3
        rw [Nat.div_eq_of_lt (show M + 2 ^ p < 2 ^ (j * 8) by omega), Nat.div_eq_of_lt (show M < 2 ^ (j * 8) by omega)]
  · rw [List.getElem?_eq_none (by rw [getL_length]; omega), if_neg (by omega), List.getElem?_eq_none (by rw [getL_length]; omega)]
theorem or_bit (T r : Nat) (hT : T < 2 ^ r) (hr : r < 8) : bits .or .u8 (T : Int) (2 ^ r % 256) = ((T + 2 ^ r : Nat) : Int) := by
  have h7 : 2 ^ r ≤ 2 ^ 7 := Nat.pow_le_pow_right (by decide) (by omega)
  have e : (2 : Int) ^ r % 256 = ((2 ^ r : Nat) : Int) := by
    rw [show (2 : Int) ^ r = ((2 ^ r : Nat) : Int) from by rw [Int.natCast_pow]; rfl]; omega
  rw [e, u8_or_nat T _ (by omega) (by omega)]
  have := or_add T 1 r hT
  rw [Nat.one_mul] at this
  rw [this]
theorem rem2 (x k : Nat) : ((x : Int) / 2 ^ k).tmod 2 = ((x / 2 ^ k % 2 : Nat) : Int) := by
  have e : (x : Int) / 2 ^ k = ((x / 2 ^ k : Nat) : Int) := by rw [Int.natCast_ediv, Int.natCast_pow]; rfl
  rw [e, Int.tmod_eq_emod_of_nonneg (Int.natCast_nonneg _)]
  omega
theorem bit_acc (x k : Nat) : x % 2 ^ (k + 1) = x % 2 ^ k + x / 2 ^ k % 2 * 2 ^ k := by rw [← acc_at, Nat.pow_one]

theorem make_full (S : Nat) (hS : S ≤ 100000000) (W : World) : (Instr.makeSlice 45 (.int .i64 (S : Int)) (.int .i64 (S : Int))).run Tryz.prog W = .ok (.slice (some ⟨W.heap.size, 0, none⟩) S S) (W.alloc (.cells (room S) 5)) := by
  obtain ⟨i0, hi, hz0, hz1, hz2⟩ := info_parts info_u8
  have h := run_make (P := Tryz.prog) W 45 5 i0 (.int .u8 0) Tryz.underlying45 hi hz0 .i64 .i64 (S : Int) (S : Int) (by omega) (by omega) (by rw [hz2]; omega) (by omega)
  rw [hz1, Int.toNat_natCast, Nat.mul_one] at h
  exact h
theorem full_own (W : World) (S : Nat) (hS : S ≤ 100000000) : (W.alloc (.cells (room S) 5)).ownsRow W.heap.size 5 1 (.slice (some ⟨W.heap.size, 0, none⟩) S S) S ((getL 8 0 S).map (Value.int .u8)) :=
  ⟨by simp [getL_length], .inr ⟨W.heap.size, S, room S, rfl, Nat.le_refl _, heap_alloc_new W _, Nat.le_refl _, by unfold maxLen; omega, by rw [room_size, Nat.mul_one], by
    rw [getL_0, List.map_replicate, show (room S).toList = List.replicate S (.int .u8 0) from toList_madeCells_one _ _]; exact List.take_of_length_le (by simp)⟩⟩

set_option maxHeartbeats 1000000 in
theorem rput_no_any (a : Option Addr) (n c : Nat) (l : List Int) (v : Int) (w : World) (hs : Us.Seg w a n c l) (hu : IsU l) (hno : ¬ (putR l v).1 = 0) :
    Calls Tryz.prog 46 #[.slice a n c, .int .i64 v] w (PutX w (putR l v)) := by
  have hlen := hs.len
  cases hc : canB l.length v with
  | false =>
    have HP := Lib.hid (put_err (putR l v) 2 w (putR_can hc) (by decide))
    have HB : Hid (∀ w, Calls Tryz.prog 77 #[.int .i64 n, .int .i64 v] w fun e w' => e = .returned (.bool false) ∧ w = w') := Lib.hid (fun w => by have := may_any n v w; rwa [← hlen, hc, hlen] at this)
    generalize putR l v = R at HP ⊢
    clear hc hno hs hlen
    go_enter Tryz.func46, Tryz.ntmps46
    go_wp2_with (go_at_call 77; refine (HB.out _).mono ?_; rintro e w' ⟨rfl, rfl⟩)
    go_ret2
    exact HP.out
  | true =>
    have hw : ¬ (wid l : Int) ≤ v := fun h => hno ((put_ok l v).2 ⟨hc, h⟩)
    have HP := Lib.hid (put_err (putR l v) 3 w (putR_wid hc hw) (by decide))
    have HB : Hid (∀ w, Calls Tryz.prog 77 #[.int .i64 n, .int .i64 v] w fun e w' => e = .returned (.bool true) ∧ w = w') := Lib.hid (fun w => by have := may_any n v w; rwa [← hlen, hc, hlen] at this)
    have HW := Lib.hid (rwidth_any a n c l w hs hu)
    have hgt : v < (wid l : Int) := by omega
    have hb := wid_bd hu
    generalize putR l v = R at HP ⊢
    generalize wid l = W at HW hgt hb
    clear hc hno hs hlen hw
    go_enter Tryz.func46, Tryz.ntmps46
    go_wp2_with (first
      | (go_at_call 77; refine (HB.out _).mono ?_; rintro e w' ⟨rfl, rfl⟩)
      | (go_at_call 78; refine HW.out.mono ?_; rintro e w' ⟨rfl, rfl⟩))
    go_ret2
    exact HP.out

theorem putX_own {w w' : World} {g S N : Nat} (h : w'.ownsRow w.heap.size 5 1 (.slice (some ⟨g, 0, none⟩) S S) S ((getL 8 N S).map (Value.int .u8))) (hg : w.grownBy w' none) : PutX w ((0 : Int), getL 8 N S) (.returned (.tuple #[.slice (some ⟨g, 0, none⟩) S S, .int .i64 0])) w' := by
  have e : (((0 : Int), getL 8 N S) : Int × List Int).2.length = S := getL_length 8 N S
  refine ⟨some ⟨g, 0, none⟩, S, by rw [e], ?_, hg, fun _ => ⟨g, rfl, ?_⟩⟩
  · rw [e]; exact Seg.own h
  · rw [e]; exact h

set_option maxHeartbeats 2000000 in
theorem rput_yes_any (a : Option Addr) (n c : Nat) (l : List Int) (v : Nat) (w : World) (hs : Us.Seg w a n c l) (hu : IsU l) (hok : (putR l v).1 = 0) :
    Calls Tryz.prog 46 #[.slice a n c, .int .i64 (v : Int)] w (PutX w (putR l v)) := by
  have hlen := hs.len
  obtain ⟨hc, hw⟩ := (put_ok l v).1 hok
  have hc' := (canB_iff _ _).1 hc
  rw [putR_yes hc hw]
  have hf : Fit v l := (wid_le l v hu.nonneg).1 (by omega)
  have HF := Lib.hid hf
  have HB : Hid (∀ w, Calls Tryz.prog 77 #[.int .i64 n, .int .i64 (v : Int)] w fun e w' => e = .returned (.bool true) ∧ w = w') := Lib.hid (fun w => by have := may_any n v w; rwa [← hlen, hc, hlen] at this)
  have HW := Lib.hid (rwidth_any a n c l w hs hu)
  rw [hlen] at hc hc' ⊢
  have HS : Hid (∀ w, Calls Tryz.prog 79 #[.int .i64 n, .int .i64 (v : Int)] w fun e w' => e = .returned (.int .i64 (sizeN n v : Int)) ∧ w = w') := Lib.hid (fun w => by have := rsize_any n v w; rwa [sizeF_N hc] at this)
  have h8 := size8 n v
  have hszb := sizeF_bd n v
  rw [sizeF_N hc] at hszb
  obtain ⟨S, hS⟩ : ∃ S, sizeN n v = S := ⟨_, rfl⟩
  rw [hS] at HS h8 hszb ⊢
  have H8 := Lib.hid h8
  have hv64 : v ≤ 64 := by omega
  have hnle : n ≤ 65536 := by omega
  have hwb := wid_bd hu
  have HLen := Lib.hid hlen
  have HIU := Lib.hid hu
  have HSg := Lib.hid hs
  obtain ⟨R, hR⟩ : ∃ R, ((0 : Int), getL 8 (packN v l) S) = R := ⟨_, rfl⟩
  rw [hR]
  have HR := Lib.hid hR
  have hwv : (wid l : Int) ≤ (v : Int) := hw
  generalize wid l = W at HW hwv hwb
  have hmk := make_full S (by omega)
  have HO := Lib.hid (full_own w S (by omega))
  have HT0 := Lib.hid (Turn.alloc w (.cells (room S) 5) nowhere)
  have hcap := hs.cap
  have hle := hs.le
  unfold maxLen at hcap
  obtain ⟨gA, o, hform, hcell⟩ := seg_form hs
  have HCell := Lib.hid hcell
  have HForm := Lib.hid hform
  have hSb : S ≤ 524288 := by omega
  clear hcell hform hR hu hs hlen hS hok hc hc' hw hf hszb h8
  go_enter Tryz.func46, Tryz.ntmps46
  go_wp2_with (first
    | (go_at_call 77; refine (HB.out _).mono ?_; rintro e w' ⟨rfl, rfl⟩)
    | (go_at_call 78; refine HW.out.mono ?_; rintro e w' ⟨rfl, rfl⟩)
    | (go_at_call 79; refine (HS.out _).mono ?_; rintro e w' ⟨rfl, rfl⟩))
  clear hmk
  generalize w.alloc (.cells (room S) 5) = W0 at HO HT0 ⊢
  obtain ⟨g, hg⟩ : ∃ g, w.heap.size = g := ⟨_, rfl⟩
  have HG : Hid (w.heap.size = g) := Lib.hid hg
  rw [hg] at HO ⊢
  clear hg
  go_loopw [7] (fun si wr => ∃ i : Nat, i ≤ n ∧ si = .int .i64 i ∧ Hid (wr.ownsRow g 5 1 (.slice (some ⟨g, 0, none⟩) S S) S ((getL 8 (packN v (l.take i)) S).map (Value.int .u8))) ∧ Hid (Turn w wr nowhere)) (fun si _ => n - (intOf si).toNat)
  case atStart => exact ⟨0, Nat.zero_le _, rfl, HO, HT0⟩
  case round =>
    obtain ⟨i, hi, rfl, HRow, HT⟩ := hrel
    by_cases hlt : i < n
    · rcases HForm.out with rfl | hn0
      · have q0 := HCell.out i hlt
        have HQ := Lib.hid q0
        have hx := getD_u HIU.out (show i < l.length by rw [HLen.out]; exact hlt)
        have hfit : (l.getD i 0).toNat < 2 ^ v := by
          rw [List.getD_eq_getElem?_getD, List.getElem?_eq_getElem (show i < l.length by rw [HLen.out]; exact hlt)]
          exact (HF.out _ (List.getElem_mem _)).2
        have htk := take_getD l i (by rw [HLen.out]; exact hlt)
        have hX : packN v (l.take i) < 2 ^ (i * v) := by
          have h := packN_lt v (l.take i) (fun y hy => HF.out y (List.mem_of_mem_take hy))
          rwa [List.length_take, HLen.out, Nat.min_eq_left hi] at h
        have hNX : packN v (l.take (i + 1)) = packN v (l.take i) + (l.getD i 0).toNat * 2 ^ (i * v) := by
          rw [htk, packN_snoc, List.length_take, HLen.out, Nat.min_eq_left hi]
        obtain ⟨x, hx'⟩ := Int.eq_ofNat_of_zero_le hx.1
        rw [hx'] at HQ hfit hNX hx
        rw [Int.toNat_natCast] at hfit hNX
        have hbs : i * v + v ≤ S * 8 := by
          have h1 : (i + 1) * v ≤ n * v := Nat.mul_le_mul_right _ hlt
          rw [Nat.add_mul, Nat.one_mul] at h1
          have := H8.out.1
          omega
        have hiv : (i : Int) * (v : Int) = ((i * v : Nat) : Int) := by rw [Int.natCast_mul]
        have HNX := Lib.hid hNX
        have HXl := Lib.hid hX
        have HFx := Lib.hid hfit
        generalize packN v (l.take i) = M at HRow HNX HXl
        generalize i * v = iv at hbs hiv HNX HXl
        have hxb : x < 18446744073709551616 := by omega
        clear hx' hfit htk hX hNX hx q0
        go_wp2
        go_loopw [8] (fun sk wk => ∃ k : Nat, k ≤ v ∧ sk = .int .i64 k ∧ Hid (wk.ownsRow g 5 1 (.slice (some ⟨g, 0, none⟩) S S) S ((getL 8 (M + x % 2 ^ k * 2 ^ iv) S).map (Value.int .u8))) ∧ Hid (Turn w wk nowhere)) (fun sk _ => v - (intOf sk).toNat)
        case atStart => exact ⟨0, Nat.zero_le _, rfl, Lib.hid (by rw [Nat.pow_zero, Nat.mod_one, Nat.zero_mul, Nat.add_zero]; exact HRow.out), HT⟩
        case round =>
          obtain ⟨k, hk, rfl, HRk, HTk⟩ := hrel
          by_cases hkl : k < v
          · have q1 := HTk.out.cell HQ.out id
            obtain ⟨b, hbb⟩ : ∃ b, x / 2 ^ k % 2 = b := ⟨_, rfl⟩
            have hem := rem2 x k
            rw [hbb] at hem
            obtain ⟨N, hN⟩ : ∃ N, M + x % 2 ^ k * 2 ^ iv = N := ⟨_, rfl⟩
            have hNl : N < 2 ^ (iv + k) := by
              rw [← hN]
              have h1 := Nat.mod_lt x (two_pos k)
              have h2 : (x % 2 ^ k + 1) * 2 ^ iv ≤ 2 ^ k * 2 ^ iv := Nat.mul_le_mul_right _ h1
              rw [Nat.add_mul, ← Nat.pow_add, Nat.one_mul, Nat.add_comm k iv] at h2
              have := HXl.out
              omega
            have hnew : M + x % 2 ^ (k + 1) * 2 ^ iv = N + b * 2 ^ (iv + k) := by
              rw [← hN, bit_acc, hbb, Nat.add_mul, Nat.mul_assoc, ← Nat.pow_add, Nat.add_comm k iv, Nat.add_assoc]
            rw [hN] at HRk
            obtain ⟨p, hp⟩ : ∃ p, iv + k = p := ⟨_, rfl⟩
            rw [hp] at hNl hnew
            have hps : p < S * 8 := by omega
            have e1 : (iv : Int) + (k : Int) = (p : Int) := by omega
            clear hN hbb hp
            by_cases hb1 : b = 1
            · subst hb1
              rw [Nat.one_mul] at hnew
              have HSet := Lib.hid (getL_set N p S hNl (by omega))
              have hcell := HRk.out.cellAt (p / 8) (by omega)
              rw [List.getElem?_map, getL_at? 8 N S (p / 8) (by omega)] at hcell
              simp only [Option.map_some] at hcell
              have hfree := HRk.out.frozenAt (p / 8)
              have hst := HRk.out.stored (p / 8)
              have hpe : 2 ^ p = 2 ^ (p / 8 * 8) * 2 ^ (p % 8) := by rw [← Nat.pow_add]; congr 1; omega
              have hT : N / 2 ^ (p / 8 * 8) < 2 ^ (p % 8) := Nat.div_lt_of_lt_mul (by rw [← hpe]; exact hNl)
              have h7 : 2 ^ (p % 8) ≤ 2 ^ 8 := Nat.pow_le_pow_right (by decide) (by omega)
              rw [Nat.mod_eq_of_lt (show N / 2 ^ (p / 8 * 8) < 2 ^ 8 by omega)] at hcell
              obtain ⟨q, hq⟩ : ∃ q, p / 8 = q := ⟨_, rfl⟩
              obtain ⟨r, hr⟩ : ∃ r, p % 8 = r := ⟨_, rfl⟩
              rw [hq] at hcell hfree hst HSet hT
              rw [hr] at hT HSet
              obtain ⟨T, hTT⟩ : ∃ T, N / 2 ^ (q * 8) = T := ⟨_, rfl⟩
              rw [hTT] at hcell hT HSet
              have HOR := Lib.hid (or_bit T r hT (by omega))
              have HST := Lib.hid hst
              have HNEW := Lib.hid hnew
              have e2 : (p : Int) / 8 = (q : Int) := by omega
              have e3 : (p : Int) % 8 = (r : Int) := by omega
              have hr8 : r < 8 := by omega
              have hqS : q < S := by omega
              clear hq hr hTT hT hst hnew hpe h7 hNl
              have hem1 : (((1 : Nat) : Int) == 1) = true := rfl
              go_wp2
              go_roundw
              case rel =>
                refine ⟨k + 1, by omega, by go_num, Lib.hid ?_, Lib.hid ?_⟩
                · rw [HNEW.out, HSet.out, HOR.out, List.map_set]
                  exact (HST.out _).1
                · exact Turn.trans HTk.out (Turn.of_grown (S := fun i => i = g) (HST.out _).2 (fun i e _ => by cases e; rfl)) (fun i hi e => by have := HG.out; omega)
              case measure => simp [intOf]; omega
            · have hb0 : b = 0 := by
                have h1 : b = x / 2 ^ k % 2 := by
                  have h2 := rem2 x k
                  rw [hem] at h2
                  omega
                omega
              subst hb0
              rw [Nat.zero_mul, Nat.add_zero] at hnew
              have HNEW := Lib.hid hnew
              clear hnew hb1 hNl
              have hem1 : (((0 : Nat) : Int) == 1) = false := rfl
              go_wp2
              go_roundw
              case rel => exact ⟨k + 1, by omega, by go_num, Lib.hid (by rw [HNEW.out]; exact HRk.out), HTk⟩
              case measure => simp [intOf]; omega
          · obtain rfl : k = v := by omega
            go_wp2
            go_roundw
            case rel => exact ⟨i + 1, by omega, by go_num, Lib.hid (by rw [HNX.out]; have h := HRk.out; rw [Nat.mod_eq_of_lt HFx.out] at h; exact h), HTk⟩
            case measure => simp [intOf]; omega
      · exfalso; omega
    · obtain rfl : i = n := by omega
      have htk : l.take i = l := List.take_of_length_le (Nat.le_of_eq HLen.out)
      rw [htk] at HRow
      clear htk
      go_wp2
      go_ret2
      rw [← HR.out]
      exact putX_own (by rw [HG.out]; exact HRow.out) HT.out.grown

/-- The document's Put, whatever it is asked. -/
theorem rput_any (a : Option Addr) (n c : Nat) (l : List Int) (v : Int) (w : World) (hs : Us.Seg w a n c l) (hu : IsU l) :
    Calls Tryz.prog 46 #[.slice a n c, .int .i64 v] w (PutX w (putR l v)) := by
  by_cases h : (putR l v).1 = 0
  · have hc := (canB_iff _ _).1 ((put_ok l v).1 h).1
    obtain ⟨v', rfl⟩ := Int.eq_ofNat_of_zero_le hc.2.2.1
    exact rput_yes_any a n c l v' w hs hu h
  · exact rput_no_any a n c l v w hs hu h
end Go.Proofs.YtljanfnhmhimiaaGreat.Pk

namespace Go.Proofs.YtljanfnhmhimiaaGreat.Nu
open Go.RowKit Go.Shelf Go
variable {F : Fence} {n : Nat} {P : Program}

/-- a function that hands on e 0, e 1, .. e (N - 1), and returns -/
def Feeds (F : Fence) (n : Nat) (P : Program) (g : Nat) (first lb : Array Value) (e : Nat → Array Value) (N : Nat) (Kp : World → World → Prop) (w : World) : Prop :=
  ∀ (l : Nat) (J : Nat → World → Prop) (W : World), Below w.heap.size w W → AbidesFrom W.heap.size J →
    (∀ k W1, k < N → J k W1 → YieldAt F (n - 1) P l (e k) W1 fun x W' => x = .returned (.bool true) ∧ J (k + 1) W' ∧ Kp W1 W') →
    J 0 W → CallsIn F n P g (first ++ #[.func (.yield l) #[] #[]] ++ lb) W fun x W' => (∃ v, x = .returned v) ∧ J N W'

/-- a round's body goes on -/
def roundOn (B : Nat) (Kp : World → World → Prop) (I : Nat → World → Prop) (k : Nat) (W : World) : Exit → Act → World → Prop
  | .normal, _, W' => KeepsFrom B W W' ∧ Kp W W' ∧ I (k + 1) W'
  | _, _, _ => False

set_option maxRecDepth 100000 in
set_option maxHeartbeats 1000000 in
theorem wpIn_feeds {g : Operand} {ps : Array Tmp} {assign body : Code} {Q : Exit → Act → World → Prop} {a : Act} {w : World}
    (hro : F.round = none) (h1 : 1 ≤ n) {gf : Nat} {first lb : Array Value} (hg : a.eval g = .func (.func gf) first lb) (hFg : F.fn gf) (eg : ∀ args w, (callFunc gf args).run P w = .ok (.enter gf args) w)
    {e : Nat → Array Value} {N : Nat} {Kp : World → World → Prop} {w0 : World} (hf : Feeds F (n - 1) P gf first lb e N Kp w0) (hb0 : Below w0.heap.size w0 w)
    (hKt : ∀ {A B C : World}, Kp A B → Kp B C → Kp A C) (hKb : ∀ (W : World) (l : Nat) (o o' : Obj), w.heap.size ≤ l → W.heap[l]? = some o → o.isCells = false → o.isWalk = false → Kp W (W.putObj l o'))
    (hps : ∀ k, (e k).size = ps.size) (I : Nat → World → Prop) (hI : OwnFrom w.heap.size I) (h0 : I 0 w) (a₁ : Nat → Act)
    (hassign : ∀ (l k : Nat) (W : World) (K : Act → World → Prop), K (a₁ k) W →
      assign.wpIn (F.inRound l) (n - 1 - 1) P (Exit.then K (fun _ _ _ => False)) { tmps := (ps.zip (e k)).foldl (fun t (p, v) => t.setIfInBounds p v) a.tmps, defers := [] } W)
    (hbody : ∀ (l k : Nat) (W : World), k < N → I k W → body.wpIn (F.inRound l) (n - 1 - 1) P (roundOn w.heap.size Kp I k W) (a₁ k) W)
    (hdone : ∀ (D : Nat) (W : World), w.heap.size ≤ D → I N W → W.heap[D]? = some (.deferred (some [])) → Q .normal { a with defers := { target := .collected D, args := #[] } :: a.defers } W) :
    (Code.rangeFunc g ps assign body).wpIn F n P Q a w := by
  refine wpIn_rangeFunc fun fn hfn => ?_
  rw [hro]
  -- the loop's record, block D + 1; the block for deferred calls, D
  obtain ⟨D, hD⟩ : ∃ D, w.heap.size = D := ⟨_, rfl⟩
  let rec' : LoopState → Loop := fun st => { state := st, pending := none, fn, tmps := a.tmps, params := ps, assign, body, defers := D }
  obtain ⟨W1, hW1⟩ : ∃ W1, (w.alloc (.deferred (some []))).alloc (.loop (rec' .ready)) = W1 := ⟨_, rfl⟩
  have hsz : W1.heap.size = D + 2 := by rw [← hW1]; simp [World.size_alloc, hD]
  have hL : W1.heap[D + 1]? = some (.loop (rec' .ready)) := by
    have h := World.alloc_heap_new (w.alloc (.deferred (some []))) (.loop (rec' .ready))
    rw [World.size_alloc, hD, hW1] at h
    exact h
  have hK : W1.heap[D]? = some (.deferred (some [])) := by
    have h := World.alloc_heap_new w (.deferred (some []))
    rw [hD] at h
    rw [← hW1]
    exact (Below.heap_alloc _ _ _ (by simp [hD])).trans h
  have hB1 : Below w0.heap.size w0 W1 := by
    rw [← hW1]
    exact (hb0.alloc hb0.size _).alloc (Nat.le_trans hb0.size (by simp)) _
  have hI1 : I 0 W1 := by rw [← hW1]; exact hI.alloc _ (hI.alloc _ h0)
  -- what stands beside the caller's own word
  let J : Nat → World → Prop := fun k W => I k W ∧ W.heap[D + 1]? = some (.loop (rec' .ready)) ∧ W.heap[D]? = some (.deferred (some []))
  have hJ : AbidesFrom W1.heap.size J := by
    rintro k A B row ⟨j1, j2, j3⟩ hgr hrow
    have hcell : ∀ r, row = some r → w.heap.size ≤ r ∧ ∃ o : Obj, A.heap[r]? = some o ∧ o.isCells = false := fun r er => by
      obtain ⟨hr, o, ho, hw⟩ := hrow r er
      exact ⟨by omega, o, ho, Obj.not_cells_of_walk hw⟩
    have keep := fun {i : Nat} {o : Obj} (hi : A.heap[i]? = some o) (ho : o.isWalk = false) => (grownBy_keeps hgr (fun r er => (hrow r er).2) hi ho).trans hi
    exact ⟨hI k A B row j1 hgr hcell, keep j2 rfl, keep j3 rfl⟩
  have hround : ∀ k W, k < N → J k W → YieldAt F (n - 1 - 1) P (D + 1) (e k) W fun x W' => x = .returned (.bool true) ∧ J (k + 1) W' ∧ Kp W W' := by
    rintro k W hk ⟨j1, j2, j3⟩
    refine ⟨fn, _, assign, body, run_yield (args := e k) j2 (hps k), roundIn_of_wpIn hfn (hassign _ k W _ ⟨_, run_beginRound j2 rfl, ?_⟩)⟩
    have hlt := (Array.getElem?_eq_some_iff.1 j2).1
    have b2 : (W.putObj (D + 1) (.loop (rec' .busy))).heap[D + 1]? = some (.loop (rec' .busy)) := World.putObj_heap_same hlt
    have b3 : (W.putObj (D + 1) (.loop (rec' .busy))).heap[D]? = some (.deferred (some [])) := (World.putObj_heap_other (by omega)).trans j3
    refine wpIn_mono (hbody _ k _ hk (hI.putObj (.loop (rec' .busy)) j1 (by omega) j2 rfl)) ?_
    rintro x a3 W3 hx
    cases x with
    | normal =>
      obtain ⟨x1, x2, x3⟩ := hx
      have c2 := x1.same _ _ (by omega) b2 rfl
      have c3 := x1.same _ _ (by omega) b3 rfl
      refine ⟨_, _, run_endRound none c2, rfl, ⟨hI.putObj _ x3 (by omega) c2 rfl, World.putObj_heap_same (Array.getElem?_eq_some_iff.1 c2).1, (World.putObj_heap_other (by omega)).trans c3⟩, ?_⟩
      exact hKt (hKt (hKb W _ _ _ (by omega) j2 rfl rfl) x2) (hKb W3 _ _ _ (by omega) c2 rfl rfl)
    | ret => exact hx.elim
    | exit => exact hx.elim
    | goto => exact hx.elim
    | panic => exact hx.elim
    | outgrown => exact hx.elim
  refine ⟨D + 1, [{ target := .collected D, args := #[] }], W1, { target := .fn (.func gf) lb, args := first ++ #[.func (.yield (D + 1)) #[] #[]] }, W1, gf, first ++ #[.func (.yield (D + 1)) #[] #[]] ++ lb, W1, ?_, ?_, ?_, ?_, fun _ => h1, ?_⟩
  · have h := run_enterLoop_outer (P := P) (w := w) fn a.tmps ps assign body
    rw [hD] at h
    rw [h, ← hW1]
  · simp only [resolve, hg]
    simp [go_sem]
  · intro f' hf'
    simp [Target.leads] at hf'
    exact hf' ▸ hFg
  · simp [invoke, go_sem, eg]
  · refine (hf (D + 1) J W1 hB1 hJ hround ⟨hI1, hL, hK⟩).mono ?_
    rintro x W2 ⟨⟨v, rfl⟩, j1, j2, j3⟩
    refine ⟨none, _, run_endLoop j2 (by simp [rec']), ?_⟩
    exact hdone D _ (by omega) (hI.putObj _ j1 (by omega) j2 rfl) ((World.putObj_heap_other (by omega)).trans j3)
end Go.Proofs.YtljanfnhmhimiaaGreat.Nu

namespace Go.Proofs.YtljanfnhmhimiaaGreat.Nu
open Go.RowKit Go.Shelf
open Dv (Turn)
open Pk (Kept)

attribute [local go_sem] Oper.semAt_some

theorem bseg_turn {w w' : World} {a : Option Addr} {n c : Nat} {l : List Bool} {S : Nat → Prop} (h : Bl.Seg w a n c l) (k : Turn w w' S) (hne : ∀ ad, a = some ad → 0 < n → ¬ S ad.block) : Bl.Seg w' a n c l :=
  ⟨h.len, h.le, h.cap, h.nil_, fun ad had j u hu => k.cell (h.at_ ad had j u hu) (by
    rw [Dv.block_add]
    have hj := (List.getElem?_eq_some_iff.1 hu).1
    rw [List.length_map, h.len] at hj
    exact hne ad had (by omega))⟩

/-- run k, as yield is handed it -/
def encR (l : List Bool) (k : Nat) : Array Value := #[.int .i64 (((runsL l).getD k (0, false)).1 : Int), .bool ((runsL l).getD k (0, false)).2]

/-- the first i are alike, the next one is not -/
theorem lead_cut {m : List Bool} {i : Nat} (h0 : 0 < i) (hi : i < m.length) (hs : ∀ j, j < i → m.getD j false = m.getD 0 false) (hn : ¬ m.getD i false = m.getD 0 false) : runsL m = (i, m.getD 0 false) :: runsL (m.drop i) := by
  have e : m = List.replicate ((i - 1) + 1) (m.getD 0 false) ++ m.drop i := by
    conv => lhs; rw [← List.take_append_drop i m]
    congr 1
    rw [show i - 1 + 1 = i from by omega]
    apply List.ext_getElem
    · simp; omega
    · intro j h1 h2
      have hj : j < i := by simp at h1; omega
      have h3 := hs j hj
      rw [List.getD_eq_getElem?_getD, List.getElem?_eq_getElem (by omega)] at h3
      rw [List.getElem_take, List.getElem_replicate]
      exact h3
  have := runs_lead (m.getD 0 false) (m.drop i) (fun y t h => by
    have h4 : (m.drop i)[0]? = some y := by rw [h]; rfl
    rw [List.getElem?_drop, Nat.add_zero] at h4
    rw [List.getD_eq_getElem?_getD, h4] at hn
    exact hn) (i - 1)
  rw [← e, show i - 1 + 1 = i from by omega] at this
  exact this
theorem lead_all {m : List Bool} (h0 : 0 < m.length) (hs : ∀ j, j < m.length → m.getD j false = m.getD 0 false) : runsL m = [(m.length, m.getD 0 false)] := by
  have e : m = List.replicate ((m.length - 1) + 1) (m.getD 0 false) ++ [] := by
    rw [List.append_nil, show m.length - 1 + 1 = m.length from by omega]
    apply List.ext_getElem
    · simp
    · intro j h1 h2
      have h3 := hs j h1
      rw [List.getD_eq_getElem?_getD, List.getElem?_eq_getElem h1] at h3
      rw [List.getElem_replicate]
      exact h3
  have := runs_lead (m.getD 0 false) [] (fun y t h => by cases h) (m.length - 1)
  rw [← e, show m.length - 1 + 1 = m.length from by omega] at this
  exact this
/-- what is left of the runs -/
theorem left_at {R S : List (Nat × Bool)} {k : Nat} {q : Nat × Bool} (h : q :: S = R.drop k) : k < R.length ∧ R.getD k (0, false) = q ∧ S = R.drop (k + 1) := by
  have hk : k < R.length := by
    apply Classical.byContradiction
    intro hc
    rw [List.drop_eq_nil_of_le (by omega)] at h
    cases h
  rw [List.drop_eq_getElem_cons hk] at h
  obtain ⟨h1, h2⟩ := List.cons.inj h
  exact ⟨hk, by rw [List.getD_eq_getElem?_getD, List.getElem?_eq_getElem hk, h1]; rfl, h2⟩

set_option maxRecDepth 100000 in
set_option maxHeartbeats 4000000 in
theorem runs_in (m : Nat) (hm : 1 ≤ m) (y : Nat) (P : Nat → Prop) (a : Option Addr) (n c : Nat) (l : List Bool) (J : Nat → World → Prop)
    (hY : ∀ k W1, k < (runsL l).length → J k W1 → YieldAt Fence.wide (m - 1) Tryz.prog y (encR l k) W1 fun x W' => x = .returned (.bool true) ∧ J (k + 1) W' ∧ Kept P W1 W')
    (W : World) (hs : Bl.Seg W a n c l) (hP : ∀ ad, a = some ad → 0 < n → P ad.block) (h0 : J 0 W) :
    CallsIn Fence.wide m Tryz.prog 135 #[.slice a n c, .func (.yield y) #[] #[]] W fun e W' => (∃ z, e = .returned z) ∧ J (runsL l).length W' := by
  have HY := Lib.hid hY
  have HS0 := Lib.hid hs
  have HP0 := Lib.hid hP
  have HJ0 := Lib.hid h0
  clear hY hs hP h0
  refine callsIn_of_wp Tryz.func135 rfl trivial ?_ rfl
  simp only [Tryz.ntmps135, List.size_toArray, List.length_cons, List.length_nil, Nat.reduceAdd, Nat.reduceSub, Array.replicate_succ, Array.replicate_zero, List.push_toArray, List.append_toArray, List.nil_append, List.cons_append]
  refine wpIn_wide.2 ?_
  go_wp2
  go_step3
  go_wp2
  go_step3
  go_wp2
  go_loopw [0] (fun sf wr => ∃ (k : Nat) (a' : Option Addr) (n' c' : Nat) (r : List Bool), sf = .slice a' n' c' ∧ Hid (k ≤ (runsL l).length) ∧ Hid (Bl.Seg W a' n' c' r) ∧ Hid (∀ ad, a' = some ad → 0 < n' → P ad.block) ∧ Hid (runsL r = (runsL l).drop k) ∧ Hid (J k wr) ∧ Hid (Kept P W wr))
    (fun sf _ => match sf with | .slice _ k _ => k | _ => 0)
  case atStart => exact ⟨0, a, n, c, l, rfl, Lib.hid (Nat.zero_le _), HS0, HP0, Lib.hid rfl, HJ0, Lib.hid (Turn.refl _ _)⟩
  case round =>
    obtain ⟨k, a', n', c', r, rfl, HKN, HS, HP, HR, HJ, HK⟩ := hrel
    have hle := HS.out.le
    have hcap := HS.out.cap
    unfold maxLen at hcap
    by_cases hn0 : n' = 0
    · subst hn0
      have HF : Hid (J (runsL l).length wr) := Lib.hid (by
        have hr := HR.out
        rw [List.eq_nil_of_length_eq_zero HS.out.len] at hr
        have h2 := congrArg List.length hr
        rw [List.length_drop] at h2
        have h3 := HKN.out
        have : k = (runsL l).length := by
          have h4 : (runsL []).length = 0 := rfl
          omega
        rw [← this]
        exact HJ.out)
      go_wp2
      rw [Exit.noGoto_normal]
      go_end0
      exact ⟨⟨_, rfl⟩, HF.out⟩
    · obtain ⟨g, o, rfl, hc⟩ := HS.out.addr (by omega)
      have hc0 := hc 0 (by omega)
      rw [Nat.add_zero] at hc0
      obtain ⟨x, hx⟩ : ∃ x, r.getD 0 false = x := ⟨_, rfl⟩
      have HX := Lib.hid hx
      have HL := Lib.hid HS.out.len
      have HC := Lib.hid hc
      rw [hx] at hc0
      have hw0 := HK.out.cell hc0 (fun h => h (HP.out _ rfl (by omega)))
      clear hx hc hc0
      have hn1 : (0 : Int) < (n' : Int) := by omega
      go_wp2
      go_loopw [0, 11] (fun sf si w2 => ∃ i : Nat, i ≤ n' ∧ si = .int .i64 i ∧ sf = .slice (some ⟨g, o, none⟩) n' c' ∧ wr = w2 ∧ Hid (∀ j, j < i → r.getD j false = x)) (fun _ si _ => n' - (intOf si).toNat)
      case atStart => exact ⟨0, Nat.zero_le _, rfl, rfl, rfl, Lib.hid (fun j h => absurd h (Nat.not_lt_zero j))⟩
      case round =>
        obtain ⟨i, hi, rfl, rfl, rfl, HI⟩ := hrel
        by_cases hlt : i < n'
        · have hwi := HK.out.cell (HC.out i hlt) (fun h => h (HP.out ⟨g, o, none⟩ rfl (by omega)))
          by_cases he : r.getD i false = x
          · have HI2 : Hid (∀ j, j < i + 1 → r.getD j false = x) := Lib.hid (fun j hj => by
              by_cases hji : j = i
              · rw [hji]; exact he
              · exact HI.out j (by omega))
            rw [he] at hwi
            clear he
            cases x
            all_goals
              go_wp2
              go_roundw
              case rel => exact ⟨i + 1, by omega, by go_num, rfl, trivial, HI2⟩
              case measure => simp [intOf]; omega
          · have hi0 : 0 < i := by
              rcases Nat.eq_zero_or_pos i with h | h
              · subst h; exact absurd HX.out he
              · exact h
            have HI0 := Lib.hid hi0
            have HCut := Lib.hid (lead_cut (m := r) (i := i) hi0 (by rw [HL.out]; exact hlt) (fun j hj => by rw [HI.out j hj, HX.out]) (by rw [HX.out]; exact he))
            rw [HX.out] at HCut
            obtain ⟨hkN, hq, hrest⟩ := left_at (HCut.out.symm.trans HR.out)
            have hE : encR l k = #[.int .i64 (i : Int), .bool x] := by unfold encR; rw [hq]
            obtain ⟨fn, tmps, assign, body, hy, hR⟩ := HY.out k wr hkN HJ.out
            rw [hE] at hy
            have HKN2 := Lib.hid hkN
            have HRest := Lib.hid hrest
            have HS2 := Lib.hid (HS.out.drop (k := i) (by omega))
            have hci : ¬ c' = i := by omega
            obtain ⟨y2, hy2⟩ : ∃ y, r.getD i false = y := ⟨_, rfl⟩
            rw [hy2] at hwi he
            clear hE hq hkN hrest hy2 hi0
            refine (wpIn_wide (n := m)).1 ?_
            cases x <;> cases y2 <;> first | exact absurd rfl he | skip
            all_goals clear he
            all_goals
              gi_wp2
              refine hR.mono ?_
              rintro e W3 ⟨rfl, hJ3, hk3⟩
              have HJ3 := Lib.hid hJ3
              have HK3 := Lib.hid (Kept.t HK.out hk3)
              clear hJ3 hk3 hR hy
              gi_wp2
              go_roundw
              case rel => exact ⟨k + 1, _, _, _, _, rfl, HKN2, HS2, Lib.hid (fun ad e _ => by cases e; exact HP.out ⟨g, o, none⟩ rfl (by omega)), HRest, HJ3, HK3⟩
              case measure => dsimp only; have := HI0.out; omega
        · obtain rfl : i = n' := by omega
          have HAll := Lib.hid (lead_all (m := r) (by rw [HL.out]; omega) (fun j hj => by rw [HI.out j (by rw [HL.out] at hj; exact hj), HX.out]))
          rw [HX.out, HL.out] at HAll
          obtain ⟨hkN, hq, hrest⟩ := left_at (HAll.out.symm.trans HR.out)
          have hE : encR l k = #[.int .i64 (i : Int), .bool x] := by unfold encR; rw [hq]
          obtain ⟨fn, tmps, assign, body, hy, hR⟩ := HY.out k wr hkN HJ.out
          rw [hE] at hy
          have HN : Hid ((runsL l).length = k + 1) := Lib.hid (by
            have h := congrArg List.length hrest
            rw [List.length_drop] at h
            simp at h
            omega)
          clear hE hq hkN hrest
          refine (wpIn_wide (n := m)).1 ?_
          cases x
          all_goals
            gi_wp2
            refine (wpIn_wide (n := m)).1 ?_
            gi_wp2
            refine hR.mono ?_
            rintro e W3 ⟨rfl, hJ3, hk3⟩
            have HJ3 : Hid (J (runsL l).length W3) := Lib.hid (by rw [HN.out]; exact hJ3)
            clear hJ3 hk3 hR hy
            gi_wp2
            rw [Exit.noGoto_ret]
            refine bodyPost_ret (results_none rfl _ _ _) rfl ?_
            exact ⟨⟨_, rfl⟩, HJ3.out⟩

/-- The runs of flags, handed on one by one. -/
theorem runs_feeds (m : Nat) (hm : 1 ≤ m) (P : Nat → Prop) (a : Option Addr) (n c : Nat) (l : List Bool) (w : World) (hs : Bl.Seg w a n c l) (hP : ∀ ad, a = some ad → 0 < n → P ad.block) (hPw : ∀ i, P i → i < w.heap.size) :
    Feeds Fence.wide m Tryz.prog 135 #[.slice a n c] #[] (encR l) (runsL l).length (Kept P) w :=
  fun y J W hW _ hY h0 => runs_in m hm y P a n c l J hY W (bseg_turn hs (S := fun i => w.heap.size ≤ i) ⟨hW.os, hW.tape, hW.output, hW.size, fun k hk _ => hW.block k hk⟩ (fun ad had hn h => by have := hPw _ (hP ad had hn); omega)) hP h0
end Go.Proofs.YtljanfnhmhimiaaGreat.Nu

namespace Go.Proofs.YtljanfnhmhimiaaGreat.Nu
open Go.RowKit Go.Shelf
open Dv (Turn nowhere)
open Pk (Kept Turn.then)

attribute [local go_sem] Oper.semAt_some

/-- the block of a slice that is not empty -/
def blockOf (a : Option Addr) (n : Nat) (i : Nat) : Prop := ∃ ad, a = some ad ∧ 0 < n ∧ i = ad.block
theorem bseg_lt {w : World} {a : Option Addr} {n c : Nat} {l : List Bool} (h : Bl.Seg w a n c l) : ∀ i, blockOf a n i → i < w.heap.size := by
  rintro i ⟨ad, rfl, h0, rfl⟩
  obtain ⟨g, o, e, hc⟩ := h.addr h0
  cases e
  exact World.block_lt_of_cell? w _ (hc 0 h0)
theorem bseg_stay {w w' : World} {a : Option Addr} {n c : Nat} {l : List Bool} (h : Bl.Seg w a n c l) (k : Turn w w' nowhere) : Bl.Seg w' a n c l := h.grown k.grown
theorem bseg_below {w w' : World} {n₀ : Nat} {a : Option Addr} {n c : Nat} {l : List Bool} (h : Bl.Seg w a n c l) (k : Below n₀ w w') (hn : n₀ = w.heap.size) : Bl.Seg w' a n c l := by
  subst hn
  exact bseg_turn h (S := fun i => w.heap.size ≤ i) ⟨k.os, k.tape, k.output, k.size, fun i hi _ => k.block i hi⟩ (fun ad had h0 hS => by
    have := bseg_lt h ad.block ⟨ad, had, h0, rfl⟩
    omega)
/-- how many of the first k runs are true -/
def cntR (l : List Bool) (k : Nat) : Nat := cnt (flagsR ((runsL l).take k))
theorem cntR_all (l : List Bool) : cntR l (runsL l).length = cnt l := by
  unfold cntR
  rw [List.take_length, runs_join]
theorem cntR_succ (l : List Bool) (k : Nat) (hk : k < (runsL l).length) : cntR l (k + 1) = cntR l k + (if ((runsL l).getD k (0, false)).2 = true then ((runsL l).getD k (0, false)).1 else 0) ∧ cntR l k + ((runsL l).getD k (0, false)).1 ≤ l.length := by
  have h1 := (flags_at _ _ hk).2
  have h2 := flags_len _ _ hk
  rw [runs_join] at h2
  unfold cntR
  have h3 := cnt_le (flagsR ((runsL l).take k))
  rw [h1, cnt_app, cnt_rep]
  exact ⟨rfl, by omega⟩

set_option maxRecDepth 100000 in
set_option maxHeartbeats 4000000 in
theorem count_any (a : Option Addr) (n c : Nat) (l : List Bool) (w : World) (hs : Bl.Seg w a n c l) :
    Calls Tryz.prog 80 #[.slice a n c] w fun e w' => e = .returned (.int .i64 (cnt l : Int)) ∧ Below w.heap.size w w' := by
  have hcap := hs.cap
  have hle := hs.le
  unfold maxLen at hcap
  have hT0 : Turn w (w.alloc (.cells #[.int .i64 0] 3)) nowhere := Turn.alloc w _ _
  have HS1 := Lib.hid (bseg_stay hs hT0)
  have HL := Lib.hid hs.len
  have HLt := Lib.hid (bseg_lt hs)
  have bB := Boxed.new w 3 (.int .i64 0)
  have HB0 : Hid (Below w.heap.size w (w.alloc (.cells #[.int .i64 0] 3))) := Lib.hid ((Below.refl _ w).alloc (Nat.le_refl _) _)
  have hmf : ∀ (fn : Fn) (first cap : Array Value) (w : World), (Instr.makeFunc fn first cap).run Tryz.prog w = .ok (.func fn first cap) w := fun _ _ _ _ => rfl
  have HBB := Lib.hid bB
  clear hs hT0 bB
  refine (callsIn_wide (n := 3)).1 ?_
  refine callsIn_of_wp_marks Tryz.func80 rfl trivial ?_ rfl
  simp only [Tryz.ntmps80, List.size_toArray, List.length_cons, List.length_nil, Nat.reduceAdd, Nat.reduceSub, Array.replicate_succ, Array.replicate_zero, List.push_toArray, List.append_toArray, List.nil_append, List.cons_append]
  gi_wp2
  have hPw : ∀ i, blockOf a n i → i < (w.alloc (.cells #[.int .i64 0] 3)).heap.size := fun i hi => by have := HLt.out i hi; simp; omega
  refine wpIn_feeds rfl (by decide) (gf := 135) (first := #[.slice a n c]) (lb := #[]) rfl trivial (enters_of Tryz.func135 (by kernel_rfl) rfl)
    (runs_feeds 2 (by decide) (blockOf a n) a n c l _ HS1.out (fun ad e h0 => ⟨ad, e, h0, rfl⟩) hPw) (Below.refl _ _) (fun h k => Kept.t h k) (Kept.b hPw) (fun _ => rfl)
    (fun k W => Boxed W w.heap.size 3 (.int .i64 (cntR l k : Int)) ∧ Below w.heap.size w W)
    (OwnFrom.and (Own.from (boxed_own w.heap.size 3 (fun k : Nat => .int .i64 (cntR l k : Int))) _) (ownFrom_below (Nat.le_refl _) (by simp)))
    ⟨HBB.out, HB0.out⟩
    (fun k => { tmps := #[.slice a n c, undef, .int .i64 0, .pointer (some ⟨w.heap.size, 0, none⟩), .int .i64 (((runsL l).getD k (0, false)).1 : Int), .bool ((runsL l).getD k (0, false)).2, .slice a n c, .func (.func 135) #[.slice a n c] #[],
      .int .i64 (((runsL l).getD k (0, false)).1 : Int), .bool ((runsL l).getD k (0, false)).2, undef, undef, undef, undef, undef], defers := [] }) ?assign ?body ?done
  case assign =>
    intro l k W K hK
    unfold encR
    gi_wp2
    exact hK
  case body =>
    rintro y k W hk ⟨hbx, hB⟩
    obtain ⟨h1, h2⟩ := cntR_succ l k hk
    rw [HL.out] at h2
    have HB := Lib.hid hB
    have hfin : ∀ W', Boxed W' w.heap.size 3 (.int .i64 (((cntR l k : Nat) : Int) + (if ((runsL l).getD k (0, false)).2 = true then (((runsL l).getD k (0, false)).1 : Int) else 0))) → Boxed W' w.heap.size 3 (.int .i64 (cntR l (k + 1) : Int)) := fun W' h => by
      rw [h1]
      revert h
      split <;> intro h
      · rw [Int.natCast_add]; exact h
      · simpa using h
    have HFin := Lib.hid hfin
    have hc1 := hbx.cell
    have hf1 := hbx.frozen
    have HBx := Lib.hid hbx
    have HKp : Hid (¬ blockOf a n w.heap.size) := Lib.hid (fun h => by have := HLt.out _ h; omega)
    clear h1 hfin hB hbx
    obtain ⟨z, hz⟩ : ∃ z, cntR l k = z := ⟨_, rfl⟩
    obtain ⟨q, hq⟩ : ∃ q, ((runsL l).getD k (0, false)).1 = q := ⟨_, rfl⟩
    obtain ⟨b, hb⟩ : ∃ b, ((runsL l).getD k (0, false)).2 = b := ⟨_, rfl⟩
    rw [hz, hq, hb] at HFin
    rw [hz, hq] at h2
    rw [hz] at hc1 HBx
    rw [hq, hb]
    clear hz hq hb
    have hw : IntKind.i64.wrap ((z : Int) + (q : Int)) = (z : Int) + (q : Int) := by rw [IntKind.wrap_i64]; omega
    cases b with
    | true =>
      gi_wp2
      exact ⟨(KeepsOthers.setCell _ _ _).from _, Turn.setCell W ⟨w.heap.size, 0, none⟩ _ (fun h => HKp.out h), HFin.out _ (HBx.out.set _), HB.out.setCell (p := ⟨w.heap.size, 0, none⟩) (Nat.le_refl _) _⟩
    | false =>
      gi_wp2
      exact ⟨KeepsFrom.refl _ _, Turn.refl _ _, HFin.out _ (by simpa using HBx.out), HB.out⟩
  case done =>
    rintro D W hD ⟨hbx, hB⟩ hK
    rw [cntR_all] at hbx
    have hc1 := hbx.cell
    have HB : Hid (Below w.heap.size w (W.putObj D (.deferred none))) := Lib.hid (hB.trans (belowK_b (w := w) (Nat.le_refl _) W D _ (.deferred none) (by simp at hD; omega) hK rfl rfl))
    clear hbx hB
    gi_wp2
    refine ⟨by simp, .inl ⟨_, _, rfl, run_takeDeferred hK, ?_⟩⟩
    exact ⟨_, results_tmp rfl _ _ _, rfl, HB.out⟩
end Go.Proofs.YtljanfnhmhimiaaGreat.Nu
