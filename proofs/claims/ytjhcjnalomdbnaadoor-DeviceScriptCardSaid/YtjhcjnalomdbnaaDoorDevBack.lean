/-
  slices.Backward over writes: the iterator's contract.
-/
import Derived.Test.YtjhcjnalomdbnaaDoorDevWrite
import Derived.RangeFuncNested
import Derived.RangeFuncLeaves
import Derived.Shelf.Abstract
import Derived.OwnWalkIn
import Derived.TacticsInMore
import Derived.LoopNIn
import Derived.LoopIn
namespace Go.Proofs.YtjhcjnalomdbnaaDoor.Dv
open Go.RowKit Go.Shelf Bs

attribute [local go_sem] Oper.semAt_some

/-- what has come when k rounds are over -/
def upto {α : Type} (f : Nat → α) (k : Nat) : List α := (List.range k).map f
theorem upto_succ {α : Type} (f : Nat → α) (k : Nat) : upto f (k + 1) = upto f k ++ [f k] := by simp [upto, List.range_succ]
theorem upto_length {α : Type} (f : Nat → α) (k : Nat) : (upto f k).length = k := by simp [upto]

abbrev Elem := Int × (Nat × List Int)
def encW (x : Elem) : Array Value := #[.int .i64 x.1, .agg #[.int .i64 (x.2.1 : Int), .string (strOfNums x.2.2)]]
/-- the j-th from the end -/
def fromEnd (l : List (Nat × List Int)) (j : Nat) : Elem := ((l.length : Int) - 1 - j, l.getD (l.length - 1 - j) (0, []))

set_option maxRecDepth 100000 in
set_option maxHeartbeats 2000000 in
theorem bwd1_in (F : Fence) (n : Nat) (h57 : F.fn 57) (hro : F.round = none) (hn : 1 ≤ n) (l Bs n₀ b len cap : Nat) (zs : List (Nat × List Int)) (hz : zs.length = len) (hreach : len ≤ 1000000) (hb : b < n₀) (J Jx : List Elem → World → Prop)
    (hY : ∀ pre x W, J pre W → pre.length < len → YieldAt F (n - 1) Tryd.prog l (encW x) W fun e W' =>
      (e = .returned (.bool true) ∧ J (pre ++ [x]) W' ∧ Below n₀ W W') ∨ (e = .returned (.bool false) ∧ Jx (pre ++ [x]) W'))
    (W : World) (hBs : W.cell? ⟨Bs, 0, none⟩ = some (.slice (some ⟨b, 0, none⟩) len cap)) (hBn : Bs < n₀)
    (hc : ∀ j, j < len → W.cell? ⟨b, j * 2, none⟩ = some (.int .i64 ((zs.getD j (0, [])).1 : Int)) ∧ W.cell? ⟨b, j * 2 + 1, none⟩ = some (.string (strOfNums (zs.getD j (0, [])).2))) (h0 : J [] W) :
    CallsIn F n Tryd.prog 57 #[.func (.yield l) #[] #[], .pointer (some ⟨Bs, 0, none⟩)] W fun e W' => (∃ v, e = .returned v) ∧
      ((∃ ys, ys = upto (fromEnd zs) len ∧ J ys W') ∨ (∃ pre, (∃ k, k ≤ len ∧ pre = upto (fromEnd zs) k) ∧ Jx pre W')) := by
  refine callsIn_of_wp Tryd.func57 rfl h57 ?_ hro
  simp only [Tryd.ntmps57, List.size_toArray, List.length_cons, List.length_nil, Nat.reduceAdd, Nat.reduceSub, Array.replicate_succ, Array.replicate_zero, List.push_toArray, List.append_toArray, List.nil_append, List.cons_append]
  gi_wp2
  gi_loopw [3] (fun i wr => ∃ (k : Nat) (z : Int), k ≤ len ∧ z + 1 + k = len ∧ i = .int .i64 z ∧ J (upto (fromEnd zs) k) wr ∧ Below n₀ W wr)
    (fun i _ => (intOf i + 1).toNat)
  case atStart => exact ⟨0, (len : Int) - 1, by omega, by omega, rfl, h0, Below.refl _ _⟩
  case round =>
    obtain ⟨k, z, hk, hzk, rfl, hJs, hnx⟩ := hrel
    have hbx := (hnx.cell (p := ⟨Bs, 0, none⟩) hBn).trans hBs
    by_cases hlt : k < len
    · obtain ⟨j, rfl⟩ := Int.eq_ofNat_of_zero_le (show 0 ≤ z by omega)
      have hj : j < len := by omega
      have c0 := (hnx.cell (p := ⟨b, j * 2, none⟩) hb).trans (hc j hj).1
      have c1 := (hnx.cell (p := ⟨b, j * 2 + 1, none⟩) hb).trans (hc j hj).2
      have hfe : fromEnd zs k = ((j : Int), zs.getD j (0, [])) := by
        unfold fromEnd
        rw [hz, show len - 1 - k = j from by omega, show (len : Int) - 1 - k = j from by omega]
      have HFE := Lib.hid hfe
      obtain ⟨fn, tmps, assign, body, hy, hR⟩ := hY _ (fromEnd zs k) wr hJs (by rw [upto_length]; exact hlt)
      rw [hfe] at hy hR
      have HR := Lib.hid hR
      unfold encW at hy
      dsimp only at hy
      have HZK := Lib.hid hzk
      clear hR hfe hzk hz
      generalize zs.getD j (0, []) = q at *
      obtain ⟨q1, q2⟩ := q
      dsimp only at *
      generalize strOfNums q2 = T at *
      gi_wp2
      refine HR.out.mono ?_
      rintro e W3 (⟨rfl, hJ3, hk3⟩ | ⟨rfl, hJx3⟩)
      · gi_wp2
        go_roundw
        case rel => exact ⟨k + 1, (j : Int) - 1, by omega, by have := HZK.out; omega, rfl, by rw [upto_succ, HFE.out]; exact hJ3, hnx.trans hk3⟩
        case measure => simp [intOf]
      · gi_wp2
        refine bodyPost_ret (results_none rfl _ _ _) rfl ?_
        exact ⟨⟨_, rfl⟩, .inr ⟨_, ⟨k + 1, by omega, by rw [upto_succ, HFE.out]⟩, hJx3⟩⟩
    · obtain rfl : k = len := by omega
      have hneg : z < 0 := by omega
      gi_wp2
      go_end0
      exact ⟨⟨_, rfl⟩, .inl ⟨_, rfl, hJs⟩⟩

set_option maxRecDepth 100000 in
set_option maxHeartbeats 1000000 in
theorem bwd1_nil_in (F : Fence) (n : Nat) (h57 : F.fn 57) (hro : F.round = none) (l Bs : Nat) (J : List Elem → World → Prop) (W : World) (hBs : W.cell? ⟨Bs, 0, none⟩ = some (.slice none 0 0)) (h0 : J [] W) :
    CallsIn F n Tryd.prog 57 #[.func (.yield l) #[] #[], .pointer (some ⟨Bs, 0, none⟩)] W fun e W' => (∃ v, e = .returned v) ∧ J [] W' := by
  refine callsIn_of_wp Tryd.func57 rfl h57 ?_ hro
  simp only [Tryd.ntmps57, List.size_toArray, List.length_cons, List.length_nil, Nat.reduceAdd, Nat.reduceSub, Array.replicate_succ, Array.replicate_zero, List.push_toArray, List.append_toArray, List.nil_append, List.cons_append]
  gi_wp2
  gi_loopw [3] (fun i wr => i = .int .i64 (-1) ∧ J [] wr) (fun _ _ => 0)
  case atStart => exact ⟨rfl, h0⟩
  case round =>
    obtain ⟨rfl, hJs⟩ := hrel
    gi_wp2
    go_end0
    exact ⟨⟨_, rfl⟩, hJs⟩

set_option maxHeartbeats 1000000 in
theorem bwd_in (F : Fence) (n : Nat) (h49 : F.fn 49) (hro : F.round = none) (a : Option Addr) (len cap : Nat) (w : World) :
    CallsIn F n Tryd.prog 49 #[.slice a len cap] w fun e w' => e = .returned (.func (.func 57) #[] #[.pointer (some ⟨w.heap.size, 0, none⟩)]) ∧ w' = w.alloc (.cells #[.slice a len cap] 45) := by
  refine callsIn_of_wp Tryd.func49 rfl h49 ?_ hro
  simp only [Tryd.ntmps49, List.size_toArray, List.length_cons, List.length_nil, Nat.reduceAdd, Nat.reduceSub, Array.replicate_succ, Array.replicate_zero, List.push_toArray, List.append_toArray, List.nil_append, List.cons_append]
  gi_wp2
  go_ret
  exact ⟨rfl, rfl⟩

/-- The value that Backward hands back gives the writes from the end. -/
theorem bwd_stops (F : Fence) (n : Nat) (h57 : F.fn 57) (hro : F.round = none) (hn : 1 ≤ n) (Bs n₀ : Nat) (v : Value) (zs : List (Nat × List Int)) (hreach : zs.length ≤ 1000000) (w : World) (hBn : Bs < n₀) (hn₀ : n₀ ≤ w.heap.size)
    (hc : w.cell? ⟨Bs, 0, none⟩ = some v) (hI : w.ownsRow 0 66 2 v zs.length (wrow zs)) (hlt : ∀ k, v.ownBlock = some k → k < n₀) :
    SeqStopsK F n Tryd.prog 57 #[.pointer (some ⟨Bs, 0, none⟩)] encW (Below n₀) (fun ys => ys = upto (fromEnd zs) zs.length) (fun pre => ∃ k, k ≤ zs.length ∧ pre = upto (fromEnd zs) k) zs.length w := fun l J Jx W hW _ _ hY h0 => by
  have hc' := (hW.cell (p := ⟨Bs, 0, none⟩) (Nat.lt_of_lt_of_le hBn hn₀)).trans hc
  have hI' := own_turn hI (Turn.of_below (S := nowhere) hW) (fun _ _ h => h)
  rcases hI'.2 with ⟨rfl, hz0⟩ | ⟨g, cap, cur, rfl, _, hg, _⟩
  · have hz := List.eq_nil_of_length_eq_zero hz0
    subst hz
    exact (bwd1_nil_in F n h57 hro l Bs J W hc' h0).mono fun e W' ⟨he, hj⟩ => ⟨he, .inl ⟨_, rfl, hj⟩⟩
  · have hcs : ∀ j u, (wrow zs)[j]? = some u → W.cell? ⟨g, j, none⟩ = some u := fun j u hu => by
      have := hI'.cells (g := g) rfl j u hu
      rwa [Addr.add_lit, Nat.zero_add] at this
    refine bwd1_in F n h57 hro hn l Bs n₀ g zs.length cap zs rfl hreach (hlt g rfl) J Jx hY W hc' hBn (fun j hj => ?_) h0
    have := wrow_at zs j hj
    rw [Nat.mul_comm] at this
    exact ⟨hcs _ _ this.1, hcs _ _ this.2⟩
end Go.Proofs.YtjhcjnalomdbnaaDoor.Dv
