/-
  The document's Put of numbers.
-/
import Derived.Test.YtkinmcnmdfpjbaaRef0
import Derived.Lib.SmallJoins
namespace Go.Proofs.Ytkinmcnmdfpjbaa.Ref1
open Go.RowKit Go.Joins Bs Oct

set_option maxRecDepth 100000 in
set_option maxHeartbeats 1000000 in
theorem rput_any (base : Nat) (v0 : Value) (n : Nat) (l : List Int) (v : Int) (m : Nat) (w : World) (hown : w.ownsRow base 5 1 v0 n (l.map (Value.int .u8))) (hbase : base ≤ w.heap.size) (_h0 : 0 ≤ v) (_h1 : v < 18446744073709551616) (m1 : 1 ≤ m) (m8 : m ≤ 8) (hn : n ≤ 70368744177664) :
    Calls Try.prog 50 #[v0, .int .u64 v, .int .i64 m] w (GrowB base w (l ++ putB m v) (n + m)) := by
  obtain ⟨i0, hi, hz0, hz1, hz2⟩ := info_parts Bs.info_u8
  go_enter Try.func50, Try.ntmps50
  go_wp2
  go_loopw [0, 7] (fun sv i wr => ∃ (k : Nat) (V : Value), k ≤ m ∧ i = .int .i64 k ∧ V = sv ∧ wr.ownsRow base 5 1 V (n + k) ((l ++ putB k v).map (Value.int .u8)) ∧ Below base w wr)
    (fun _ i _ => m - (intOf i).toNat)
  case atStart => exact ⟨0, v0, by omega, rfl, rfl, by simpa [putB] using hown, Below.refl _ _⟩
  case round =>
    obtain ⟨k, V, hk, rfl, rfl, hown, hgr⟩ := hrel
    by_cases hlt : k < m
    · have HP := Lib.hid (putB_snoc k v)
      have hb2 : base ≤ wr.heap.size := Nat.le_trans hbase hgr.size
      go_wp2_with (at_builtin; refine wpList_append_own _ rfl (.tmp 20) (.tmp 27) 85 rfl base 5 i0 (.int .u8 0) 1 1 Try.underlying85 hi hz0 hz1 hz2 rfl (by decide) V (n + k) ((l ++ putB k v).map (Value.int .u8)) rfl (hown.alloc _) ⟨wr.heap.size, 0, none⟩ 1 1 [.int .u8 (v / 2 ^ (8 * k) % 256)] rfl rfl (by intro t u ht; match t, ht with | 0, ht => simp at ht; subst ht; simp [Addr.add]) (by intro u hu; simp at hu; subst hu; rfl) (by unfold maxLen; omega) (by omega) (by simp; omega) ?_; intro v' w1 hown1 hgrow1 _)
      go_roundw
      case rel =>
        refine ⟨k + 1, _, by omega, by go_num, rfl, ?_, (hgr.alloc hb2 _).grown hgrow1 (by simp; omega) (fun i e => (hown.lt i e).1)⟩
        rw [HP.out, ← List.append_assoc, List.map_append]
        exact hown1
      case measure => simp [intOf]; omega
    · obtain rfl : k = m := by omega
      obtain ⟨g, c, rfl⟩ := ownsRow_form hown (by omega)
      have HF : Hid (GrowB base w (l ++ putB k v) (n + k) (.returned (.slice (some ⟨g, 0, none⟩) (n + k) c)) wr) := ⟨g, c, rfl, hown, hgr⟩
      clear hown hgr
      go_wp2
      go_ret
      exact HF.out
end Go.Proofs.Ytkinmcnmdfpjbaa.Ref1
