/-
  Pick.
-/
import Derived.Test.YtkinmcnmdfpjbaaBase
namespace Go.Proofs.Ytkinmcnmdfpjbaa.Bs
open Go.RowKit

/-- n modulo m, from 0 on -/
def pick (n m : Int) : Int := if m < 1 then 0 else n % m
theorem pick_range (n m : Int) (h : 1 ≤ m) : 0 ≤ pick n m ∧ pick n m < m := by
  unfold pick
  rw [if_neg (by omega)]
  exact ⟨Int.emod_nonneg _ (by omega), Int.emod_lt_of_pos _ (by omega)⟩

theorem pick_up (n m : Int) (h1 : 1 ≤ m) (h2 : m ≤ 9223372036854775807) (h : n.tmod m < 0) : wrap64 (n.tmod m + m) = pick n m := by
  have hr := pick_range n m h1
  unfold pick at hr ⊢
  rw [if_neg (by omega)] at hr ⊢
  have e := Int.tmod_eq_emod (a := n) (b := m)
  split at e
  · omega
  · rw [IntWalk.wrap64_in _ (by omega)]
    omega
theorem pick_same (n m : Int) (h1 : 1 ≤ m) (h : 0 ≤ n.tmod m) : n.tmod m = pick n m := by
  have hr := pick_range n m h1
  unfold pick at hr ⊢
  rw [if_neg (by omega)] at hr ⊢
  have e := Int.tmod_eq_emod (a := n) (b := m)
  split at e
  · omega
  · omega

set_option maxHeartbeats 400000 in
theorem pick_any (n m : Int) (w : World) (h1 : 1 ≤ m) (h2 : m ≤ 9223372036854775807) :
    Calls Try.prog 22 #[.int .i64 n, .int .i64 m] w fun e w' => e = .returned (.int .i64 (pick n m)) ∧ w = w' := by
  go_enter Try.func22, Try.ntmps22
  go_wp2
  · have hlt : n.tmod m < 0 := by assumption
    go_ret
    exact ⟨ret_int (pick_up n m h1 h2 hlt), rfl⟩
  · have hge : 0 ≤ n.tmod m := by assumption
    go_ret
    exact ⟨ret_int (pick_same n m h1 hge), rfl⟩
end Go.Proofs.Ytkinmcnmdfpjbaa.Bs
