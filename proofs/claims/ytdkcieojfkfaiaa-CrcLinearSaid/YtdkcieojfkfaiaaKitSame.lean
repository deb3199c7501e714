/-
  Same on bytes.
-/
import Derived.Test.YtdkcieojfkfaiaaBase
namespace Go.Proofs.Ytdkcieojfkfaiaa.Bs
open Go.RowKit

set_option maxHeartbeats 400000 in
theorem same_yes (a0 a1 : Option Addr) (n c0 c1 : Nat) (l : List Int) (w : World) (h0 : Seg w a0 n c0 l) (h1 : Seg w a1 n c1 l) :
    Calls Try.prog 15 #[.slice a0 n c0, .slice a1 n c1] w fun e w' => e = .returned (.bool true) ∧ ∃ m, w' = w.drewN m := by
  by_cases hn : n = 0
  · subst hn
    go_enter Try.func15, Try.ntmps15
    go_wp2
    refine wp_loop_rounds 1 ?_
    rw [rounds_succ]
    go_wp2
    go_ret
    exact ⟨rfl, 0, rfl⟩
  · obtain ⟨g0, o0, rfl, k0⟩ := h0.addr (by omega)
    obtain ⟨g1, o1, rfl, k1⟩ := h1.addr (by omega)
    have hm := h0.cap
    have hle := h0.le
    unfold maxLen at hm
    have K0 := Lib.hid k0
    have K1 := Lib.hid k1
    clear k0 k1 h0 h1
    go_enter Try.func15, Try.ntmps15
    go_wp2
    go_loopw [5] (fun si wr => ∃ k m : Nat, k ≤ n ∧ si = .int .i64 k ∧ wr = w.drewN m) (fun si _ => n - (intOf si).toNat)
    case atStart => exact ⟨0, 0, Nat.zero_le _, rfl, rfl⟩
    case round =>
      obtain ⟨k, m, hk, rfl, rfl⟩ := hrel
      by_cases hlt : k < n
      · have q0 := K0.out k hlt
        have q1 := K1.out k hlt
        go_wp2
        go_quiet (fail)
        go_wp2
        go_roundw
        case rel => exact ⟨k + 1, m + nq, by omega, by go_num, by simp⟩
        case measure => simp [intOf]; omega
      · obtain rfl : k = n := by omega
        go_wp2
        go_ret
        exact ⟨rfl, m, rfl⟩
end Go.Proofs.Ytdkcieojfkfaiaa.Bs
