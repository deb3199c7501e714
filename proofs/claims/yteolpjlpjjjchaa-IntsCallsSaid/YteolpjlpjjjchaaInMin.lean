/-
  The smallest number of a column: slices.Min, smallest.
-/
import Derived.Test.YteolpjlpjjjchaaInPack
namespace Go.Proofs.Yteolpjlpjjjchaa.In
open Go.RowKit
open Is (IsI)

theorem minL_take (l : List Int) (k : Nat) (x : Int) (h0 : 1 ≤ k) (h : k < l.length) (hx : l.getD k 0 = x) : minL (l.take (k + 1)) = min (minL (l.take k)) x := by
  have hne : l.take k ≠ [] := fun e => by have := congrArg List.length e; rw [List.length_take, List.length_nil] at this; omega
  rw [List.take_succ_eq_append_getElem h, minL_snoc _ _ hne]
  rw [← hx]; simp [List.getD, h]
theorem min_if (m x : Int) : (if x < m then x else m) = min m x := by split <;> omega
theorem minL_one (l : List Int) (h : 0 < l.length) : minL (l.take 1) = l.getD 0 0 := by
  cases l with
  | nil => simp at h
  | cons x t => simp [minL]

set_option maxRecDepth 100000 in
set_option maxHeartbeats 1000000 in
theorem min_any (a : Option Addr) (n c : Nat) (l : List Int) (w : World) (hs : Is.Seg w a n c l) (hI : IsI l) (hn : 0 < n) :
    Calls Try.prog 72 #[.slice a n c] w fun e w' => e = .returned (.int .i64 (minL l)) ∧ w = w' := by
  have hm := hs.cap
  have hle := hs.le
  unfold maxLen at hm
  have HL := Lib.hid hs.len
  obtain ⟨g, o, rfl, hc⟩ := hs.addr hn
  have HC := Lib.hid hc
  have HI : Hid (∀ k, k < n → -9223372036854775808 ≤ l.getD k 0 ∧ l.getD k 0 ≤ 9223372036854775807) := Lib.hid (fun k hk => by
    have := hs.len
    rw [List.getD_eq_getElem?_getD, List.getElem?_eq_getElem (by omega)]
    exact hI _ (List.getElem_mem _))
  have c0 := hc 0 hn
  rw [Nat.add_zero] at c0
  obtain ⟨x0, hx0⟩ : ∃ x, x = l.getD 0 0 := ⟨_, rfl⟩
  rw [← hx0] at c0
  have HX0 := Lib.hid hx0
  clear hc hs hx0
  go_enter Try.func72, Try.ntmps72
  go_wp2
  go_loop [3, 4] (fun sm si => ∃ (k : Nat) (m : Int), 1 ≤ k ∧ k ≤ n ∧ si = .int .i64 k ∧ sm = .int .i64 m ∧ Hid (m = minL (l.take k))) (fun _ si => n - (intOf si).toNat)
  case atStart => exact ⟨1, x0, Nat.le_refl _, hn, rfl, rfl, Lib.hid (by rw [HX0.out, minL_one l (by have := HL.out; omega)])⟩
  case round =>
    obtain ⟨k, m, hk1, hk, rfl, rfl, HM⟩ := hrel
    by_cases hlt : k < n
    · have g1 := HC.out k hlt
      obtain ⟨x, hx⟩ : ∃ x, l.getD k 0 = x := ⟨_, rfl⟩
      rw [hx] at g1
      have HS := Lib.hid (minL_take l k x hk1 (by have := HL.out; omega) hx)
      clear hx
      go_wp2
      go_round
      case rel => exact ⟨k + 1, min m x, by omega, by omega, by go_num, (by simp only [min_if]), Lib.hid (by rw [HS.out, HM.out])⟩
      case measure => simp [intOf]; omega
    · obtain rfl : k = n := by omega
      go_wp2
      go_ret
      exact ⟨Bs.ret_int (by rw [HM.out, List.take_of_length_le (Nat.le_of_eq HL.out)]), rfl⟩

set_option maxHeartbeats 400000 in
theorem smallest_any (a : Option Addr) (n c : Nat) (l : List Int) (w : World) (hs : Is.Seg w a n c l) (hI : IsI l) :
    Calls Try.prog 64 #[.slice a n c] w fun e w' => e = .returned (.int .i64 (minL l)) ∧ w = w' := by
  by_cases hn : n = 0
  · subst hn
    obtain rfl := List.eq_nil_of_length_eq_zero hs.len
    go_enter Try.func64, Try.ntmps64
    go_wp2
    go_ret
    exact ⟨rfl, rfl⟩
  · have H := Lib.hid (min_any a n c l w hs hI (by omega))
    have hb : ((n : Int) == 0) = false := by simp; omega
    go_enter Try.func64, Try.ntmps64
    go_wp2_with fail
    refine H.out.mono ?_
    rintro e w' ⟨rfl, rfl⟩
    go_wp2
    go_ret
    exact ⟨rfl, rfl⟩
end Go.Proofs.Yteolpjlpjjjchaa.In
