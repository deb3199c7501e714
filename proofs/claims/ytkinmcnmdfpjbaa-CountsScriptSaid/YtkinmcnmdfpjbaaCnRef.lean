/-
  The document's counts in memory: a struct, its row; what looks at one block, and what changes one.
-/
import Derived.Test.YtkinmcnmdfpjbaaCnNum
import Derived.Test.YtkinmcnmdfpjbaaMem
namespace Go.Proofs.Ytkinmcnmdfpjbaa.Cn
open Go.RowKit Bs Dv

/-- the document's counts: a struct at g, its row at h -/
structure RC (w : World) (g h cap : Nat) (size : Int) (N : List Int) : Prop where
  box : w.heap[g]? = some (.cells #[.int .i64 size, .int .i64 (N.length : Int), .slice (some ⟨h, 0, none⟩) N.length cap] 56 (0, 0))
  row : ∀ j, j < N.length → w.cell? ⟨h, j, none⟩ = some (.int .i64 (N.getD j 0)) ∧ w.frozen? ⟨h, j, none⟩ = false
  ne : g ≠ h
  le : N.length ≤ cap
  small : N.length ≤ 4096

theorem rmay_any (g h cap : Nat) (size : Int) (N : List Int) (n : Int) (w : World) (hc : RC w g h cap size N) (hn : 0 ≤ n ∧ n < 4294967296) :
    Calls Try.prog 48 #[.pointer (some ⟨g, 0, none⟩), .int .u32 n] w fun e w' => e = .returned (.bool (decide (2 ≤ n ∧ n < (N.length : Int)))) ∧ w' = w := by
  have c2 : w.cell? ⟨g, 2, none⟩ = some (.slice (some ⟨h, 0, none⟩) N.length cap) := by rw [cell_of_row _ _ _ _ _ _ hc.box]; rfl
  have hs := hc.small
  have e1 : IntKind.u64.wrap (N.length : Int) = (N.length : Int) := by rw [IntKind.wrap_u64]; omega
  have e2 : IntKind.u64.wrap n = n := by rw [IntKind.wrap_u64]; omega
  obtain ⟨L, hL⟩ : ∃ L, N.length = L := ⟨_, rfl⟩
  rw [hL] at c2 hs e1 ⊢
  clear hL hc
  by_cases h1 : 2 ≤ n
  · have q1 : decide (2 ≤ n) = true := decide_eq_true h1
    by_cases h2 : n < (L : Int)
    · have q2 : decide (n < (L : Int)) = true := decide_eq_true h2
      rw [decide_eq_true (⟨h1, h2⟩ : 2 ≤ n ∧ n < (L : Int))]
      clear h1 h2
      go_enter Try.func48, Try.ntmps48
      go_wp2
      go_ret
      exact ⟨rfl, rfl⟩
    · have q2 : decide (n < (L : Int)) = false := decide_eq_false h2
      rw [decide_eq_false (fun k : 2 ≤ n ∧ n < (L : Int) => h2 k.2)]
      clear h1 h2
      go_enter Try.func48, Try.ntmps48
      go_wp2
      go_ret
      exact ⟨rfl, rfl⟩
  · have q1 : decide (2 ≤ n) = false := decide_eq_false h1
    rw [decide_eq_false (fun k : 2 ≤ n ∧ n < (L : Int) => h1 k.1)]
    clear h1
    go_enter Try.func48, Try.ntmps48
    go_wp2
    go_ret
    exact ⟨rfl, rfl⟩

theorem rget_any (g h cap : Nat) (size : Int) (N : List Int) (n : Nat) (w : World) (hc : RC w g h cap size N) (hn : n < 4294967296) :
    Calls Try.prog 29 #[.pointer (some ⟨g, 0, none⟩), .int .u32 (n : Int)] w fun e w' => e = .returned (.int .i64 (N.getD n 0)) ∧ w' = w := by
  have c2 : w.cell? ⟨g, 2, none⟩ = some (.slice (some ⟨h, 0, none⟩) N.length cap) := by rw [cell_of_row _ _ _ _ _ _ hc.box]; rfl
  have hs := hc.small
  have hle := hc.le
  have e1 : IntKind.u64.wrap (N.length : Int) = (N.length : Int) := by rw [IntKind.wrap_u64]; omega
  have e2 : IntKind.u64.wrap (n : Int) = (n : Int) := by rw [IntKind.wrap_u64]; omega
  by_cases h2 : n < N.length
  · have q1 : decide (N.length ≤ n) = false := decide_eq_false (by omega)
    have q2 : decide ((N.length : Int) ≤ (n : Int)) = false := decide_eq_false (by omega)
    have hcell := (hc.row n h2).1
    obtain ⟨x, hx⟩ : ∃ x, N.getD n 0 = x := ⟨_, rfl⟩
    obtain ⟨L, hL⟩ : ∃ L, N.length = L := ⟨_, rfl⟩
    rw [hx] at hcell ⊢
    rw [hL] at c2 e1 h2 q1 q2 hle
    clear hc hx hL hs
    go_enter Try.func29, Try.ntmps29
    go_wp2
    go_ret
    exact ⟨rfl, rfl⟩
  · have q1 : decide (N.length ≤ n) = true := decide_eq_true (by omega)
    have q2 : decide ((N.length : Int) ≤ (n : Int)) = true := decide_eq_true (by omega)
    have hx : N.getD n 0 = 0 := by rw [List.getD_eq_getElem?_getD, List.getElem?_eq_none (by omega)]; rfl
    rw [hx]
    obtain ⟨L, hL⟩ : ∃ L, N.length = L := ⟨_, rfl⟩
    rw [hL] at c2 e1 q1 q2
    clear hc hx hL hs h2 hle
    go_enter Try.func29, Try.ntmps29
    go_wp2
    go_ret
    exact ⟨rfl, rfl⟩
end Go.Proofs.Ytkinmcnmdfpjbaa.Cn
