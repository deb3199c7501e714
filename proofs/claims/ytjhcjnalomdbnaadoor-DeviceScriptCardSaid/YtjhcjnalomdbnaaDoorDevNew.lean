/-
  The device: New.
-/
import Derived.Test.YtjhcjnalomdbnaaDoorDevImpl
namespace Go.Proofs.YtjhcjnalomdbnaaDoor.Dv
open Go.RowKit Bs

def zeros (size blocks : Nat) : List (List Int) := List.replicate blocks (rep size 0)
theorem zeros_isD (size blocks : Nat) : IsD size (zeros size blocks) := by
  intro l hl
  rw [List.eq_of_mem_replicate hl]
  exact ⟨rep_len _ _, rep_isB _ _ (by omega)⟩
theorem zeros_flat (size blocks : Nat) : (zeros size blocks).flatten = rep (size * blocks) 0 := by
  unfold zeros rep
  rw [List.flatten_replicate_replicate, Nat.mul_comm]
theorem zeros_ok {size blocks : Nat} (h : 128 ≤ (size : Int) ∧ (size : Int) ≤ 4096 ∧ (size : Int) % 64 = 0 ∧ 8 ≤ (blocks : Int) ∧ (blocks : Int) ≤ 4096) : (St.fresh size blocks (zeros size blocks)).Ok :=
  fresh_ok (by omega) (by omega) (by omega) (by omega) (by omega) (zeros_isD _ _) (by simp [zeros])

theorem reg_made (w : World) (N : Nat) : Reg (w.alloc (.cells (madeCells (Value.int .u8 0).cells N) 5)) w.heap.size 0 (rep N 0) := fun j x hx => by
  have hg := heap_alloc_new w (.cells (madeCells (Value.int .u8 0).cells N) 5)
  have e : (madeCells (Value.int .u8 0).cells N).toList = List.replicate N (.int .u8 0) := toList_madeCells_one _ _
  refine ⟨?_, by unfold World.frozen?; rw [hg]; simp⟩
  rw [cell_of_row _ _ _ _ _ _ hg, Nat.zero_add, ← Array.getElem?_toList, e]
  unfold rep at hx
  rw [List.getElem?_replicate] at hx ⊢
  split at hx
  · rename_i h
    rw [if_pos h, ← Option.some.inj hx]
  · cases hx

theorem make_bytes (N : Nat) (hN : N ≤ 100000000) (W : World) : (Instr.makeSlice 68 (.int .i64 (N : Int)) (.int .i64 (N : Int))).run Tryd.prog W = .ok (.slice (some ⟨W.heap.size, 0, none⟩) N N) (W.alloc (.cells (madeCells (Value.int .u8 0).cells N) 5)) := by
  obtain ⟨i0, hi, hz0, hz1, hz2⟩ := info_parts info_u8
  have h := run_make (P := Tryd.prog) W 68 5 i0 (.int .u8 0) Tryd.underlying68 hi hz0 .i64 .i64 (N : Int) (N : Int) (by omega) (by omega) (by rw [hz2]; omega) (by omega)
  rw [hz1, Int.toNat_natCast, Nat.mul_one] at h
  exact h

def NewX (w : World) (size blocks : Nat) (e : Ending) (w' : World) : Prop :=
  ∃ g b, e = .returned (.tuple #[.pointer (some ⟨g, 0, none⟩), .int .i64 0]) ∧ Dev w' g b (.slice none 0 0) (St.fresh size blocks (zeros size blocks)) ∧ w.heap.size ≤ g ∧ w.heap.size ≤ b ∧ Turn w w' nowhere

set_option maxHeartbeats 1000000 in
theorem new_no (size blocks : Int) (w : World) (h : geoB size blocks = false) :
    Calls Tryd.prog 10 #[.agg #[.int .i64 size, .int .i64 blocks]] w fun e w' => e = .returned (.tuple #[.pointer none, .int .i64 2]) ∧ Turn w w' nowhere := by
  have HE := Lib.hid (show geoE size blocks = 2 by unfold geoE; rw [h]; rfl)
  have HC := Lib.hid (fun w => check_any size blocks w)
  have HT := Lib.hid ((Turn.alloc w (.cells #[.int .i64 size, .int .i64 blocks] 28) nowhere).trans (Turn.alloc _ (.cells #[.int .i64 size, .int .i64 blocks] 28) nowhere) (fun _ _ h => h))
  clear h
  go_enter Tryd.func10, Tryd.ntmps10
  go_wp2_with fail
  refine (HC.out _).mono ?_
  rw [HE.out]
  rintro e w' ⟨rfl, rfl⟩
  go_wp2
  go_ret2
  exact ⟨rfl, HT.out⟩

set_option maxHeartbeats 1000000 in
theorem new_yes (size blocks : Nat) (w : World) (h : geoB size blocks = true) :
    Calls Tryd.prog 10 #[.agg #[.int .i64 (size : Int), .int .i64 (blocks : Int)]] w (NewX w size blocks) := by
  have HE := Lib.hid (show geoE size blocks = 0 by unfold geoE; rw [h]; rfl)
  have hg := of_decide_eq_true h
  have OK := Lib.hid (zeros_ok hg)
  have hN : size * blocks ≤ 16777216 := Nat.le_trans (Nat.mul_le_mul (by omega) (by omega) : size * blocks ≤ 4096 * 4096) (by decide)
  have HC := Lib.hid (fun w => check_any size blocks w)
  have e1 : (size : Int) * (blocks : Int) = ((size * blocks : Nat) : Int) := by rw [Int.natCast_mul]
  have hmk := make_bytes (size * blocks) (by omega)
  obtain ⟨M, hM⟩ : ∃ M, M = madeCells (Value.int .u8 0).cells (size * blocks) := ⟨_, rfl⟩
  rw [← hM, ← e1] at hmk
  have HM := Lib.hid hM
  have e2 : IntKind.i64.wrap ((size : Int) * (blocks : Int)) = (size : Int) * (blocks : Int) := by rw [e1, IntKind.wrap_i64]; omega
  have HR := Lib.hid (fun W : World => (by rw [zeros_flat, hM]; exact reg_made W (size * blocks) : Reg (W.alloc (.cells M 5)) W.heap.size 0 (zeros size blocks).flatten))
  clear h hM hg e1
  go_enter Tryd.func10, Tryd.ntmps10
  go_wp2_with fail
  refine (HC.out _).mono ?_
  rw [HE.out]
  rintro e w' ⟨rfl, rfl⟩
  go_wp2_with fail
  go_region_held3 (fun w' => w'.cell? ⟨w.heap.size, 0, none⟩ = some (.int .i64 (size : Int)) ∧ w'.cell? ⟨w.heap.size, 1, none⟩ = some (.int .i64 (blocks : Int))) (go_keep)
    (first
      | (go_at_call 39
         (with_reducible refine (with_any size blocks _ _ (zeros size blocks) _ ?hr (Nat.le_refl _) (by unfold maxLen; omega) OK.out).mono ?_)
         case hr =>
           have h := (HR.out ((w.alloc (.cells #[.int .i64 (size : Int), .int .i64 (blocks : Int)] 28)).alloc (.cells #[.int .i64 (size : Int), .int .i64 (blocks : Int)] 28))).turn (Turn.drew _ nowhere) id
           rw [World.size_alloc, World.size_alloc] at h
           exact h
         rintro e w2 ⟨g, rfl, hd, hge, ht⟩
         have q0 := ht.cell (p := ⟨w.heap.size, 0, none⟩) (v := .int .i64 (size : Int)) (by simp [go_sem]) id
         have q1 := ht.cell (p := ⟨w.heap.size, 1, none⟩) (v := .int .i64 (blocks : Int)) (by simp [go_sem]) id
         have HF : Hid (NewX w size blocks (.returned (.tuple #[.pointer (some ⟨g, 0, none⟩), .int .i64 0])) w2) := Lib.hid ⟨g, _, rfl, hd, by simp at hge; omega, by omega,
           ((((Turn.alloc w _ nowhere).trans (Turn.alloc _ _ nowhere) (fun _ _ h => h)).trans (Turn.alloc _ _ nowhere) (fun _ _ h => h)).trans (Turn.drew _ nowhere) (fun _ _ h => h)).trans ht (fun _ _ h => h)⟩
         clear hd hge ht)
      | fail)
  go_wp2
  go_ret2
  exact HF.out
end Go.Proofs.YtjhcjnalomdbnaaDoor.Dv
