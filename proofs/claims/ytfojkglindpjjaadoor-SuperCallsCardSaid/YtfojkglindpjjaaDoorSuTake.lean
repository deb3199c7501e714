/-
  The program's take: a block marked as used, once; the flags in memory.
-/
import Derived.Test.YtfojkglindpjjaaDoorSuMem
import Derived.Test.YtfojkglindpjjaaDoorBBase
namespace Go.Proofs.YtfojkglindpjjaaDoor.Su
open Go.RowKit Bs Dv Gr
open Fr (block_turn)

/-- flags in block g -/
def Fl (w : World) (g : Nat) (l : List Bool) : Prop := ∀ j, j < l.length → w.cell? ⟨g, j, none⟩ = some (.bool (l.getD j false)) ∧ w.frozen? ⟨g, j, none⟩ = false
theorem Fl.turn {w w' : World} {g : Nat} {l : List Bool} {S : Nat → Prop} (h : Fl w g l) (k : Turn w w' S) (hS : ¬ S g) : Fl w' g l := fun j hj => by
  obtain ⟨h1, h2⟩ := h j hj
  exact ⟨k.cell h1 hS, (k.frozen (p := ⟨g, j, none⟩) (World.block_lt_of_cell? w _ h1) hS).trans h2⟩
theorem Fl.set {w : World} {g : Nat} {l : List Bool} (h : Fl w g l) (p : Nat) : Fl (w.setCell ⟨g, p, none⟩ (.bool true)) g (l.set p true) := fun j hj => by
  rw [List.length_set] at hj
  obtain ⟨h1, h2⟩ := h j hj
  refine ⟨?_, by rw [World.frozen?_setCell]; exact h2⟩
  by_cases e : p = j
  · subst e
    rw [World.cell?_setCell_same _ _ _ h1]
    simp [List.getD, hj]
  · rw [World.cell?_setCell_other _ _ _ _ (fun q => e (by cases q; rfl)), h1]
    simp [List.getD, List.getElem?_set_ne e]
def roomB (S : Nat) : Array Value := madeCells (Value.bool false).cells S
theorem make_flags (S : Nat) (hS : S ≤ 1000000) (W : World) : (Instr.makeSlice 80 (.int .i64 (S : Int)) (.int .i64 (S : Int))).run Tryd.prog W = .ok (.slice (some ⟨W.heap.size, 0, none⟩) S S) (W.alloc (.cells (roomB S) 4)) := by
  obtain ⟨i0, hi, hz0, hz1, hz2⟩ := info_parts Bl.info_bool
  have h := run_make (P := Tryd.prog) W 80 4 i0 (.bool false) Tryd.underlying80 hi hz0 .i64 .i64 (S : Int) (S : Int) (by omega) (by omega) (by rw [hz2]; omega) (by omega)
  rw [hz1, Int.toNat_natCast, Nat.mul_one] at h
  exact h
theorem fl_made (W : World) (S : Nat) : Fl (W.alloc (.cells (roomB S) 4)) W.heap.size (List.replicate S false) := fun j hj => by
  rw [List.length_replicate] at hj
  have q := heap_alloc_new W (.cells (roomB S) 4)
  refine ⟨?_, by simp only [World.frozen?, q]; simp⟩
  rw [cell_of_row _ _ _ _ _ _ (heap_alloc_new W _)]
  have h1 : (roomB S).toList = List.replicate S (Value.bool false) := toList_madeCells_one _ _
  rw [← Array.getElem?_toList, h1]
  simp [List.getD, hj]

set_option maxHeartbeats 400000 in
theorem take_far (g N : Nat) (l : List Bool) (p : Int) (w : World) (hl : l.length = N) (hN : N ≤ 1000000) (hp : 0 ≤ p ∧ p < 4294967296) (h : (N : Int) ≤ p) :
    Calls Tryd.prog 49 #[.slice (some ⟨g, 0, none⟩) N N, .int .u32 p] w fun e w' => e = .returned (.bool false) ∧ w = w' := by
  have e1 : IntKind.u64.wrap (N : Int) = (N : Int) := Fr.wrap64u N (by omega)
  have e2 : IntKind.u64.wrap p = p := by
    have e : IntKind.u64.wrap p = p % 18446744073709551616 := by simp [IntKind.wrap, IntKind.bits, IntKind.signed]
    rw [e]; omega
  have e3 : decide ((N : Int) ≤ p) = true := decide_eq_true h
  clear h hl
  go_enter Tryd.func49, Tryd.ntmps49
  go_wp2
  go_ret
  exact ⟨rfl, rfl⟩
set_option maxHeartbeats 400000 in
theorem take_used (g N k : Nat) (l : List Bool) (w : World) (hl : l.length = N) (hN : N ≤ 1000000) (hk : k < N) (hF : Fl w g l) (h : l.getD k false = true) :
    Calls Tryd.prog 49 #[.slice (some ⟨g, 0, none⟩) N N, .int .u32 k] w fun e w' => e = .returned (.bool false) ∧ w = w' := by
  have e1 : IntKind.u64.wrap (N : Int) = (N : Int) := Fr.wrap64u N (by omega)
  have e2 : IntKind.u64.wrap (k : Int) = (k : Int) := Fr.wrap64u k (by omega)
  have e3 : decide ((N : Int) ≤ (k : Int)) = false := decide_eq_false (by omega)
  have q1 := (hF k (by omega)).1
  rw [h] at q1
  clear h hl hF
  go_enter Tryd.func49, Tryd.ntmps49
  go_wp2
  go_ret
  exact ⟨rfl, rfl⟩
set_option maxHeartbeats 400000 in
theorem take_free (g N k : Nat) (l : List Bool) (w : World) (hl : l.length = N) (hN : N ≤ 1000000) (hk : k < N) (hF : Fl w g l) (h : l.getD k false = false) :
    Calls Tryd.prog 49 #[.slice (some ⟨g, 0, none⟩) N N, .int .u32 k] w fun e w' => e = .returned (.bool true) ∧ Fl w' g (l.set k true) ∧ Turn w w' (· = g) := by
  have e1 : IntKind.u64.wrap (N : Int) = (N : Int) := Fr.wrap64u N (by omega)
  have e2 : IntKind.u64.wrap (k : Int) = (k : Int) := Fr.wrap64u k (by omega)
  have e3 : decide ((N : Int) ≤ (k : Int)) = false := decide_eq_false (by omega)
  obtain ⟨q1, q2⟩ := hF k (by omega)
  rw [h] at q1
  have HF := Lib.hid (hF.set k)
  have HT := Lib.hid (Turn.setCell w ⟨g, k, none⟩ (.bool true) (S := (· = g)) rfl)
  clear h hl hF
  go_enter Tryd.func49, Tryd.ntmps49
  go_wp2
  go_ret
  exact ⟨rfl, HF.out, HT.out⟩
end Go.Proofs.YtfojkglindpjjaaDoor.Su
