/-
  The device: burn, at, Image, Pending, Geo, Fuse, Ops.
-/
import Derived.Test.YtjhcjnalomdbnaaDoorDevNew
namespace Go.Proofs.YtjhcjnalomdbnaaDoor.Dv
open Go.RowKit Bs

/-! ### burn -/
theorem burn_no (g b : Nat) (P : Value) (s : St) (w : World) (h : Dev w g b P s) (h0 : s.fuse = 0) :
    Calls Tryd.prog 41 #[.pointer (some ⟨g, 0, none⟩)] w fun e w' => e = .returned (.bool false) ∧ w = w' := by
  obtain ⟨c, _, _, q0, q1, q2, q3, q4, q5, q6⟩ := h.cells
  rw [h0] at q5
  clear h h0
  go_enter Tryd.func41, Tryd.ntmps41
  go_wp2
  go_ret
  exact ⟨rfl, rfl⟩

def Burnt (g b : Nat) (P : Value) (s : St) (w : World) (e : Ending) (w' : World) : Prop := e = .returned (.bool true) ∧ Dev w' g b P s.burn ∧ Turn w w' (· = g)

theorem heap_set {w : World} {g : Nat} {cs : Array Value} {t : TypeId} (h : w.heap[g]? = some (.cells cs t (0, 0))) (i : Nat) (u : Value) : (w.setCell ⟨g, i, none⟩ u).heap[g]? = some (.cells (cs.setIfInBounds i u) t (0, 0)) := by
  simp [World.setCell, Array.getElem?_modify, h]

set_option maxHeartbeats 1000000 in
theorem burn_yes (g b : Nat) (P : Value) (s : St) (w : World) (h : Dev w g b P s) (h0 : ¬ s.fuse = 0) (ho : s.ops < 1000000) :
    Calls Tryd.prog 41 #[.pointer (some ⟨g, 0, none⟩)] w (Burnt g b P s w) := by
  obtain ⟨c, hc, hm, q0, q1, q2, q3, q4, q5, q6⟩ := h.cells
  have f4 := h.free 4
  have f5 := h.free 5
  have hlo := h.ok.flo
  have hhi := h.ok.fhi
  by_cases h1 : s.fuse = -1
  · have hfin : Burnt g b P s w (.returned (.bool true)) (w.setCell ⟨g, 4, none⟩ (.int .i64 ((s.ops : Int) + 1))) := by
      have ht : Turn w (w.setCell ⟨g, 4, none⟩ (.int .i64 ((s.ops : Int) + 1))) (· = g) := Turn.setCell w _ _ rfl
      refine ⟨rfl, ?_, ht⟩
      obtain ⟨c, hc, hm, hg⟩ := h.box
      refine h.rebox ht hc hm ?_ (h.ok.burn ho) rfl rfl rfl (own_turn h.row ht (fun i hi e => h.pg (by rw [hi, e]))) h.pg h.pb
      rw [heap_set hg, show s.burn.fuse = s.fuse from by unfold St.burn; rw [if_pos h1, h1]]
      rfl
    have HF := Lib.hid hfin
    rw [h1] at q5
    clear hfin h h0 h1 hlo hhi
    go_enter Tryd.func41, Tryd.ntmps41
    go_wp2
    go_ret
    exact HF.out
  · have hfin : Burnt g b P s w (.returned (.bool true)) ((w.setCell ⟨g, 5, none⟩ (.int .i64 (s.fuse - 1))).setCell ⟨g, 4, none⟩ (.int .i64 ((s.ops : Int) + 1))) := by
      have ht : Turn w ((w.setCell ⟨g, 5, none⟩ (.int .i64 (s.fuse - 1))).setCell ⟨g, 4, none⟩ (.int .i64 ((s.ops : Int) + 1))) (· = g) := Turn.trans (S' := (· = g)) (Turn.setCell w _ _ rfl) (Turn.setCell _ _ _ rfl) (fun _ _ h => h)
      refine ⟨rfl, ?_, ht⟩
      obtain ⟨c, hc, hm, hg⟩ := h.box
      refine h.rebox ht hc hm ?_ (h.ok.burn ho) rfl rfl rfl (own_turn h.row ht (fun i hi e => h.pg (by rw [hi, e]))) h.pg h.pb
      rw [heap_set (heap_set hg _ _), show s.burn.fuse = s.fuse - 1 from by unfold St.burn; rw [if_neg h1]]
      rfl
    have HF := Lib.hid hfin
    have e0 : (s.fuse == 0) = false := beq_eq_false_iff_ne.2 h0
    have e1 : (s.fuse != -1) = true := bne_iff_ne.2 h1
    have hh : 1 ≤ s.fuse := by omega
    clear hfin h h0 h1 hlo
    generalize s.fuse = f at *
    go_enter Tryd.func41, Tryd.ntmps41
    go_wp2
    go_ret
    exact HF.out

/-! ### at -/
def AtR (w : World) (b off size : Nat) (e : Ending) (w' : World) : Prop := ∃ c' m, e = .returned (.slice (some ⟨b, off, none⟩) size c') ∧ size ≤ c' ∧ c' ≤ maxLen ∧ w' = w.drewN m

set_option maxHeartbeats 1000000 in
theorem at_any (g b : Nat) (P : Value) (s : St) (k : Nat) (w : World) (h : Dev w g b P s) (hk : k < s.blocks) :
    Calls Tryd.prog 48 #[.pointer (some ⟨g, 0, none⟩), .int .i64 (k : Int)] w (AtR w b (k * s.size) s.size) := by
  obtain ⟨c, hc, hm, q0, q1, q2, q3, q4, q5, q6⟩ := h.cells
  have h1 := h.ok.lo
  have h2 := h.ok.hi
  have h3 := h.ok.bhi
  have hlow : (k + 1) * s.size ≤ s.blocks * s.size := Nat.mul_le_mul_right _ hk
  rw [Nat.add_mul, Nat.one_mul, Nat.mul_comm s.blocks] at hlow
  have hsmall : s.size * s.blocks ≤ 4096 * 4096 := Nat.mul_le_mul h2 h3
  have e1 : (k : Int) * (s.size : Int) = ((k * s.size : Nat) : Int) := by rw [Int.natCast_mul]
  generalize hN : s.size * s.blocks = N at *
  obtain ⟨L, hL⟩ : ∃ L, L = k * s.size := ⟨_, rfl⟩
  rw [← hL] at e1 hlow ⊢
  have HF : ∀ m, Hid (AtR w b L s.size (.returned (.slice (some ⟨b, L, none⟩) s.size (c - L))) (w.drewN m)) := fun m => Lib.hid ⟨c - L, m, rfl, by omega, by omega, rfl⟩
  have e2 : IntKind.i64.wrap ((k : Int) * (s.size : Int)) = (L : Int) := by rw [e1, IntKind.wrap_i64]; omega
  have p0 : (0 : Int) ≤ (L : Int) := by omega
  have p1 : (L : Int) ≤ (N : Int) := by omega
  have p2 : ¬ c = L := by omega
  have p3 : (s.size : Int) ≤ (c : Int) - (L : Int) := by omega
  have p4 : s.size ≤ c - L := by omega
  have p5 : L ≤ c := by omega
  clear h hN hL hlow hsmall e1 hm
  generalize s.size = n at *
  go_enter Tryd.func48, Tryd.ntmps48
  go_wp2
  go_quiet (fail)
  go_wp2
  go_ret
  exact (HF _).out
end Go.Proofs.YtjhcjnalomdbnaaDoor.Dv
