/-
  The device: Image, Pending, Geo, Fuse, Ops, Write.
-/
import Derived.Test.YtjhcjnalomdbnaaDoorDevOps
namespace Go.Proofs.YtjhcjnalomdbnaaDoor.Dv
open Go.RowKit Bs

theorem conv_any (g o n c : Nat) (l : List Int) (w : World) (h : Reg w g o l) (hl : l.length = n) : (convert 68 9 (.slice (some ⟨g, o, none⟩) n c)).run Tryd.prog w = .ok (.string (strOfNums l)) w :=
  run_convert_bytes_arg w 68 5 Tryd.underlying68 Tryd.underlying5 g o n c l hl (fun j hj => (h.at_ j (by omega)).1) 9 Tryd.underlying9

theorem ops_any (g b : Nat) (P : Value) (s : St) (w : World) (h : Dev w g b P s) :
    Calls Tryd.prog 20 #[.pointer (some ⟨g, 0, none⟩)] w fun e w' => e = .returned (.int .i64 (s.ops : Int)) ∧ w = w' := by
  obtain ⟨c, _, _, q0, q1, q2, q3, q4, q5, q6⟩ := h.cells
  have HV := Lib.hid (valid_yes g w q6)
  clear h
  go_enter Tryd.func20, Tryd.ntmps20
  go_wp2_with (go_at_call 44; refine HV.out.mono ?_; rintro e w' ⟨rfl, rfl⟩)
  go_ret
  exact ⟨rfl, rfl⟩
theorem ops_nil (w : World) : Calls Tryd.prog 20 #[.pointer none] w fun e w' => e = .returned (.int .i64 0) ∧ w = w' := by
  go_enter Tryd.func20, Tryd.ntmps20
  go_wp2_with (go_at_call 44; refine (valid_nil _).mono ?_; rintro e w' ⟨rfl, rfl⟩)
  go_ret
  exact ⟨rfl, rfl⟩

theorem image_any (g b : Nat) (P : Value) (s : St) (w : World) (h : Dev w g b P s) :
    Calls Tryd.prog 34 #[.pointer (some ⟨g, 0, none⟩)] w fun e w' => e = .returned (.string (strOfNums s.dur.flatten)) ∧ w = w' := by
  obtain ⟨c, _, _, q0, q1, q2, q3, q4, q5, q6⟩ := h.cells
  have HV := Lib.hid (valid_yes g w q6)
  have hcv := conv_any b 0 _ c _ w h.reg h.ok.len
  clear h
  go_enter Tryd.func34, Tryd.ntmps34
  go_wp2_with (go_at_call 44; refine HV.out.mono ?_; rintro e w' ⟨rfl, rfl⟩)
  go_ret
  exact ⟨rfl, rfl⟩

theorem pending_any (g b : Nat) (P : Value) (s : St) (w : World) (h : Dev w g b P s) :
    Calls Tryd.prog 21 #[.pointer (some ⟨g, 0, none⟩)] w (NewW w s.pend.length s.pend) := by
  obtain ⟨c, _, _, q0, q1, q2, q3, q4, q5, q6⟩ := h.cells
  have HV := Lib.hid (valid_yes g w q6)
  have HC := Lib.hid (wclone_any P s.pend.length s.pend w h.row h.ok.few)
  clear h
  go_enter Tryd.func21, Tryd.ntmps21
  go_wp2_with (first
    | (go_at_call 44; refine HV.out.mono ?_; rintro e w' ⟨rfl, rfl⟩)
    | fail)
  refine HC.out.mono ?_
  rintro e w1 ⟨a, c, rfl, hn⟩
  have HF : Hid (NewW w s.pend.length s.pend (.returned (.slice a s.pend.length c)) w1) := Lib.hid ⟨a, c, rfl, hn⟩
  clear hn
  go_wp2
  go_ret
  exact HF.out

theorem geo_any (g b : Nat) (P : Value) (s : St) (w : World) (h : Dev w g b P s) :
    Calls Tryd.prog 37 #[.pointer (some ⟨g, 0, none⟩)] w fun e w' => e = .returned (.agg #[.int .i64 (s.size : Int), .int .i64 (s.blocks : Int)]) ∧ Turn w w' nowhere := by
  obtain ⟨c, _, _, q0, q1, q2, q3, q4, q5, q6⟩ := h.cells
  have p6 : ∀ o, (w.alloc o).cell? ⟨g, 6, none⟩ = some (.pointer (some ⟨g, 0, none⟩)) := fun o => (Turn.alloc w o nowhere).cell q6 id
  have p0 : ∀ o, (w.alloc o).cell? ⟨g, 0, none⟩ = some (.int .i64 (s.size : Int)) := fun o => (Turn.alloc w o nowhere).cell q0 id
  have p1 : ∀ o, (w.alloc o).cell? ⟨g, 1, none⟩ = some (.int .i64 (s.blocks : Int)) := fun o => (Turn.alloc w o nowhere).cell q1 id
  have HV := Lib.hid (fun w (hh : w.cell? ⟨g, 6, none⟩ = some (.pointer (some ⟨g, 0, none⟩))) => valid_yes g w hh)
  have P6 := Lib.hid p6
  have HT := Lib.hid (Turn.alloc w (.cells #[.int .i64 (s.size : Int), .int .i64 (s.blocks : Int)] 28) nowhere)
  clear h q0 q1 q2 q3 q4 q5 q6 p6
  go_enter Tryd.func37, Tryd.ntmps37
  go_wp2_with (go_at_call 44; refine (HV.out _ (P6.out _)).mono ?_; rintro e w' ⟨rfl, rfl⟩)
  exact bodyPost_ret (v := .agg #[.int .i64 (s.size : Int), .int .i64 (s.blocks : Int)]) (by simp [results, Tryd.results37, go_sem]) rfl ⟨rfl, HT.out⟩

def Fused (g b : Nat) (P : Value) (s : St) (w : World) (n : Int) (e : Ending) (w' : World) : Prop := e = .returned (.tuple #[]) ∧ Dev w' g b P (s.setFuse n) ∧ Turn w w' (· = g)

theorem fuse_any (g b : Nat) (P : Value) (s : St) (n : Int) (w : World) (h : Dev w g b P s) (hn : -9223372036854775808 ≤ n ∧ n ≤ 9223372036854775807) :
    Calls Tryd.prog 19 #[.pointer (some ⟨g, 0, none⟩), .int .i64 n] w (Fused g b P s w n) := by
  obtain ⟨c, _, _, q0, q1, q2, q3, q4, q5, q6⟩ := h.cells
  have f5 := h.free 5
  have HV := Lib.hid (valid_yes g w q6)
  have hfin : Fused g b P s w n (.returned (.tuple #[])) (w.setCell ⟨g, 5, none⟩ (.int .i64 (max n (-1)))) := by
    have ht : Turn w (w.setCell ⟨g, 5, none⟩ (.int .i64 (max n (-1)))) (· = g) := Turn.setCell w _ _ rfl
    refine ⟨rfl, ?_, ht⟩
    obtain ⟨c, hc, hm, hg⟩ := h.box
    refine h.rebox ht hc hm ?_ (h.ok.setFuse n hn.2) rfl rfl rfl (own_turn h.row ht (fun i hi e => h.pg (by rw [hi, e]))) h.pg h.pb
    rw [heap_set hg]
    rfl
  have HF := Lib.hid hfin
  clear hfin h
  go_enter Tryd.func19, Tryd.ntmps19
  go_wp2_with (go_at_call 44; refine HV.out.mono ?_; rintro e w' ⟨rfl, rfl⟩)
  · have hq : n < -1 := by assumption
    have h2 := HF.out
    rw [show max n (-1) = -1 from by omega] at h2
    go_end0
    exact h2
  · have hq : -1 ≤ n := by assumption
    have h2 := HF.out
    rw [show max n (-1) = n from by omega] at h2
    go_end0
    exact h2
end Go.Proofs.YtjhcjnalomdbnaaDoor.Dv
