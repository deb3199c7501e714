/-
  The device: Check, with, New, valid, find, burn, at, Image, Pending, Geo, Fuse, Ops.
-/
import Derived.Test.YtjhcjnalomdbnaaDoorDevKit
namespace Go.Proofs.YtjhcjnalomdbnaaDoor.Dv
open Go.RowKit Bs

def geoE (size blocks : Int) : Int := if geoB size blocks = true then 0 else 2
theorem geoE_yes {size blocks : Int} (h : 128 ≤ size ∧ size ≤ 4096 ∧ size % 64 = 0 ∧ 8 ≤ blocks ∧ blocks ≤ 4096) : geoE size blocks = 0 := if_pos (decide_eq_true h)
theorem geoE_no {size blocks : Int} (h : ¬ (128 ≤ size ∧ size ≤ 4096 ∧ size % 64 = 0 ∧ 8 ≤ blocks ∧ blocks ≤ 4096)) : geoE size blocks = 2 := if_neg (by unfold geoB; rw [decide_eq_false h]; decide)

def geoBox (w : World) (size blocks : Int) : World := w.alloc (.cells #[.int .i64 size, .int .i64 blocks] 28)

set_option maxHeartbeats 1000000 in
theorem check_any (size blocks : Int) (w : World) :
    Calls Tryd.prog 24 #[.agg #[.int .i64 size, .int .i64 blocks]] w fun e w' => e = .returned (.int .i64 (geoE size blocks)) ∧ w' = w.alloc (.cells #[.int .i64 size, .int .i64 blocks] 28) := by
  obtain ⟨r, hr⟩ : ∃ r, r = geoE size blocks := ⟨_, rfl⟩
  have HR := Lib.hid hr
  rw [← hr]
  clear hr
  by_cases h1 : size < 128
  · have HE := Lib.hid (show r = 2 by rw [HR.out]; exact geoE_no (by omega))
    by_cases h4 : blocks < 8
    · go_enter Tryd.func24, Tryd.ntmps24
      go_wp2
      go_ret
      exact ⟨ret_int HE.out.symm, rfl⟩
    · go_enter Tryd.func24, Tryd.ntmps24
      go_wp2
      all_goals
        go_ret
        exact ⟨ret_int HE.out.symm, rfl⟩
  · by_cases h2 : 4096 < size
    · have HE := Lib.hid (show r = 2 by rw [HR.out]; exact geoE_no (by omega))
      by_cases h4 : blocks < 8
      · go_enter Tryd.func24, Tryd.ntmps24
        go_wp2
        go_ret
        exact ⟨ret_int HE.out.symm, rfl⟩
      · go_enter Tryd.func24, Tryd.ntmps24
        go_wp2
        all_goals
          go_ret
          exact ⟨ret_int HE.out.symm, rfl⟩
    · by_cases h3 : size % 64 = 0
      · have e3 : (size % 64 == 0) = true := beq_iff_eq.2 h3
        by_cases h4 : blocks < 8
        · have HE := Lib.hid (show r = 2 by rw [HR.out]; exact geoE_no (by omega))
          clear h3
          go_enter Tryd.func24, Tryd.ntmps24
          go_wp2
          go_ret
          exact ⟨ret_int HE.out.symm, rfl⟩
        · by_cases h5 : 4096 < blocks
          · have HE := Lib.hid (show r = 2 by rw [HR.out]; exact geoE_no (by omega))
            have e5 : decide (blocks ≤ 4096) = false := decide_eq_false (by omega)
            clear h3
            go_enter Tryd.func24, Tryd.ntmps24
            go_wp2
            go_ret
            exact ⟨ret_int HE.out.symm, rfl⟩
          · have HE := Lib.hid (show r = 0 by rw [HR.out]; exact geoE_yes (by omega))
            have e5 : decide (blocks ≤ 4096) = true := decide_eq_true (by omega)
            clear h3
            go_enter Tryd.func24, Tryd.ntmps24
            go_wp2
            go_ret
            exact ⟨ret_int HE.out.symm, rfl⟩
      · have e3 : (size % 64 == 0) = false := beq_eq_false_iff_ne.2 h3
        have HE := Lib.hid (show r = 2 by rw [HR.out]; exact geoE_no (by omega))
        clear h3
        by_cases h4 : blocks < 8
        · go_enter Tryd.func24, Tryd.ntmps24
          go_wp2
          go_ret
          exact ⟨ret_int HE.out.symm, rfl⟩
        · go_enter Tryd.func24, Tryd.ntmps24
          go_wp2
          all_goals
            go_ret
            exact ⟨ret_int HE.out.symm, rfl⟩

/-! ### valid, find -/
theorem info_dev : (Tryd.prog.info? 75).isSome = true := by kernel_rfl
theorem eql_dev (a : Addr) (w : World) : (binOp .eql 23 (.pointer (some a)) (.pointer (some a))).run Tryd.prog w = .ok (.bool true) w := by
  obtain ⟨j, hj⟩ := Option.isSome_iff_exists.1 info_dev
  exact run_eql_ptr_same w a Tryd.underlying23 hj

theorem valid_yes (g : Nat) (w : World) (h : w.cell? ⟨g, 6, none⟩ = some (.pointer (some ⟨g, 0, none⟩))) :
    Calls Tryd.prog 44 #[.pointer (some ⟨g, 0, none⟩)] w fun e w' => e = .returned (.bool true) ∧ w = w' := by
  have he := eql_dev ⟨g, 0, none⟩
  go_enter Tryd.func44, Tryd.ntmps44
  go_wp2
  go_ret
  exact ⟨rfl, rfl⟩
theorem valid_nil (w : World) : Calls Tryd.prog 44 #[.pointer none] w fun e w' => e = .returned (.bool false) ∧ w = w' := by
  go_enter Tryd.func44, Tryd.ntmps44
  go_wp2
  go_ret
  exact ⟨rfl, rfl⟩

def blockE (s : St) (block : Int) : Int := if s.hasB block then 0 else 2

theorem find_any (g : Nat) (b : Nat) (P : Value) (s : St) (block : Int) (w : World) (h : Dev w g b P s) :
    Calls Tryd.prog 40 #[.pointer (some ⟨g, 0, none⟩), .int .i64 block] w fun e w' => e = .returned (.int .i64 (blockE s block)) ∧ w = w' := by
  obtain ⟨c, _, _, q0, q1, q2, q3, q4, q5, q6⟩ := h.cells
  have HV := Lib.hid (valid_yes g w q6)
  obtain ⟨r, hr⟩ : ∃ r, r = blockE s block := ⟨_, rfl⟩
  have HR := Lib.hid hr
  rw [← hr]
  clear hr h
  by_cases h1 : block < 0
  · have HE := Lib.hid (show r = 2 by rw [HR.out]; exact if_neg (by unfold St.hasB; omega))
    go_enter Tryd.func40, Tryd.ntmps40
    go_wp2_with (go_at_call 44; refine HV.out.mono ?_; rintro e w' ⟨rfl, rfl⟩)
    go_ret
    exact ⟨ret_int HE.out.symm, rfl⟩
  · by_cases h2 : (s.blocks : Int) ≤ block
    · have HE := Lib.hid (show r = 2 by rw [HR.out]; exact if_neg (by unfold St.hasB; omega))
      go_enter Tryd.func40, Tryd.ntmps40
      go_wp2_with (go_at_call 44; refine HV.out.mono ?_; rintro e w' ⟨rfl, rfl⟩)
      go_ret
      exact ⟨ret_int HE.out.symm, rfl⟩
    · have HE := Lib.hid (show r = 0 by rw [HR.out]; exact if_pos (by unfold St.hasB; omega))
      go_enter Tryd.func40, Tryd.ntmps40
      go_wp2_with (go_at_call 44; refine HV.out.mono ?_; rintro e w' ⟨rfl, rfl⟩)
      go_ret
      exact ⟨ret_int HE.out.symm, rfl⟩

/-! ### with, New -/
/-- A new device. -/
def NewD (w : World) (b : Nat) (s : St) (e : Ending) (w' : World) : Prop :=
  ∃ g, e = .returned (.pointer (some ⟨g, 0, none⟩)) ∧ Dev w' g b (.slice none 0 0) s ∧ w.heap.size ≤ g ∧ Turn w w' nowhere

theorem cells_dev : Tryd.prog.cellsOf 75 = 7 := by kernel_rfl

set_option maxHeartbeats 1000000 in
theorem with_any (size blocks b c : Nat) (d : List (List Int)) (w : World) (h : Reg w b 0 d.flatten) (hc : size * blocks ≤ c) (hm : c ≤ maxLen) (ok : (St.fresh size blocks d).Ok) :
    Calls Tryd.prog 39 #[.agg #[.int .i64 (size : Int), .int .i64 (blocks : Int)], .slice (some ⟨b, 0, none⟩) (size * blocks) c] w (NewD w b (St.fresh size blocks d)) := by
  have hb : b < w.heap.size := h.lt ok.some
  generalize hN : size * blocks = N
  have HN := Lib.hid hN
  have hfin : ∀ w', w' = (w.alloc (.cells #[.int .i64 (size : Int), .int .i64 (blocks : Int)] 28)).alloc (.cells #[.int .i64 (size : Int), .int .i64 (blocks : Int), .slice (some ⟨b, 0, none⟩) N c, .slice none 0 0, .int .i64 0, .int .i64 (-1), .pointer (some ⟨w.heap.size + 1, 0, none⟩)] 75) → NewD w b (St.fresh size blocks d) (.returned (.pointer (some ⟨w.heap.size + 1, 0, none⟩))) w' := by
    intro w' e
    subst e
    subst hN
    have t1 : Turn w (w.alloc (.cells #[.int .i64 (size : Int), .int .i64 (blocks : Int)] 28)) nowhere := Turn.alloc w _ _
    have t2 := t1.trans (Turn.alloc _ (.cells #[.int .i64 (size : Int), .int .i64 (blocks : Int), .slice (some ⟨b, 0, none⟩) (size * blocks) c, .slice none 0 0, .int .i64 0, .int .i64 (-1), .pointer (some ⟨w.heap.size + 1, 0, none⟩)] 75) nowhere) (fun _ _ h => h)
    refine ⟨_, rfl, ⟨ok, ⟨c, hc, hm, ?_⟩, h.turn t2 id, World.ownsRow_nil _ _ _ _, by omega, by simp [Value.ownBlock], by simp [Value.ownBlock]⟩, by omega, t2⟩
    have := heap_alloc_new (w.alloc (.cells #[.int .i64 (size : Int), .int .i64 (blocks : Int)] 28)) (.cells #[.int .i64 (size : Int), .int .i64 (blocks : Int), .slice (some ⟨b, 0, none⟩) (size * blocks) c, .slice none 0 0, .int .i64 0, .int .i64 (-1), .pointer (some ⟨w.heap.size + 1, 0, none⟩)] 75)
    rw [World.size_alloc] at this
    exact this
  have HF := Lib.hid hfin
  clear hfin h ok hN
  go_enter Tryd.func39, Tryd.ntmps39
  go_wp2
  go_ret
  exact HF.out _ rfl
end Go.Proofs.YtjhcjnalomdbnaaDoor.Dv
