/-
  The document's device: Check, burn, Fuse.
-/
import Derived.Test.YtjhcjnalomdbnaaDoorDevTwo
import Derived.Test.YtjhcjnalomdbnaaDoorDevFlip
namespace Go.Proofs.YtjhcjnalomdbnaaDoor.Dv
open Go.RowKit Bs

set_option maxHeartbeats 1000000 in
theorem rcheck_any (size blocks : Int) (w : World) :
    Calls Tryd.prog 25 #[.agg #[.int .i64 size, .int .i64 blocks]] w fun e w' => e = .returned (.int .i64 (geoE size blocks)) ∧ Turn w w' nowhere := by
  have HT := Lib.hid (Turn.alloc w (.cells #[.int .i64 size, .int .i64 blocks] 28) nowhere)
  obtain ⟨r, hr⟩ : ∃ r, r = geoE size blocks := ⟨_, rfl⟩
  have HR := Lib.hid hr
  rw [← hr]
  clear hr
  by_cases h1 : size < 128
  · have HE := Lib.hid (show r = 2 by rw [HR.out]; exact geoE_no (by omega))
    go_enter Tryd.func25, Tryd.ntmps25
    go_wp2
    go_ret
    exact ⟨ret_int HE.out.symm, HT.out⟩
  · by_cases h2 : 4096 < size
    · have HE := Lib.hid (show r = 2 by rw [HR.out]; exact geoE_no (by omega))
      go_enter Tryd.func25, Tryd.ntmps25
      go_wp2
      go_ret
      exact ⟨ret_int HE.out.symm, HT.out⟩
    · by_cases h3 : size % 64 = 0
      · have e3 : (size % 64 != 0) = false := by simp [h3]
        by_cases h4 : blocks < 8
        · have HE := Lib.hid (show r = 2 by rw [HR.out]; exact geoE_no (by omega))
          clear h3
          go_enter Tryd.func25, Tryd.ntmps25
          go_wp2
          go_ret
          exact ⟨ret_int HE.out.symm, HT.out⟩
        · by_cases h5 : 4096 < blocks
          · have HE := Lib.hid (show r = 2 by rw [HR.out]; exact geoE_no (by omega))
            clear h3
            go_enter Tryd.func25, Tryd.ntmps25
            go_wp2
            go_ret
            exact ⟨ret_int HE.out.symm, HT.out⟩
          · have HE := Lib.hid (show r = 0 by rw [HR.out]; exact geoE_yes (by omega))
            clear h3
            go_enter Tryd.func25, Tryd.ntmps25
            go_wp2
            go_ret
            exact ⟨ret_int HE.out.symm, HT.out⟩
      · have e3 : (size % 64 != 0) = true := bne_iff_ne.2 h3
        have HE := Lib.hid (show r = 2 by rw [HR.out]; exact geoE_no (by omega))
        clear h3
        go_enter Tryd.func25, Tryd.ntmps25
        go_wp2
        go_ret
        exact ⟨ret_int HE.out.symm, HT.out⟩

theorem Ref.rebox {w w' : World} {g : Nat} {D P : Value} {s s' : St} (h : Ref w g D P s) (k : Turn w w' (· = g))
    (hg : w'.heap[g]? = some (.cells #[.int .i64 (s'.size : Int), .int .i64 (s'.blocks : Int), D, P, .int .i64 (s'.ops : Int), .int .i64 s'.fuse] 61 (0, 0)))
    (ok : s'.Ok) (hb : s'.blocks = s.blocks) (hd : s'.dur = s.dur) (hp : s'.pend = s.pend) : Ref w' g D P s' := by
  refine ⟨ok, hg, ?_, ?_, h.dg, h.pg, h.dp⟩
  · rw [hb, hd]; exact own_turn h.dur k (fun i hi e => h.dg (by rw [hi, e]))
  · rw [hp]; exact own_turn h.row k (fun i hi e => h.pg (by rw [hi, e]))

theorem rburn_no (g : Nat) (D P : Value) (s : St) (w : World) (h : Ref w g D P s) (h0 : s.fuse = 0) :
    Calls Tryd.prog 53 #[.pointer (some ⟨g, 0, none⟩)] w fun e w' => e = .returned (.bool false) ∧ w = w' := by
  obtain ⟨q0, q1, q2, q3, q4, q5⟩ := h.cells
  rw [h0] at q5
  clear h h0
  go_enter Tryd.func53, Tryd.ntmps53
  go_wp2
  go_ret
  exact ⟨rfl, rfl⟩

def RBurnt (g : Nat) (D P : Value) (s : St) (w : World) (e : Ending) (w' : World) : Prop := e = .returned (.bool true) ∧ Ref w' g D P s.burn ∧ Turn w w' (· = g)

set_option maxHeartbeats 1000000 in
theorem rburn_yes (g : Nat) (D P : Value) (s : St) (w : World) (h : Ref w g D P s) (h0 : ¬ s.fuse = 0) (ho : s.ops < 1000000) :
    Calls Tryd.prog 53 #[.pointer (some ⟨g, 0, none⟩)] w (RBurnt g D P s w) := by
  obtain ⟨q0, q1, q2, q3, q4, q5⟩ := h.cells
  have f4 := h.free 4
  have f5 := h.free 5
  have hlo := h.ok.flo
  have hhi := h.ok.fhi
  by_cases h1 : s.fuse = -1
  · have hfin : RBurnt g D P s w (.returned (.bool true)) (w.setCell ⟨g, 4, none⟩ (.int .i64 ((s.ops : Int) + 1))) := by
      have ht : Turn w (w.setCell ⟨g, 4, none⟩ (.int .i64 ((s.ops : Int) + 1))) (· = g) := Turn.setCell w _ _ rfl
      refine ⟨rfl, h.rebox ht ?_ (h.ok.burn ho) rfl rfl rfl, ht⟩
      rw [heap_set h.box, show s.burn.fuse = s.fuse from by unfold St.burn; rw [if_pos h1, h1]]
      rfl
    have HF := Lib.hid hfin
    rw [h1] at q5
    clear hfin h h0 h1 hlo hhi
    go_enter Tryd.func53, Tryd.ntmps53
    go_wp2
    go_ret
    exact HF.out
  · have hfin : RBurnt g D P s w (.returned (.bool true)) ((w.setCell ⟨g, 5, none⟩ (.int .i64 (s.fuse - 1))).setCell ⟨g, 4, none⟩ (.int .i64 ((s.ops : Int) + 1))) := by
      have ht : Turn w ((w.setCell ⟨g, 5, none⟩ (.int .i64 (s.fuse - 1))).setCell ⟨g, 4, none⟩ (.int .i64 ((s.ops : Int) + 1))) (· = g) := Turn.trans (S' := (· = g)) (Turn.setCell w _ _ rfl) (Turn.setCell _ _ _ rfl) (fun _ _ h => h)
      refine ⟨rfl, h.rebox ht ?_ (h.ok.burn ho) rfl rfl rfl, ht⟩
      rw [heap_set (heap_set h.box _ _), show s.burn.fuse = s.fuse - 1 from by unfold St.burn; rw [if_neg h1]]
      rfl
    have HF := Lib.hid hfin
    have e0 : (s.fuse == 0) = false := beq_eq_false_iff_ne.2 h0
    have hh : 1 ≤ s.fuse := by omega
    clear hfin h h0 h1 hlo
    generalize s.fuse = f at *
    go_enter Tryd.func53, Tryd.ntmps53
    go_wp2
    go_ret
    exact HF.out
end Go.Proofs.YtjhcjnalomdbnaaDoor.Dv
