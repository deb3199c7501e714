/-
  The device's laws: the chapter's example.
-/
import Derived.Test.YtjhcjnalomdbnaaDoorDevLaw
namespace Go.Proofs.YtjhcjnalomdbnaaDoor.Dv
open Go.RowKit Bs

def z8 : St := St.fresh 128 8 (zeros 128 8)
theorem z8_ok : z8.Ok := zeros_ok (by omega)
def s8 : St := { z8.burn with pend := [(3, rep 128 97)] }
theorem z8_write : z8.write 3 (rep 128 97) = (0, s8) := by
  unfold St.write
  rw [if_neg (by simp [St.hasB, z8, St.fresh, rep_len]), if_neg (by simp [z8, St.fresh])]
  rfl
theorem s8_read : s8.read 3 = (rep 128 97, 0) := by
  unfold St.read
  rw [if_pos (by simp [St.hasB, s8, z8, St.fresh, St.burn])]
  rfl
def c8 : St := s8.crash []
theorem c8_read : c8.read 3 = (rep 128 0, 0) := by
  unfold St.read
  rw [if_pos (by simp [St.hasB, c8, s8, z8, St.fresh, St.burn, St.crash])]
  rfl

set_option maxRecDepth 100000 in
set_option maxHeartbeats 2000000 in
theorem lives_any (w : World) (hT : T64 w) : Calls Tryd.prog 9 #[] w fun e w' => e = .returned (.bool true) ∧ Turn w w' nowhere := by
  have HT := Lib.hid hT
  have HFA := Lib.hid (fun w => full_any 97 128 w (by omega))
  have HFZ := Lib.hid (fun w => full_any 0 128 w (by omega))
  have HSA : Hid (strOfNums (rep 128 97) = strep 128 97) := Lib.hid rfl
  have HSZ : Hid (strOfNums (rep 128 0) = strep 128 0) := Lib.hid rfl
  generalize strep 128 97 = TA at *
  generalize strep 128 0 = TZ at *
  clear hT
  go_enter Tryd.func9, Tryd.ntmps9
  go_wp2_with fail
  refine (small_any _).mono ?_
  rintro e w1 ⟨rfl, t1⟩
  go_wp2_with fail
  refine (new_yes 128 8 w1 (by decide)).mono ?_
  intro e w2 hx
  obtain ⟨g, b, rfl, hd2, t2⟩ := held_new t1 hx
  go_wp2_with fail
  refine (HFA.out _).mono ?_
  rintro e w3 ⟨rfl, rfl⟩
  go_wp2_with fail
  rw [← HSA.out]
  refine (write_any g b _ z8 3 (rep 128 97) w2 hd2.dev (rep_isB _ _ (by omega)) (by rw [rep_len]; omega) (by simp [z8, St.fresh]) (by simp [z8, St.fresh])).mono ?_
  rw [HSA.out]
  intro e w3 hx3
  obtain ⟨P3, rfl, hd3, _, _⟩ := hd2.wrote hx3
  rw [z8_write] at hd3
  rw [z8_write]
  dsimp only
  go_wp2_with fail
  refine (read_any g b _ s8 3 w3 hd3.dev).mono ?_
  rw [s8_read]
  rintro e w4 ⟨rfl, t4⟩
  have hd4 := hd3.go t4
  dsimp only
  rw [HSA.out]
  go_wp2_with fail
  refine (crash_yes g b P3 s8 none 0 0 [] w4 hd4.dev (PSeg.nil w4) (fun i hi => by simp at hi) (HT.out.turn hd4.turn id)).mono ?_
  intro e w5 hx5
  obtain ⟨g', b', rfl, _, hd5, t5⟩ := held_crash hd4.turn hx5
  have hd5 : Held w w5 g' b' (.slice none 0 0) c8 := hd5
  dsimp only
  go_wp2_with fail
  refine (read_any g' b' _ c8 3 w5 hd5.dev).mono ?_
  rw [c8_read]
  rintro e w6 ⟨rfl, t6⟩
  have HT6 := Lib.hid (hd5.go t6).turn
  dsimp only
  rw [HSZ.out]
  clear hd2 hd3 hd4 hd5 t1 t2 t4 t5 t6 hx hx3 hx5
  go_wp2_with fail
  refine (HFA.out _).mono ?_
  rintro e w7 ⟨rfl, rfl⟩
  go_wp2_with fail
  refine (HFZ.out _).mono ?_
  rintro e w7 ⟨rfl, rfl⟩
  go_wp2
  go_ret
  trace_state
  exact ⟨by simp, HT6.out⟩
end Go.Proofs.YtjhcjnalomdbnaaDoor.Dv
