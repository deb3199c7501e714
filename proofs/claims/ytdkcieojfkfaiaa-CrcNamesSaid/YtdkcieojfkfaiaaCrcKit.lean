/-
  What the statements of layer 2 begin with: 'lives'.
-/
import Derived.Test.YtdkcieojfkfaiaaCrcOf
import Derived.Test.YtdkcieojfkfaiaaCrcFlip
import Derived.Test.YtdkcieojfkfaiaaKitSame
import Derived.Test.YtdkcieojfkfaiaaKitPick
import Derived.Test.YtdkcieojfkfaiaaRef1
import Derived.Deep.MidRow
import Derived.Deep.RegionHeld3
import Derived.StillTailTactics
namespace Go.Proofs.Ytdkcieojfkfaiaa.Crc
open Go.RowKit Bs

theorem crc_known : crc [49, 50, 51, 52, 53, 54, 55, 56, 57] = 3808858755 := by decide +kernel

set_option maxHeartbeats 400000 in
theorem lives_any (w : World) :
    Calls Try.prog 9 #[] w fun e w' => e = .returned (.bool true) ∧ w.grownBy w' none := by
  have hcv := fun (w : World) (C : Array Value) (n c : Nat) => Lib.run_convert_bytes_const (P := Try.prog) w 26 5 C n c Try.underlying26 Try.underlying5
  go_enter Try.func9, Try.ntmps9
  go_wp2_with fail
  have s1 := lit_seg_mark w [49, 50, 51, 52, 53, 54, 55, 56, 57] (9, 10) (by decide)
  refine (of_any _ _ _ _ _ s1 (isB_of _ (by decide))).mono ?_
  rintro e w1 ⟨rfl, hg1⟩
  rw [crc_known]
  have HG := Lib.hid (grownBy_trans (World.grownBy_alloc w _ none) hg1 (fun _ e => by cases e))
  clear hg1 s1 hcv
  go_wp2
  go_ret
  exact ⟨rfl, HG.out⟩
end Go.Proofs.Ytdkcieojfkfaiaa.Crc
