/-
  Room: the program's and the document's.
-/
import Derived.Test.YtkinmcnmdfpjbaaGeo
import Derived.Test.YtkinmcnmdfpjbaaFrNum
namespace Go.Proofs.Ytkinmcnmdfpjbaa.Fr
open Go.RowKit Bs Dv

theorem geo_fits (n : Int) : geoE n 8 = if Fits n then 0 else 2 := by
  by_cases h : Fits n
  · rw [if_pos h]; unfold Fits at h; exact geoE_yes (by omega)
  · rw [if_neg h]; unfold Fits at h; exact geoE_no (by omega)

set_option maxHeartbeats 400000 in
theorem room_any (n : Int) (w : World) :
    Calls Try.prog 51 #[.int .i64 n] w fun e w' => e = .returned (.int .i64 (room n)) ∧ w.grownBy w' none := by
  have hg := World.grownBy_alloc w (.cells #[.int .i64 n, .int .i64 8] 28) none
  have HG := Lib.hid hg
  clear hg
  have hE := geo_fits n
  by_cases h : Fits n
  · rw [if_pos h] at hE
    have HR := Lib.hid (show room n = n - 16 from if_pos h)
    unfold Fits at h
    have HE := Lib.hid hE
    clear hE
    go_enter Try.func51, Try.ntmps51
    go_wp2_with fail
    refine (check_any n 8 w).mono ?_
    rintro e w1 ⟨rfl, rfl⟩
    rw [HE.out]
    go_wp2
    go_ret
    exact ⟨ret_int (by rw [HR.out]; omega), HG.out⟩
  · rw [if_neg h] at hE
    have HR := Lib.hid (show room n = 0 from if_neg h)
    clear h
    have HE := Lib.hid hE
    clear hE
    go_enter Try.func51, Try.ntmps51
    go_wp2_with fail
    refine (check_any n 8 w).mono ?_
    rintro e w1 ⟨rfl, rfl⟩
    rw [HE.out]
    go_wp2
    go_ret
    exact ⟨ret_int HR.out.symm, HG.out⟩

set_option maxHeartbeats 400000 in
theorem rroom_any (n : Int) (w : World) :
    Calls Try.prog 49 #[.int .i64 n] w fun e w' => e = .returned (.int .i64 (room n)) ∧ w.grownBy w' none := by
  have hE := geo_fits n
  by_cases h : Fits n
  · rw [if_pos h] at hE
    have HR := Lib.hid (show room n = n - 16 from if_pos h)
    unfold Fits at h
    have HE := Lib.hid hE
    clear hE
    go_enter Try.func49, Try.ntmps49
    go_wp2_with fail
    refine (rcheck_any n 8 w).mono ?_
    rintro e w1 ⟨rfl, ht⟩
    rw [HE.out]
    have HG := Lib.hid ht.grown
    clear ht
    go_wp2
    go_ret
    exact ⟨ret_int HR.out.symm, HG.out⟩
  · rw [if_neg h] at hE
    have HR := Lib.hid (show room n = 0 from if_neg h)
    clear h
    have HE := Lib.hid hE
    clear hE
    go_enter Try.func49, Try.ntmps49
    go_wp2_with fail
    refine (rcheck_any n 8 w).mono ?_
    rintro e w1 ⟨rfl, ht⟩
    rw [HE.out]
    have HG := Lib.hid ht.grown
    clear ht
    go_wp2
    go_ret
    exact ⟨ret_int HR.out.symm, HG.out⟩
end Go.Proofs.Ytkinmcnmdfpjbaa.Fr
