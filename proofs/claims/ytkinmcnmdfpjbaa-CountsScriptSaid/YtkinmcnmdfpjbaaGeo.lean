/-
  Which geometries may be: the device's Check, and the document's.
-/
import Derived.Test.YtkinmcnmdfpjbaaMem
namespace Go.Proofs.Ytkinmcnmdfpjbaa.Dv
open Go.RowKit Bs

set_option maxHeartbeats 1000000 in
theorem check_any (size blocks : Int) (w : World) :
    Calls Try.prog 36 #[.agg #[.int .i64 size, .int .i64 blocks]] w fun e w' => e = .returned (.int .i64 (geoE size blocks)) ∧ w' = w.alloc (.cells #[.int .i64 size, .int .i64 blocks] 28) := by
  obtain ⟨r, hr⟩ : ∃ r, r = geoE size blocks := ⟨_, rfl⟩
  have HR := Lib.hid hr
  rw [← hr]
  clear hr
  by_cases h1 : size < 128
  · have HE := Lib.hid (show r = 2 by rw [HR.out]; exact geoE_no (by omega))
    by_cases h4 : blocks < 8
    · go_enter Try.func36, Try.ntmps36
      go_wp2
      go_ret
      exact ⟨ret_int HE.out.symm, rfl⟩
    · go_enter Try.func36, Try.ntmps36
      go_wp2
      all_goals
        go_ret
        exact ⟨ret_int HE.out.symm, rfl⟩
  · by_cases h2 : 4096 < size
    · have HE := Lib.hid (show r = 2 by rw [HR.out]; exact geoE_no (by omega))
      by_cases h4 : blocks < 8
      · go_enter Try.func36, Try.ntmps36
        go_wp2
        go_ret
        exact ⟨ret_int HE.out.symm, rfl⟩
      · go_enter Try.func36, Try.ntmps36
        go_wp2
        all_goals
          go_ret
          exact ⟨ret_int HE.out.symm, rfl⟩
    · by_cases h3 : size % 64 = 0
      · have e3 : (size % 64 == 0) = true := beq_iff_eq.2 h3
        by_cases h4 : blocks < 8
        · have HE := Lib.hid (show r = 2 by rw [HR.out]; exact geoE_no (by omega))
          clear h3
          go_enter Try.func36, Try.ntmps36
          go_wp2
          go_ret
          exact ⟨ret_int HE.out.symm, rfl⟩
        · by_cases h5 : 4096 < blocks
          · have HE := Lib.hid (show r = 2 by rw [HR.out]; exact geoE_no (by omega))
            have e5 : decide (blocks ≤ 4096) = false := decide_eq_false (by omega)
            clear h3
            go_enter Try.func36, Try.ntmps36
            go_wp2
            go_ret
            exact ⟨ret_int HE.out.symm, rfl⟩
          · have HE := Lib.hid (show r = 0 by rw [HR.out]; exact geoE_yes (by omega))
            have e5 : decide (blocks ≤ 4096) = true := decide_eq_true (by omega)
            clear h3
            go_enter Try.func36, Try.ntmps36
            go_wp2
            go_ret
            exact ⟨ret_int HE.out.symm, rfl⟩
      · have e3 : (size % 64 == 0) = false := beq_eq_false_iff_ne.2 h3
        have HE := Lib.hid (show r = 2 by rw [HR.out]; exact geoE_no (by omega))
        clear h3
        by_cases h4 : blocks < 8
        · go_enter Try.func36, Try.ntmps36
          go_wp2
          go_ret
          exact ⟨ret_int HE.out.symm, rfl⟩
        · go_enter Try.func36, Try.ntmps36
          go_wp2
          all_goals
            go_ret
            exact ⟨ret_int HE.out.symm, rfl⟩

set_option maxHeartbeats 1000000 in
theorem rcheck_any (size blocks : Int) (w : World) :
    Calls Try.prog 47 #[.agg #[.int .i64 size, .int .i64 blocks]] w fun e w' => e = .returned (.int .i64 (geoE size blocks)) ∧ Turn w w' nowhere := by
  have HT := Lib.hid (Turn.alloc w (.cells #[.int .i64 size, .int .i64 blocks] 28) nowhere)
  obtain ⟨r, hr⟩ : ∃ r, r = geoE size blocks := ⟨_, rfl⟩
  have HR := Lib.hid hr
  rw [← hr]
  clear hr
  by_cases h1 : size < 128
  · have HE := Lib.hid (show r = 2 by rw [HR.out]; exact geoE_no (by omega))
    go_enter Try.func47, Try.ntmps47
    go_wp2
    go_ret
    exact ⟨ret_int HE.out.symm, HT.out⟩
  · by_cases h2 : 4096 < size
    · have HE := Lib.hid (show r = 2 by rw [HR.out]; exact geoE_no (by omega))
      go_enter Try.func47, Try.ntmps47
      go_wp2
      go_ret
      exact ⟨ret_int HE.out.symm, HT.out⟩
    · by_cases h3 : size % 64 = 0
      · have e3 : (size % 64 != 0) = false := by simp [h3]
        by_cases h4 : blocks < 8
        · have HE := Lib.hid (show r = 2 by rw [HR.out]; exact geoE_no (by omega))
          clear h3
          go_enter Try.func47, Try.ntmps47
          go_wp2
          go_ret
          exact ⟨ret_int HE.out.symm, HT.out⟩
        · by_cases h5 : 4096 < blocks
          · have HE := Lib.hid (show r = 2 by rw [HR.out]; exact geoE_no (by omega))
            clear h3
            go_enter Try.func47, Try.ntmps47
            go_wp2
            go_ret
            exact ⟨ret_int HE.out.symm, HT.out⟩
          · have HE := Lib.hid (show r = 0 by rw [HR.out]; exact geoE_yes (by omega))
            clear h3
            go_enter Try.func47, Try.ntmps47
            go_wp2
            go_ret
            exact ⟨ret_int HE.out.symm, HT.out⟩
      · have e3 : (size % 64 != 0) = true := bne_iff_ne.2 h3
        have HE := Lib.hid (show r = 2 by rw [HR.out]; exact geoE_no (by omega))
        clear h3
        go_enter Try.func47, Try.ntmps47
        go_wp2
        go_ret
        exact ⟨ret_int HE.out.symm, HT.out⟩
end Go.Proofs.Ytkinmcnmdfpjbaa.Dv
