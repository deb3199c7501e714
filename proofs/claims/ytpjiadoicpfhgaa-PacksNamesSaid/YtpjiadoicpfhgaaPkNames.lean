/-
  PacksNames: the chapter's examples.
-/
import Derived.Test.YtpjiadoicpfhgaaPkLives
namespace Go.Proofs.Ytpjiadoicpfhgaa.Pk
open Go.RowKit Bs Dv

set_option maxRecDepth 100000 in
set_option maxHeartbeats 2000000 in
theorem names_any (w : World) : Calls Try.prog 3 #[] w fun e w' => e = .returned (.bool true) ∧ Below w.heap.size w w' := by
  have HU : Hid (IsU [4] ∧ IsU [] ∧ IsU [0, 9223372036854775808]) := Lib.hid ⟨isU_of _ (by decide), isU_of _ (by decide), isU_of _ (by decide)⟩
  have HB : Hid (Fit 8 [57] ∧ Fit 8 [121] ∧ Fit 8 [57, 0] ∧ Fit 8 []) := Lib.hid ⟨fit_isB (isB_of _ (by decide)), fit_isB (isB_of _ (by decide)), fit_isB (isB_of _ (by decide)), fit_isB (isB_of _ (by decide))⟩
  have HZ1 := Lib.hid (fun W => size_any 3 2 W)
  have HZ2 := Lib.hid (fun W => size_any (-1) 2 W)
  have HZ3 := Lib.hid (fun W => size_any 65536 64 W)
  have HZ4 := Lib.hid (fun W => size_any 65537 1 W)
  rw [show sizeF 3 2 = 1 from by decide +kernel] at HZ1
  rw [show sizeF (-1) 2 = 0 from by decide +kernel] at HZ2
  rw [show sizeF 65536 64 = 524288 from by decide +kernel] at HZ3
  rw [show sizeF 65537 1 = 0 from by decide +kernel] at HZ4
  have HW0 := Lib.hid (fun W => width_any none 0 0 [] W (Us.Seg.nil W) HU.out.2.1)
  rw [show wid [] = 0 from rfl] at HW0
  have HW1 := Lib.hid (fun W => width_any (some ⟨W.heap.size, 0, none⟩) 2 2 [0, 9223372036854775808] (W.alloc (.cells #[.int .u64 0, .int .u64 9223372036854775808] 27)) (Us.lit_seg W [0, 9223372036854775808] (by decide)) HU.out.2.2)
  rw [show wid [0, 9223372036854775808] = 64 from by decide +kernel] at HW1
  go_enter Try.func3, Try.ntmps3
  go_wp2_with fail
  refine (lives_any _).mono ?_
  rintro e w0 ⟨rfl, hg1⟩
  have T0 := Lib.hid hg1
  clear hg1
  dsimp only
  have T0a := Lib.hid (Turn.then T0.out (Turn.alloc w0 (.cells #[.int .u64 4] 27) nowhere))
  go_wp2_with fail
  refine (put_form (l := [4]) (v := 2) (E := 3) (B := []) (m := 0) (by decide +kernel) rfl HU.out.1 _ _ _ _ (Us.lit_seg w0 [4] (by decide))).mono ?_
  rintro e w1 ⟨x1, k1, rfl, hs1, hT⟩
  have T1 := Lib.hid (Turn.then T0a.out hT)
  clear hT hs1
  dsimp only
  go_wp2_with fail
  refine (put_form (l := []) (v := 65) (E := 2) (B := []) (m := 0) (by decide +kernel) rfl HU.out.2.1 _ _ _ _ (Us.Seg.nil w1)).mono ?_
  rintro e w2 ⟨x2, k2, rfl, hs2, hT⟩
  have T2 := Lib.hid (Turn.then T1.out hT)
  clear hT hs2
  dsimp only
  have T2a := Lib.hid (Turn.then T2.out (Turn.alloc w2 (.cells #[.int .u8 57] 5) nowhere))
  go_wp2_with fail
  refine (get_form (l := [57]) (n := 3) (v := 2) (E := 0) (B := [1, 2, 3]) (m := 3) (by decide +kernel) rfl HB.out.1 _ _ _ _ (lit_seg w2 [57] (by decide))).mono ?_
  rintro e w3 ⟨x3, k3, rfl, hs3, hT⟩
  have T3 := Lib.hid (Turn.then T2a.out hT)
  have X3 := Lib.hid hs3
  clear hT hs3
  dsimp only
  have T3a := Lib.hid (Turn.then T3.out (Turn.alloc w3 (.cells #[.int .u8 121] 5) nowhere))
  go_wp2_with fail
  refine (get_form (l := [121]) (n := 3) (v := 2) (E := 4) (B := []) (m := 0) (by decide +kernel) rfl HB.out.2.1 _ _ _ _ (lit_seg w3 [121] (by decide))).mono ?_
  rintro e w4 ⟨x4, k4, rfl, hs4, hT⟩
  have T4 := Lib.hid (Turn.then T3a.out hT)
  have R4 := Lib.hid (Turn.then (Turn.then (Turn.refl w3 nowhere) (Turn.alloc w3 (.cells #[.int .u8 121] 5) nowhere)) hT)
  clear hT hs4
  dsimp only
  have T4a := Lib.hid (Turn.then T4.out (Turn.alloc w4 (.cells #[.int .u8 57, .int .u8 0] 5) nowhere))
  go_wp2_with fail
  refine (get_form (l := [57, 0]) (n := 3) (v := 2) (E := 4) (B := []) (m := 0) (by decide +kernel) rfl HB.out.2.2.1 _ _ _ _ (lit_seg w4 [57, 0] (by decide))).mono ?_
  rintro e w5 ⟨x5, k5, rfl, hs5, hT⟩
  have T5 := Lib.hid (Turn.then T4a.out hT)
  have R5 := Lib.hid (Turn.then (Turn.then R4.out (Turn.alloc w4 (.cells #[.int .u8 57, .int .u8 0] 5) nowhere)) hT)
  clear hT hs5
  dsimp only
  go_wp2_with fail
  refine (get_form (l := []) (n := -1) (v := 2) (E := 2) (B := []) (m := 0) (by decide +kernel) rfl HB.out.2.2.2 _ _ _ _ (Seg.nil w5)).mono ?_
  rintro e w6 ⟨x6, k6, rfl, hs6, hT⟩
  have T6 := Lib.hid (Turn.then T5.out hT)
  have R6 := Lib.hid (Turn.then R5.out hT)
  clear hT hs6
  dsimp only
  go_wp2_with fail
  refine (get_form (l := []) (n := 5) (v := 0) (E := 0) (B := [0, 0, 0, 0, 0]) (m := 5) (by decide +kernel) rfl HB.out.2.2.2 _ _ _ _ (Seg.nil w6)).mono ?_
  rintro e w7 ⟨x7, k7, rfl, hs7, hT⟩
  have T7 := Lib.hid (Turn.then T6.out hT)
  have R7 := Lib.hid (Turn.then R6.out hT)
  clear hT hs7
  dsimp only
  go_wp2_with fail
  refine (get_form (l := []) (n := 65537) (v := 0) (E := 2) (B := []) (m := 0) (by decide +kernel) rfl HB.out.2.2.2 _ _ _ _ (Seg.nil w7)).mono ?_
  rintro e w8 ⟨x8, k8, rfl, hs8, hT⟩
  have T8 := Lib.hid (Turn.then T7.out hT)
  have R8 := Lib.hid (Turn.then R7.out hT)
  clear hT hs8
  dsimp only
  have X8 := Lib.hid (useg_stay X3.out (Turn.then R8.out (Turn.alloc w8 (.cells #[.int .u64 1, .int .u64 2, .int .u64 3] 27) nowhere)))
  have T8a := Lib.hid (Turn.then T8.out (Turn.alloc w8 (.cells #[.int .u64 1, .int .u64 2, .int .u64 3] 27) nowhere))
  go_wp2_with fail
  refine (usame_form _ _ _ _ _ _ _ _ _ X8.out (Us.lit_seg w8 [1, 2, 3] (by decide)) true (Us.sameB_yes rfl)).mono ?_
  rintro e w9 ⟨rfl, hT⟩
  have T9 := Lib.hid (Turn.then T8a.out hT)
  clear hT
  dsimp only
  go_wp2_with fail
  refine (HW0.out _).mono ?_
  rintro e w9 ⟨rfl, rfl⟩
  dsimp only
  have T9a := Lib.hid (Turn.then T9.out (Turn.alloc w9 (.cells #[.int .u64 0, .int .u64 9223372036854775808] 27) nowhere))
  go_wp2_with fail
  refine (HW1.out _).mono ?_
  rintro e wA ⟨rfl, rfl⟩
  dsimp only
  go_wp2_with fail
  refine (HZ1.out _).mono ?_
  rintro e wA ⟨rfl, rfl⟩
  dsimp only
  go_wp2_with fail
  refine (HZ2.out _).mono ?_
  rintro e wA ⟨rfl, rfl⟩
  dsimp only
  go_wp2_with fail
  refine (HZ3.out _).mono ?_
  rintro e wA ⟨rfl, rfl⟩
  dsimp only
  go_wp2_with fail
  refine (HZ4.out _).mono ?_
  rintro e wA ⟨rfl, rfl⟩
  dsimp only
  go_wp2
  go_ret
  exact ⟨rfl, below_of T9a.out⟩
end Go.Proofs.Ytpjiadoicpfhgaa.Pk
