/-
  How many pages a geometry needs: the program's and the document's; Other.
-/
import Derived.Test.YtkinmcnmdfpjbaaFrRoom
import Derived.Test.YtkinmcnmdfpjbaaGrow
import Derived.Test.YtkinmcnmdfpjbaaSuGetN
namespace Go.Proofs.Ytkinmcnmdfpjbaa.Su
open Go.RowKit Bs Dv Gr
open Fr (room)

theorem pages_no {size blocks : Int} (h : ¬ GeoOk size blocks) : pagesF size blocks = 0 := if_neg h
set_option maxHeartbeats 1000000 in
theorem pages_any (size blocks : Int) (w : World) : Calls Try.prog 41 #[.agg #[.int .i64 size, .int .i64 blocks]] w fun e w' => e = .returned (.int .i64 (pagesF size blocks)) ∧ w.grownBy w' none := by
  have B0 := heap_alloc_new w (.cells #[.int .i64 size, .int .i64 blocks] 28)
  have G0 := grown_alloc w (.cells #[.int .i64 size, .int .i64 blocks] 28)
  have HC := Lib.hid (fun W => check_any size blocks W)
  have HB0 := Lib.hid B0
  have HG0 := Lib.hid G0
  obtain ⟨E, hE⟩ : ∃ E, geoE size blocks = E := ⟨_, rfl⟩
  rw [hE] at HC
  by_cases h : GeoOk size blocks
  · have h0 : E = 0 := by rw [← hE]; exact (geo_iff _ _).2 h
    have hr := geo_room h
    have hp := pages_bounds h
    have HR := Lib.hid (fun W => Fr.room_any size W)
    have HP : Hid (pagesF size blocks = (2 * blocks + room size - 1) / room size) := Lib.hid (if_pos h)
    unfold GeoOk at h
    rw [hr] at HP HR
    obtain ⟨r, hrr⟩ : ∃ r, size - 16 = r := ⟨_, rfl⟩
    rw [hrr] at HP HR
    have hr1 : 112 ≤ r ∧ r ≤ 4080 := by omega
    have HQ : Hid ((2 * blocks + r - 1).tdiv r = pagesF size blocks) := Lib.hid (by rw [HP.out]; exact Int.tdiv_eq_ediv_of_nonneg (by omega))
    obtain ⟨q, hq⟩ : ∃ q, pagesF size blocks = q := ⟨_, rfl⟩
    rw [hq] at HQ hp ⊢
    have e1 : IntKind.i64.wrap (2 * blocks) = 2 * blocks := IntWalk.i64_in _ (by omega)
    have e2 : IntKind.i64.wrap (2 * blocks + r) = 2 * blocks + r := IntWalk.i64_in _ (by omega)
    have e3 : IntKind.i64.wrap (2 * blocks + r - 1) = 2 * blocks + r - 1 := IntWalk.i64_in _ (by omega)
    have e4 : IntKind.i64.wrap q = q := IntWalk.i64_in _ (by omega)
    have e5 := HQ.out
    clear hE hr hrr hq B0 G0 HP HQ
    have hb0 : (0 : Int) ≤ blocks := by omega
    clear hp h
    subst h0
    go_enter Try.func41, Try.ntmps41
    go_wp2_with fail
    refine (HC.out _).mono ?_
    rintro e w1 ⟨rfl, rfl⟩
    have HB1 := Lib.hid (block_old HB0.out (grown_alloc _ (.cells #[.int .i64 size, .int .i64 blocks] 28)))
    have HG1 := Lib.hid (grown_then HG0.out (grown_alloc _ (.cells #[.int .i64 size, .int .i64 blocks] 28)))
    obtain ⟨W1, hW1⟩ : ∃ V, (w.alloc (.cells #[.int .i64 size, .int .i64 blocks] 28)).alloc (.cells #[.int .i64 size, .int .i64 blocks] 28) = V := ⟨_, rfl⟩
    rw [hW1] at HB1 HG1 ⊢
    clear hW1 HB0 HG0
    dsimp only
    have c0 : W1.cell? ⟨w.heap.size, 0, none⟩ = some (.int .i64 size) := by rw [cell_of_row _ _ _ _ _ _ HB1.out]; rfl
    go_wp2_with fail
    refine (HR.out _).mono ?_
    rintro e w2 ⟨rfl, hg⟩
    have HB2 := Lib.hid (block_old HB1.out hg)
    have HG2 := Lib.hid (grown_then HG1.out hg)
    clear hg HB1 HG1 c0
    dsimp only
    have c1 : w2.cell? ⟨w.heap.size, 1, none⟩ = some (.int .i64 blocks) := by rw [cell_of_row _ _ _ _ _ _ HB2.out]; rfl
    have hne : ¬ r = 0 := by omega
    go_wp2
    go_ret
    exact ⟨rfl, HG2.out⟩
  · have h0 : E ≠ 0 := by rw [← hE]; exact fun q => h ((geo_iff _ _).1 q)
    have q0 : (E != 0) = true := bne_iff_ne.2 h0
    rw [pages_no h]
    clear h hE h0
    go_enter Try.func41, Try.ntmps41
    go_wp2_with fail
    refine (HC.out _).mono ?_
    rintro e w1 ⟨rfl, rfl⟩
    have HG1 := Lib.hid (grown_then HG0.out (grown_alloc _ (.cells #[.int .i64 size, .int .i64 blocks] 28)))
    clear HB0 HG0 B0 G0
    dsimp only
    go_wp2
    go_ret
    exact ⟨rfl, HG1.out⟩
end Go.Proofs.Ytkinmcnmdfpjbaa.Su
