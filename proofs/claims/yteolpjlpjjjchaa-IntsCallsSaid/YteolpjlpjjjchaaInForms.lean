/-
  forms: the table of the forms.
-/
import Derived.Test.YteolpjlpjjjchaaInPackP
import Derived.Laws.Tables
import Derived.Laws.ResultCell
import Derived.Laws.Rows
namespace Go.Proofs.Yteolpjlpjjjchaa.In
open Go.RowKit Go.Joins

def fnv (k : Nat) : Value := .func (.func k) #[] #[]
def formsV : Array Value := #[.nilFunc, .nilFunc, .func (.func 49) #[] #[], .func (.func 50) #[] #[], .func (.func 51) #[] #[], .func (.func 52) #[] #[], .func (.func 53) #[] #[], .func (.func 54) #[] #[]]
theorem info_forms : (Try.prog.info? 53).map (·.size) = some (formsV).size := by kernel_rfl

theorem forms_one : formsV.all (·.oneCell') = true := by kernel_rfl
theorem forms_size : (#[.nilFunc, .nilFunc, .nilFunc, .nilFunc, .nilFunc, .nilFunc, .nilFunc, .nilFunc] : Array Value).size = formsV.size := by kernel_rfl

set_option maxRecDepth 100000 in
set_option maxHeartbeats 2000000 in
theorem forms_any (w : World) :
    Calls Try.prog 28 #[] w fun e w' => e = .returned (.agg formsV) ∧ Below w.heap.size w w' := by
  have P1 : Hid ((w.alloc (.cells #[.nilFunc, .nilFunc, .nilFunc, .nilFunc, .nilFunc, .nilFunc, .nilFunc, .nilFunc] 53)).heap[w.heap.size]? = some (.cells #[.nilFunc, .nilFunc, .nilFunc, .nilFunc, .nilFunc, .nilFunc, .nilFunc, .nilFunc] 53 (0, 0))) := Lib.hid (heap_alloc_new w _)
  have HH : Hid (((w.alloc (.cells #[.nilFunc, .nilFunc, .nilFunc, .nilFunc, .nilFunc, .nilFunc, .nilFunc, .nilFunc] 53)).setRow w.heap.size formsV).heap[w.heap.size]? = some (.cells formsV 53 (0, 0))) := Lib.hid (setRow_heap _ _ _ _ _ _ P1.out)
  have HG : Hid (Below w.heap.size w ((w.alloc (.cells #[.nilFunc, .nilFunc, .nilFunc, .nilFunc, .nilFunc, .nilFunc, .nilFunc, .nilFunc] 53)).setRow w.heap.size formsV)) :=
    Lib.hid (((Below.refl _ w).alloc (Nat.le_refl _) _).trans ⟨rfl, rfl, rfl, by simp [World.setRow], fun k hk => setRow_other _ _ k _ (by omega)⟩)
  go_enter Try.func28, Try.ntmps28
  go_wp2_with (refine wpList_store_row rfl _ (.tmp 0) (.tmp 4) rfl w.heap.size formsV rfl rfl _ _ P1.out info_forms forms_size forms_one ?_)
  refine bodyPost_ret ?_ rfl ⟨rfl, HG.out⟩
  exact results_cell_row rfl _ _ w.heap.size _ _ _ _ rfl HH.out Try.underlying53 rfl info_forms
end Go.Proofs.Yteolpjlpjjjchaa.In
