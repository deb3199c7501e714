/-
  What the program's and the document's functions do, in memory and as plain functions: SgCod.
-/

import Derived.Test.YtljanfnhmhimiaaGreatSnO
import Derived.Test.YtljanfnhmhimiaaGreatSnP

namespace Go.Proofs.YtljanfnhmhimiaaGreat.Sg
open Go.RowKit Zn
theorem meth_putCell_I (b : Nat) (w : World) : (method 374 99 (.agg #[.func (.func 89) #[] #[], .func (.func 90) #[] #[], .func (.func 91) #[] #[], .func (.func 93) #[] #[], .func (.func 95) #[] #[], .func (.func 140) #[] #[.pointer (some ⟨b, 0, none⟩)]]) "shadowbook/segment.putCell").run Tryz.prog w = .ok (237, .agg #[.func (.func 89) #[] #[], .func (.func 90) #[] #[], .func (.func 91) #[] #[], .func (.func 93) #[] #[], .func (.func 95) #[] #[], .func (.func 140) #[] #[.pointer (some ⟨b, 0, none⟩)]]) w := by kernel_rfl
theorem meth_putCells_I (b : Nat) (w : World) : (method 374 99 (.agg #[.func (.func 89) #[] #[], .func (.func 90) #[] #[], .func (.func 91) #[] #[], .func (.func 93) #[] #[], .func (.func 95) #[] #[], .func (.func 140) #[] #[.pointer (some ⟨b, 0, none⟩)]]) "shadowbook/segment.putCells").run Tryz.prog w = .ok (238, .agg #[.func (.func 89) #[] #[], .func (.func 90) #[] #[], .func (.func 91) #[] #[], .func (.func 93) #[] #[], .func (.func 95) #[] #[], .func (.func 140) #[] #[.pointer (some ⟨b, 0, none⟩)]]) w := by kernel_rfl
theorem meth_putCell_B (w : World) : (method 374 108 (.agg #[.func (.func 98) #[] #[], .func (.func 99) #[] #[], .func (.func 100) #[] #[], .func (.func 101) #[] #[], .func (.func 102) #[] #[], .func (.func 103) #[] #[]]) "shadowbook/segment.putCell").run Tryz.prog w = .ok (241, .agg #[.func (.func 98) #[] #[], .func (.func 99) #[] #[], .func (.func 100) #[] #[], .func (.func 101) #[] #[], .func (.func 102) #[] #[], .func (.func 103) #[] #[]]) w := by kernel_rfl
theorem meth_putCells_B (w : World) : (method 374 108 (.agg #[.func (.func 98) #[] #[], .func (.func 99) #[] #[], .func (.func 100) #[] #[], .func (.func 101) #[] #[], .func (.func 102) #[] #[], .func (.func 103) #[] #[]]) "shadowbook/segment.putCells").run Tryz.prog w = .ok (242, .agg #[.func (.func 98) #[] #[], .func (.func 99) #[] #[], .func (.func 100) #[] #[], .func (.func 101) #[] #[], .func (.func 102) #[] #[], .func (.func 103) #[] #[]]) w := by kernel_rfl
theorem meth_putCell_T (b : Nat) (w : World) : (method 374 117 (.agg #[.func (.func 105) #[] #[], .func (.func 106) #[] #[], .func (.func 107) #[] #[], .func (.func 108) #[] #[], .func (.func 109) #[] #[], .func (.func 146) #[] #[.pointer (some ⟨b, 0, none⟩)]]) "shadowbook/segment.putCell").run Tryz.prog w = .ok (245, .agg #[.func (.func 105) #[] #[], .func (.func 106) #[] #[], .func (.func 107) #[] #[], .func (.func 108) #[] #[], .func (.func 109) #[] #[], .func (.func 146) #[] #[.pointer (some ⟨b, 0, none⟩)]]) w := by kernel_rfl
theorem meth_putCells_T (b : Nat) (w : World) : (method 374 117 (.agg #[.func (.func 105) #[] #[], .func (.func 106) #[] #[], .func (.func 107) #[] #[], .func (.func 108) #[] #[], .func (.func 109) #[] #[], .func (.func 146) #[] #[.pointer (some ⟨b, 0, none⟩)]]) "shadowbook/segment.putCells").run Tryz.prog w = .ok (246, .agg #[.func (.func 105) #[] #[], .func (.func 106) #[] #[], .func (.func 107) #[] #[], .func (.func 108) #[] #[], .func (.func 109) #[] #[], .func (.func 146) #[] #[.pointer (some ⟨b, 0, none⟩)]]) w := by kernel_rfl
set_option maxHeartbeats 1000000 in
theorem exactly_I (w : World) : Calls Tryz.prog 96 #[.func (.func 97) #[] #[]] w fun e w' => e = .returned (.func (.func 140) #[] #[.pointer (some ⟨w.heap.size, 0, none⟩)]) ∧ w' = w.alloc (.cells #[.func (.func 97) #[] #[]] 140) := by
  go_enter Tryz.func96, Tryz.ntmps96
  go_wp2
  go_ret
  exact ⟨rfl, rfl⟩

set_option maxHeartbeats 1000000 in
theorem exactly_T (w : World) : Calls Tryz.prog 110 #[.func (.func 111) #[] #[]] w fun e w' => e = .returned (.func (.func 146) #[] #[.pointer (some ⟨w.heap.size, 0, none⟩)]) ∧ w' = w.alloc (.cells #[.func (.func 111) #[] #[]] 144) := by
  go_enter Tryz.func110, Tryz.ntmps110
  go_wp2
  go_ret
  exact ⟨rfl, rfl⟩
end Go.Proofs.YtljanfnhmhimiaaGreat.Sg
