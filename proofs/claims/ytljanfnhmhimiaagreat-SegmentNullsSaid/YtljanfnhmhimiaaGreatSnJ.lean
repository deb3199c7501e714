/-
  What the program's and the document's functions do, in memory and as plain functions: MemLib, MemMore.
-/
import Derived.Laws.CopyOwn
import Derived.Lib.LazyBuf
import Derived.Deep.RegionLaw
import Derived.Deep.RegionHeld3
import Derived.StillTailTactics
import Derived.Test.YtljanfnhmhimiaaGreatSnF

namespace Go.Proofs.YtljanfnhmhimiaaGreat.Dv
open Go.RowKit Bs

theorem Reg.take {w : World} {b o : Nat} {l : List Int} (h : Reg w b o l) (n : Nat) : Reg w b o (l.take n) := fun j x hx => by
  refine h j x ?_
  have hj : j < n := by
    have := (List.getElem?_eq_some_iff.1 hx).1
    rw [List.length_take] at this
    omega
  rwa [List.getElem?_take_of_lt hj] at hx

end Go.Proofs.YtljanfnhmhimiaaGreat.Dv
