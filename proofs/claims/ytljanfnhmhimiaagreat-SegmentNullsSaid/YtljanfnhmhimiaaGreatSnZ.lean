/-
  What the program's and the document's functions do, in memory and as plain functions: NuRep, NuGetP, NuGet.
-/
import Derived.Laws.CopyOwn
import Derived.Laws.OwnMore
import Derived.Deep.RegionLaw
import Derived.Deep.DeepMust
import Derived.Laws.BitsAllLaws
import Derived.Test.YtljanfnhmhimiaaGreatSnE
import Derived.Test.YtljanfnhmhimiaaGreatSnH
import Derived.Test.YtljanfnhmhimiaaGreatSnV

namespace Go.Proofs.YtljanfnhmhimiaaGreat.Nu
open Go.RowKit
open Dv (Turn nowhere)
open Pk (Turn.then sizeN Fit)
open Oct (Rd ReadV ReadB)

def roomF (S : Nat) : Array Value := madeCells (Value.bool false).cells S
theorem roomF_size (S : Nat) : (roomF S).size = S := size_madeCells _ _
end Go.Proofs.YtljanfnhmhimiaaGreat.Nu
