/-
  What the program's and the document's functions do, in memory and as plain functions: RVar.
-/
import Derived.Laws.MakeOwn
import Derived.Deep.LoopGhost
import Derived.Test.YtljanfnhmhimiaaGreatSmH
import Derived.Test.YtljanfnhmhimiaaGreatSmI
