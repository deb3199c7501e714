/-
  What the program's and the document's functions do, in memory and as plain functions: InRep, InGetR, InGetK, InGet, InGetA.
-/
import Derived.Laws.CopyOwn
import Derived.Laws.OwnMore
import Derived.Deep.RegionLaw
import Derived.Deep.DeepMust
import Derived.Laws.BitsAllLaws
import Derived.Deep.RegionWith
import Derived.Test.YtljanfnhmhimiaaGreatSnU
