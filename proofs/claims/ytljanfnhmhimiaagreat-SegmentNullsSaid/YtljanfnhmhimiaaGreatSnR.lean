/-
  What the program's and the document's functions do, in memory and as plain functions: NuPlaces.
-/
import Derived.Maps.AppendAt
import Derived.Test.YtljanfnhmhimiaaGreatSnM
