/-
  What the program's and the document's functions do, in memory and as plain functions: NuRefA.
-/

import Derived.Test.YtljanfnhmhimiaaGreatSrM
import Derived.Test.YtljanfnhmhimiaaGreatSrN
import Derived.Test.YtljanfnhmhimiaaGreatSrQ
import Derived.Test.YtljanfnhmhimiaaGreatSrU
import Derived.Test.YtljanfnhmhimiaaGreatSra
