/-
  What the program's and the document's functions do, in memory and as plain functions: NuRefA.
-/

import Derived.Test.YtljanfnhmhimiaaGreatSmM
import Derived.Test.YtljanfnhmhimiaaGreatSmN
import Derived.Test.YtljanfnhmhimiaaGreatSmQ
import Derived.Test.YtljanfnhmhimiaaGreatSmV
import Derived.Test.YtljanfnhmhimiaaGreatSmZ
