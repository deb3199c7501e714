/- Parts of the proof. -/
import Derived.Lib.TrailingZeros
import Derived.Test.YtgffbbdcbkikhaaGreatDoorKbC
set_option maxRecDepth 100000
set_option maxHeartbeats 8000000
