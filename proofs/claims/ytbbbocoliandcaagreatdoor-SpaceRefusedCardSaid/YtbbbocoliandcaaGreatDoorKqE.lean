/- Parts of the proof. -/
import Derived.Lib.TrailingZeros
import Derived.Test.YtbbbocoliandcaaGreatDoorKqC
set_option maxRecDepth 100000
set_option maxHeartbeats 8000000
namespace Go.Proofs.YtbbbocoliandcaaGreatDoor
namespace Dv
open Go.RowKit Bs
def Lowest(x t:Nat):Prop:=x.testBit t=true∧∀j,j<t→x.testBit j=false
def T64(w:World):Prop:=∀j,j<64→w.cell? ⟨0,j,none⟩=some (.int .u8 (Lib.deBruijn64tab.getD j 0))
end Dv
end Go.Proofs.YtbbbocoliandcaaGreatDoor
