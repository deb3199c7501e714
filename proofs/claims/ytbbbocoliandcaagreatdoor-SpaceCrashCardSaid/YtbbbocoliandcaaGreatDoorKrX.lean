/- Parts of the proof. -/
import Derived.LaidMore
import Derived.Stop.Joined
import Derived.Test.YtbbbocoliandcaaGreatDoorKrT
set_option maxRecDepth 100000
set_option maxHeartbeats 8000000
namespace Go.Proofs.YtbbbocoliandcaaGreatDoor
namespace Su
open Go.ChangeShapes Go.WideShapes Go.ChangeAt Go.RowKit Bs
theorem gsz:Tryz.prog.globalNamed "shadowbook/super.headSizes"=some 2:=by kernel_rfl
theorem QlI:Rows.laid_shadowbook_super_headSizes (H:=Unit)=.agg ((List.range 4).map fun j=>.lit (.int .i64 ((szL.getD j 0:Nat):Int))):=by kernel_rfl
theorem tysz:(Tryz.prog.globals[2]?).map (·.type)=some 270:=by kernel_rfl
section
variable {H : Type} {enc : TypeId × Value → H} {w : World} {base : Nat} {spare : Nat → Bool} {held : Bool}
theorem open_geo{r:Reach}{b0:Nat}{v:Value}{d:DataW H}{p:List MemPlace}(hv:Value.okWide Tryz.prog w r b0 28 v)(h:DataW.Trod enc Tryz.prog w base spare held 28 v d p) :
  ∃size blocks:Int,v=.agg #[.int .i64 size,.int .i64 blocks]:=by
 obtain⟨c0,c1,y0,y1,m,rfl,_,_,hy0,hy1⟩:=Go.Joins.open_agg2 Tryz.underlying28 (by kernel_rfl) (by kernel_rfl) hv h;obtain⟨x0,h0,_,w0⟩:=DataW.trod_int Tryz.underlying3 hy0;obtain⟨x1,h1,_,w1⟩:=DataW.trod_int Tryz.underlying3 hy1;refine⟨x0,x1,?_⟩;rw[show c0=.int .i64 x0 by simpa using h0,show c1=.int .i64 x1 by simpa using h1]
end
end Su
end Go.Proofs.YtbbbocoliandcaaGreatDoor
