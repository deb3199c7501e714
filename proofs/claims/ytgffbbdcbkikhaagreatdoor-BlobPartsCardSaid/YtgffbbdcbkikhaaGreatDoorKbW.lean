/- Parts of the proof. -/
import Derived.LaidMore
import Derived.Stop.Joined
import Derived.Test.YtgffbbdcbkikhaaGreatDoorKbS
set_option maxRecDepth 100000
set_option maxHeartbeats 8000000
namespace Go.Proofs.YtgffbbdcbkikhaaGreatDoor
namespace Su
open Go.ChangeShapes Go.WideShapes Go.ChangeAt Go.RowKit Bs
theorem gsz:Tryz.prog.globalNamed "shadowbook/super.headSizes"=some 0:=by kernel_rfl
theorem QlB:Rows.laid_shadowbook_super_headSizes (H:=Unit)=.agg ((List.range 4).map fun j=>.lit (.int .i64 ((szL.getD j 0:Nat):Int))):=by kernel_rfl
theorem tysz:(Tryz.prog.globals[0]?).map (·.type)=some 234:=by kernel_rfl
theorem of_laid{W:World}(h:laidMetH Tryz.prog [("shadowbook/super.headSizes",Rows.laid_shadowbook_super_headSizes)] W):T4 W:=by
 rw[MakeChecks.laidMetH_plain _ _ _ (by kernel_rfl)]at h;obtain⟨ps,⟨g0,t0,cs0,f0,p0,q0,hg0,ht0,hv0,hd0,_,_⟩,_,_⟩:=h;obtain rfl:=Option.some.inj (gsz.symm.trans hg0);obtain rfl:=Option.some.inj (tysz.symm.trans ht0);rw[QlB]at hd0;intro j hj;have hC:Tryz.prog.cellsOf 234=4:=by kernel_rfl
 obtain⟨xs,m,rfl,hx,hlen,hn,hel⟩:=DataW.trod_array Tryz.underlying234 hd0;have c5:Tryz.prog.cellsOf 3=1:=by kernel_rfl
 have h0:=hel j hj;rw[c5,Nat.mul_one,List.getElem?_eq_getElem (by omega)]at h0;obtain⟨k,e1,e2,_⟩:=DataW.trod_int Tryz.underlying3 h0;simp only[Prod.mk.injEq,DataW.agg.injEq]at hx;have h1:(xs.map (·.1))[j]?=some (.lit (.int .i64 ((szL.getD j 0:Nat):Int))):=by
  rw[←hx.1,List.getElem?_map,List.getElem?_range hj]
  rfl
 rw[List.getElem?_map,List.getElem?_eq_getElem (by omega),Option.map_some,e2]at h1;have hk:k=((szL.getD j 0:Nat):Int):=by
  have:=Option.some.inj h1
  injection this with this
  injection this
 subst hk;have h2:=World.var?_cell gsz hv0 j;rw[h2,←Array.getElem?_toList];have h3:((cs0.toList.drop j).take 1)[0]?=some (.int .i64 ((szL.getD j 0:Nat):Int)):=by rw[e1];rfl
 rw[List.getElem?_take_of_lt (by omega),List.getElem?_drop,Nat.add_zero]at h3;exact h3
section
variable {H : Type} {enc : TypeId × Value → H} {w : World} {base : Nat} {spare : Nat → Bool} {held : Bool}
theorem open_geo{r:Reach}{b0:Nat}{v:Value}{d:DataW H}{p:List MemPlace}(hv:Value.okWide Tryz.prog w r b0 28 v)(h:DataW.Trod enc Tryz.prog w base spare held 28 v d p) :
  ∃size blocks:Int,v=.agg #[.int .i64 size,.int .i64 blocks]:=by
 obtain⟨c0,c1,y0,y1,m,rfl,_,_,hy0,hy1⟩:=Go.Joins.open_agg2 Tryz.underlying28 (by kernel_rfl) (by kernel_rfl) hv h;obtain⟨x0,h0,_,w0⟩:=DataW.trod_int Tryz.underlying3 hy0;obtain⟨x1,h1,_,w1⟩:=DataW.trod_int Tryz.underlying3 hy1;refine⟨x0,x1,?_⟩;rw[show c0=.int .i64 x0 by simpa using h0,show c1=.int .i64 x1 by simpa using h1]
end
end Su
end Go.Proofs.YtgffbbdcbkikhaaGreatDoor
