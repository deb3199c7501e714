/- Parts of the proof. -/
import Derived.LaidMore
import Derived.Stop.Joined
import Derived.Test.YtbbbocoliandcaaGreatDoorKqR
set_option maxRecDepth 100000
set_option maxHeartbeats 8000000
namespace Go.Proofs.YtbbbocoliandcaaGreatDoor
namespace Su
open Go.ChangeShapes Go.WideShapes Go.ChangeAt Go.RowKit Bs
theorem gsz:Tryz.prog.globalNamed "shadowbook/super.headSizes"=some 2:=by kernel_rfl
theorem QkP:Rows.laid_shadowbook_super_headSizes (H:=Unit)=.agg ((List.range 4).map fun j=>.lit (.int .i64 ((szL.getD j 0:Nat):Int))):=by kernel_rfl
theorem tysz:(Tryz.prog.globals[2]?).map (·.type)=some 270:=by kernel_rfl
theorem of_laid{W:World}(h:laidMetH Tryz.prog [("shadowbook/super.headSizes",Rows.laid_shadowbook_super_headSizes)] W):T4 W:=by
 rw[MakeChecks.laidMetH_plain _ _ _ (by kernel_rfl)]at h;obtain⟨ps,⟨g0,t0,cs0,f0,p0,q0,hg0,ht0,hv0,hd0,_,_⟩,_,_⟩:=h;obtain rfl:=Option.some.inj (gsz.symm.trans hg0);obtain rfl:=Option.some.inj (tysz.symm.trans ht0);rw[QkP]at hd0;intro j hj;have hC:Tryz.prog.cellsOf 270=4:=by kernel_rfl
 obtain⟨xs,m,rfl,hx,hlen,hn,hel⟩:=DataW.trod_array Tryz.underlying270 hd0;have c5:Tryz.prog.cellsOf 3=1:=by kernel_rfl
 have h0:=hel j hj;rw[c5,Nat.mul_one,List.getElem?_eq_getElem (by omega)]at h0;obtain⟨k,e1,e2,_⟩:=DataW.trod_int Tryz.underlying3 h0;simp only[Prod.mk.injEq,DataW.agg.injEq]at hx;have h1:(xs.map (·.1))[j]?=some (.lit (.int .i64 ((szL.getD j 0:Nat):Int))):=by
  rw[←hx.1,List.getElem?_map,List.getElem?_range hj]
  rfl
 rw[List.getElem?_map,List.getElem?_eq_getElem (by omega),Option.map_some,e2]at h1;have hk:k=((szL.getD j 0:Nat):Int):=by
  have:=Option.some.inj h1
  injection this with this
  injection this
 subst hk;have h2:=World.var?_cell gsz hv0 j;rw[h2,←Array.getElem?_toList];have h3:((cs0.toList.drop j).take 1)[0]?=some (.int .i64 ((szL.getD j 0:Nat):Int)):=by rw[e1];rfl
 rw[List.getElem?_take_of_lt (by omega),List.getElem?_drop,Nat.add_zero]at h3;exact h3
section
variable {H : Type} {enc : TypeId × Value → H} {w : World} {base : Nat} {spare : Nat → Bool} {held : Bool}
theorem Qhd{cs:List Value}{j k:Nat}(hl:j+1≤cs.length)(hk:k=1):(cs.drop j).take k=[cs[j]'(by omega)]:=by
 subst hk;rw[List.drop_eq_getElem_cons (by omega)]
 rfl
theorem Qiv{fuel:Nat}{v:Value}{x:DataW H×List MemPlace}(h:DataW.trod enc Tryz.prog w base spare held fuel 38 [v]=some x) :
  ∃a n c l,v=.slice a n c∧Ws.Seg w a n c l∧∀p∈l,0≤p∧p<4294967296:=by
 rcases Go.Deep.open_slice1 Tryz.underlying38 (by kernel_rfl) h with ⟨h0,_⟩|⟨a,len,cap,m,n,V,D,Pl,hcs,hb,hl,hm,hmm,_,hi⟩
 ·exact⟨none,0,0,[],by simpa using h0,Ws.Seg.nil w,fun p hp=>by cases hp⟩
 ·have hlm:len≤m:=by rw[hmm];split <;> omega
  have hel:∀k,k<len→∃z:Int,w.cell? (a.add k)=some (.int .u32 z)∧0≤z∧z<4294967296:=by
   intro k hk;obtain⟨h1,h2⟩:=hi k (by omega);obtain⟨z,e1,_,hw⟩:=DataW.trod_int Tryz.underlying35 h2;have e2:V k=.int .u32 z:=by simpa using e1
   rw[e2]at h1;have b0:0≤z∧z≤4294967295:=by simpa [Lit.wf,IntKind.min,IntKind.max,IntKind.signed,IntKind.bits] using hw
   exact⟨z,h1,b0.1,by omega⟩
  let f:Nat→Int:=fun k=>if hk:k<len then(hel k hk).choose else 0
  have hf:∀k (hk:k<len),f k=(hel k hk).choose:=fun k hk=>dif_pos hk
  refine⟨some a,len,cap,(List.range len).map f,by simpa using hcs,⟨by simp,hl,hm,(fun e=>by cases e),fun ad had j u hu=>?_⟩,fun p hp=>?_⟩
  ·cases had
   have hj:j<len:=by
    have:=(List.getElem?_eq_some_iff.1 hu).1
    simpa using this
   rw[List.getElem?_map,List.getElem?_map,List.getElem?_range hj]at hu;have hu2:Value.int .u32 (f j)=u:=Option.some.inj hu;rw[←hu2,hf j hj];exact(hel j hj).choose_spec.1
  ·obtain⟨k,hk,rfl⟩:=List.mem_map.1 hp;have hk:=List.mem_range.1 hk;rw[hf k hk];exact(hel k hk).choose_spec.2
theorem open_geo{r:Reach}{b0:Nat}{v:Value}{d:DataW H}{p:List MemPlace}(hv:Value.okWide Tryz.prog w r b0 28 v)(h:DataW.Trod enc Tryz.prog w base spare held 28 v d p) :
  ∃size blocks:Int,v=.agg #[.int .i64 size,.int .i64 blocks]:=by
 obtain⟨c0,c1,y0,y1,m,rfl,_,_,hy0,hy1⟩:=Go.Joins.open_agg2 Tryz.underlying28 (by kernel_rfl) (by kernel_rfl) hv h;obtain⟨x0,h0,_,w0⟩:=DataW.trod_int Tryz.underlying3 hy0;obtain⟨x1,h1,_,w1⟩:=DataW.trod_int Tryz.underlying3 hy1;refine⟨x0,x1,?_⟩;rw[show c0=.int .i64 x0 by simpa using h0,show c1=.int .i64 x1 by simpa using h1]
end
end Su
end Go.Proofs.YtbbbocoliandcaaGreatDoor
