/- Parts of the proof. -/
import Derived.Test.YtbbbocoliandcaaGreatDoorKrX
import Derived.Test.YtbbbocoliandcaaGreatDoorKrl
set_option maxRecDepth 100000
set_option maxHeartbeats 8000000
namespace Go.Proofs.YtbbbocoliandcaaGreatDoor
namespace Sp
open Go.ChangeShapes Go.WideShapes Go.ChangeAt Go.RowKit Bs Dv
theorem g64:Tryz.prog.globalNamed "math/bits.deBruijn64tab"=some 0:=by kernel_rfl
theorem table{n g:Nat}{ty:TypeId}{nm:String}{W:World}{cs:Array Value}{fuel:Nat}{p:List MemPlace}{tab:List Nat}(hg:Tryz.prog.globalNamed nm=some g)(hv:W.var? Tryz.prog nm=some cs)
  (hu:Tryz.prog.underlying ty=some (.array n 5)) (hC:Tryz.prog.cellsOf ty=n)
  (hd:DataW.trod (H:=Unit) (fun _=>()) Tryz.prog W 0 (fun _=>true) false fuel ty cs.toList=some (.agg ((List.range n).map fun j=>.lit (.int .u8 ((tab.getD j 0:Nat):Int))),p)) :
  ∀j,j<n→W.cell? ⟨g,j,none⟩=some (.int .u8 ((tab.getD j 0:Nat):Int)):=by
 intro j hj;obtain⟨xs,m,rfl,hx,hlen,hn,hel⟩:=DataW.trod_array hu hd;have c5:Tryz.prog.cellsOf 5=1:=by kernel_rfl
 have h0:=hel j hj;rw[c5,Nat.mul_one,List.getElem?_eq_getElem (by omega)]at h0;obtain⟨k,e1,e2,_⟩:=DataW.trod_int Tryz.underlying5 h0;simp only[Prod.mk.injEq,DataW.agg.injEq]at hx;have h1:(xs.map (·.1))[j]?=some (.lit (.int .u8 ((tab.getD j 0:Nat):Int))):=by
  rw[←hx.1,List.getElem?_map,List.getElem?_range hj]
  rfl
 rw[List.getElem?_map,List.getElem?_eq_getElem (by omega),Option.map_some,e2]at h1;have hk:k=((tab.getD j 0:Nat):Int):=by
  have:=Option.some.inj h1
  injection this with this
  injection this
 subst hk;have h2:=World.var?_cell hg hv j;rw[h2,←Array.getElem?_toList];have h3:((cs.toList.drop j).take 1)[0]?=some (.int .u8 ((tab.getD j 0:Nat):Int)):=by rw[e1];rfl
 rw[List.getElem?_take_of_lt (by omega),List.getElem?_drop,Nat.add_zero]at h3;exact h3
theorem Qje:Rows.laid_math_bits_deBruijn64tab (H:=Unit)=.agg ((List.range 64).map fun j=>.lit (.int .u8 (Lib.deBruijn64tab.getD j 0))):=by kernel_rfl
theorem ty64:(Tryz.prog.globals[0]?).map (·.type)=some 249:=by kernel_rfl
theorem table4{W:World}{cs0:Array Value}{f0:Nat}{p0:List MemPlace}(hv0:W.var? Tryz.prog "shadowbook/super.headSizes"=some cs0)
  (hd0:DataW.trod (H:=Unit) (fun _=>()) Tryz.prog W 0 (fun _=>true) false f0 270 cs0.toList=some (Rows.laid_shadowbook_super_headSizes,p0)):Su.T4 W:=by
 rw[Su.QlI]at hd0;intro j hj;have hC:Tryz.prog.cellsOf 270=4:=by kernel_rfl
 obtain⟨xs,m,rfl,hx,hlen,hn,hel⟩:=DataW.trod_array Tryz.underlying270 hd0;have c5:Tryz.prog.cellsOf 3=1:=by kernel_rfl
 have h0:=hel j hj;rw[c5,Nat.mul_one,List.getElem?_eq_getElem (by omega)]at h0;obtain⟨k,e1,e2,_⟩:=DataW.trod_int Tryz.underlying3 h0;simp only[Prod.mk.injEq,DataW.agg.injEq]at hx;have h1:(xs.map (·.1))[j]?=some (.lit (.int .i64 ((Su.szL.getD j 0:Nat):Int))):=by
  rw[←hx.1,List.getElem?_map,List.getElem?_range hj]
  rfl
 rw[List.getElem?_map,List.getElem?_eq_getElem (by omega),Option.map_some,e2]at h1;have hk:k=((Su.szL.getD j 0:Nat):Int):=by
  have:=Option.some.inj h1
  injection this with this
  injection this
 subst hk;have h2:=World.var?_cell Su.gsz hv0 j;rw[h2,←Array.getElem?_toList];have h3:((cs0.toList.drop j).take 1)[0]?=some (.int .i64 ((Su.szL.getD j 0:Nat):Int)):=by rw[e1];rfl
 rw[List.getElem?_take_of_lt (by omega),List.getElem?_drop,Nat.add_zero]at h3;exact h3
theorem of_laid13{W:World}(h:laidMetH Tryz.prog [("math/bits.deBruijn64tab",Rows.laid_math_bits_deBruijn64tab),("shadowbook/super.headSizes",Rows.laid_shadowbook_super_headSizes)] W):T64 W∧Su.T4 W:=by
 rw[MakeChecks.laidMetH_plain _ _ _ (by kernel_rfl)]at h;obtain⟨ps,⟨g0,t0,cs0,f0,p0,q0,hg0,ht0,hv0,hd0,⟨g1,t1,cs1,f1,p1,q1,hg1,ht1,hv1,hd1,_,_⟩,_⟩,_,_⟩:=h;obtain rfl:=Option.some.inj (g64.symm.trans hg0);obtain rfl:=Option.some.inj (ty64.symm.trans ht0);obtain rfl:=Option.some.inj (Su.gsz.symm.trans hg1);obtain rfl:=Option.some.inj (Su.tysz.symm.trans ht1);rw[Qje]at hd0;exact⟨table g64 hv0 Tryz.underlying249 (by kernel_rfl) hd0,table4 hv1 hd1⟩
section
variable {H : Type} {enc : TypeId × Value → H} {w : World} {base : Nat} {spare : Nat → Bool} {held : Bool}
theorem QhT{cs:List Value}{j k:Nat}(hl:j+1≤cs.length)(hk:k=1):(cs.drop j).take k=[cs[j]'(by omega)]:=by
 subst hk;rw[List.drop_eq_getElem_cons (by omega)]
 rfl
theorem Qjc{n:Nat}{t:TypeId}{kd:IntKind}{cs:List Value}{j o k:Nat}{y:Option (DataW H×List MemPlace)}(ht:Tryz.prog.underlying t=some (.int kd))(hk:k=1)(ho:o=j)(hl:j<cs.length)(hy:y.isSome=true)
  (h:DataW.trod enc Tryz.prog w base spare held n t ((cs.drop o).take k)=y):∃x,cs[j]?=some (.int kd x)∧(Lit.int kd x).wf=true:=by
 obtain⟨z,rfl⟩:=Option.isSome_iff_exists.1 hy;subst ho;rw[QhT (by omega) hk]at h;obtain⟨x,h1,_,h2⟩:=DataW.trod_int ht h;refine⟨x,?_,h2⟩;rw[List.getElem?_eq_getElem hl];have:cs[o]=.int kd x:=by simpa using h1
 rw[this]
theorem Qit{fuel:Nat}{v:Value}{x:DataW H×List MemPlace}(h:DataW.trod enc Tryz.prog w base spare held fuel 87 [v]=some x) :
  ∃pa pn pc l,v=.slice pa pn pc∧PSeg w pa pn pc l:=by
 rcases Go.Deep.open_slice Tryz.underlying87 h with ⟨h0,_⟩|⟨a,len,cap,m,n,D,Pl,hcs,hb,hl,hm,hmm,_,hi⟩
 ·exact⟨none,0,0,[],by simpa using h0,PSeg.nil w⟩
 ·have c2:Tryz.prog.cellsOf 94=2:=by kernel_rfl
  have hlm:len≤m:=by rw[hmm];split <;> omega
  have hel:∀k,k<len→∃p:Int×Nat,w.cell? (a.add (k*2))=some (.int .i64 p.1)∧w.cell? (a.add (k*2+1))=some (.int .u64 (p.2:Int))∧-9223372036854775808≤p.1∧p.1≤9223372036854775807∧p.2<18446744073709551616:=by
   intro k hk;obtain⟨cs',hc,ht⟩:=hi k (by omega);rw[c2]at hc;obtain⟨_,hcl,hat⟩:=World.cells?_some hc;obtain⟨xs,n',_,_,_,hxl,hf⟩:=DataW.trod_struct Tryz.underlying94 ht;have hxl:xs.length=2:=hxl;obtain⟨x0,e0,w0⟩:=Qjc (j:=0) Tryz.underlying3 (by kernel_rfl) rfl (by omega) (by simp[hxl]) (hf 0 _ rfl);obtain⟨x1,e1,w1⟩:=Qjc (j:=1) Tryz.underlying50 (by kernel_rfl) rfl (by omega) (by simp[hxl]) (hf 1 _ rfl);have b0:-9223372036854775808≤x0∧x0≤9223372036854775807:=by simpa [Lit.wf,IntKind.min,IntKind.max,IntKind.signed,IntKind.bits] using w0
   have b1:0≤x1∧x1≤18446744073709551615:=by simpa [Lit.wf,IntKind.min,IntKind.max,IntKind.signed,IntKind.bits] using w1
   have h0:=hat 0 (by omega);have h1:=hat 1 (by omega);rw[e0,Addr.add_add,Nat.add_zero]at h0;rw[e1,Addr.add_add]at h1;exact⟨(x0,x1.toNat),h0,by rw[h1];congr 2;show x1=_;omega,b0.1,b0.2,by show x1.toNat<_;omega⟩
  let f:Nat→Int×Nat:=fun k=>if hk:k<len then(hel k hk).choose else(0,0)
  have hf:∀k (hk:k<len),f k=(hel k hk).choose:=fun k hk=>dif_pos hk
  refine⟨some a,len,cap,(List.range len).map f,by simpa using hcs,⟨by simp,hl,hm,(fun e=>by cases e),fun ad had k hk=>?_,fun p hp=>?_⟩⟩
  ·cases had
   have e:((List.range len).map f).getD k (0,0)=f k:=by simp[List.getD,hk]
   rw[e,hf k hk];exact⟨(hel k hk).choose_spec.1,(hel k hk).choose_spec.2.1⟩
  ·obtain⟨k,hk,rfl⟩:=List.mem_map.1 hp;have hk:=List.mem_range.1 hk;rw[hf k hk];exact(hel k hk).choose_spec.2.2
theorem open_picks1{p:List MemPlace}{d:DataW H}{v:Value}{a:Option Addr}{n c:Nat}(hv:v=.slice a n c)(h:DataW.Trod enc Tryz.prog w base spare held 87 v d p) :
  ∃l,PSeg w a n c l:=by
 subst hv;obtain⟨fuel,h⟩:=h;obtain⟨pa,pn,pc,l,e,hps⟩:=Qit (v:=.slice a n c) (by simpa [Value.cells] using h)
 injection e with e1 e2 e3
 subst e1;subst e2;subst e3;exact⟨l,hps⟩
end
end Sp
end Go.Proofs.YtbbbocoliandcaaGreatDoor
