/- Parts of the proof. -/
import Derived.RangeFuncNested
import Derived.RangeFuncBound
import Derived.Shelf.RegionOpen
import Derived.OwnWalkIn
import Derived.LoopNIn
import Derived.LoopIn
import Derived.Test.YtbbbocoliandcaaGreatDoorKrI
set_option maxRecDepth 100000
set_option maxHeartbeats 8000000
namespace Go.Proofs.YtbbbocoliandcaaGreatDoor
namespace Cf
open Go.RowKit Go.Shelf Go Dv
variable {F : Fence} {n : Nat} {P : Program}
def Kept(P:Nat→Prop)(W W':World):Prop:=Turn W W' (fun i=>¬P i)
theorem Kept.t{P:Nat→Prop}{A B C:World}(h:Kept P A B)(k:Kept P B C):Kept P A C:=Turn.trans h k (fun _ _ h=>h)
theorem Kept.b{P:Nat→Prop}{w:World}(hP:∀i,P i→i<w.heap.size)(W:World)(l:Nat)(o o':Obj)(hl:w.heap.size≤l)(_:W.heap[l]?=some o)(_:o.isCells=false)(_:o.isWalk=false):Kept P W (W.putObj l o'):=
 Turn.Qm (grownBy_putObj' W l o') (fun i e _ h=>by cases e;have:=hP _ h;omega)
def FeedsL(F:Fence)(n:Nat)(P:Program)(g:Nat)(first lb:Array Value)(e:Nat→Array Value)(N:Nat)(Kp:World→World→Prop)(w:World):Prop:=
 ∀(l:Nat) (J:Nat→World→Prop) (Jx:World→Prop) (W:World),Below w.heap.size w W→AbidesFrom W.heap.size J →
  (∀k W1,k<N→J k W1→YieldAt F (n-1) P l (e k) W1 fun x W'=>(x=.returned (.bool true)∧J (k+1) W'∧Kp W1 W')∨(x=.returned (.bool false)∧Jx W')) →
  J 0 W→CallsIn F n P g (first++#[.func (.yield l) #[] #[]]++lb) W fun x W'=>(∃v,x=.returned v)∧(J N W'∨Jx W')
def roundL(B:Nat)(Kp:World→World→Prop)(I:Nat→World→Prop)(Ix:Code→World→Prop)(k:Nat)(W:World):Exit→Act→World→Prop
 | .normal,_,W'=>KeepsFrom B W W'∧Kp W W'∧I (k+1) W'
 | .ret,_,W'=>KeepsFrom B W W'∧Ix .ret W'
 | .exit id,_,W'=>KeepsFrom B W W'∧Ix (.exit id) W'
 |_,_,_=>False
theorem QbJ{g:Operand}{ps:Array Tmp}{assign body:Code}{Q:Exit→Act→World→Prop}{a:Act}{w:World}
  (hro:F.round=none) (h1:1≤n) {gf:Nat} {first lb:Array Value} (hg:a.eval g=.func (.func gf) first lb) (hFg:F.fn gf) (eg:∀args w,(callFunc gf args).run P w=.ok (.enter gf args) w)
  {e:Nat→Array Value} {N:Nat} {Kp:World→World→Prop} {w0:World} (hf:FeedsL F (n-1) P gf first lb e N Kp w0) (hb0:Below w0.heap.size w0 w)
  (hKt:∀{A B C:World},Kp A B→Kp B C→Kp A C) (hKb:∀(W:World) (l:Nat) (o o':Obj),w.heap.size≤l→W.heap[l]?=some o→o.isCells=false→o.isWalk=false→Kp W (W.putObj l o'))
  (hps:∀k,(e k).size=ps.size) (I:Nat→World→Prop) (Ix:Code→World→Prop) (hI:OwnFrom w.heap.size I) (hIx:∀c,OwnFrom w.heap.size (fun(_:Nat)=>Ix c)) (h0:I 0 w) (a₁:Nat→Act)
  (hassign:∀(l k:Nat) (W:World) (K:Act→World→Prop),K (a₁ k) W →
   assign.wpIn (F.inRound l) (n-1-1) P (Exit.then K (fun _ _ _=>False)) { tmps:=(ps.zip (e k)).foldl (fun t (p,v)=>t.setIfInBounds p v) a.tmps,defers:=[] } W)
  (hbody:∀(l k:Nat) (W:World),k<N→I k W→body.wpIn (F.inRound l) (n-1-1) P (roundL w.heap.size Kp I Ix k W) (a₁ k) W)
  (hdone:∀(D:Nat) (W:World),w.heap.size≤D→I N W→W.heap[D]?=some (.deferred (some []))→Q .normal { a with defers:={ target:=.collected D,args:=#[] } :: a.defers } W)
  (hstop:∀(D:Nat) (c:Code) (W:World),w.heap.size≤D→Ix c W→W.heap[D]?=some (.deferred (some []))→c.wpIn F n P Q { a with defers:={ target:=.collected D,args:=#[] } :: a.defers } W) :
  (Code.rangeFunc g ps assign body).wpIn F n P Q a w:=by
 refine wpIn_rangeFunc fun fn hfn=>?_
 rw[hro];obtain⟨D,hD⟩:∃D,w.heap.size=D:=⟨_,rfl⟩
 let rec':LoopState→Option Code→Loop:=fun st pe=>{ state:=st,pending:=pe,fn,tmps:=a.tmps,params:=ps,assign,body,defers:=D }
 obtain⟨W1,hW1⟩:∃W1,(w.alloc (.deferred (some []))).alloc (.loop (rec' .ready none))=W1:=⟨_,rfl⟩;have hsz:W1.heap.size=D+2:=by rw[←hW1];simp[World.size_alloc,hD]
 have hL:W1.heap[D+1]?=some (.loop (rec' .ready none)):=by
  have h:=World.alloc_heap_new (w.alloc (.deferred (some []))) (.loop (rec' .ready none));rw[World.size_alloc,hD,hW1]at h;exact h
 have hK:W1.heap[D]?=some (.deferred (some [])):=by
  have h:=World.alloc_heap_new w (.deferred (some []));rw[hD]at h;rw[←hW1];exact(Below.heap_alloc _ _ _ (by simp[hD])).trans h
 have hB1:Below w0.heap.size w0 W1:=by
  rw[←hW1];exact(hb0.alloc hb0.size _).alloc (Nat.le_trans hb0.size (by simp)) _
 have hI1:I 0 W1:=by rw[←hW1];exact hI.alloc _ (hI.alloc _ h0)
 let J:Nat→World→Prop:=fun k W=>I k W∧W.heap[D+1]?=some (.loop (rec' .ready none))∧W.heap[D]?=some (.deferred (some []))
 let Jx:World→Prop:=fun W=>∃c,Ix c W∧W.heap[D+1]?=some (.loop (rec' .done (some c)))∧W.heap[D]?=some (.deferred (some []))
 have hJ:AbidesFrom W1.heap.size J:=by
  rintro k A B row ⟨j1,j2,j3⟩ hgr hrow;have hcell:∀r,row=some r→w.heap.size≤r∧∃o:Obj,A.heap[r]?=some o∧o.isCells=false:=fun r er=>by
   obtain⟨hr,o,ho,hw⟩:=hrow r er;exact⟨by omega,o,ho,Obj.not_cells_of_walk hw⟩
  have keep:=fun {i:Nat} {o:Obj} (hi:A.heap[i]?=some o) (ho:o.isWalk=false)=>(grownBy_keeps hgr (fun r er=>(hrow r er).2) hi ho).trans hi
  exact⟨hI k A B row j1 hgr hcell,keep j2 rfl,keep j3 rfl⟩
 have hround:∀k W,k<N→J k W→YieldAt F (n-1-1) P (D+1) (e k) W fun x W'=>(x=.returned (.bool true)∧J (k+1) W'∧Kp W W')∨(x=.returned (.bool false)∧Jx W'):=by
  rintro k W hk ⟨j1,j2,j3⟩;refine⟨fn,_,assign,body,run_yield (args:=e k) j2 (hps k),roundIn_of_wpIn hfn (hassign _ k W _ ⟨_,run_beginRound j2 rfl,?_⟩)⟩;have hlt:=(Array.getElem?_eq_some_iff.1 j2).1;have b2:(W.putObj (D+1) (.loop (rec' .busy none))).heap[D+1]?=some (.loop (rec' .busy none)):=World.putObj_heap_same hlt;have b3:(W.putObj (D+1) (.loop (rec' .busy none))).heap[D]?=some (.deferred (some [])):=(World.putObj_heap_other (by omega)).trans j3;refine wpIn_mono (hbody _ k _ hk (hI.putObj (.loop (rec' .busy none)) j1 (by omega) j2 rfl)) ?_;rintro x a3 W3 hx;cases x with
  |normal=>
   obtain⟨x1,x2,x3⟩:=hx;have c2:=x1.same _ _ (by omega) b2 rfl;have c3:=x1.same _ _ (by omega) b3 rfl;refine⟨_,_,run_endRound none c2,.inl ⟨rfl,⟨hI.putObj _ x3 (by omega) c2 rfl,World.putObj_heap_same (Array.getElem?_eq_some_iff.1 c2).1,(World.putObj_heap_other (by omega)).trans c3⟩,?_⟩⟩;exact hKt (hKt (hKb W _ _ _ (by omega) j2 rfl rfl) x2) (hKb W3 _ _ _ (by omega) c2 rfl rfl)
  |ret=>
   obtain⟨x1,x3⟩:=hx;have c2:=x1.same _ _ (by omega) b2 rfl;have c3:=x1.same _ _ (by omega) b3 rfl;exact⟨_,_,run_endRound (some .ret) c2,.inr ⟨rfl,.ret,(hIx .ret).putObj (s:=0) _ x3 (by omega) c2 rfl,World.putObj_heap_same (Array.getElem?_eq_some_iff.1 c2).1,(World.putObj_heap_other (by omega)).trans c3⟩⟩
  |exit id=>
   obtain⟨x1,x3⟩:=hx;have c2:=x1.same _ _ (by omega) b2 rfl;have c3:=x1.same _ _ (by omega) b3 rfl;exact⟨_,_,run_endRound (some (.exit id)) c2,.inr ⟨rfl,.exit id,(hIx (.exit id)).putObj (s:=0) _ x3 (by omega) c2 rfl,World.putObj_heap_same (Array.getElem?_eq_some_iff.1 c2).1,(World.putObj_heap_other (by omega)).trans c3⟩⟩
  |goto=>exact hx.elim
  |panic=>exact hx.elim
  |outgrown=>exact hx.elim
 refine⟨D+1,[{ target:=.collected D,args:=#[] }],W1,{ target:=.fn (.func gf) lb,args:=first++#[.func (.yield (D+1)) #[] #[]] },W1,gf,first++#[.func (.yield (D+1)) #[] #[]]++lb,W1,?_,?_,?_,?_,fun _=>h1,?_⟩
 ·have h:=run_enterLoop_outer (P:=P) (w:=w) fn a.tmps ps assign body;rw[hD]at h;rw[h,←hW1]
 ·simp only[resolve,hg];simp[go_sem]
 ·intro f' hf';simp[Target.leads]at hf';exact hf'▸hFg
 ·simp[invoke,go_sem,eg]
 ·refine(hf (D+1) J Jx W1 hB1 hJ hround ⟨hI1,hL,hK⟩).mono ?_;rintro x W2 ⟨⟨v,rfl⟩,⟨j1,j2,j3⟩|⟨c,j1,j2,j3⟩⟩
  ·refine⟨none,_,run_endLoop j2 (by simp[rec']),?_⟩;exact hdone D _ (by omega) (hI.putObj _ j1 (by omega) j2 rfl) ((World.putObj_heap_other (by omega)).trans j3)
  ·refine⟨some c,_,run_endLoop j2 (by simp[rec']),?_⟩;exact hstop D c _ (by omega) ((hIx c).putObj (s:=0) _ j1 (by omega) j2 rfl) ((World.putObj_heap_other (by omega)).trans j3)
end Cf
namespace Cf
open Go.RowKit Go
open Dr (StepAt backB QdK)
variable {P : Program} {ops : Array Oper} {Q : Exit → Act → World → Prop} {md : Region.Mode}
theorem QiA{l n:Nat}{row:String}{args:Array Value}{w:World}{R:Value→World→Prop}(h:Rows P row args w R):RowsIn (Fence.wide.inRound l) n P row args w R:=
 fun c cs _=>let ⟨v,w',r,s⟩:=h c cs;⟨v,w',r,stepsIn_wide.2 s⟩
theorem Qiu{l n:Nat}{o:Oper}{a:Act}{w:World}{K K':Act→World→Prop}(hd:∀c,o.op≠.defer c)(hK:∀a w,K a w→K' a w)(h:o.wp P a w K Q):o.wpIn (Fence.wide.inRound l) n P a w K' Q:=by
 refine Oper.wpIn_mono hK ⟨fun _ _=>trivial,?_⟩;rw[show(Fence.wide.inRound l).round=some l from rfl,Oper.semAt_eq _ _ _ hd];unfold Oper.wp at h;generalize (execOp a.eval o).run P w=r at h;cases r with
 |ok x w'=>
  cases x with
  |enter f args=>exact⟨(fun hh=>by cases hh),(callsIn_wide.2 h).inRound l⟩
  |row r args=>exact⟨(fun hh=>by cases hh),QiA h⟩
  |round=>exact(h:False).elim
  |value=>exact h
  |skip=>exact h
  |defer=>exact h
  |_=>exact(h:False).elim
 |halt x w'=>cases x <;> exact h
theorem Qcl{l n:Nat}(hd:∀(i:Nat)(o:Oper),ops[i]?=some o→∀c:Call,o.op≠.defer c)(hL:¬LetsOut Q):∀(fuel:Nat) (listed:Array Bool) (a:Act) (w:World),
  wpAny P md ops Q fuel listed a w→wpAnyIn (Fence.wide.inRound l) n P md ops Q fuel listed a w
 |0,_,_,_,h=>h
 |fuel+1,listed,a,w,h=>by
  refine⟨h.1,fun i hi=>?_⟩;have h2:=h.2 i hi;unfold wpOp at h2;unfold wpOpIn;cases ho:ops[i]? with
  |none=>rw[ho]at h2;exact Qcl hd hL fuel _ a w h2
  |some o=>
   rw[ho]at h2;dsimp only at h2 ⊢;by_cases hw:Region.wanted o (yielded ops a.tmps)=true
   ·rw[if_pos hw]at h2 ⊢;rcases h2 with h2|h2
    ·exact Qiu (hd i o ho) (fun a w k=>Qcl hd hL fuel _ a w k) h2
    ·exact absurd h2.2 hL
   ·rw[if_neg hw]at h2 ⊢;exact⟨fun _ _=>trivial,Qcl hd hL fuel _ _ w h2⟩
def noDefer(ops:Array Oper):Bool:=ops.toList.all fun o=>match o.op with | .defer _=>false|_=>true
theorem Qis{ops:Array Oper}(h:noDefer ops=true):∀(i:Nat) (o:Oper),ops[i]?=some o→∀c:Call,o.op≠.defer c:=by
 intro i o ho c hc;have hm:o∈ops.toList:=by
  rw[←Array.getElem?_toList]at ho;exact List.mem_of_getElem? ho
 have:=List.all_eq_true.1 h o hm;rw[hc]at this;cases this
theorem QgM{l n id:Nat}{a:Act}{w:World}(hm:P.follows .mixedOrders=true)(hd:noDefer ops=true)(hL:¬LetsOut Q)
  (h:wpAny P .any ops Q ops.size (Array.replicate ops.size false) a w.drew):(Code.region id ops true).wpIn (Fence.wide.inRound l) n P Q a w:=
 wpIn_region_any hm (Qcl (Qis hd) hL _ _ _ _ h)
theorem Qeo{l n id:Nat}{I:(Nat→Bool)→Act→World→Prop}{a:Act}{w:World}(hm:P.follows .mixedOrders=true)(hd:noDefer ops=true)(hL:¬LetsOut Q)(hb:backB .any ops=true)(h0:I (fun _=>false) a w.drew)
  (hstep:∀i,i<ops.size→StepAt P .any ops Q I i) (hend:∀L a w,(∀i,i<ops.size→L i=true)→I L a w→Q .normal a w):(Code.region id ops true).wpIn (Fence.wide.inRound l) n P Q a w:=by
 refine QgM hm hd hL ?_;refine QdK hb hstep hend _ _ _ _ (by simp) ?_ ?_
 ·exact Nat.le_trans List.countP_le_length (by simp)
 ·refine cast (congrArg (fun L=>I L a w.drew) (funext fun j=>?_)) h0;rw[Array.getD_eq_getD_getElem?];by_cases hj:j<ops.size
  ·simp[hj]
  ·simp[hj]
theorem Qbt{l n id:Nat}{I:Act→(Nat→Bool)→Act→World→Prop}{a:Act}{w:World}(hm:P.follows .mixedOrders=true)(hd:noDefer ops=true)(hL:¬LetsOut Q)(hb:backB .any ops=true)(h0:I a (fun _=>false) a w.drew)
  (hstep:∀i,i<ops.size→StepAt P .any ops Q (I a) i) (hend:∀L a' w,(∀i,i<ops.size→L i=true)→I a L a' w→Q .normal a' w):(Code.region id ops true).wpIn (Fence.wide.inRound l) n P Q a w:=
 Qeo hm hd hL hb h0 hstep hend
theorem Qbs{B:Nat}{W W':World}{S:Nat→Prop}(h:Dv.Turn W W' S)(hS:∀i,S i→i<B):KeepsFrom B W W':=
 ⟨h.size,fun k _ hB hk _=>(h.block k (Array.getElem?_eq_some_iff.1 hk).1 (fun e=>by have:=hS k e;omega)).trans hk⟩
end Cf
end Go.Proofs.YtbbbocoliandcaaGreatDoor
