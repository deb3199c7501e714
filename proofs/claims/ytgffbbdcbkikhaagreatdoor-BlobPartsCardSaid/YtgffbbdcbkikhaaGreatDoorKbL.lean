/- Parts of the proof. -/
import Derived.RangeFuncNested
import Derived.RangeFuncBound
import Derived.Shelf.RegionOpen
import Derived.OwnWalkIn
import Derived.LoopNIn
import Derived.LoopIn
import Derived.Test.YtgffbbdcbkikhaaGreatDoorKbH
set_option maxRecDepth 100000
set_option maxHeartbeats 8000000
namespace Go.Proofs.YtgffbbdcbkikhaaGreatDoor
namespace Cf
open Go.RowKit Go.Shelf Go Dv
variable {F : Fence} {n : Nat} {P : Program}
def Kept(P:Nat→Prop)(W W':World):Prop:=Turn W W' (fun i=>¬P i)
theorem Kept.t{P:Nat→Prop}{A B C:World}(h:Kept P A B)(k:Kept P B C):Kept P A C:=Turn.trans h k (fun _ _ h=>h)
theorem Kept.b{P:Nat→Prop}{w:World}(hP:∀i,P i→i<w.heap.size)(W:World)(l:Nat)(o o':Obj)(hl:w.heap.size≤l)(_:W.heap[l]?=some o)(_:o.isCells=false)(_:o.isWalk=false):Kept P W (W.putObj l o'):=
 Turn.Qf (grownBy_putObj' W l o') (fun i e _ h=>by cases e;have:=hP _ h;omega)
def FeedsL(F:Fence)(n:Nat)(P:Program)(g:Nat)(first lb:Array Value)(e:Nat→Array Value)(N:Nat)(Kp:World→World→Prop)(w:World):Prop:=
 ∀(l:Nat) (J:Nat→World→Prop) (Jx:World→Prop) (W:World),Below w.heap.size w W→AbidesFrom W.heap.size J →
  (∀k W1,k<N→J k W1→YieldAt F (n-1) P l (e k) W1 fun x W'=>(x=.returned (.bool true)∧J (k+1) W'∧Kp W1 W')∨(x=.returned (.bool false)∧Jx W')) →
  J 0 W→CallsIn F n P g (first++#[.func (.yield l) #[] #[]]++lb) W fun x W'=>(∃v,x=.returned v)∧(J N W'∨Jx W')
def roundL(B:Nat)(Kp:World→World→Prop)(I:Nat→World→Prop)(Ix:Code→World→Prop)(k:Nat)(W:World):Exit→Act→World→Prop
 | .normal,_,W'=>KeepsFrom B W W'∧Kp W W'∧I (k+1) W'
 | .ret,_,W'=>KeepsFrom B W W'∧Ix .ret W'
 | .exit id,_,W'=>KeepsFrom B W W'∧Ix (.exit id) W'
 |_,_,_=>False
theorem QbB{g:Operand}{ps:Array Tmp}{assign body:Code}{Q:Exit→Act→World→Prop}{a:Act}{w:World}
  (hro:F.round=none) (h1:1≤n) {gf:Nat} {first lb:Array Value} (hg:a.eval g=.func (.func gf) first lb) (hFg:F.fn gf) (eg:∀args w,(callFunc gf args).run P w=.ok (.enter gf args) w)
  {e:Nat→Array Value} {N:Nat} {Kp:World→World→Prop} {w0:World} (hf:FeedsL F (n-1) P gf first lb e N Kp w0) (hb0:Below w0.heap.size w0 w)
  (hKt:∀{A B C:World},Kp A B→Kp B C→Kp A C) (hKb:∀(W:World) (l:Nat) (o o':Obj),w.heap.size≤l→W.heap[l]?=some o→o.isCells=false→o.isWalk=false→Kp W (W.putObj l o'))
  (hps:∀k,(e k).size=ps.size) (I:Nat→World→Prop) (Ix:Code→World→Prop) (hI:OwnFrom w.heap.size I) (hIx:∀c,OwnFrom w.heap.size (fun(_:Nat)=>Ix c)) (h0:I 0 w) (a₁:Nat→Act)
  (hassign:∀(l k:Nat) (W:World) (K:Act→World→Prop),K (a₁ k) W →
   assign.wpIn (F.inRound l) (n-1-1) P (Exit.then K (fun _ _ _=>False)) { tmps:=(ps.zip (e k)).foldl (fun t (p,v)=>t.setIfInBounds p v) a.tmps,defers:=[] } W)
  (hbody:∀(l k:Nat) (W:World),k<N→I k W→body.wpIn (F.inRound l) (n-1-1) P (roundL w.heap.size Kp I Ix k W) (a₁ k) W)
  (hdone:∀(D:Nat) (W:World),w.heap.size≤D→I N W→W.heap[D]?=some (.deferred (some []))→Q .normal { a with defers:={ target:=.collected D,args:=#[] } :: a.defers } W)
  (hstop:∀(D:Nat) (c:Code) (W:World),w.heap.size≤D→Ix c W→W.heap[D]?=some (.deferred (some []))→c.wpIn F n P Q { a with defers:={ target:=.collected D,args:=#[] } :: a.defers } W) :
  (Code.rangeFunc g ps assign body).wpIn F n P Q a w:=by
 refine wpIn_rangeFunc fun fn hfn=>?_
 rw[hro];obtain⟨D,hD⟩:∃D,w.heap.size=D:=⟨_,rfl⟩
 let rec':LoopState→Option Code→Loop:=fun st pe=>{ state:=st,pending:=pe,fn,tmps:=a.tmps,params:=ps,assign,body,defers:=D }
 obtain⟨W1,hW1⟩:∃W1,(w.alloc (.deferred (some []))).alloc (.loop (rec' .ready none))=W1:=⟨_,rfl⟩;have hsz:W1.heap.size=D+2:=by rw[←hW1];simp[World.size_alloc,hD]
 have hL:W1.heap[D+1]?=some (.loop (rec' .ready none)):=by
  have h:=World.alloc_heap_new (w.alloc (.deferred (some []))) (.loop (rec' .ready none));rw[World.size_alloc,hD,hW1]at h;exact h
 have hK:W1.heap[D]?=some (.deferred (some [])):=by
  have h:=World.alloc_heap_new w (.deferred (some []));rw[hD]at h;rw[←hW1];exact(Below.heap_alloc _ _ _ (by simp[hD])).trans h
 have hB1:Below w0.heap.size w0 W1:=by
  rw[←hW1];exact(hb0.alloc hb0.size _).alloc (Nat.le_trans hb0.size (by simp)) _
 have hI1:I 0 W1:=by rw[←hW1];exact hI.alloc _ (hI.alloc _ h0)
 let J:Nat→World→Prop:=fun k W=>I k W∧W.heap[D+1]?=some (.loop (rec' .ready none))∧W.heap[D]?=some (.deferred (some []))
 let Jx:World→Prop:=fun W=>∃c,Ix c W∧W.heap[D+1]?=some (.loop (rec' .done (some c)))∧W.heap[D]?=some (.deferred (some []))
 have hJ:AbidesFrom W1.heap.size J:=by
  rintro k A B row ⟨j1,j2,j3⟩ hgr hrow;have hcell:∀r,row=some r→w.heap.size≤r∧∃o:Obj,A.heap[r]?=some o∧o.isCells=false:=fun r er=>by
   obtain⟨hr,o,ho,hw⟩:=hrow r er;exact⟨by omega,o,ho,Obj.not_cells_of_walk hw⟩
  have keep:=fun {i:Nat} {o:Obj} (hi:A.heap[i]?=some o) (ho:o.isWalk=false)=>(grownBy_keeps hgr (fun r er=>(hrow r er).2) hi ho).trans hi
  exact⟨hI k A B row j1 hgr hcell,keep j2 rfl,keep j3 rfl⟩
 have hround:∀k W,k<N→J k W→YieldAt F (n-1-1) P (D+1) (e k) W fun x W'=>(x=.returned (.bool true)∧J (k+1) W'∧Kp W W')∨(x=.returned (.bool false)∧Jx W'):=by
  rintro k W hk ⟨j1,j2,j3⟩;refine⟨fn,_,assign,body,run_yield (args:=e k) j2 (hps k),roundIn_of_wpIn hfn (hassign _ k W _ ⟨_,run_beginRound j2 rfl,?_⟩)⟩;have hlt:=(Array.getElem?_eq_some_iff.1 j2).1;have b2:(W.putObj (D+1) (.loop (rec' .busy none))).heap[D+1]?=some (.loop (rec' .busy none)):=World.putObj_heap_same hlt;have b3:(W.putObj (D+1) (.loop (rec' .busy none))).heap[D]?=some (.deferred (some [])):=(World.putObj_heap_other (by omega)).trans j3;refine wpIn_mono (hbody _ k _ hk (hI.putObj (.loop (rec' .busy none)) j1 (by omega) j2 rfl)) ?_;rintro x a3 W3 hx;cases x with
  |normal=>
   obtain⟨x1,x2,x3⟩:=hx;have c2:=x1.same _ _ (by omega) b2 rfl;have c3:=x1.same _ _ (by omega) b3 rfl;refine⟨_,_,run_endRound none c2,.inl ⟨rfl,⟨hI.putObj _ x3 (by omega) c2 rfl,World.putObj_heap_same (Array.getElem?_eq_some_iff.1 c2).1,(World.putObj_heap_other (by omega)).trans c3⟩,?_⟩⟩;exact hKt (hKt (hKb W _ _ _ (by omega) j2 rfl rfl) x2) (hKb W3 _ _ _ (by omega) c2 rfl rfl)
  |ret=>
   obtain⟨x1,x3⟩:=hx;have c2:=x1.same _ _ (by omega) b2 rfl;have c3:=x1.same _ _ (by omega) b3 rfl;exact⟨_,_,run_endRound (some .ret) c2,.inr ⟨rfl,.ret,(hIx .ret).putObj (s:=0) _ x3 (by omega) c2 rfl,World.putObj_heap_same (Array.getElem?_eq_some_iff.1 c2).1,(World.putObj_heap_other (by omega)).trans c3⟩⟩
  |exit id=>
   obtain⟨x1,x3⟩:=hx;have c2:=x1.same _ _ (by omega) b2 rfl;have c3:=x1.same _ _ (by omega) b3 rfl;exact⟨_,_,run_endRound (some (.exit id)) c2,.inr ⟨rfl,.exit id,(hIx (.exit id)).putObj (s:=0) _ x3 (by omega) c2 rfl,World.putObj_heap_same (Array.getElem?_eq_some_iff.1 c2).1,(World.putObj_heap_other (by omega)).trans c3⟩⟩
  |goto=>exact hx.elim
  |panic=>exact hx.elim
  |outgrown=>exact hx.elim
 refine⟨D+1,[{ target:=.collected D,args:=#[] }],W1,{ target:=.fn (.func gf) lb,args:=first++#[.func (.yield (D+1)) #[] #[]] },W1,gf,first++#[.func (.yield (D+1)) #[] #[]]++lb,W1,?_,?_,?_,?_,fun _=>h1,?_⟩
 ·have h:=run_enterLoop_outer (P:=P) (w:=w) fn a.tmps ps assign body;rw[hD]at h;rw[h,←hW1]
 ·simp only[resolve,hg];simp[go_sem]
 ·intro f' hf';simp[Target.leads]at hf';exact hf'▸hFg
 ·simp[invoke,go_sem,eg]
 ·refine(hf (D+1) J Jx W1 hB1 hJ hround ⟨hI1,hL,hK⟩).mono ?_;rintro x W2 ⟨⟨v,rfl⟩,⟨j1,j2,j3⟩|⟨c,j1,j2,j3⟩⟩
  ·refine⟨none,_,run_endLoop j2 (by simp[rec']),?_⟩;exact hdone D _ (by omega) (hI.putObj _ j1 (by omega) j2 rfl) ((World.putObj_heap_other (by omega)).trans j3)
  ·refine⟨some c,_,run_endLoop j2 (by simp[rec']),?_⟩;exact hstop D c _ (by omega) ((hIx c).putObj (s:=0) _ j1 (by omega) j2 rfl) ((World.putObj_heap_other (by omega)).trans j3)
end Cf
namespace Cf
open Go.RowKit Go
open Dr (StepAt backB Qdr)
variable {P : Program} {ops : Array Oper} {Q : Exit → Act → World → Prop} {md : Region.Mode}
theorem Qim{l n:Nat}{row:String}{args:Array Value}{w:World}{R:Value→World→Prop}(h:Rows P row args w R):RowsIn (Fence.wide.inRound l) n P row args w R:=
 fun c cs _=>let ⟨v,w',r,s⟩:=h c cs;⟨v,w',r,stepsIn_wide.2 s⟩
theorem Qii{l n:Nat}{o:Oper}{a:Act}{w:World}{K K':Act→World→Prop}(hd:∀c,o.op≠.defer c)(hK:∀a w,K a w→K' a w)(h:o.wp P a w K Q):o.wpIn (Fence.wide.inRound l) n P a w K' Q:=by
 refine Oper.wpIn_mono hK ⟨fun _ _=>trivial,?_⟩;rw[show(Fence.wide.inRound l).round=some l from rfl,Oper.semAt_eq _ _ _ hd];unfold Oper.wp at h;generalize (execOp a.eval o).run P w=r at h;cases r with
 |ok x w'=>
  cases x with
  |enter f args=>exact⟨(fun hh=>by cases hh),(callsIn_wide.2 h).inRound l⟩
  |row r args=>exact⟨(fun hh=>by cases hh),Qim h⟩
  |round=>exact(h:False).elim
  |value=>exact h
  |skip=>exact h
  |defer=>exact h
  |_=>exact(h:False).elim
 |halt x w'=>cases x <;> exact h
theorem Qcd{l n:Nat}(hd:∀(i:Nat)(o:Oper),ops[i]?=some o→∀c:Call,o.op≠.defer c)(hL:¬LetsOut Q):∀(fuel:Nat) (listed:Array Bool) (a:Act) (w:World),
  wpAny P md ops Q fuel listed a w→wpAnyIn (Fence.wide.inRound l) n P md ops Q fuel listed a w
 |0,_,_,_,h=>h
 |fuel+1,listed,a,w,h=>by
  refine⟨h.1,fun i hi=>?_⟩;have h2:=h.2 i hi;unfold wpOp at h2;unfold wpOpIn;cases ho:ops[i]? with
  |none=>rw[ho]at h2;exact Qcd hd hL fuel _ a w h2
  |some o=>
   rw[ho]at h2;dsimp only at h2 ⊢;by_cases hw:Region.wanted o (yielded ops a.tmps)=true
   ·rw[if_pos hw]at h2 ⊢;rcases h2 with h2|h2
    ·exact Qii (hd i o ho) (fun a w k=>Qcd hd hL fuel _ a w k) h2
    ·exact absurd h2.2 hL
   ·rw[if_neg hw]at h2 ⊢;exact⟨fun _ _=>trivial,Qcd hd hL fuel _ _ w h2⟩
def noDefer(ops:Array Oper):Bool:=ops.toList.all fun o=>match o.op with | .defer _=>false|_=>true
theorem Qih{ops:Array Oper}(h:noDefer ops=true):∀(i:Nat) (o:Oper),ops[i]?=some o→∀c:Call,o.op≠.defer c:=by
 intro i o ho c hc;have hm:o∈ops.toList:=by
  rw[←Array.getElem?_toList]at ho;exact List.mem_of_getElem? ho
 have:=List.all_eq_true.1 h o hm;rw[hc]at this;cases this
theorem QgA{l n id:Nat}{a:Act}{w:World}(hm:P.follows .mixedOrders=true)(hd:noDefer ops=true)(hL:¬LetsOut Q)
  (h:wpAny P .any ops Q ops.size (Array.replicate ops.size false) a w.drew):(Code.region id ops true).wpIn (Fence.wide.inRound l) n P Q a w:=
 wpIn_region_any hm (Qcd (Qih hd) hL _ _ _ _ h)
theorem Qd7{l n id:Nat}{I:(Nat→Bool)→Act→World→Prop}{a:Act}{w:World}(hm:P.follows .mixedOrders=true)(hd:noDefer ops=true)(hL:¬LetsOut Q)(hb:backB .any ops=true)(h0:I (fun _=>false) a w.drew)
  (hstep:∀i,i<ops.size→StepAt P .any ops Q I i) (hend:∀L a w,(∀i,i<ops.size→L i=true)→I L a w→Q .normal a w):(Code.region id ops true).wpIn (Fence.wide.inRound l) n P Q a w:=by
 refine QgA hm hd hL ?_;refine Qdr hb hstep hend _ _ _ _ (by simp) ?_ ?_
 ·exact Nat.le_trans List.countP_le_length (by simp)
 ·refine cast (congrArg (fun L=>I L a w.drew) (funext fun j=>?_)) h0;rw[Array.getD_eq_getD_getElem?];by_cases hj:j<ops.size
  ·simp[hj]
  ·simp[hj]
theorem QaH{l n id:Nat}{I:Act→(Nat→Bool)→Act→World→Prop}{a:Act}{w:World}(hm:P.follows .mixedOrders=true)(hd:noDefer ops=true)(hL:¬LetsOut Q)(hb:backB .any ops=true)(h0:I a (fun _=>false) a w.drew)
  (hstep:∀i,i<ops.size→StepAt P .any ops Q (I a) i) (hend:∀L a' w,(∀i,i<ops.size→L i=true)→I a L a' w→Q .normal a' w):(Code.region id ops true).wpIn (Fence.wide.inRound l) n P Q a w:=
 Qd7 hm hd hL hb h0 hstep hend
theorem QaS{B:Nat}{W W':World}{S:Nat→Prop}(h:Dv.Turn W W' S)(hS:∀i,S i→i<B):KeepsFrom B W W':=
 ⟨h.size,fun k _ hB hk _=>(h.block k (Array.getElem?_eq_some_iff.1 hk).1 (fun e=>by have:=hS k e;omega)).trans hk⟩
end Cf
namespace Cf
open Go.RowKit Go.Shelf Go Dv
variable {F : Fence} {n : Nat} {P : Program}
def KpS(S:Nat→Prop)(B0 B:Nat)(W W':World):Prop:=Turn W W' (fun i=>S i∨((B0≤i∧i<B)∧∃o:Obj,W.heap[i]?=some o∧o.isCells=false))
theorem KpS.grown{S:Nat→Prop}{B:Nat}{w W W':World}(h:KpS S w.heap.size B W W')(hS:∀i,S i→w.heap.size≤i)(k:w.grownBy W none):w.grownBy W' none:=
 ⟨(Turn.os h).trans k.os,(Turn.tape h).trans k.tape,(Turn.output h).trans k.output,Nat.le_trans k.size (Turn.size h),fun i hi _=>(Turn.block h i (Nat.lt_of_lt_of_le hi k.size) (fun e=>by rcases e with e|e;have:=hS i e;omega;have:=e.1.1;omega)).trans (k.block i hi (by simp))⟩
theorem KpS.t{S:Nat→Prop}{B0 B:Nat}{W1 W2 W3:World}(h:KpS S B0 B W1 W2)(k:KpS S B0 B W2 W3):KpS S B0 B W1 W3:=
 Turn.trans h k (fun i hi e=>by
  rcases e with e|⟨e1,o,e2,e3⟩
  ·exact .inl e
  ·apply Classical.byContradiction
   intro hn;have h1:=h.block i hi hn;rw[e2]at h1;exact hn (.inr ⟨e1,o,h1.symm,e3⟩))
theorem KpS.put{S:Nat→Prop}{B0 B:Nat}(W:World)(l:Nat)(o o':Obj)(hl:B0≤l∧l<B)(h:W.heap[l]?=some o)(ho:o.isCells=false):KpS S B0 B W (W.putObj l o'):=
 Turn.Qf (grownBy_putObj' W l o') (fun i e _=>by cases e;exact .inr ⟨hl,o,h,ho⟩)
theorem KpS.of{S T:Nat→Prop}{B0 B:Nat}{W W':World}(h:Turn W W' T)(hT:∀i,T i→S i):KpS S B0 B W W':=h.mono (fun i _ e=>.inl (hT i e))
theorem KpS.mono{S:Nat→Prop}{B0 B B':Nat}{W W':World}(h:KpS S B0 B W W')(hB:B≤B'):KpS S B0 B' W W':=Turn.mono h (fun i _ e=>e.imp id (fun⟨a,b⟩=>⟨⟨a.1,by omega⟩,b⟩))
theorem KpS.cells{S:Nat→Prop}{B0 B:Nat}{W W':World}(h:KpS S B0 B W W'){i:Nat}{o:Obj}(hi:W.heap[i]?=some o)(ho:o.isCells=true)(hS:¬S i):W'.heap[i]?=some o:=by
 rw[Turn.block h i (Array.getElem?_eq_some_iff.1 hi).1 (fun e=>?_),hi];rcases e with e|⟨-,o2,e2,e3⟩
 ·exact hS e
 ·rw[hi]at e2;cases e2
  rw[ho]at e3;cases e3
theorem KpS.cell{S:Nat→Prop}{B0 B:Nat}{W W':World}(h:KpS S B0 B W W'){p:Addr}{v:Value}(hi:W.cell? p=some v)(hS:¬S p.block):W'.cell? p=some v:=by
 refine Turn.cell h hi (fun e=>?_);rcases e with e|⟨-,o,e2,e3⟩
 ·exact hS e
 ·unfold World.cell? at hi;rw[e2]at hi;cases o <;> simp_all [Obj.isCells]
theorem KpS.later{S:Nat→Prop}{B0 B:Nat}{W W':World}(h:KpS S B0 B W W'){i:Nat}{o:Obj}(hi:W.heap[i]?=some o)(hB:B≤i)(hS:¬S i):W'.heap[i]?=some o:=by
 rw[Turn.block h i (Array.getElem?_eq_some_iff.1 hi).1 (fun e=>?_),hi];rcases e with e|⟨e,-⟩
 ·exact hS e
 ·have:=e.2;omega
theorem KpS.keeps{S:Nat→Prop}{B0 B B':Nat}{W W':World}(h:KpS S B0 B W W')(hB:B≤B')(hS:∀i,S i→∀o,W.heap[i]?=some o→o.isCells=true):KeepsFrom B' W W':=
 ⟨Turn.size h,fun k o hk h1 h2=>KpS.later h h1 (by omega) (fun e=>by rw[hS k e o h1]at h2;cases h2)⟩
def FeedsX(F:Fence)(n:Nat)(P:Program)(g:Nat)(first lb:Array Value)(E:Nat→Array Value→World→Prop)(N:Nat)(Kp:Nat→World→World→Prop)(T:Nat→World→Nat→Prop)(w:World):Prop:=
 ∀(l:Nat) (J:Nat→World→Prop) (W:World),Below w.heap.size w W→(∀k A B,J k A→Turn A B (T W.heap.size A)→J k B) →
  (∀k args W1,k<N→J k W1→E k args W1→YieldAt F (n-1) P l args W1 fun x W'=>x=.returned (.bool true)∧J (k+1) W'∧Kp W.heap.size W1 W') →
  J 0 W→CallsIn F n P g (first++#[.func (.yield l) #[] #[]]++lb) W fun x W'=>(∃v,x=.returned v)∧J N W'
def roundX(B:Nat)(Kp:World→World→Prop)(I:Nat→World→Prop)(k:Nat)(W:World):Exit→Act→World→Prop
 | .normal,_,W'=>KeepsFrom B W W'∧Kp W W'∧I (k+1) W'
 |_,_,_=>False
theorem QaG{g:Operand}{ps:Array Tmp}{assign body:Code}{Q:Exit→Act→World→Prop}{a:Act}{w:World}
  (hro:F.round=none) (h1:1≤n) {gf:Nat} {first lb:Array Value} (hg:a.eval g=.func (.func gf) first lb) (hFg:F.fn gf) (eg:∀args w,(callFunc gf args).run P w=.ok (.enter gf args) w)
  {E:Nat→Array Value→World→Prop} {N:Nat} {Kp:Nat→World→World→Prop} {T:Nat→World→Nat→Prop} (hT:∀B A i,T B A i→B≤i) {w0:World} (hf:FeedsX F (n-1) P gf first lb E N Kp T w0) (hb0:Below w0.heap.size w0 w)
  (hKt:∀{B:Nat} {X Y Z:World},Kp B X Y→Kp B Y Z→Kp B X Z) (hKb:∀(W:World) (l:Nat) (o o':Obj),w.heap.size≤l→l<w.heap.size+2→W.heap[l]?=some o→o.isCells=false→Kp (w.heap.size+2) W (W.putObj l o'))
  (hps:∀k args W,E k args W→args.size=ps.size) (I:Nat→World→Prop) (hI:OwnFrom w.heap.size I) (hIT:∀k A B,w.heap.size+2≤A.heap.size→I k A→Turn A B (T (w.heap.size+2) A)→I k B) (Mid:Act→Nat→World→Prop) (hM:∀a',OwnFrom w.heap.size (Mid a')) (h0:I 0 w)
  (hassign:∀(l k:Nat) (args:Array Value) (W:World) (K:Act→World→Prop),k<N→w.heap.size+2≤W.heap.size→I k W→E k args W →
   (∀a' W',KeepsFrom w.heap.size W W'→Kp (w.heap.size+2) W W'→I k W'→Mid a' k W'→K a' W') →
   assign.wpIn (F.inRound l) (n-1-1) P (Exit.then K (fun _ _ _=>False)) { tmps:=(ps.zip args).foldl (fun t (p,v)=>t.setIfInBounds p v) a.tmps,defers:=[] } W)
  (hbody:∀(l k:Nat) (a':Act) (W:World),k<N→w.heap.size+2≤W.heap.size→I k W→Mid a' k W→body.wpIn (F.inRound l) (n-1-1) P (roundX w.heap.size (Kp (w.heap.size+2)) I k W) a' W)
  (hdone:∀(D:Nat) (W:World),w.heap.size≤D→I N W→W.heap[D]?=some (.deferred (some []))→Q .normal { a with defers:={ target:=.collected D,args:=#[] } :: a.defers } W) :
  (Code.rangeFunc g ps assign body).wpIn F n P Q a w:=by
 refine wpIn_rangeFunc fun fn hfn=>?_
 rw[hro];obtain⟨D,hD⟩:∃D,w.heap.size=D:=⟨_,rfl⟩
 let rec':LoopState→Loop:=fun st=>{ state:=st,pending:=none,fn,tmps:=a.tmps,params:=ps,assign,body,defers:=D }
 obtain⟨W1,hW1⟩:∃W1,(w.alloc (.deferred (some []))).alloc (.loop (rec' .ready))=W1:=⟨_,rfl⟩;have hsz:W1.heap.size=D+2:=by rw[←hW1];simp[World.size_alloc,hD]
 have hL:W1.heap[D+1]?=some (.loop (rec' .ready)):=by
  have h:=World.alloc_heap_new (w.alloc (.deferred (some []))) (.loop (rec' .ready));rw[World.size_alloc,hD,hW1]at h;exact h
 have hK:W1.heap[D]?=some (.deferred (some [])):=by
  have h:=World.alloc_heap_new w (.deferred (some []));rw[hD]at h;rw[←hW1];exact(Below.heap_alloc _ _ _ (by simp[hD])).trans h
 have hB1:Below w0.heap.size w0 W1:=by
  rw[←hW1];exact(hb0.alloc hb0.size _).alloc (Nat.le_trans hb0.size (by simp)) _
 have hI1:I 0 W1:=by rw[←hW1];exact hI.alloc _ (hI.alloc _ h0)
 let J:Nat→World→Prop:=fun k W=>I k W∧W.heap[D+1]?=some (.loop (rec' .ready))∧W.heap[D]?=some (.deferred (some []))
 have hJ:∀k A B,J k A→Turn A B (T W1.heap.size A)→J k B:=by
  rintro k A B ⟨j1,j2,j3⟩ ht;rw[hsz]at ht;have keep:=fun {i:Nat} {o:Obj} (hi:A.heap[i]?=some o) (hlt:i<D+2)=>(ht.block i (Array.getElem?_eq_some_iff.1 hi).1 (fun e=>by have:=hT _ _ _ e;omega)).trans hi
  have hlt:=(Array.getElem?_eq_some_iff.1 j2).1;exact⟨hIT k A B (by omega) j1 (by rw[hD];exact ht),keep j2 (by omega),keep j3 (by omega)⟩
 have hround:∀k args W,k<N→J k W→E k args W→YieldAt F (n-1-1) P (D+1) args W fun x W'=>x=.returned (.bool true)∧J (k+1) W'∧Kp W1.heap.size W W':=by
  rintro k args W hk ⟨j1,j2,j3⟩ hE;have hlt0:=(Array.getElem?_eq_some_iff.1 j2).1;refine⟨fn,_,assign,body,run_yield (args:=args) j2 (hps k args W hE),roundIn_of_wpIn hfn (hassign _ k args W _ hk (by omega) j1 hE (fun a' W' x1 x2 x3 x4=>⟨_,run_beginRound (x1.same _ _ (by omega) j2 rfl) rfl,?_⟩))⟩;have j2':=x1.same _ _ (by omega) j2 rfl;have j3':=x1.same _ _ (by omega) j3 rfl;have hlt:=(Array.getElem?_eq_some_iff.1 j2').1;have b2:(W'.putObj (D+1) (.loop (rec' .busy))).heap[D+1]?=some (.loop (rec' .busy)):=World.putObj_heap_same hlt;have b3:(W'.putObj (D+1) (.loop (rec' .busy))).heap[D]?=some (.deferred (some [])):=(World.putObj_heap_other (by omega)).trans j3';refine wpIn_mono (hbody _ k _ _ hk (Nat.le_trans (show w.heap.size+2≤W'.heap.size by omega) (grownBy_putObj' W' _ _).size) (hI.putObj (.loop (rec' .busy)) x3 (by omega) j2' rfl) ((hM a').putObj (.loop (rec' .busy)) x4 (by omega) j2' rfl)) ?_;rintro x a3 W3 hx;cases x with
  |normal=>
   obtain⟨y1,y2,y3⟩:=hx;have c2:=y1.same _ _ (by omega) b2 rfl;have c3:=y1.same _ _ (by omega) b3 rfl;refine⟨_,_,run_endRound none c2,rfl,⟨hI.putObj _ y3 (by omega) c2 rfl,World.putObj_heap_same (Array.getElem?_eq_some_iff.1 c2).1,(World.putObj_heap_other (by omega)).trans c3⟩,?_⟩;rw[hsz,show D+2=w.heap.size+2 from by omega];exact hKt x2 (hKt (hKt (hKb W' (D+1) _ _ (by omega) (by omega) j2' rfl) y2) (hKb W3 (D+1) _ _ (by omega) (by omega) c2 rfl))
  |ret=>exact hx.elim
  |exit=>exact hx.elim
  |goto=>exact hx.elim
  |panic=>exact hx.elim
  |outgrown=>exact hx.elim
 refine⟨D+1,[{ target:=.collected D,args:=#[] }],W1,{ target:=.fn (.func gf) lb,args:=first++#[.func (.yield (D+1)) #[] #[]] },W1,gf,first++#[.func (.yield (D+1)) #[] #[]]++lb,W1,?_,?_,?_,?_,fun _=>h1,?_⟩
 ·have h:=run_enterLoop_outer (P:=P) (w:=w) fn a.tmps ps assign body;rw[hD]at h;rw[h,←hW1]
 ·simp only[resolve,hg];simp[go_sem]
 ·intro f' hf';simp[Target.leads]at hf';exact hf'▸hFg
 ·simp[invoke,go_sem,eg]
 ·refine(hf (D+1) J W1 hB1 hJ hround ⟨hI1,hL,hK⟩).mono ?_;rintro x W2 ⟨⟨v,rfl⟩,j1,j2,j3⟩;refine⟨none,_,run_endLoop j2 (by simp[rec']),?_⟩;exact hdone D _ (by omega) (hI.putObj _ j1 (by omega) j2 rfl) ((World.putObj_heap_other (by omega)).trans j3)
end Cf
namespace Cf
open Go.RowKit Go.Shelf Go Dv
variable {F : Fence} {n : Nat} {P : Program}
def FeedsZ(F:Fence)(n:Nat)(P:Program)(g:Nat)(first lb:Array Value)(e:Nat→Array Value)(N:Nat)(Kp:Nat→Nat→World→World→Prop)(T:Nat→World→Nat→Prop)(w:World):Prop:=
 ∀(l:Nat) (J:Nat→Nat→World→Prop) (Jx:World→Prop) (W:World),Below w.heap.size w W→(∀k Z A B,J k Z A→Turn A B (T W.heap.size A)→J k Z B)→(∀A B,Jx A→Turn A B (T W.heap.size A)→Jx B) →
  (∀k Z W1,k<N→W.heap.size≤Z→Z≤W1.heap.size→J k Z W1→YieldAt F (n-1) P l (e k) W1 fun x W'=>(x=.returned (.bool true)∧J (k+1) Z W'∧Kp W.heap.size Z W1 W')∨(x=.returned (.bool false)∧Jx W'∧Kp W.heap.size Z W1 W')) →
  (∀Z,J 0 Z W)→CallsIn F n P g (first++#[.func (.yield l) #[] #[]]++lb) W fun x W'=>(∃v,x=.returned v)∧((∃Z,W.heap.size≤Z∧J N Z W')∨Jx W')
def NcT(B:Nat)(A:World)(i:Nat):Prop:=B≤i∧∃o:Obj,A.heap[i]?=some o∧o.isCells=false
def roundZ(B:Nat)(Kp:World→World→Prop)(I:Nat×Nat→World→Prop)(Ix:Code→World→Prop)(k Z:Nat)(W:World):Exit→Act→World→Prop
 | .normal,_,W'=>KeepsFrom B W W'∧Kp W W'∧I (k+1,Z) W'
 | .ret,_,W'=>KeepsFrom B W W'∧Kp W W'∧Ix .ret W'
 | .exit id,_,W'=>KeepsFrom B W W'∧Kp W W'∧Ix (.exit id) W'
 |_,_,_=>False
theorem QI{g:Operand}{ps:Array Tmp}{assign body:Code}{Q:Exit→Act→World→Prop}{a:Act}{w:World}
  (hro:F.round=none) (h1:1≤n) {gf:Nat} {first lb:Array Value} (hg:a.eval g=.func (.func gf) first lb) (hFg:F.fn gf) (eg:∀args w,(callFunc gf args).run P w=.ok (.enter gf args) w)
  {e:Nat→Array Value} {N:Nat} {Kp:Nat→Nat→World→World→Prop} {T:Nat→World→Nat→Prop} (hT:∀B A i,T B A i→B≤i) {w0:World} (hf:FeedsZ F (n-1) P gf first lb e N Kp T w0) (hb0:Below w0.heap.size w0 w)
  (hKt:∀{B z:Nat} {X Y Z:World},Kp B z X Y→Kp B z Y Z→Kp B z X Z) (hKb:∀(z:Nat) (W:World) (l:Nat) (o o':Obj),w.heap.size≤l→l<w.heap.size+2→W.heap[l]?=some o→o.isCells=false→Kp (w.heap.size+2) z W (W.putObj l o'))
  (hps:∀k,(e k).size=ps.size) (I:Nat×Nat→World→Prop) (Ix:Code→World→Prop) (hI:OwnFrom w.heap.size I) (hIT:∀q A B,w.heap.size+2≤A.heap.size→I q A→Turn A B (T (w.heap.size+2) A)→I q B) (hIx:∀c,OwnFrom w.heap.size (fun(_:Nat)=>Ix c)) (hIxT:∀c A B,w.heap.size+2≤A.heap.size→Ix c A→Turn A B (T (w.heap.size+2) A)→Ix c B) (h0:∀Z,I (0,Z) w) (a₁:Nat→Act)
  (hassign:∀(l k:Nat) (W:World) (K:Act→World→Prop),K (a₁ k) W →
   assign.wpIn (F.inRound l) (n-1-1) P (Exit.then K (fun _ _ _=>False)) { tmps:=(ps.zip (e k)).foldl (fun t (p,v)=>t.setIfInBounds p v) a.tmps,defers:=[] } W)
  (hbody:∀(l k Z:Nat) (W:World),k<N→w.heap.size+2≤Z→Z≤W.heap.size→I (k,Z) W→body.wpIn (F.inRound l) (n-1-1) P (roundZ w.heap.size (Kp (w.heap.size+2) Z) I Ix k Z W) (a₁ k) W)
  (hdone:∀(D Z:Nat) (W:World),w.heap.size≤D→w.heap.size+2≤Z→I (N,Z) W→W.heap[D]?=some (.deferred (some []))→Q .normal { a with defers:={ target:=.collected D,args:=#[] } :: a.defers } W)
  (hstop:∀(D:Nat) (c:Code) (W:World),w.heap.size≤D→Ix c W→W.heap[D]?=some (.deferred (some []))→c.wpIn F n P Q { a with defers:={ target:=.collected D,args:=#[] } :: a.defers } W) :
  (Code.rangeFunc g ps assign body).wpIn F n P Q a w:=by
 refine wpIn_rangeFunc fun fn hfn=>?_
 rw[hro];obtain⟨D,hD⟩:∃D,w.heap.size=D:=⟨_,rfl⟩
 let rec':LoopState→Option Code→Loop:=fun st pe=>{ state:=st,pending:=pe,fn,tmps:=a.tmps,params:=ps,assign,body,defers:=D }
 obtain⟨W1,hW1⟩:∃W1,(w.alloc (.deferred (some []))).alloc (.loop (rec' .ready none))=W1:=⟨_,rfl⟩;have hsz:W1.heap.size=D+2:=by rw[←hW1];simp[World.size_alloc,hD]
 have hL:W1.heap[D+1]?=some (.loop (rec' .ready none)):=by
  have h:=World.alloc_heap_new (w.alloc (.deferred (some []))) (.loop (rec' .ready none));rw[World.size_alloc,hD,hW1]at h;exact h
 have hK:W1.heap[D]?=some (.deferred (some [])):=by
  have h:=World.alloc_heap_new w (.deferred (some []));rw[hD]at h;rw[←hW1];exact(Below.heap_alloc _ _ _ (by simp[hD])).trans h
 have hB1:Below w0.heap.size w0 W1:=by
  rw[←hW1];exact(hb0.alloc hb0.size _).alloc (Nat.le_trans hb0.size (by simp)) _
 have hI1:∀Z,I (0,Z) W1:=fun Z=>by rw[←hW1];exact hI.alloc _ (hI.alloc _ (h0 Z))
 let J:Nat→Nat→World→Prop:=fun k Z W=>I (k,Z) W∧W.heap[D+1]?=some (.loop (rec' .ready none))∧W.heap[D]?=some (.deferred (some []))
 let Jx:World→Prop:=fun W=>∃c,Ix c W∧W.heap[D+1]?=some (.loop (rec' .done (some c)))∧W.heap[D]?=some (.deferred (some []))
 have keep:∀{A B:World} {i:Nat} {o:Obj},Turn A B (T W1.heap.size A)→A.heap[i]?=some o→i<D+2→B.heap[i]?=some o:=fun ht hi hlt=>(ht.block _ (Array.getElem?_eq_some_iff.1 hi).1 (fun e=>by have:=hT _ _ _ e;omega)).trans hi
 have hJ:∀k Z A B,J k Z A→Turn A B (T W1.heap.size A)→J k Z B:=by
  rintro k Z A B ⟨j1,j2,j3⟩ ht;have hlt:=(Array.getElem?_eq_some_iff.1 j2).1;exact⟨hIT (k,Z) A B (by omega) j1 (by rw[hD,←hsz];exact ht),keep ht j2 (by omega),keep ht j3 (by omega)⟩
 have hJx:∀A B,Jx A→Turn A B (T W1.heap.size A)→Jx B:=by
  rintro A B ⟨c,j1,j2,j3⟩ ht;have hlt:=(Array.getElem?_eq_some_iff.1 j2).1;exact⟨c,hIxT c A B (by omega) j1 (by rw[hD,←hsz];exact ht),keep ht j2 (by omega),keep ht j3 (by omega)⟩
 have hround:∀k Z W,k<N→W1.heap.size≤Z→Z≤W.heap.size→J k Z W→YieldAt F (n-1-1) P (D+1) (e k) W fun x W'=>(x=.returned (.bool true)∧J (k+1) Z W'∧Kp W1.heap.size Z W W')∨(x=.returned (.bool false)∧Jx W'∧Kp W1.heap.size Z W W'):=by
  rintro k Z W hk hz1 hz2 ⟨j1,j2,j3⟩;refine⟨fn,_,assign,body,run_yield (args:=e k) j2 (hps k),roundIn_of_wpIn hfn (hassign _ k W _ ⟨_,run_beginRound j2 rfl,?_⟩)⟩;have hlt:=(Array.getElem?_eq_some_iff.1 j2).1;have b2:(W.putObj (D+1) (.loop (rec' .busy none))).heap[D+1]?=some (.loop (rec' .busy none)):=World.putObj_heap_same hlt;have b3:(W.putObj (D+1) (.loop (rec' .busy none))).heap[D]?=some (.deferred (some [])):=(World.putObj_heap_other (by omega)).trans j3;refine wpIn_mono (hbody _ k Z _ hk (show w.heap.size+2≤Z by omega) (Nat.le_trans hz2 (grownBy_putObj' W _ _).size) (hI.putObj (.loop (rec' .busy none)) j1 (by omega) j2 rfl)) ?_;rintro x a3 W3 hx;cases x with
  |normal=>
   obtain⟨x1,x2,x3⟩:=hx;have c2:=x1.same _ _ (by omega) b2 rfl;have c3:=x1.same _ _ (by omega) b3 rfl;refine⟨_,_,run_endRound none c2,.inl ⟨rfl,⟨hI.putObj _ x3 (by omega) c2 rfl,World.putObj_heap_same (Array.getElem?_eq_some_iff.1 c2).1,(World.putObj_heap_other (by omega)).trans c3⟩,?_⟩⟩;rw[hsz,show D+2=w.heap.size+2 from by omega];exact hKt (hKt (hKb Z W (D+1) _ _ (by omega) (by omega) j2 rfl) x2) (hKb Z W3 (D+1) _ _ (by omega) (by omega) c2 rfl)
  |ret=>
   obtain⟨x1,x2,x3⟩:=hx;have c2:=x1.same _ _ (by omega) b2 rfl;have c3:=x1.same _ _ (by omega) b3 rfl;refine⟨_,_,run_endRound (some .ret) c2,.inr ⟨rfl,⟨.ret,(hIx .ret).putObj (s:=0) _ x3 (by omega) c2 rfl,World.putObj_heap_same (Array.getElem?_eq_some_iff.1 c2).1,(World.putObj_heap_other (by omega)).trans c3⟩,?_⟩⟩;rw[hsz,show D+2=w.heap.size+2 from by omega];exact hKt (hKt (hKb Z W (D+1) _ _ (by omega) (by omega) j2 rfl) x2) (hKb Z W3 (D+1) _ _ (by omega) (by omega) c2 rfl)
  |exit id=>
   obtain⟨x1,x2,x3⟩:=hx;have c2:=x1.same _ _ (by omega) b2 rfl;have c3:=x1.same _ _ (by omega) b3 rfl;refine⟨_,_,run_endRound (some (.exit id)) c2,.inr ⟨rfl,⟨.exit id,(hIx (.exit id)).putObj (s:=0) _ x3 (by omega) c2 rfl,World.putObj_heap_same (Array.getElem?_eq_some_iff.1 c2).1,(World.putObj_heap_other (by omega)).trans c3⟩,?_⟩⟩;rw[hsz,show D+2=w.heap.size+2 from by omega];exact hKt (hKt (hKb Z W (D+1) _ _ (by omega) (by omega) j2 rfl) x2) (hKb Z W3 (D+1) _ _ (by omega) (by omega) c2 rfl)
  |goto=>exact hx.elim
  |panic=>exact hx.elim
  |outgrown=>exact hx.elim
 refine⟨D+1,[{ target:=.collected D,args:=#[] }],W1,{ target:=.fn (.func gf) lb,args:=first++#[.func (.yield (D+1)) #[] #[]] },W1,gf,first++#[.func (.yield (D+1)) #[] #[]]++lb,W1,?_,?_,?_,?_,fun _=>h1,?_⟩
 ·have h:=run_enterLoop_outer (P:=P) (w:=w) fn a.tmps ps assign body;rw[hD]at h;rw[h,←hW1]
 ·simp only[resolve,hg];simp[go_sem]
 ·intro f' hf';simp[Target.leads]at hf';exact hf'▸hFg
 ·simp[invoke,go_sem,eg]
 ·refine(hf (D+1) J Jx W1 hB1 hJ hJx hround (fun Z=>⟨hI1 Z,hL,hK⟩)).mono ?_;rintro x W2 ⟨⟨v,rfl⟩,⟨Z,jz,j1,j2,j3⟩|⟨c,j1,j2,j3⟩⟩
  ·refine⟨none,_,run_endLoop j2 (by simp[rec']),?_⟩;exact hdone D Z _ (by omega) (by omega) (hI.putObj _ j1 (by omega) j2 rfl) ((World.putObj_heap_other (by omega)).trans j3)
  ·refine⟨some c,_,run_endLoop j2 (by simp[rec']),?_⟩;exact hstop D c _ (by omega) ((hIx c).putObj (s:=0) _ j1 (by omega) j2 rfl) ((World.putObj_heap_other (by omega)).trans j3)
end Cf
end Go.Proofs.YtgffbbdcbkikhaaGreatDoor
