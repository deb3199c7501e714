/- Parts of the proof. -/
import Derived.Test.YtbbbocoliandcaaGreatDoorKaC
set_option maxRecDepth 100000
set_option maxHeartbeats 8000000
namespace Go.Proofs.YtbbbocoliandcaaGreatDoor
namespace Bl
open Go.RowKit
open Bs (grownBy_trans Qy)
theorem Qh3:(Tryz.prog.info? 4).map (fun i=>(i.zero,i.size,i.bytes))=some (some (.bool false),1,1):=by kernel_rfl
end Bl
namespace Dr
open Go.RowKit Go
variable {P : Program} {ops : Array Oper} {Q : Exit → Act → World → Prop} {md : Region.Mode}
def upd(L:Nat→Bool)(i:Nat):Nat→Bool:=fun j=>L j || j==i
theorem QaN(L:Nat→Bool)(i:Nat):upd L i i=true:=by simp[upd]
theorem Qq{L:Nat→Bool}{i j:Nat}(h:L j=true):upd L i j=true:=by simp[upd,h]
theorem Qf{L:Nat→Bool}{i j:Nat}(h:upd L i j=true)(hne:j≠i):L j=true:=by simpa [upd,hne] using h
def backB(md:Region.Mode)(ops:Array Oper):Bool:=(List.range ops.size).all fun i=>((ops[i]?).map fun o=>o.after.all fun e=>!Region.binds md e || decide (e.on<i)).getD true
def needs(md:Region.Mode)(o:Oper):List Nat:=(o.after.toList.filter fun e=>Region.binds md e).map (·.on)
def StepAt(P:Program)(md:Region.Mode)(ops:Array Oper)(Q:Exit→Act→World→Prop)(I:(Nat→Bool)→Act→World→Prop)(i:Nat):Prop:=
 ∀L a w,L i=false→(∀o,ops[i]?=some o→∀j∈needs md o,L j=true)→I L a w→wpOp P ops Q i (I (upd L i)) a w
theorem StepAt.mk{I:(Nat→Bool)→Act→World→Prop}{i:Nat}{o:Oper}{ns:List Nat}(ho:ops[i]?=some o)(hn:needs md o=ns)(hg:o.guard=none)
  (h:∀L a w,L i=false→(∀j∈ns,L j=true)→I L a w→o.wp P a w (I (upd L i)) Q):StepAt P md ops Q I i:=by
 intro L a w h0 h1 h2;unfold wpOp;rw[ho]
 show if Region.wanted o (yielded ops a.tmps)=true then _ else _
 rw[if_pos (by simp[Region.wanted,hg])];exact .inl (h L a w h0 (fun j hj=>h1 o ho j (by rw[hn];exact hj)) h2)
theorem Qki(hb:backB md ops=true){i:Nat}{o:Oper}(ho:ops[i]?=some o):∀e∈o.after,Region.binds md e=true→e.on<i:=by
 intro e he hbi;have hlt:i<ops.size:=(Array.getElem?_eq_some_iff.1 ho).1;have h:=List.all_eq_true.1 hb i (List.mem_range.2 hlt);rw[ho]at h;simp only[Option.map_some,Option.getD_some,Array.all_eq_true_iff_forall_mem]at h;have h2:=h e he;rw[hbi]at h2
 simpa using h2
theorem ready_nil(hb:backB md ops=true){listed:Array Bool}(hs:listed.size=ops.size)(h:Region.ready md ops listed=[])(i:Nat):i<ops.size→listed.getD i true=true:=by
 induction i using Nat.strongRecOn with
 |ind i ih=>
  intro hi;cases hl:listed.getD i true with
  |true=>rfl
  |false=>
   have hm:i∈Region.ready md ops listed:=by
    refine mem_ready.2 ⟨hl,ops[i],Array.getElem?_eq_some_iff.2 ⟨hi,rfl⟩,fun e he hbi=>?_⟩;have hlt:=Qki hb (Array.getElem?_eq_some_iff.2 ⟨hi,rfl⟩) e he hbi;have h1:=ih e.on hlt (by omega);rw[Array.getD_eq_getD_getElem?]at h1 ⊢;rw[Array.getElem?_eq_some_iff.2 ⟨show e.on<listed.size by omega,rfl⟩]at h1 ⊢;exact h1
   rw[h]at hm;cases hm
theorem QdT{p q:Nat→Bool}{i:Nat}:∀{l:List Nat},i∈l→p i=true→q i=false→(∀j,q j=true→p j=true)→l.countP q<l.countP p
 | [],h,_,_,_=>by cases h
 |k :: l,h,hp,hq,hpq=>by
  have hle:l.countP q≤l.countP p:=List.countP_mono_left (fun j _=>hpq j);by_cases hk:k=i
  ·subst hk;rw[List.countP_cons_of_pos hp,List.countP_cons_of_neg (by simp[hq])];omega
  ·have hm:i∈l:=(List.mem_cons.1 h).resolve_left (fun e=>hk e.symm);have ih:=QdT hm hp hq hpq;rw[List.countP_cons,List.countP_cons];have:(if q k=true then 1 else 0)≤(if p k=true then 1 else 0):=by
    by_cases h1:q k=true
    ·rw[if_pos h1,if_pos (hpq k h1)];exact Nat.le_refl _
    ·rw[if_neg h1];exact Nat.zero_le _
   omega
theorem Qdb{I:(Nat→Bool)→Act→World→Prop}(hb:backB md ops=true)(hstep:∀i,i<ops.size→StepAt P md ops Q I i)
  (hend:∀L a w,(∀i,i<ops.size→L i=true)→I L a w→Q .normal a w):∀(fuel:Nat) (listed:Array Bool) (a:Act) (w:World),listed.size=ops.size →
  (List.range ops.size).countP (fun i=>!listed.getD i true)≤fuel→I (fun i=>listed.getD i false) a w→wpAny P md ops Q fuel listed a w:=by
 have same:∀(listed:Array Bool) (i:Nat),listed.size=ops.size→i<ops.size→listed.getD i true=listed.getD i false:=fun listed i hs hi=>by
  rw[Array.getD_eq_getD_getElem?,Array.getD_eq_getD_getElem?,Array.getElem?_eq_some_iff.2 ⟨show i<listed.size by omega,rfl⟩]
  rfl
 have last:∀(listed:Array Bool) (a:Act) (w:World),listed.size=ops.size→I (fun i=>listed.getD i false) a w→Region.ready md ops listed=[]→Q .normal a w:=fun listed a w hs hI hr=>
  hend _ a w (fun i hi=>by rw[←same listed i hs hi];exact ready_nil hb hs hr i hi) hI
 intro fuel
 induction fuel with
 |zero=>
  intro listed a w hs hc hI;have hr:Region.ready md ops listed=[]:=by
   rw[List.eq_nil_iff_forall_not_mem];intro j hj;obtain⟨h0,o,ho,_⟩:=mem_ready.1 hj;have hlt:j<ops.size:=(Array.getElem?_eq_some_iff.1 ho).1;have:=List.countP_pos_iff (p:=fun i=>!listed.getD i true).2 ⟨j,List.mem_range.2 hlt,by simp only[h0,Bool.not_false]⟩;omega
  exact⟨hr,last listed a w hs hI hr⟩
 |succ fuel ih=>
  intro listed a w hs hc hI;refine⟨last listed a w hs hI,fun i hi=>?_⟩;obtain⟨h0,o,ho,hn⟩:=mem_ready.1 hi;have hlt:i<ops.size:=(Array.getElem?_eq_some_iff.1 ho).1;have h1:=hstep i hlt (fun i=>listed.getD i false) a w (by rw[←same listed i hs hlt];exact h0) (fun o' ho' j hj=>by
   rw[ho]at ho';obtain rfl:=Option.some.inj ho';obtain⟨e,he,rfl⟩:=List.mem_map.1 hj;obtain⟨he1,he2⟩:=List.mem_filter.1 he;exact hn e (Array.mem_toList_iff.1 he1) he2) hI
  refine wpOp_mono (fun a' w' h=>ih _ a' w' (by simp[hs]) ?_ ?_) h1
  ·have:=QdT (p:=fun i=>!listed.getD i true) (q:=fun j=>!(listed.setIfInBounds i true).getD j true) (l:=List.range ops.size) (List.mem_range.2 hlt) (by simp only[h0,Bool.not_false])
    (by simp[show i<listed.size by omega]) (fun j hj=>by
     by_cases e:i=j
     ·subst e;simp[show i<listed.size by omega]at hj
     ·rw[getD_set_ne true e]at hj;exact hj)
   omega
  ·refine cast (congrArg (fun L=>I L a' w') (funext fun j=>?_)) h;by_cases e:i=j
   ·subst e;simp[upd,show i<listed.size by omega]
   ·rw[getD_set_ne false e];simp[upd,show ¬j=i from fun h=>e h.symm]
theorem Qe7{I:(Nat→Bool)→Act→World→Prop}{id:Nat}{a:Act}{w:World}(hm:P.follows .mixedOrders=true)(hb:backB .any ops=true)(h0:I (fun _=>false) a w.drew)
  (hstep:∀i,i<ops.size→StepAt P .any ops Q I i) (hend:∀L a w,(∀i,i<ops.size→L i=true)→I L a w→Q .normal a w):(Code.region id ops true).wp P Q a w:=by
 refine wp_region_any hm ?_;refine Qdb hb hstep hend _ _ _ _ (by simp) ?_ ?_
 ·exact Nat.le_trans List.countP_le_length (by simp)
 ·refine cast (congrArg (fun L=>I L a w.drew) (funext fun j=>?_)) h0;rw[Array.getD_eq_getD_getElem?];by_cases hj:j<ops.size
  ·simp[hj]
  ·simp[hj]
theorem QV{I:Act→(Nat→Bool)→Act→World→Prop}{id:Nat}{a:Act}{w:World}(hm:P.follows .mixedOrders=true)(hb:backB .any ops=true)(h0:I a (fun _=>false) a w.drew)
  (hstep:∀i,i<ops.size→StepAt P .any ops Q (I a) i) (hend:∀L a' w',(∀i,i<ops.size→L i=true)→I a L a' w'→Q .normal a' w'):(Code.region id ops true).wp P Q a w:=
 Qe7 hm hb h0 hstep hend
theorem all_nil{p:Nat→Prop}:∀i,i<0→p i:=fun _ h=>by omega
theorem Qd{p:Nat→Prop}{n:Nat}(h:∀i,i<n→p i)(hn:p n):∀i,i<n+1→p i:=fun i hi=>by
 by_cases e:i=n
 ·subst e;exact hn
 ·exact h i (by omega)
def At(a:Act)(d:Nat):Value:=a.tmps.getD d undef
theorem At.Qbn{a:Act}{d:Nat}{v:Value}(h:d<a.tmps.size):At (a.put (some d) v) d=v:=by simp[At,Act.put,h]
theorem At.QS{a:Act}{d e:Nat}{v:Value}(h:e≠d):At (a.put (some d) v) e=At a e:=by
 unfold At Act.put;simp only[Array.getD_eq_getD_getElem?,Array.getElem?_setIfInBounds_ne (Ne.symm h)]
structure Agr (D:List Nat) (a0 a:Act):Prop where
 defers:a.defers=a0.defers
 size:a.tmps.size=a0.tmps.size
 same:∀j,j∉D→a.tmps[j]?=a0.tmps[j]?
theorem Agr.refl(D:List Nat)(a:Act):Agr D a a:=⟨rfl,rfl,fun _ _=>rfl⟩
theorem Agr.put{D:List Nat}{a0 a:Act}{d:Nat}(h:Agr D a0 a)(hd:d∈D)(v:Value):Agr D a0 (a.put (some d) v):=
 ⟨h.defers,by rw[←h.size];simp[Act.put],fun j hj=>by
  rw[←h.same j hj];exact Array.getElem?_setIfInBounds_ne (fun e=>hj (by rw[←e];exact hd))⟩
theorem Agr.at_{D:List Nat}{a0 a:Act}{d:Nat}(h:Agr D a0 a)(hd:d∉D):At a d=At a0 d:=by
 unfold At;rw[Array.getD_eq_getD_getElem?,Array.getD_eq_getD_getElem?,h.same d hd]
theorem Qdo(a:Act):∀(D:List Nat) (b:Act),(D.foldl (fun b d=>b.put (some d) (At a d)) b).defers=b.defers
 | [],_=>rfl
 |_ :: D,_=>(Qdo a D _).trans rfl
theorem fold_at(a:Act):∀(D:List Nat) (b:Act) (j:Nat),(D.foldl (fun b d=>b.put (some d) (At a d)) b).tmps[j]?=if j∈D then(b.tmps[j]?).map (fun _=>At a j) else b.tmps[j]?
 | [],_,_=>by simp
 |d :: D,b,j=>by
  rw[List.foldl_cons,fold_at a D];by_cases e:d=j
  ·subst e;by_cases h:d∈D
   ·rw[if_pos h,if_pos (by simp)];simp only[Act.put,Array.getElem?_setIfInBounds_self];by_cases hs:d<b.tmps.size
    ·simp[hs]
    ·simp[hs]
   ·rw[if_neg h,if_pos (by simp)];simp only[Act.put,Array.getElem?_setIfInBounds_self];by_cases hs:d<b.tmps.size
    ·simp[hs]
    ·simp[hs]
  ·have h1:(b.put (some d) (At a d)).tmps[j]?=b.tmps[j]?:=Array.getElem?_setIfInBounds_ne e;rw[h1];by_cases h:j∈D
   ·rw[if_pos h,if_pos (by simp[h])]
   ·rw[if_neg h,if_neg (by simp[h];exact fun e'=>e e'.symm)]
theorem Agr.form{D:List Nat}{a0 a:Act}(h:Agr D a0 a):a=D.foldl (fun b d=>b.put (some d) (At a d)) a0:=by
 have h1:a.defers=(D.foldl (fun b d=>b.put (some d) (At a d)) a0).defers:=by rw[Qdo,h.defers]
 have h2:a.tmps=(D.foldl (fun b d=>b.put (some d) (At a d)) a0).tmps:=by
  refine Array.ext_getElem? fun j=>?_
  rw[fold_at];by_cases hj:j∈D
  ·rw[if_pos hj];by_cases hs:j<a.tmps.size
   ·have hs0:j<a0.tmps.size:=by rw[←h.size];exact hs
    simp[At,hs,hs0]
   ·have hs0:¬j<a0.tmps.size:=by rw[←h.size];exact hs
    simp[hs,hs0]
  ·rw[if_neg hj,h.same j hj]
 generalize D.foldl (fun b d=>b.put (some d) (At a d)) a0=b at *;cases a;cases b
 simp only at h1 h2;rw[h1,h2]
theorem Qe{o:Oper}{a:Act}{w:World}{v:Value}{K:Act→World→Prop}(hy:(execOp a.eval o).run P w=.ok (.value v) w)(h:K (a.put o.dst v) w):o.wp P a w K Q:=by
 unfold Oper.wp;rw[hy];exact h
theorem QaD{o:Oper}{a:Act}{w w':World}{v:Value}{K:Act→World→Prop}(hy:(execOp a.eval o).run P w=.ok (.value v) w')(h:K (a.put o.dst v) w'):o.wp P a w K Q:=by
 unfold Oper.wp;rw[hy];exact h
theorem QgO{o:Oper}{a:Act}{w:World}{f:FuncId}{vs:Array Value}{v:Value}{R:World→Prop}{K:Act→World→Prop}(hy:(execOp a.eval o).run P w=.ok (.enter f vs) w)
  (h:Calls P f vs w fun e w'=>e=.returned v∧R w') (hK:∀w',R w'→K (a.put o.dst v) w'):o.wp P a w K Q:=by
 unfold Oper.wp;rw[hy];exact h.mono fun e w' ⟨he,hr⟩=>by subst he;exact hK w' hr
end Dr
namespace Dr
open Go.RowKit Go
structure VI (D S:List Nat) (V:List Value) (M:(Nat→Bool)→World→Prop) (a0:Act) (L:Nat→Bool) (a:Act) (w:World):Prop where
 agr:Agr D a0 a
 big:∀d∈D,d<a0.tmps.size
 vals:∀i,i<S.length→S.getD i 0∈D→L i=true→At a (S.getD i 0)=V.getD i undef
 mem:M L w
theorem VI.start{D S:List Nat}{V:List Value}{M:(Nat→Bool)→World→Prop}{a0:Act}{w:World}(n:Nat)(hn:n≤a0.tmps.size)(h:∀d∈D,d<n)(hM:M (fun _=>false) w):VI D S V M a0 (fun _=>false) a0 w:=
 ⟨Agr.refl _ _,fun d hd=>Nat.lt_of_lt_of_le (h d hd) hn,(fun _ _ _ h=>by cases h),hM⟩
theorem Qjd{S:List Nat}(hS:S.Nodup){i j:Nat}(hi:i<S.length)(hj:j<S.length)(h:S.getD i 0=S.getD j 0):i=j:=by
 simp only[List.getD,List.getElem?_eq_getElem hi,List.getElem?_eq_getElem hj,Option.getD_some]at h;have hp:=List.pairwise_iff_getElem.1 hS;rcases Nat.lt_trichotomy i j with e|e|e
 ·exact absurd h (hp i j hi hj e)
 ·exact e
 ·exact absurd h.symm (hp j i hj hi e)
theorem VI.value{D S:List Nat}{V:List Value}{M:(Nat→Bool)→World→Prop}{a0:Act}{L:Nat→Bool}{a:Act}{w w':World}(h:VI D S V M a0 L a w)(hS:S.Nodup)(i:Nat)(hi:i<S.length)(hD:S.getD i 0∈D){v:Value}(hv:v=V.getD i undef)(hM:M (upd L i) w') :
  VI D S V M a0 (upd L i) (a.put (some (S.getD i 0)) v) w':=by
 refine⟨h.agr.put hD v,h.big,fun j hj hjD hl=>?_,hM⟩;by_cases e:j=i
 ·subst e;rw[At.Qbn (by rw[h.agr.size];exact h.big _ hD),hv]
 ·rw[At.QS (fun q=>e (Qjd hS hj hi q))];exact h.vals j hj hjD (Qf hl e)
theorem VI.other{D S:List Nat}{V:List Value}{M:(Nat→Bool)→World→Prop}{a0:Act}{L:Nat→Bool}{a:Act}{w w':World}(h:VI D S V M a0 L a w)(i:Nat)(hD:S.getD i 0∉D)(hM:M (upd L i) w'):VI D S V M a0 (upd L i) a w':=
 ⟨h.agr,h.big,fun j hj hjD hl=>h.vals j hj hjD (Qf hl (fun e=>hD (by rw[←e];exact hjD))),hM⟩
theorem VI.get{D S:List Nat}{V:List Value}{M:(Nat→Bool)→World→Prop}{a0:Act}{L:Nat→Bool}{a:Act}{w:World}(h:VI D S V M a0 L a w)(i:Nat)(hi:i<S.length)(hD:S.getD i 0∈D)(hl:L i=true):a.tmps[S.getD i 0]?.getD undef=V.getD i undef:=by
 have:=h.vals i hi hD hl;unfold At at this
 rwa [Array.getD_eq_getD_getElem?]at this
theorem VI.old{D S:List Nat}{V:List Value}{M:(Nat→Bool)→World→Prop}{a0:Act}{L:Nat→Bool}{a:Act}{w:World}(h:VI D S V M a0 L a w)(d:Nat)(hD:d∉D):a.tmps[d]?.getD undef=a0.tmps[d]?.getD undef:=by
 rw[h.agr.same d hD]
theorem QaV{P:Program}{Q:Exit→Act→World→Prop}{o:Oper}{a:Act}{w:World}{f:FuncId}{vs:Array Value}{R:Ending→World→Prop}{K:Act→World→Prop}(hy:(execOp a.eval o).run P w=.ok (.enter f vs) w)
  (h:Calls P f vs w R) (hK:∀e w',R e w'→∃v,e=.returned v∧K (a.put o.dst v) w'):o.wp P a w K Q:=by
 unfold Oper.wp;rw[hy];exact h.mono fun e w' hr=>by
  obtain⟨v,he,hk⟩:=hK e w' hr;subst he;exact hk
end Dr
namespace Ss
open Go.RowKit
open Bs (grownBy_trans Qy)
def encW(x:List Int):Value:=.string (strOfNums x)
structure Seg (w:World) (a:Option Addr) (n c:Nat) (l:List (List Int)):Prop where
 len:l.length=n
 le:n≤c
 cap:c≤maxLen
 nil_:a=none→n=0∧c=0
 at_:∀ad,a=some ad→∀j u,(l.map encW)[j]?=some u→w.cell? (ad.add j)=some u
theorem Seg.own{w:World}{base e g n c:Nat}{l:List (List Int)}(h:w.ownsRow base e 1 (.slice (some ⟨g,0,none⟩) n c) n (l.map encW)):Seg w (some ⟨g,0,none⟩) n c l:=by
 have hl:l.length=n:=by simpa using h.1
 refine⟨hl,?_,?_,fun e=>by(cases e),?_⟩
 ·rcases h.2 with ⟨e,_⟩|⟨g',cap,cur,e,_,_,h1,h2,_⟩
  ·cases e
  ·cases e;exact h1
 ·rcases h.2 with ⟨e,_⟩|⟨g',cap,cur,e,_,_,h1,h2,_⟩
  ·cases e
  ·cases e;exact h2
 ·intro ad had j u hu;cases had
  exact h.cells rfl j u hu
theorem Seg.kept{w w':World}{a:Option Addr}{n c:Nat}{l:List (List Int)}(h:Seg w a n c l){row:Option Nat}(hg:w.grownBy w' row)(hne:∀ad,a=some ad→row≠some ad.block):Seg w' a n c l:=by
 refine⟨h.len,h.le,h.cap,h.nil_,fun ad had j u hu=>hg.cell (h.at_ ad had j u hu) ?_⟩;intro e;have:(ad.add j).block=ad.block:=by unfold Addr.add;split <;> rfl
 rw[this]at e;exact hne ad had e.symm
theorem Seg.grown{w w':World}{a:Option Addr}{n c:Nat}{l:List (List Int)}(h:Seg w a n c l)(hg:w.grownBy w' none):Seg w' a n c l:=h.kept hg (fun _ _ e=>by cases e)
theorem Seg.addr{w:World}{a:Option Addr}{n c:Nat}{l:List (List Int)}(h:Seg w a n c l)(hn:0<n):∃g o,a=some ⟨g,o,none⟩∧∀j,j<n→w.cell? ⟨g,o+j,none⟩=some (.string (strOfNums (l.getD j []))):=by
 have hl:=h.len;cases a with
 |none=>have:=h.nil_ rfl;omega
 |some ad=>
  have hc:=h.at_ ad rfl;obtain⟨g,o,spot⟩:=ad;have h0:=hc 0 (encW (l.getD 0 [])) (by simp[List.getD];rw[List.getElem?_eq_getElem (by omega)];exact⟨_,rfl,rfl⟩);have hspot:spot=none:=by simpa [Addr.add] using World.cell?_spot h0
  subst hspot;refine⟨g,o,rfl,fun j hj=>?_⟩;have h1:=hc j (encW (l.getD j [])) (by simp[List.getD];rw[List.getElem?_eq_getElem (by omega)];exact⟨_,rfl,rfl⟩);rw[Addr.add_lit]at h1;exact h1
theorem QdB:(Tryz.prog.info? 9).map (fun i=>(i.zero,i.size,i.bytes))=some (some (.string ⟨#[]⟩),1,16):=by kernel_rfl
end Ss
end Go.Proofs.YtbbbocoliandcaaGreatDoor
