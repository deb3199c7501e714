/- Parts of the proof. -/
import Derived.Test.YtbbbocoliandcaaGreatDoorKqD
set_option maxRecDepth 100000
set_option maxHeartbeats 8000000
open Go.Lib (hid)
namespace Go.Proofs.YtbbbocoliandcaaGreatDoor
namespace Crc
open Go.RowKit Bs
theorem Qif(v:Nat)(h:v<4294967296):bits BinOp.and IntKind.u32 (v:Int) 1=((v % 2:Nat):Int)∧bits BinOp.xor IntKind.u32 ((v:Int) / 2) 2197175160=((v / 2 ^^^ poly:Nat):Int):=by
 refine⟨?_,?_⟩
 ·have:=u32_and_nat v 1 h (by decide);rw[nat_mask1]at this;exact this
 ·exact u32_xor_nat (v / 2) poly (by omega) (by decide)
theorem Qie(v:Nat)(w:World)(h:v<4294967296) :
  Calls Tryz.prog 224 #[.int .u32 v] w fun e w'=>e=.returned (.int .u32 (halve v))∧w=w':=by
 obtain⟨e1,e2⟩:=Qif v h;have HE:=hid e2;by_cases h2:v % 2=1
 ·have HV:Hid (halve v=v / 2 ^^^ poly):=if_pos h2;have hb:(((v % 2:Nat):Int)==1)=true:=by simp;omega
  clear e2;go_enter Tryz.func224,Tryz.ntmps224
  go_wp2;go_ret
  exact⟨Qz (by rw[HV.out];exact HE.out),rfl⟩
 ·have HV:Hid (halve v=v / 2):=if_neg h2;have hb:(((v % 2:Nat):Int)==1)=false:=by simp;omega
  clear e2;go_enter Tryz.func224,Tryz.ntmps224
  go_wp2;go_ret
  exact⟨Qz (by rw[HV.out];omega),rfl⟩
theorem QgG(n v:Nat):halves (n+1) v=halve (halves n v):=Qhq n 1 v
def part(k i:Nat):Nat:=if i<k then entry i else 0
theorem QiP:tab (part 0)=tab fun _=>0:=by
 have:part 0=fun _=>0:=by funext i;simp[part]
 rw[this]
theorem Qj5(n:Nat)(t:Nat→Nat):(tabN n t).all (·.oneCell')=true:=by
 rw[Array.all_eq_true_iff_forall_mem];intro v hv;simp[tabN]at hv;obtain⟨i,_,rfl⟩:=hv
 rfl
theorem Qlm(t:Nat→Nat):(tab t).all (·.oneCell')=true:=Qj5 256 t
theorem QhP(n:Nat)(t u:Nat→Nat)(h:∀i,i<n→t i=u i):tabN n t=tabN n u:=by
 unfold tabN
 congr 1
 refine List.map_congr_left fun i hi=>?_
 rw[h i (List.mem_range.1 hi)]
theorem Qj7:tab (part 256)=tab entry:=QhP 256 _ _ fun _ hi=>if_pos hi
theorem Qj6(n:Nat)(k:Nat):(tabN n (part k)).setIfInBounds k (.int .u32 (entry k:Int))=tabN n (part (k+1)):=by
 apply Array.ext
 ·simp[tabN]
 ·intro i h1 h2;have hi:i<n:=by simpa [tabN] using h2
  rw[Array.getElem_setIfInBounds (by simpa [tabN] using hi)];by_cases e:k=i
  ·subst e;simp[tabN,part]
  ·rw[if_neg e];have:(i<k+1)=(i<k):=by apply propext;omega
   simp[tabN,part,this]
theorem Qln(k:Nat):(tab (part k)).setIfInBounds k (.int .u32 (halves 8 k:Int))=tab (part (k+1)):=Qj6 256 k
theorem QiQ(w:World) :
  Calls Tryz.prog 213 #[] w fun e w'=>e=.returned (.agg (tab entry))∧w.grownBy w' none:=by
 have hz:∀w:World,(zeroValue 254).run Tryz.prog w=.ok (.agg (tab (part 0))) w:=fun _=>by rw[QiP];kernel_rfl
 go_enter Tryz.func213,Tryz.ntmps213
 go_wp2
 go_loopw [4] (fun i wr=>∃k:Nat,k≤256∧i=.int .i64 k∧wr=(w.alloc (.cells (tab (part 0)) 254)).alloc (.cells (tab (part k)) 254)) (fun i _=>256-(intOf i).toNat)
 case atStart=>exact⟨0,Nat.zero_le _,rfl,rfl⟩
 case round=>
  obtain⟨k,hk,rfl,rfl⟩:=hrel;by_cases hlt:k<256
  ·have hd:decide ((k:Int)<256)=true:=by simp;omega
   go_wp2
   go_loop [3,9] (fun v j=>∃m:Nat,m≤8∧j=.int .i64 m∧v=.int .u32 (halves m k)) (fun _ j=>8-(intOf j).toNat)
   case atStart=>exact⟨0,Nat.zero_le _,rfl,rfl⟩
   case round=>
    obtain⟨m,hm,rfl,rfl⟩:=hrel;have hv:halves m k<4294967296:=Qe3 m k (by omega);by_cases hm8:m<8
    ·have HL:=hid (QgG m k);go_wp2_with (go_at_call 224;refine(Qie _ _ hv).mono ?_;rintro e w' ⟨rfl,rfl⟩)
     go_round
     case rel=>exact⟨m+1,by omega,by go_num,by rw[HL.out]⟩
     case measure=>simp[intOf];omega
    ·obtain rfl:m=8:=by omega
     have hg:=Qg5 (part k) k hlt;have HS:=hid (Qln k);go_wp2;exact⟨⟨k+1,by omega,by go_num,by rw[HS.out]⟩,by simp[intOf];omega⟩
  ·obtain rfl:k=256:=by omega
   have HI:=hid (QfQ entry);have H1:=hid (heap_alloc2_new w (.cells (tab (part 0)) 254) (.cells (tab (part 256)) 254));have H0:=hid (heap_alloc2_old w (.cells (tab (part 0)) 254) (.cells (tab (part 256)) 254));have hg:w.grownBy (((w.alloc (.cells (tab (part 0)) 254)).alloc (.cells (tab entry) 254)).setRow w.heap.size (tab entry)) none:=
    ⟨rfl,rfl,rfl,by simp;omega,fun k hk _=>by rw[setRow_other _ _ _ _ (by omega),heap_alloc_old _ _ (by simp;omega),heap_alloc_old _ _ hk]⟩
   have HG:=hid hg;have HR:=hid (setRow_heap _ w.heap.size _ (tab entry) _ _ H0.out);rw[Qj7]at *;clear hg;go_wp2_with (first
    |(refine wpList_load_row rfl _ _ rfl (w.heap.size+1) rfl _ (tab entry) _ _ H1.out Tryz.underlying254 rfl HI.out ?_)
    |(refine wpList_store_row rfl _ _ _ rfl w.heap.size (tab entry) rfl rfl _ (tab (part 0)) H0.out HI.out (by rw[Qd1,Qd1]) (Qlm _) ?_)
    |fail)
   refine bodyPost_ret (v:=.agg (tab entry)) ?_ rfl ⟨rfl,HG.out⟩;exact results_cell_row rfl _ _ w.heap.size _ _ _ _ rfl HR.out Tryz.underlying254 rfl HI.out
theorem Qa6(a:Option Addr)(n c:Nat)(l:List Int)(w:World)(hs:Seg w a n c l)(hb:Bs.IsB l) :
  Calls Tryz.prog 195 #[.slice a n c] w fun e w'=>e=.returned (.int .u32 (crc l))∧w.grownBy w' none:=by
 have HB:=hid hb;have HS:=hid hs;clear hb hs;go_enter Tryz.func195,Tryz.ntmps195
 go_wp2_with fail
 refine(QiQ w).mono ?_;rintro e w1 ⟨rfl,hg1⟩;have H1:=hid hg1;clear hg1;go_wp2_with fail
 refine(Qll entry a n c l w1 (HS.out.grown H1.out) HB.out QfF).mono ?_;rintro e w2 ⟨rfl,hg2⟩;have H2:=hid (grownBy_trans H1.out hg2 (fun _ e=>by cases e));clear hg2;go_wp2;go_ret
 exact⟨rfl,H2.out⟩
end Crc
namespace Dr
open Go.RowKit Go
variable {P : Program} {ops : Array Oper} {Q : Exit → Act → World → Prop} {md : Region.Mode}
def upd(L:Nat→Bool)(i:Nat):Nat→Bool:=fun j=>L j || j==i
theorem QaL(L:Nat→Bool)(i:Nat):upd L i i=true:=by simp[upd]
theorem Qs{L:Nat→Bool}{i j:Nat}(h:L j=true):upd L i j=true:=by simp[upd,h]
theorem Qf{L:Nat→Bool}{i j:Nat}(h:upd L i j=true)(hne:j≠i):L j=true:=by simpa [upd,hne] using h
def backB(md:Region.Mode)(ops:Array Oper):Bool:=(List.range ops.size).all fun i=>((ops[i]?).map fun o=>o.after.all fun e=>!Region.binds md e || decide (e.on<i)).getD true
def needs(md:Region.Mode)(o:Oper):List Nat:=(o.after.toList.filter fun e=>Region.binds md e).map (·.on)
def StepAt(P:Program)(md:Region.Mode)(ops:Array Oper)(Q:Exit→Act→World→Prop)(I:(Nat→Bool)→Act→World→Prop)(i:Nat):Prop:=
 ∀L a w,L i=false→(∀o,ops[i]?=some o→∀j∈needs md o,L j=true)→I L a w→wpOp P ops Q i (I (upd L i)) a w
theorem StepAt.mk{I:(Nat→Bool)→Act→World→Prop}{i:Nat}{o:Oper}{ns:List Nat}(ho:ops[i]?=some o)(hn:needs md o=ns)(hg:o.guard=none)
  (h:∀L a w,L i=false→(∀j∈ns,L j=true)→I L a w→o.wp P a w (I (upd L i)) Q):StepAt P md ops Q I i:=by
 intro L a w h0 h1 h2;unfold wpOp;rw[ho]
 show if Region.wanted o (yielded ops a.tmps)=true then _ else _
 rw[if_pos (by simp[Region.wanted,hg])];exact .inl (h L a w h0 (fun j hj=>h1 o ho j (by rw[hn];exact hj)) h2)
theorem Qkm(hb:backB md ops=true){i:Nat}{o:Oper}(ho:ops[i]?=some o):∀e∈o.after,Region.binds md e=true→e.on<i:=by
 intro e he hbi;have hlt:i<ops.size:=(Array.getElem?_eq_some_iff.1 ho).1;have h:=List.all_eq_true.1 hb i (List.mem_range.2 hlt);rw[ho]at h;simp only[Option.map_some,Option.getD_some,Array.all_eq_true_iff_forall_mem]at h;have h2:=h e he;rw[hbi]at h2
 simpa using h2
theorem ready_nil(hb:backB md ops=true){listed:Array Bool}(hs:listed.size=ops.size)(h:Region.ready md ops listed=[])(i:Nat):i<ops.size→listed.getD i true=true:=by
 induction i using Nat.strongRecOn with
 |ind i ih=>
  intro hi;cases hl:listed.getD i true with
  |true=>rfl
  |false=>
   have hm:i∈Region.ready md ops listed:=by
    refine mem_ready.2 ⟨hl,ops[i],Array.getElem?_eq_some_iff.2 ⟨hi,rfl⟩,fun e he hbi=>?_⟩;have hlt:=Qkm hb (Array.getElem?_eq_some_iff.2 ⟨hi,rfl⟩) e he hbi;have h1:=ih e.on hlt (by omega);rw[Array.getD_eq_getD_getElem?]at h1 ⊢;rw[Array.getElem?_eq_some_iff.2 ⟨show e.on<listed.size by omega,rfl⟩]at h1 ⊢;exact h1
   rw[h]at hm;cases hm
theorem Qee{p q:Nat→Bool}{i:Nat}:∀{l:List Nat},i∈l→p i=true→q i=false→(∀j,q j=true→p j=true)→l.countP q<l.countP p
 | [],h,_,_,_=>by cases h
 |k :: l,h,hp,hq,hpq=>by
  have hle:l.countP q≤l.countP p:=List.countP_mono_left (fun j _=>hpq j);by_cases hk:k=i
  ·subst hk;rw[List.countP_cons_of_pos hp,List.countP_cons_of_neg (by simp[hq])];omega
  ·have hm:i∈l:=(List.mem_cons.1 h).resolve_left (fun e=>hk e.symm);have ih:=Qee hm hp hq hpq;rw[List.countP_cons,List.countP_cons];have:(if q k=true then 1 else 0)≤(if p k=true then 1 else 0):=by
    by_cases h1:q k=true
    ·rw[if_pos h1,if_pos (hpq k h1)];exact Nat.le_refl _
    ·rw[if_neg h1];exact Nat.zero_le _
   omega
theorem Qdr{I:(Nat→Bool)→Act→World→Prop}(hb:backB md ops=true)(hstep:∀i,i<ops.size→StepAt P md ops Q I i)
  (hend:∀L a w,(∀i,i<ops.size→L i=true)→I L a w→Q .normal a w):∀(fuel:Nat) (listed:Array Bool) (a:Act) (w:World),listed.size=ops.size →
  (List.range ops.size).countP (fun i=>!listed.getD i true)≤fuel→I (fun i=>listed.getD i false) a w→wpAny P md ops Q fuel listed a w:=by
 have same:∀(listed:Array Bool) (i:Nat),listed.size=ops.size→i<ops.size→listed.getD i true=listed.getD i false:=fun listed i hs hi=>by
  rw[Array.getD_eq_getD_getElem?,Array.getD_eq_getD_getElem?,Array.getElem?_eq_some_iff.2 ⟨show i<listed.size by omega,rfl⟩]
  rfl
 have last:∀(listed:Array Bool) (a:Act) (w:World),listed.size=ops.size→I (fun i=>listed.getD i false) a w→Region.ready md ops listed=[]→Q .normal a w:=fun listed a w hs hI hr=>
  hend _ a w (fun i hi=>by rw[←same listed i hs hi];exact ready_nil hb hs hr i hi) hI
 intro fuel
 induction fuel with
 |zero=>
  intro listed a w hs hc hI;have hr:Region.ready md ops listed=[]:=by
   rw[List.eq_nil_iff_forall_not_mem];intro j hj;obtain⟨h0,o,ho,_⟩:=mem_ready.1 hj;have hlt:j<ops.size:=(Array.getElem?_eq_some_iff.1 ho).1;have:=List.countP_pos_iff (p:=fun i=>!listed.getD i true).2 ⟨j,List.mem_range.2 hlt,by simp only[h0,Bool.not_false]⟩;omega
  exact⟨hr,last listed a w hs hI hr⟩
 |succ fuel ih=>
  intro listed a w hs hc hI;refine⟨last listed a w hs hI,fun i hi=>?_⟩;obtain⟨h0,o,ho,hn⟩:=mem_ready.1 hi;have hlt:i<ops.size:=(Array.getElem?_eq_some_iff.1 ho).1;have h1:=hstep i hlt (fun i=>listed.getD i false) a w (by rw[←same listed i hs hlt];exact h0) (fun o' ho' j hj=>by
   rw[ho]at ho';obtain rfl:=Option.some.inj ho';obtain⟨e,he,rfl⟩:=List.mem_map.1 hj;obtain⟨he1,he2⟩:=List.mem_filter.1 he;exact hn e (Array.mem_toList_iff.1 he1) he2) hI
  refine wpOp_mono (fun a' w' h=>ih _ a' w' (by simp[hs]) ?_ ?_) h1
  ·have:=Qee (p:=fun i=>!listed.getD i true) (q:=fun j=>!(listed.setIfInBounds i true).getD j true) (l:=List.range ops.size) (List.mem_range.2 hlt) (by simp only[h0,Bool.not_false])
    (by simp[show i<listed.size by omega]) (fun j hj=>by
     by_cases e:i=j
     ·subst e;simp[show i<listed.size by omega]at hj
     ·rw[getD_set_ne true e]at hj;exact hj)
   omega
  ·refine cast (congrArg (fun L=>I L a' w') (funext fun j=>?_)) h;by_cases e:i=j
   ·subst e;simp[upd,show i<listed.size by omega]
   ·rw[getD_set_ne false e];simp[upd,show ¬j=i from fun h=>e h.symm]
theorem Qft{I:(Nat→Bool)→Act→World→Prop}{id:Nat}{a:Act}{w:World}(hm:P.follows .mixedOrders=true)(hb:backB .any ops=true)(h0:I (fun _=>false) a w.drew)
  (hstep:∀i,i<ops.size→StepAt P .any ops Q I i) (hend:∀L a w,(∀i,i<ops.size→L i=true)→I L a w→Q .normal a w):(Code.region id ops true).wp P Q a w:=by
 refine wp_region_any hm ?_;refine Qdr hb hstep hend _ _ _ _ (by simp) ?_ ?_
 ·exact Nat.le_trans List.countP_le_length (by simp)
 ·refine cast (congrArg (fun L=>I L a w.drew) (funext fun j=>?_)) h0;rw[Array.getD_eq_getD_getElem?];by_cases hj:j<ops.size
  ·simp[hj]
  ·simp[hj]
theorem QD{I:Act→(Nat→Bool)→Act→World→Prop}{id:Nat}{a:Act}{w:World}(hm:P.follows .mixedOrders=true)(hb:backB .any ops=true)(h0:I a (fun _=>false) a w.drew)
  (hstep:∀i,i<ops.size→StepAt P .any ops Q (I a) i) (hend:∀L a' w',(∀i,i<ops.size→L i=true)→I a L a' w'→Q .normal a' w'):(Code.region id ops true).wp P Q a w:=
 Qft hm hb h0 hstep hend
theorem all_nil{p:Nat→Prop}:∀i,i<0→p i:=fun _ h=>by omega
theorem Qc{p:Nat→Prop}{n:Nat}(h:∀i,i<n→p i)(hn:p n):∀i,i<n+1→p i:=fun i hi=>by
 by_cases e:i=n
 ·subst e;exact hn
 ·exact h i (by omega)
def At(a:Act)(d:Nat):Value:=a.tmps.getD d undef
theorem At.Qbz{a:Act}{d:Nat}{v:Value}(h:d<a.tmps.size):At (a.put (some d) v) d=v:=by simp[At,Act.put,h]
theorem At.QU{a:Act}{d e:Nat}{v:Value}(h:e≠d):At (a.put (some d) v) e=At a e:=by
 unfold At Act.put;simp only[Array.getD_eq_getD_getElem?,Array.getElem?_setIfInBounds_ne (Ne.symm h)]
structure Agr (D:List Nat) (a0 a:Act):Prop where
 defers:a.defers=a0.defers
 size:a.tmps.size=a0.tmps.size
 same:∀j,j∉D→a.tmps[j]?=a0.tmps[j]?
theorem Agr.refl(D:List Nat)(a:Act):Agr D a a:=⟨rfl,rfl,fun _ _=>rfl⟩
theorem Agr.put{D:List Nat}{a0 a:Act}{d:Nat}(h:Agr D a0 a)(hd:d∈D)(v:Value):Agr D a0 (a.put (some d) v):=
 ⟨h.defers,by rw[←h.size];simp[Act.put],fun j hj=>by
  rw[←h.same j hj];exact Array.getElem?_setIfInBounds_ne (fun e=>hj (by rw[←e];exact hd))⟩
theorem Agr.at_{D:List Nat}{a0 a:Act}{d:Nat}(h:Agr D a0 a)(hd:d∉D):At a d=At a0 d:=by
 unfold At;rw[Array.getD_eq_getD_getElem?,Array.getD_eq_getD_getElem?,h.same d hd]
theorem QdE(a:Act):∀(D:List Nat) (b:Act),(D.foldl (fun b d=>b.put (some d) (At a d)) b).defers=b.defers
 | [],_=>rfl
 |_ :: D,_=>(QdE a D _).trans rfl
theorem fold_at(a:Act):∀(D:List Nat) (b:Act) (j:Nat),(D.foldl (fun b d=>b.put (some d) (At a d)) b).tmps[j]?=if j∈D then(b.tmps[j]?).map (fun _=>At a j) else b.tmps[j]?
 | [],_,_=>by simp
 |d :: D,b,j=>by
  rw[List.foldl_cons,fold_at a D];by_cases e:d=j
  ·subst e;by_cases h:d∈D
   ·rw[if_pos h,if_pos (by simp)];simp only[Act.put,Array.getElem?_setIfInBounds_self];by_cases hs:d<b.tmps.size
    ·simp[hs]
    ·simp[hs]
   ·rw[if_neg h,if_pos (by simp)];simp only[Act.put,Array.getElem?_setIfInBounds_self];by_cases hs:d<b.tmps.size
    ·simp[hs]
    ·simp[hs]
  ·have h1:(b.put (some d) (At a d)).tmps[j]?=b.tmps[j]?:=Array.getElem?_setIfInBounds_ne e;rw[h1];by_cases h:j∈D
   ·rw[if_pos h,if_pos (by simp[h])]
   ·rw[if_neg h,if_neg (by simp[h];exact fun e'=>e e'.symm)]
theorem Agr.form{D:List Nat}{a0 a:Act}(h:Agr D a0 a):a=D.foldl (fun b d=>b.put (some d) (At a d)) a0:=by
 have h1:a.defers=(D.foldl (fun b d=>b.put (some d) (At a d)) a0).defers:=by rw[QdE,h.defers]
 have h2:a.tmps=(D.foldl (fun b d=>b.put (some d) (At a d)) a0).tmps:=by
  refine Array.ext_getElem? fun j=>?_
  rw[fold_at];by_cases hj:j∈D
  ·rw[if_pos hj];by_cases hs:j<a.tmps.size
   ·have hs0:j<a0.tmps.size:=by rw[←h.size];exact hs
    simp[At,hs,hs0]
   ·have hs0:¬j<a0.tmps.size:=by rw[←h.size];exact hs
    simp[hs,hs0]
  ·rw[if_neg hj,h.same j hj]
 generalize D.foldl (fun b d=>b.put (some d) (At a d)) a0=b at *;cases a;cases b
 simp only at h1 h2;rw[h1,h2]
theorem Qe{o:Oper}{a:Act}{w:World}{v:Value}{K:Act→World→Prop}(hy:(execOp a.eval o).run P w=.ok (.value v) w)(h:K (a.put o.dst v) w):o.wp P a w K Q:=by
 unfold Oper.wp;rw[hy];exact h
theorem QaC{o:Oper}{a:Act}{w w':World}{v:Value}{K:Act→World→Prop}(hy:(execOp a.eval o).run P w=.ok (.value v) w')(h:K (a.put o.dst v) w'):o.wp P a w K Q:=by
 unfold Oper.wp;rw[hy];exact h
theorem QcE{o:Oper}{a:Act}{w:World}{f:FuncId}{vs:Array Value}{v:Value}{R:World→Prop}{K:Act→World→Prop}(hy:(execOp a.eval o).run P w=.ok (.enter f vs) w)
  (h:Calls P f vs w fun e w'=>e=.returned v∧R w') (hK:∀w',R w'→K (a.put o.dst v) w'):o.wp P a w K Q:=by
 unfold Oper.wp;rw[hy];exact h.mono fun e w' ⟨he,hr⟩=>by subst he;exact hK w' hr
end Dr
namespace Dr
open Go.RowKit Go
structure VI (D S:List Nat) (V:List Value) (M:(Nat→Bool)→World→Prop) (a0:Act) (L:Nat→Bool) (a:Act) (w:World):Prop where
 agr:Agr D a0 a
 big:∀d∈D,d<a0.tmps.size
 vals:∀i,i<S.length→S.getD i 0∈D→L i=true→At a (S.getD i 0)=V.getD i undef
 mem:M L w
theorem VI.start{D S:List Nat}{V:List Value}{M:(Nat→Bool)→World→Prop}{a0:Act}{w:World}(n:Nat)(hn:n≤a0.tmps.size)(h:∀d∈D,d<n)(hM:M (fun _=>false) w):VI D S V M a0 (fun _=>false) a0 w:=
 ⟨Agr.refl _ _,fun d hd=>Nat.lt_of_lt_of_le (h d hd) hn,(fun _ _ _ h=>by cases h),hM⟩
theorem QfL{S:List Nat}(hS:S.Nodup){i j:Nat}(hi:i<S.length)(hj:j<S.length)(h:S.getD i 0=S.getD j 0):i=j:=by
 simp only[List.getD,List.getElem?_eq_getElem hi,List.getElem?_eq_getElem hj,Option.getD_some]at h;have hp:=List.pairwise_iff_getElem.1 hS;rcases Nat.lt_trichotomy i j with e|e|e
 ·exact absurd h (hp i j hi hj e)
 ·exact e
 ·exact absurd h.symm (hp j i hj hi e)
theorem VI.value{D S:List Nat}{V:List Value}{M:(Nat→Bool)→World→Prop}{a0:Act}{L:Nat→Bool}{a:Act}{w w':World}(h:VI D S V M a0 L a w)(hS:S.Nodup)(i:Nat)(hi:i<S.length)(hD:S.getD i 0∈D){v:Value}(hv:v=V.getD i undef)(hM:M (upd L i) w') :
  VI D S V M a0 (upd L i) (a.put (some (S.getD i 0)) v) w':=by
 refine⟨h.agr.put hD v,h.big,fun j hj hjD hl=>?_,hM⟩;by_cases e:j=i
 ·subst e;rw[At.Qbz (by rw[h.agr.size];exact h.big _ hD),hv]
 ·rw[At.QU (fun q=>e (QfL hS hj hi q))];exact h.vals j hj hjD (Qf hl e)
theorem VI.other{D S:List Nat}{V:List Value}{M:(Nat→Bool)→World→Prop}{a0:Act}{L:Nat→Bool}{a:Act}{w w':World}(h:VI D S V M a0 L a w)(i:Nat)(hD:S.getD i 0∉D)(hM:M (upd L i) w'):VI D S V M a0 (upd L i) a w':=
 ⟨h.agr,h.big,fun j hj hjD hl=>h.vals j hj hjD (Qf hl (fun e=>hD (by rw[←e];exact hjD))),hM⟩
theorem VI.get{D S:List Nat}{V:List Value}{M:(Nat→Bool)→World→Prop}{a0:Act}{L:Nat→Bool}{a:Act}{w:World}(h:VI D S V M a0 L a w)(i:Nat)(hi:i<S.length)(hD:S.getD i 0∈D)(hl:L i=true):a.tmps[S.getD i 0]?.getD undef=V.getD i undef:=by
 have:=h.vals i hi hD hl;unfold At at this
 rwa [Array.getD_eq_getD_getElem?]at this
theorem VI.old{D S:List Nat}{V:List Value}{M:(Nat→Bool)→World→Prop}{a0:Act}{L:Nat→Bool}{a:Act}{w:World}(h:VI D S V M a0 L a w)(d:Nat)(hD:d∉D):a.tmps[d]?.getD undef=a0.tmps[d]?.getD undef:=by
 rw[h.agr.same d hD]
theorem Qa7{P:Program}{Q:Exit→Act→World→Prop}{o:Oper}{a:Act}{w:World}{f:FuncId}{vs:Array Value}{R:Ending→World→Prop}{K:Act→World→Prop}(hy:(execOp a.eval o).run P w=.ok (.enter f vs) w)
  (h:Calls P f vs w R) (hK:∀e w',R e w'→∃v,e=.returned v∧K (a.put o.dst v) w'):o.wp P a w K Q:=by
 unfold Oper.wp;rw[hy];exact h.mono fun e w' hr=>by
  obtain⟨v,he,hk⟩:=hK e w' hr;subst he;exact hk
end Dr
namespace Ss
open Go.RowKit
open Bs (grownBy_trans QE)
def encW(x:List Int):Value:=.string (strOfNums x)
def IsS(l:List (List Int)):Prop:=∀x∈l,Bs.IsB x∧x.length≤140737488355328
theorem IsS.take{l:List (List Int)}(h:IsS l)(k:Nat):IsS (l.take k):=fun x hx=>h x (List.mem_of_mem_take hx)
structure Seg (w:World) (a:Option Addr) (n c:Nat) (l:List (List Int)):Prop where
 len:l.length=n
 le:n≤c
 cap:c≤maxLen
 nil_:a=none→n=0∧c=0
 at_:∀ad,a=some ad→∀j u,(l.map encW)[j]?=some u→w.cell? (ad.add j)=some u
theorem Seg.nil(w:World):Seg w none 0 0 []:=⟨rfl,Nat.le_refl _,by unfold maxLen;omega,fun _=>⟨rfl,rfl⟩,fun _ h=>by cases h⟩
theorem Seg.own{w:World}{base e g n c:Nat}{l:List (List Int)}(h:w.ownsRow base e 1 (.slice (some ⟨g,0,none⟩) n c) n (l.map encW)):Seg w (some ⟨g,0,none⟩) n c l:=by
 have hl:l.length=n:=by simpa using h.1
 refine⟨hl,?_,?_,fun e=>by(cases e),?_⟩
 ·rcases h.2 with ⟨e,_⟩|⟨g',cap,cur,e,_,_,h1,h2,_⟩
  ·cases e
  ·cases e;exact h1
 ·rcases h.2 with ⟨e,_⟩|⟨g',cap,cur,e,_,_,h1,h2,_⟩
  ·cases e
  ·cases e;exact h2
 ·intro ad had j u hu;cases had
  exact h.cells rfl j u hu
theorem Seg.kept{w w':World}{a:Option Addr}{n c:Nat}{l:List (List Int)}(h:Seg w a n c l){row:Option Nat}(hg:w.grownBy w' row)(hne:∀ad,a=some ad→row≠some ad.block):Seg w' a n c l:=by
 refine⟨h.len,h.le,h.cap,h.nil_,fun ad had j u hu=>hg.cell (h.at_ ad had j u hu) ?_⟩;intro e;have:(ad.add j).block=ad.block:=by unfold Addr.add;split <;> rfl
 rw[this]at e;exact hne ad had e.symm
theorem Seg.grown{w w':World}{a:Option Addr}{n c:Nat}{l:List (List Int)}(h:Seg w a n c l)(hg:w.grownBy w' none):Seg w' a n c l:=h.kept hg (fun _ _ e=>by cases e)
theorem Seg.addr{w:World}{a:Option Addr}{n c:Nat}{l:List (List Int)}(h:Seg w a n c l)(hn:0<n):∃g o,a=some ⟨g,o,none⟩∧∀j,j<n→w.cell? ⟨g,o+j,none⟩=some (.string (strOfNums (l.getD j []))):=by
 have hl:=h.len;cases a with
 |none=>have:=h.nil_ rfl;omega
 |some ad=>
  have hc:=h.at_ ad rfl;obtain⟨g,o,spot⟩:=ad;have h0:=hc 0 (encW (l.getD 0 [])) (by simp[List.getD];rw[List.getElem?_eq_getElem (by omega)];exact⟨_,rfl,rfl⟩);have hspot:spot=none:=by simpa [Addr.add] using World.cell?_spot h0
  subst hspot;refine⟨g,o,rfl,fun j hj=>?_⟩;have h1:=hc j (encW (l.getD j [])) (by simp[List.getD];rw[List.getElem?_eq_getElem (by omega)];exact⟨_,rfl,rfl⟩);rw[Addr.add_lit]at h1;exact h1
theorem Seg.take{w:World}{a:Option Addr}{n c m:Nat}{l:List (List Int)}(h:Seg w a n c l)(hm:m≤n):Seg w a m c (l.take m):=by
 refine⟨by rw[List.length_take,h.len];omega,Nat.le_trans hm h.le,h.cap,fun e=>⟨by have:=(h.nil_ e).1;omega,(h.nil_ e).2⟩,fun ad had j u hu=>h.at_ ad had j u ?_⟩;rw[List.map_take]at hu;have hj:j<m:=by
  have:=(List.getElem?_eq_some_iff.1 hu).1;rw[List.length_take]at this;omega
 rwa [List.getElem?_take_of_lt hj]at hu
theorem Seg.drop{w:World}{g o n c k:Nat}{l:List (List Int)}(h:Seg w (some ⟨g,o,none⟩) n c l)(hk:k≤n):Seg w (some ⟨g,o+k,none⟩) (n-k) (c-k) (l.drop k):=by
 refine⟨by rw[List.length_drop,h.len],by have:=h.le;omega,by have:=h.cap;omega,(fun e=>by cases e),fun ad had j u hu=>?_⟩;cases had
 rw[List.map_drop,List.getElem?_drop]at hu;have h1:=h.at_ _ rfl (k+j) u hu;rw[Addr.add_lit]at h1 ⊢;rw[Nat.add_assoc];exact h1
theorem Seg.dropAd{w:World}{x:Addr}{n c k:Nat}{l:List (List Int)}(h:Seg w (some x) n c l)(hk:k≤n):Seg w (some (x.add k)) (n-k) (c-k) (l.drop k):=by
 refine⟨by rw[List.length_drop,h.len],by have:=h.le;omega,by have:=h.cap;omega,(fun e=>by cases e),fun ad had j u hu=>?_⟩;cases had
 rw[List.map_drop,List.getElem?_drop]at hu;rw[Go.Deep.add_add];exact h.at_ _ rfl (k+j) u hu
theorem Seg.empty(w:World)(x:Addr)(c:Nat)(hc:c≤maxLen):Seg w (some x) 0 c []:=⟨rfl,Nat.zero_le _,hc,(fun e=>by cases e),fun _ _ j u hu=>by simp at hu⟩
theorem Seg.from_{w:World}{a:Option Addr}{n c k:Nat}{l:List (List Int)}(h:Seg w a n c l)(hk:k≤n):Seg w (if c=k then a else Option.map (fun x=>x.add k) a) (n-k) (c-k) (l.drop k):=by
 have hle:=h.le;have hl:=h.len;cases a with
 |none=>
  obtain⟨rfl,rfl⟩:=h.nil_ rfl;obtain rfl:k=0:=by omega
  obtain rfl:=List.eq_nil_of_length_eq_zero hl;exact Seg.nil w
 |some x=>
  by_cases e:c=k
  ·rw[if_pos e];have hz:l.drop k=[]:=List.drop_eq_nil_of_le (by omega);rw[hz,show n-k=0 from by omega,show c-k=0 from by omega];exact Seg.empty w x 0 (by unfold maxLen;omega)
  ·rw[if_neg e];exact h.dropAd hk
theorem Seg.row{w:World}{x:Addr}{n c:Nat}{zs:List (List Int)}(hl:n≤c)(hm:c≤maxLen)(hz:zs.length=c)(hcell:∀i,i<zs.length→w.cell? (x.add i)=some (encW (zs.getD i []))) :
  Seg w (some x) n c (zs.take n):=by
 refine⟨by rw[List.length_take];omega,hl,hm,(fun e=>by cases e),?_⟩;intro ad had j u hu;cases had
 have hj:j<n:=by
  have:=(List.getElem?_eq_some_iff.1 hu).1;simp at this;omega
 rw[hcell j (by omega)];rw[List.getElem?_map,List.getElem?_take_of_lt hj]at hu;simp only[List.getD];cases hq:zs[j]? with
 |none=>rw[hq]at hu;cases hu
 |some y=>rw[hq]at hu;exact hu
theorem QdU:(Tryz.prog.info? 9).map (fun i=>(i.zero,i.size,i.bytes))=some (some (.string ⟨#[]⟩),1,16):=by kernel_rfl
end Ss
namespace Is
open Go.RowKit
open Bs (grownBy_trans QE)
structure Seg (w:World) (a:Option Addr) (n c:Nat) (l:List Int):Prop where
 len:l.length=n
 le:n≤c
 cap:c≤maxLen
 nil_:a=none→n=0∧c=0
 at_:∀ad,a=some ad→∀j u,(l.map (Value.int .i64))[j]?=some u→w.cell? (ad.add j)=some u
theorem Seg.nil(w:World):Seg w none 0 0 []:=⟨rfl,Nat.le_refl _,by unfold maxLen;omega,fun _=>⟨rfl,rfl⟩,fun _ h=>by cases h⟩
theorem Seg.own{w:World}{base e g n c:Nat}{l:List Int}(h:w.ownsRow base e 1 (.slice (some ⟨g,0,none⟩) n c) n (l.map (Value.int .i64))):Seg w (some ⟨g,0,none⟩) n c l:=by
 have hl:l.length=n:=by simpa using h.1
 refine⟨hl,?_,?_,fun e=>by(cases e),?_⟩
 ·rcases h.2 with ⟨e,_⟩|⟨g',cap,cur,e,_,_,h1,h2,_⟩
  ·cases e
  ·cases e;exact h1
 ·rcases h.2 with ⟨e,_⟩|⟨g',cap,cur,e,_,_,h1,h2,_⟩
  ·cases e
  ·cases e;exact h2
 ·intro ad had j u hu;cases had
  exact h.cells rfl j u hu
theorem Seg.kept{w w':World}{a:Option Addr}{n c:Nat}{l:List Int}(h:Seg w a n c l){row:Option Nat}(hg:w.grownBy w' row)(hne:∀ad,a=some ad→row≠some ad.block):Seg w' a n c l:=by
 refine⟨h.len,h.le,h.cap,h.nil_,fun ad had j u hu=>hg.cell (h.at_ ad had j u hu) ?_⟩;intro e;have:(ad.add j).block=ad.block:=by unfold Addr.add;split <;> rfl
 rw[this]at e;exact hne ad had e.symm
theorem Seg.grown{w w':World}{a:Option Addr}{n c:Nat}{l:List Int}(h:Seg w a n c l)(hg:w.grownBy w' none):Seg w' a n c l:=h.kept hg (fun _ _ e=>by cases e)
theorem Seg.addr{w:World}{a:Option Addr}{n c:Nat}{l:List Int}(h:Seg w a n c l)(hn:0<n):∃g o,a=some ⟨g,o,none⟩∧∀j,j<n→w.cell? ⟨g,o+j,none⟩=some (.int .i64 (l.getD j 0)):=by
 have hl:=h.len;cases a with
 |none=>have:=h.nil_ rfl;omega
 |some ad=>
  have hc:=h.at_ ad rfl;obtain⟨g,o,spot⟩:=ad;have h0:=hc 0 (.int .i64 (l.getD 0 0)) (by simp[List.getD];rw[List.getElem?_eq_getElem (by omega)];rfl);have hspot:spot=none:=by simpa [Addr.add] using World.cell?_spot h0
  subst hspot;refine⟨g,o,rfl,fun j hj=>?_⟩;have h1:=hc j (.int .i64 (l.getD j 0)) (by simp[List.getD];rw[List.getElem?_eq_getElem (by omega)];rfl);rw[Addr.add_lit]at h1;exact h1
theorem Seg.take{w:World}{a:Option Addr}{n c m:Nat}{l:List Int}(h:Seg w a n c l)(hm:m≤n):Seg w a m c (l.take m):=by
 refine⟨by rw[List.length_take,h.len];omega,Nat.le_trans hm h.le,h.cap,fun e=>⟨by have:=(h.nil_ e).1;omega,(h.nil_ e).2⟩,fun ad had j u hu=>h.at_ ad had j u ?_⟩;rw[List.map_take]at hu;have hj:j<m:=by
  have:=(List.getElem?_eq_some_iff.1 hu).1;rw[List.length_take]at this;omega
 rwa [List.getElem?_take_of_lt hj]at hu
theorem Seg.drop{w:World}{g o n c k:Nat}{l:List Int}(h:Seg w (some ⟨g,o,none⟩) n c l)(hk:k≤n):Seg w (some ⟨g,o+k,none⟩) (n-k) (c-k) (l.drop k):=by
 refine⟨by rw[List.length_drop,h.len],by have:=h.le;omega,by have:=h.cap;omega,(fun e=>by cases e),fun ad had j u hu=>?_⟩;cases had
 rw[List.map_drop,List.getElem?_drop]at hu;have h1:=h.at_ _ rfl (k+j) u hu;rw[Addr.add_lit]at h1 ⊢;rw[Nat.add_assoc];exact h1
theorem Seg.dropAd{w:World}{x:Addr}{n c k:Nat}{l:List Int}(h:Seg w (some x) n c l)(hk:k≤n):Seg w (some (x.add k)) (n-k) (c-k) (l.drop k):=by
 refine⟨by rw[List.length_drop,h.len],by have:=h.le;omega,by have:=h.cap;omega,(fun e=>by cases e),fun ad had j u hu=>?_⟩;cases had
 rw[List.map_drop,List.getElem?_drop]at hu;rw[Go.Deep.add_add];exact h.at_ _ rfl (k+j) u hu
theorem Seg.empty(w:World)(x:Addr)(c:Nat)(hc:c≤maxLen):Seg w (some x) 0 c []:=⟨rfl,Nat.zero_le _,hc,(fun e=>by cases e),fun _ _ j u hu=>by simp at hu⟩
theorem Seg.from_{w:World}{a:Option Addr}{n c k:Nat}{l:List Int}(h:Seg w a n c l)(hk:k≤n):Seg w (if c=k then a else Option.map (fun x=>x.add k) a) (n-k) (c-k) (l.drop k):=by
 have hle:=h.le;have hl:=h.len;cases a with
 |none=>
  obtain⟨rfl,rfl⟩:=h.nil_ rfl;obtain rfl:k=0:=by omega
  obtain rfl:=List.eq_nil_of_length_eq_zero hl;exact Seg.nil w
 |some x=>
  by_cases e:c=k
  ·rw[if_pos e];have hz:l.drop k=[]:=List.drop_eq_nil_of_le (by omega);rw[hz,show n-k=0 from by omega,show c-k=0 from by omega];exact Seg.empty w x 0 (by unfold maxLen;omega)
  ·rw[if_neg e];exact h.dropAd hk
theorem Seg.row{w:World}{x:Addr}{n c:Nat}{zs:List Int}(hl:n≤c)(hm:c≤maxLen)(hz:zs.length=c)(hcell:∀i,i<zs.length→w.cell? (x.add i)=some (.int .i64 (zs.getD i 0))) :
  Seg w (some x) n c (zs.take n):=by
 refine⟨by rw[List.length_take];omega,hl,hm,(fun e=>by cases e),?_⟩;intro ad had j u hu;cases had
 have hj:j<n:=by
  have:=(List.getElem?_eq_some_iff.1 hu).1;simp at this;omega
 rw[hcell j (by omega)];rw[List.getElem?_map,List.getElem?_take_of_lt hj]at hu;simp only[List.getD];cases hq:zs[j]? with
 |none=>rw[hq]at hu;cases hu
 |some y=>rw[hq]at hu;exact hu
end Is
namespace Ws
open Go.RowKit
theorem QjY(a0 a1:Option Addr)(n c0 c1:Nat)(l:List Int)(w:World)(h0:Seg w a0 n c0 l)(h1:Seg w a1 n c1 l) :
  Calls Tryz.prog 117 #[.slice a0 n c0,.slice a1 n c1] w fun e w'=>e=.returned (.bool true)∧∃m,w'=w.drewN m:=by
 by_cases hn:n=0
 ·subst hn;go_enter Tryz.func117,Tryz.ntmps117
  go_wp2;refine wp_loop_rounds 1 ?_;rw[rounds_succ];go_wp2;go_ret
  exact⟨rfl,0,rfl⟩
 ·obtain⟨g0,o0,rfl,k0⟩:=h0.addr (by omega);obtain⟨g1,o1,rfl,k1⟩:=h1.addr (by omega);have hm:=h0.cap;have hle:=h0.le;unfold maxLen at hm;have K0:=hid k0;have K1:=hid k1;clear k0 k1 h0 h1;go_enter Tryz.func117,Tryz.ntmps117
  go_wp2
  go_loopw [5] (fun si wr=>∃k m:Nat,k≤n∧si=.int .i64 k∧wr=w.drewN m) (fun si _=>n-(intOf si).toNat)
  case atStart=>exact⟨0,0,Nat.zero_le _,rfl,rfl⟩
  case round=>
   obtain⟨k,m,hk,rfl,rfl⟩:=hrel;by_cases hlt:k<n
   ·have q0:=K0.out k hlt;have q1:=K1.out k hlt;go_wp2
    go_quiet (fail)
    go_wp2;go_roundw
    case rel=>exact⟨k+1,m+nq,by omega,by go_num,by simp⟩
    case measure=>simp[intOf];omega
   ·obtain rfl:k=n:=by omega
    go_wp2;go_ret
    exact⟨rfl,m,rfl⟩
def sameB(a b:List Int):Bool:=decide (a=b)
theorem QiJ{a b:List Int}(h:a=b):sameB a b=true:=decide_eq_true h
theorem Qgl{a b:List Int}(h:¬a=b):sameB a b=false:=decide_eq_false h
theorem Qgp{a b:List Int}{k:Nat}(ha:k<a.length)(hb:k<b.length)(h:a.take k=b.take k)(hg:a.getD k 0=b.getD k 0):a.take (k+1)=b.take (k+1):=by
 rw[List.getD_eq_getElem?_getD,List.getD_eq_getElem?_getD,List.getElem?_eq_getElem ha,List.getElem?_eq_getElem hb]at hg;have e:a[k]=b[k]:=by simpa using hg
 rw[List.take_succ_eq_append_getElem ha,List.take_succ_eq_append_getElem hb,h,e]
theorem QjX(a0 a1:Option Addr)(n0 n1 c0 c1:Nat)(l0 l1:List Int)(w:World)(h0:Seg w a0 n0 c0 l0)(h1:Seg w a1 n1 c1 l1) :
  Calls Tryz.prog 117 #[.slice a0 n0 c0,.slice a1 n1 c1] w fun e w'=>e=.returned (.bool (sameB l0 l1))∧∃m,w'=w.drewN m:=by
 by_cases hn:n0=n1
 ·subst hn;by_cases hz:n0=0
  ·subst hz;obtain rfl:=List.eq_nil_of_length_eq_zero h0.len;obtain rfl:=List.eq_nil_of_length_eq_zero h1.len;exact QjY a0 a1 0 c0 c1 [] w h0 h1
  ·obtain⟨g0,o0,rfl,k0⟩:=h0.addr (by omega);obtain⟨g1,o1,rfl,k1⟩:=h1.addr (by omega);have hm:=h0.cap;have hle:=h0.le;unfold maxLen at hm;have K0:=hid k0;have K1:=hid k1;have L0:=hid h0.len;have L1:=hid h1.len;clear k0 k1 h0 h1;go_enter Tryz.func117,Tryz.ntmps117
   go_wp2
   go_loopw [5] (fun si wr=>∃k m:Nat,k≤n0∧si=.int .i64 k∧wr=w.drewN m∧Hid (l0.take k=l1.take k)) (fun si _=>n0-(intOf si).toNat)
   case atStart=>exact⟨0,0,Nat.zero_le _,rfl,rfl,rfl⟩
   case round=>
    obtain⟨k,m,hk,rfl,rfl,HE⟩:=hrel;by_cases hlt:k<n0
    ·have q0:=K0.out k hlt;have q1:=K1.out k hlt;by_cases he:l0.getD k 0=l1.getD k 0
     ·have HE2:=hid (Qgp (by rw[L0.out];exact hlt) (by rw[L1.out];exact hlt) HE.out he);rw[←he]at q1;clear he;generalize l0.getD k 0=x at q0 q1;go_wp2
      go_quiet (fail)
      go_wp2;go_roundw
      case rel=>exact⟨k+1,m+nq,by omega,by go_num,by simp,HE2.out⟩
      case measure=>simp[intOf];omega
     ·have hs:=Qgl (show ¬l0=l1 from fun e=>he (by rw[e]));have HS:=hid hs;clear hs;generalize l0.getD k 0=x at q0 he;generalize l1.getD k 0=y at q1 he;have e1:(x==y)=false:=beq_eq_false_iff_ne.2 he;have e2:(x != y)=true:=bne_iff_ne.2 he;have HNE:=hid he;clear he;go_wp2
      go_quiet (fail)
      go_wp2;go_ret
      exact⟨Bs.QC HS.out.symm,m+nq,by simp⟩
    ·obtain rfl:k=n0:=by omega
     have hs:=QiJ (show l0=l1 by
      have h:=HE.out
      rwa [List.take_of_length_le (Nat.le_of_eq L0.out),List.take_of_length_le (Nat.le_of_eq L1.out)]at h)
     have HS:=hid hs;clear hs;go_wp2;go_ret
     exact⟨Bs.QC HS.out.symm,m,rfl⟩
 ·have hs:=Qgl (show ¬l0=l1 from fun e=>hn (by rw[←h0.len,←h1.len,e]));have HS:=hid hs;clear hs h0 h1;have e1:((n0:Int)==(n1:Int))=false:=beq_eq_false_iff_ne.2 (by omega);have e2:((n0:Int) != (n1:Int))=true:=bne_iff_ne.2 (by omega);go_enter Tryz.func117,Tryz.ntmps117
  go_wp2;go_ret
  exact⟨Bs.QC HS.out.symm,0,rfl⟩
end Ws
end Go.Proofs.YtbbbocoliandcaaGreatDoor
