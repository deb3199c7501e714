/- Parts of the proof. -/
import Derived.Test.YtgffbbdcbkikhaaGreatDoorKbD
set_option maxRecDepth 100000
set_option maxHeartbeats 8000000
open Go.Lib (hid)
namespace Go.Proofs.YtgffbbdcbkikhaaGreatDoor
namespace Crc
open Go.RowKit Bs
theorem QiV(v:Nat)(h:v<4294967296):bits BinOp.and IntKind.u32 (v:Int) 1=((v % 2:Nat):Int)∧bits BinOp.xor IntKind.u32 ((v:Int) / 2) 2197175160=((v / 2 ^^^ poly:Nat):Int):=by
 refine⟨?_,?_⟩
 ·have:=u32_and_nat v 1 h (by decide);rw[nat_mask1]at this;exact this
 ·exact u32_xor_nat (v / 2) poly (by omega) (by decide)
theorem QiU(v:Nat)(w:World)(h:v<4294967296) :
  Calls Tryz.prog 150 #[.int .u32 v] w fun e w'=>e=.returned (.int .u32 (halve v))∧w=w':=by
 obtain⟨e1,e2⟩:=QiV v h;have HE:=hid e2;by_cases h2:v % 2=1
 ·have HV:Hid (halve v=v / 2 ^^^ poly):=if_pos h2;have hb:(((v % 2:Nat):Int)==1)=true:=by simp;omega
  clear e2;go_enter Tryz.func150,Tryz.ntmps150
  go_wp2;go_ret
  exact⟨Qq (by rw[HV.out];exact HE.out),rfl⟩
 ·have HV:Hid (halve v=v / 2):=if_neg h2;have hb:(((v % 2:Nat):Int)==1)=false:=by simp;omega
  clear e2;go_enter Tryz.func150,Tryz.ntmps150
  go_wp2;go_ret
  exact⟨Qq (by rw[HV.out];omega),rfl⟩
theorem Qg2(n v:Nat):halves (n+1) v=halve (halves n v):=Qh4 n 1 v
def part(k i:Nat):Nat:=if i<k then entry i else 0
theorem QjI:tab (part 0)=tab fun _=>0:=by
 have:part 0=fun _=>0:=by funext i;simp[part]
 rw[this]
theorem Qk1(n:Nat)(t:Nat→Nat):(tabN n t).all (·.oneCell')=true:=by
 rw[Array.all_eq_true_iff_forall_mem];intro v hv;simp[tabN]at hv;obtain⟨i,_,rfl⟩:=hv
 rfl
theorem Ql1(t:Nat→Nat):(tab t).all (·.oneCell')=true:=Qk1 256 t
theorem Qio(n:Nat)(t u:Nat→Nat)(h:∀i,i<n→t i=u i):tabN n t=tabN n u:=by
 unfold tabN
 congr 1
 refine List.map_congr_left fun i hi=>?_
 rw[h i (List.mem_range.1 hi)]
theorem Qk3:tab (part 256)=tab entry:=Qio 256 _ _ fun _ hi=>if_pos hi
theorem Qk2(n:Nat)(k:Nat):(tabN n (part k)).setIfInBounds k (.int .u32 (entry k:Int))=tabN n (part (k+1)):=by
 apply Array.ext
 ·simp[tabN]
 ·intro i h1 h2;have hi:i<n:=by simpa [tabN] using h2
  rw[Array.getElem_setIfInBounds (by simpa [tabN] using hi)];by_cases e:k=i
  ·subst e;simp[tabN,part]
  ·rw[if_neg e];have:(i<k+1)=(i<k):=by apply propext;omega
   simp[tabN,part,this]
theorem Ql2(k:Nat):(tab (part k)).setIfInBounds k (.int .u32 (halves 8 k:Int))=tab (part (k+1)):=Qk2 256 k
theorem QjJ(w:World) :
  Calls Tryz.prog 137 #[] w fun e w'=>e=.returned (.agg (tab entry))∧w.grownBy w' none:=by
 have hz:∀w:World,(zeroValue 208).run Tryz.prog w=.ok (.agg (tab (part 0))) w:=fun _=>by rw[QjI];kernel_rfl
 go_enter Tryz.func137,Tryz.ntmps137
 go_wp2
 go_loopw [4] (fun i wr=>∃k:Nat,k≤256∧i=.int .i64 k∧wr=(w.alloc (.cells (tab (part 0)) 208)).alloc (.cells (tab (part k)) 208)) (fun i _=>256-(intOf i).toNat)
 case atStart=>exact⟨0,Nat.zero_le _,rfl,rfl⟩
 case round=>
  obtain⟨k,hk,rfl,rfl⟩:=hrel;by_cases hlt:k<256
  ·have hd:decide ((k:Int)<256)=true:=by simp;omega
   go_wp2
   go_loop [3,9] (fun v j=>∃m:Nat,m≤8∧j=.int .i64 m∧v=.int .u32 (halves m k)) (fun _ j=>8-(intOf j).toNat)
   case atStart=>exact⟨0,Nat.zero_le _,rfl,rfl⟩
   case round=>
    obtain⟨m,hm,rfl,rfl⟩:=hrel;have hv:halves m k<4294967296:=Qfb m k (by omega);by_cases hm8:m<8
    ·have HL:=hid (Qg2 m k);go_wp2_with (go_at_call 150;refine(QiU _ _ hv).mono ?_;rintro e w' ⟨rfl,rfl⟩)
     go_round
     case rel=>exact⟨m+1,by omega,by go_num,by rw[HL.out]⟩
     case measure=>simp[intOf];omega
    ·obtain rfl:m=8:=by omega
     have hg:=QhC (part k) k hlt;have HS:=hid (Ql2 k);go_wp2;exact⟨⟨k+1,by omega,by go_num,by rw[HS.out]⟩,by simp[intOf];omega⟩
  ·obtain rfl:k=256:=by omega
   have HI:=hid (Qf5 entry);have H1:=hid (heap_alloc2_new w (.cells (tab (part 0)) 208) (.cells (tab (part 256)) 208));have H0:=hid (heap_alloc2_old w (.cells (tab (part 0)) 208) (.cells (tab (part 256)) 208));have hg:w.grownBy (((w.alloc (.cells (tab (part 0)) 208)).alloc (.cells (tab entry) 208)).setRow w.heap.size (tab entry)) none:=
    ⟨rfl,rfl,rfl,by simp;omega,fun k hk _=>by rw[setRow_other _ _ _ _ (by omega),heap_alloc_old _ _ (by simp;omega),heap_alloc_old _ _ hk]⟩
   have HG:=hid hg;have HR:=hid (setRow_heap _ w.heap.size _ (tab entry) _ _ H0.out);rw[Qk3]at *;clear hg;go_wp2_with (first
    |(refine wpList_load_row rfl _ _ rfl (w.heap.size+1) rfl _ (tab entry) _ _ H1.out Tryz.underlying208 rfl HI.out ?_)
    |(refine wpList_store_row rfl _ _ _ rfl w.heap.size (tab entry) rfl rfl _ (tab (part 0)) H0.out HI.out (by rw[Qeb,Qeb]) (Ql1 _) ?_)
    |fail)
   refine bodyPost_ret (v:=.agg (tab entry)) ?_ rfl ⟨rfl,HG.out⟩;exact results_cell_row rfl _ _ w.heap.size _ _ _ _ rfl HR.out Tryz.underlying208 rfl HI.out
theorem QaO(a:Option Addr)(n c:Nat)(l:List Int)(w:World)(hs:Seg w a n c l)(hb:Bs.IsB l) :
  Calls Tryz.prog 115 #[.slice a n c] w fun e w'=>e=.returned (.int .u32 (crc l))∧w.grownBy w' none:=by
 have HB:=hid hb;have HS:=hid hs;clear hb hs;go_enter Tryz.func115,Tryz.ntmps115
 go_wp2_with fail
 refine(QjJ w).mono ?_;rintro e w1 ⟨rfl,hg1⟩;have H1:=hid hg1;clear hg1;go_wp2_with fail
 refine(Ql0 entry a n c l w1 (HS.out.grown H1.out) HB.out QfS).mono ?_;rintro e w2 ⟨rfl,hg2⟩;have H2:=hid (grownBy_trans H1.out hg2 (fun _ e=>by cases e));clear hg2;go_wp2;go_ret
 exact⟨rfl,H2.out⟩
end Crc
namespace Bl
open Go.RowKit
open Bs (grownBy_trans QA)
theorem QiX:(Tryz.prog.info? 4).map (fun i=>(i.zero,i.size,i.bytes))=some (some (.bool false),1,1):=by kernel_rfl
end Bl
namespace Dr
open Go.RowKit Go
variable {P : Program} {ops : Array Oper} {Q : Exit → Act → World → Prop} {md : Region.Mode}
def upd(L:Nat→Bool)(i:Nat):Nat→Bool:=fun j=>L j || j==i
theorem Qed(L:Nat→Bool)(i:Nat):upd L i i=true:=by simp[upd]
theorem QH{L:Nat→Bool}{i j:Nat}(h:L j=true):upd L i j=true:=by simp[upd,h]
theorem Qi{L:Nat→Bool}{i j:Nat}(h:upd L i j=true)(hne:j≠i):L j=true:=by simpa [upd,hne] using h
def backB(md:Region.Mode)(ops:Array Oper):Bool:=(List.range ops.size).all fun i=>((ops[i]?).map fun o=>o.after.all fun e=>!Region.binds md e || decide (e.on<i)).getD true
def needs(md:Region.Mode)(o:Oper):List Nat:=(o.after.toList.filter fun e=>Region.binds md e).map (·.on)
def StepAt(P:Program)(md:Region.Mode)(ops:Array Oper)(Q:Exit→Act→World→Prop)(I:(Nat→Bool)→Act→World→Prop)(i:Nat):Prop:=
 ∀L a w,L i=false→(∀o,ops[i]?=some o→∀j∈needs md o,L j=true)→I L a w→wpOp P ops Q i (I (upd L i)) a w
theorem StepAt.mk{I:(Nat→Bool)→Act→World→Prop}{i:Nat}{o:Oper}{ns:List Nat}(ho:ops[i]?=some o)(hn:needs md o=ns)(hg:o.guard=none)
  (h:∀L a w,L i=false→(∀j∈ns,L j=true)→I L a w→o.wp P a w (I (upd L i)) Q):StepAt P md ops Q I i:=by
 intro L a w h0 h1 h2;unfold wpOp;rw[ho]
 show if Region.wanted o (yielded ops a.tmps)=true then _ else _
 rw[if_pos (by simp[Region.wanted,hg])];exact .inl (h L a w h0 (fun j hj=>h1 o ho j (by rw[hn];exact hj)) h2)
theorem Qlf(hb:backB md ops=true){i:Nat}{o:Oper}(ho:ops[i]?=some o):∀e∈o.after,Region.binds md e=true→e.on<i:=by
 intro e he hbi;have hlt:i<ops.size:=(Array.getElem?_eq_some_iff.1 ho).1;have h:=List.all_eq_true.1 hb i (List.mem_range.2 hlt);rw[ho]at h;simp only[Option.map_some,Option.getD_some,Array.all_eq_true_iff_forall_mem]at h;have h2:=h e he;rw[hbi]at h2
 simpa using h2
theorem ready_nil(hb:backB md ops=true){listed:Array Bool}(hs:listed.size=ops.size)(h:Region.ready md ops listed=[])(i:Nat):i<ops.size→listed.getD i true=true:=by
 induction i using Nat.strongRecOn with
 |ind i ih=>
  intro hi;cases hl:listed.getD i true with
  |true=>rfl
  |false=>
   have hm:i∈Region.ready md ops listed:=by
    refine mem_ready.2 ⟨hl,ops[i],Array.getElem?_eq_some_iff.2 ⟨hi,rfl⟩,fun e he hbi=>?_⟩;have hlt:=Qlf hb (Array.getElem?_eq_some_iff.2 ⟨hi,rfl⟩) e he hbi;have h1:=ih e.on hlt (by omega);rw[Array.getD_eq_getD_getElem?]at h1 ⊢;rw[Array.getElem?_eq_some_iff.2 ⟨show e.on<listed.size by omega,rfl⟩]at h1 ⊢;exact h1
   rw[h]at hm;cases hm
theorem Qel{p q:Nat→Bool}{i:Nat}:∀{l:List Nat},i∈l→p i=true→q i=false→(∀j,q j=true→p j=true)→l.countP q<l.countP p
 | [],h,_,_,_=>by cases h
 |k :: l,h,hp,hq,hpq=>by
  have hle:l.countP q≤l.countP p:=List.countP_mono_left (fun j _=>hpq j);by_cases hk:k=i
  ·subst hk;rw[List.countP_cons_of_pos hp,List.countP_cons_of_neg (by simp[hq])];omega
  ·have hm:i∈l:=(List.mem_cons.1 h).resolve_left (fun e=>hk e.symm);have ih:=Qel hm hp hq hpq;rw[List.countP_cons,List.countP_cons];have:(if q k=true then 1 else 0)≤(if p k=true then 1 else 0):=by
    by_cases h1:q k=true
    ·rw[if_pos h1,if_pos (hpq k h1)];exact Nat.le_refl _
    ·rw[if_neg h1];exact Nat.zero_le _
   omega
theorem Qdr{I:(Nat→Bool)→Act→World→Prop}(hb:backB md ops=true)(hstep:∀i,i<ops.size→StepAt P md ops Q I i)
  (hend:∀L a w,(∀i,i<ops.size→L i=true)→I L a w→Q .normal a w):∀(fuel:Nat) (listed:Array Bool) (a:Act) (w:World),listed.size=ops.size →
  (List.range ops.size).countP (fun i=>!listed.getD i true)≤fuel→I (fun i=>listed.getD i false) a w→wpAny P md ops Q fuel listed a w:=by
 have same:∀(listed:Array Bool) (i:Nat),listed.size=ops.size→i<ops.size→listed.getD i true=listed.getD i false:=fun listed i hs hi=>by
  rw[Array.getD_eq_getD_getElem?,Array.getD_eq_getD_getElem?,Array.getElem?_eq_some_iff.2 ⟨show i<listed.size by omega,rfl⟩]
  rfl
 have last:∀(listed:Array Bool) (a:Act) (w:World),listed.size=ops.size→I (fun i=>listed.getD i false) a w→Region.ready md ops listed=[]→Q .normal a w:=fun listed a w hs hI hr=>
  hend _ a w (fun i hi=>by rw[←same listed i hs hi];exact ready_nil hb hs hr i hi) hI
 intro fuel
 induction fuel with
 |zero=>
  intro listed a w hs hc hI;have hr:Region.ready md ops listed=[]:=by
   rw[List.eq_nil_iff_forall_not_mem];intro j hj;obtain⟨h0,o,ho,_⟩:=mem_ready.1 hj;have hlt:j<ops.size:=(Array.getElem?_eq_some_iff.1 ho).1;have:=List.countP_pos_iff (p:=fun i=>!listed.getD i true).2 ⟨j,List.mem_range.2 hlt,by simp only[h0,Bool.not_false]⟩;omega
  exact⟨hr,last listed a w hs hI hr⟩
 |succ fuel ih=>
  intro listed a w hs hc hI;refine⟨last listed a w hs hI,fun i hi=>?_⟩;obtain⟨h0,o,ho,hn⟩:=mem_ready.1 hi;have hlt:i<ops.size:=(Array.getElem?_eq_some_iff.1 ho).1;have h1:=hstep i hlt (fun i=>listed.getD i false) a w (by rw[←same listed i hs hlt];exact h0) (fun o' ho' j hj=>by
   rw[ho]at ho';obtain rfl:=Option.some.inj ho';obtain⟨e,he,rfl⟩:=List.mem_map.1 hj;obtain⟨he1,he2⟩:=List.mem_filter.1 he;exact hn e (Array.mem_toList_iff.1 he1) he2) hI
  refine wpOp_mono (fun a' w' h=>ih _ a' w' (by simp[hs]) ?_ ?_) h1
  ·have:=Qel (p:=fun i=>!listed.getD i true) (q:=fun j=>!(listed.setIfInBounds i true).getD j true) (l:=List.range ops.size) (List.mem_range.2 hlt) (by simp only[h0,Bool.not_false])
    (by simp[show i<listed.size by omega]) (fun j hj=>by
     by_cases e:i=j
     ·subst e;simp[show i<listed.size by omega]at hj
     ·rw[getD_set_ne true e]at hj;exact hj)
   omega
  ·refine cast (congrArg (fun L=>I L a' w') (funext fun j=>?_)) h;by_cases e:i=j
   ·subst e;simp[upd,show i<listed.size by omega]
   ·rw[getD_set_ne false e];simp[upd,show ¬j=i from fun h=>e h.symm]
theorem QfE{I:(Nat→Bool)→Act→World→Prop}{id:Nat}{a:Act}{w:World}(hm:P.follows .mixedOrders=true)(hb:backB .any ops=true)(h0:I (fun _=>false) a w.drew)
  (hstep:∀i,i<ops.size→StepAt P .any ops Q I i) (hend:∀L a w,(∀i,i<ops.size→L i=true)→I L a w→Q .normal a w):(Code.region id ops true).wp P Q a w:=by
 refine wp_region_any hm ?_;refine Qdr hb hstep hend _ _ _ _ (by simp) ?_ ?_
 ·exact Nat.le_trans List.countP_le_length (by simp)
 ·refine cast (congrArg (fun L=>I L a w.drew) (funext fun j=>?_)) h0;rw[Array.getD_eq_getD_getElem?];by_cases hj:j<ops.size
  ·simp[hj]
  ·simp[hj]
theorem Qee{I:Act→(Nat→Bool)→Act→World→Prop}{id:Nat}{a:Act}{w:World}(hm:P.follows .mixedOrders=true)(hb:backB .any ops=true)(h0:I a (fun _=>false) a w.drew)
  (hstep:∀i,i<ops.size→StepAt P .any ops Q (I a) i) (hend:∀L a' w',(∀i,i<ops.size→L i=true)→I a L a' w'→Q .normal a' w'):(Code.region id ops true).wp P Q a w:=
 QfE hm hb h0 hstep hend
theorem all_nil{p:Nat→Prop}:∀i,i<0→p i:=fun _ h=>by omega
theorem QP{p:Nat→Prop}{n:Nat}(h:∀i,i<n→p i)(hn:p n):∀i,i<n+1→p i:=fun i hi=>by
 by_cases e:i=n
 ·subst e;exact hn
 ·exact h i (by omega)
def At(a:Act)(d:Nat):Value:=a.tmps.getD d undef
theorem At.Qbt{a:Act}{d:Nat}{v:Value}(h:d<a.tmps.size):At (a.put (some d) v) d=v:=by simp[At,Act.put,h]
theorem At.QO{a:Act}{d e:Nat}{v:Value}(h:e≠d):At (a.put (some d) v) e=At a e:=by
 unfold At Act.put;simp only[Array.getD_eq_getD_getElem?,Array.getElem?_setIfInBounds_ne (Ne.symm h)]
structure Agr (D:List Nat) (a0 a:Act):Prop where
 defers:a.defers=a0.defers
 size:a.tmps.size=a0.tmps.size
 same:∀j,j∉D→a.tmps[j]?=a0.tmps[j]?
theorem Agr.refl(D:List Nat)(a:Act):Agr D a a:=⟨rfl,rfl,fun _ _=>rfl⟩
theorem Agr.put{D:List Nat}{a0 a:Act}{d:Nat}(h:Agr D a0 a)(hd:d∈D)(v:Value):Agr D a0 (a.put (some d) v):=
 ⟨h.defers,by rw[←h.size];simp[Act.put],fun j hj=>by
  rw[←h.same j hj];exact Array.getElem?_setIfInBounds_ne (fun e=>hj (by rw[←e];exact hd))⟩
theorem Agr.at_{D:List Nat}{a0 a:Act}{d:Nat}(h:Agr D a0 a)(hd:d∉D):At a d=At a0 d:=by
 unfold At;rw[Array.getD_eq_getD_getElem?,Array.getD_eq_getD_getElem?,h.same d hd]
theorem QdH(a:Act):∀(D:List Nat) (b:Act),(D.foldl (fun b d=>b.put (some d) (At a d)) b).defers=b.defers
 | [],_=>rfl
 |_ :: D,_=>(QdH a D _).trans rfl
theorem fold_at(a:Act):∀(D:List Nat) (b:Act) (j:Nat),(D.foldl (fun b d=>b.put (some d) (At a d)) b).tmps[j]?=if j∈D then(b.tmps[j]?).map (fun _=>At a j) else b.tmps[j]?
 | [],_,_=>by simp
 |d :: D,b,j=>by
  rw[List.foldl_cons,fold_at a D];by_cases e:d=j
  ·subst e;by_cases h:d∈D
   ·rw[if_pos h,if_pos (by simp)];simp only[Act.put,Array.getElem?_setIfInBounds_self];by_cases hs:d<b.tmps.size
    ·simp[hs]
    ·simp[hs]
   ·rw[if_neg h,if_pos (by simp)];simp only[Act.put,Array.getElem?_setIfInBounds_self];by_cases hs:d<b.tmps.size
    ·simp[hs]
    ·simp[hs]
  ·have h1:(b.put (some d) (At a d)).tmps[j]?=b.tmps[j]?:=Array.getElem?_setIfInBounds_ne e;rw[h1];by_cases h:j∈D
   ·rw[if_pos h,if_pos (by simp[h])]
   ·rw[if_neg h,if_neg (by simp[h];exact fun e'=>e e'.symm)]
theorem Agr.form{D:List Nat}{a0 a:Act}(h:Agr D a0 a):a=D.foldl (fun b d=>b.put (some d) (At a d)) a0:=by
 have h1:a.defers=(D.foldl (fun b d=>b.put (some d) (At a d)) a0).defers:=by rw[QdH,h.defers]
 have h2:a.tmps=(D.foldl (fun b d=>b.put (some d) (At a d)) a0).tmps:=by
  refine Array.ext_getElem? fun j=>?_
  rw[fold_at];by_cases hj:j∈D
  ·rw[if_pos hj];by_cases hs:j<a.tmps.size
   ·have hs0:j<a0.tmps.size:=by rw[←h.size];exact hs
    simp[At,hs,hs0]
   ·have hs0:¬j<a0.tmps.size:=by rw[←h.size];exact hs
    simp[hs,hs0]
  ·rw[if_neg hj,h.same j hj]
 generalize D.foldl (fun b d=>b.put (some d) (At a d)) a0=b at *;cases a;cases b
 simp only at h1 h2;rw[h1,h2]
theorem Qa7{o:Oper}{a:Act}{w:World}{v:Value}{K:Act→World→Prop}(hy:(execOp a.eval o).run P w=.ok (.value v) w)(h:K (a.put o.dst v) w):o.wp P a w K Q:=by
 unfold Oper.wp;rw[hy];exact h
theorem Ql4{o:Oper}{a:Act}{w w':World}{v:Value}{K:Act→World→Prop}(hy:(execOp a.eval o).run P w=.ok (.value v) w')(h:K (a.put o.dst v) w'):o.wp P a w K Q:=by
 unfold Oper.wp;rw[hy];exact h
theorem QhF{o:Oper}{a:Act}{w:World}{f:FuncId}{vs:Array Value}{v:Value}{R:World→Prop}{K:Act→World→Prop}(hy:(execOp a.eval o).run P w=.ok (.enter f vs) w)
  (h:Calls P f vs w fun e w'=>e=.returned v∧R w') (hK:∀w',R w'→K (a.put o.dst v) w'):o.wp P a w K Q:=by
 unfold Oper.wp;rw[hy];exact h.mono fun e w' ⟨he,hr⟩=>by subst he;exact hK w' hr
end Dr
namespace Dr
open Go.RowKit Go
structure VI (D S:List Nat) (V:List Value) (M:(Nat→Bool)→World→Prop) (a0:Act) (L:Nat→Bool) (a:Act) (w:World):Prop where
 agr:Agr D a0 a
 big:∀d∈D,d<a0.tmps.size
 vals:∀i,i<S.length→S.getD i 0∈D→L i=true→At a (S.getD i 0)=V.getD i undef
 mem:M L w
theorem VI.start{D S:List Nat}{V:List Value}{M:(Nat→Bool)→World→Prop}{a0:Act}{w:World}(n:Nat)(hn:n≤a0.tmps.size)(h:∀d∈D,d<n)(hM:M (fun _=>false) w):VI D S V M a0 (fun _=>false) a0 w:=
 ⟨Agr.refl _ _,fun d hd=>Nat.lt_of_lt_of_le (h d hd) hn,(fun _ _ _ h=>by cases h),hM⟩
theorem Qj9{S:List Nat}(hS:S.Nodup){i j:Nat}(hi:i<S.length)(hj:j<S.length)(h:S.getD i 0=S.getD j 0):i=j:=by
 simp only[List.getD,List.getElem?_eq_getElem hi,List.getElem?_eq_getElem hj,Option.getD_some]at h;have hp:=List.pairwise_iff_getElem.1 hS;rcases Nat.lt_trichotomy i j with e|e|e
 ·exact absurd h (hp i j hi hj e)
 ·exact e
 ·exact absurd h.symm (hp j i hj hi e)
theorem VI.value{D S:List Nat}{V:List Value}{M:(Nat→Bool)→World→Prop}{a0:Act}{L:Nat→Bool}{a:Act}{w w':World}(h:VI D S V M a0 L a w)(hS:S.Nodup)(i:Nat)(hi:i<S.length)(hD:S.getD i 0∈D){v:Value}(hv:v=V.getD i undef)(hM:M (upd L i) w') :
  VI D S V M a0 (upd L i) (a.put (some (S.getD i 0)) v) w':=by
 refine⟨h.agr.put hD v,h.big,fun j hj hjD hl=>?_,hM⟩;by_cases e:j=i
 ·subst e;rw[At.Qbt (by rw[h.agr.size];exact h.big _ hD),hv]
 ·rw[At.QO (fun q=>e (Qj9 hS hj hi q))];exact h.vals j hj hjD (Qi hl e)
theorem VI.other{D S:List Nat}{V:List Value}{M:(Nat→Bool)→World→Prop}{a0:Act}{L:Nat→Bool}{a:Act}{w w':World}(h:VI D S V M a0 L a w)(i:Nat)(hD:S.getD i 0∉D)(hM:M (upd L i) w'):VI D S V M a0 (upd L i) a w':=
 ⟨h.agr,h.big,fun j hj hjD hl=>h.vals j hj hjD (Qi hl (fun e=>hD (by rw[←e];exact hjD))),hM⟩
theorem VI.get{D S:List Nat}{V:List Value}{M:(Nat→Bool)→World→Prop}{a0:Act}{L:Nat→Bool}{a:Act}{w:World}(h:VI D S V M a0 L a w)(i:Nat)(hi:i<S.length)(hD:S.getD i 0∈D)(hl:L i=true):a.tmps[S.getD i 0]?.getD undef=V.getD i undef:=by
 have:=h.vals i hi hD hl;unfold At at this
 rwa [Array.getD_eq_getD_getElem?]at this
theorem VI.old{D S:List Nat}{V:List Value}{M:(Nat→Bool)→World→Prop}{a0:Act}{L:Nat→Bool}{a:Act}{w:World}(h:VI D S V M a0 L a w)(d:Nat)(hD:d∉D):a.tmps[d]?.getD undef=a0.tmps[d]?.getD undef:=by
 rw[h.agr.same d hD]
end Dr
namespace Ss
open Go.RowKit
open Bs (grownBy_trans QA)
def encW(x:List Int):Value:=.string (strOfNums x)
structure Seg (w:World) (a:Option Addr) (n c:Nat) (l:List (List Int)):Prop where
 len:l.length=n
 le:n≤c
 cap:c≤maxLen
 nil_:a=none→n=0∧c=0
 at_:∀ad,a=some ad→∀j u,(l.map encW)[j]?=some u→w.cell? (ad.add j)=some u
theorem Seg.nil(w:World):Seg w none 0 0 []:=⟨rfl,Nat.le_refl _,by unfold maxLen;omega,fun _=>⟨rfl,rfl⟩,fun _ h=>by cases h⟩
theorem Seg.own{w:World}{base e g n c:Nat}{l:List (List Int)}(h:w.ownsRow base e 1 (.slice (some ⟨g,0,none⟩) n c) n (l.map encW)):Seg w (some ⟨g,0,none⟩) n c l:=by
 have hl:l.length=n:=by simpa using h.1
 refine⟨hl,?_,?_,fun e=>by(cases e),?_⟩
 ·rcases h.2 with ⟨e,_⟩|⟨g',cap,cur,e,_,_,h1,h2,_⟩
  ·cases e
  ·cases e;exact h1
 ·rcases h.2 with ⟨e,_⟩|⟨g',cap,cur,e,_,_,h1,h2,_⟩
  ·cases e
  ·cases e;exact h2
 ·intro ad had j u hu;cases had
  exact h.cells rfl j u hu
theorem Seg.kept{w w':World}{a:Option Addr}{n c:Nat}{l:List (List Int)}(h:Seg w a n c l){row:Option Nat}(hg:w.grownBy w' row)(hne:∀ad,a=some ad→row≠some ad.block):Seg w' a n c l:=by
 refine⟨h.len,h.le,h.cap,h.nil_,fun ad had j u hu=>hg.cell (h.at_ ad had j u hu) ?_⟩;intro e;have:(ad.add j).block=ad.block:=by unfold Addr.add;split <;> rfl
 rw[this]at e;exact hne ad had e.symm
theorem Seg.grown{w w':World}{a:Option Addr}{n c:Nat}{l:List (List Int)}(h:Seg w a n c l)(hg:w.grownBy w' none):Seg w' a n c l:=h.kept hg (fun _ _ e=>by cases e)
theorem Seg.addr{w:World}{a:Option Addr}{n c:Nat}{l:List (List Int)}(h:Seg w a n c l)(hn:0<n):∃g o,a=some ⟨g,o,none⟩∧∀j,j<n→w.cell? ⟨g,o+j,none⟩=some (.string (strOfNums (l.getD j []))):=by
 have hl:=h.len;cases a with
 |none=>have:=h.nil_ rfl;omega
 |some ad=>
  have hc:=h.at_ ad rfl;obtain⟨g,o,spot⟩:=ad;have h0:=hc 0 (encW (l.getD 0 [])) (by simp[List.getD];rw[List.getElem?_eq_getElem (by omega)];exact⟨_,rfl,rfl⟩);have hspot:spot=none:=by simpa [Addr.add] using World.cell?_spot h0
  subst hspot;refine⟨g,o,rfl,fun j hj=>?_⟩;have h1:=hc j (encW (l.getD j [])) (by simp[List.getD];rw[List.getElem?_eq_getElem (by omega)];exact⟨_,rfl,rfl⟩);rw[Addr.add_lit]at h1;exact h1
theorem QcN:(Tryz.prog.info? 9).map (fun i=>(i.zero,i.size,i.bytes))=some (some (.string ⟨#[]⟩),1,16):=by kernel_rfl
end Ss
namespace Sp
open Go.RowKit
inductive Vis (kids:Nat→List Nat) (M:Nat):Nat→List Nat→List Nat→List Nat→Prop
 |done (seen:List Nat):Vis kids M 0 seen [] []
 |old {m n:Nat} {seen st L:List Nat}:n∈seen→st.length+1≤M→Vis kids M m seen st L→Vis kids M (m+1) seen (n :: st) L
 |new {m n:Nat} {seen st L:List Nat}:n∉seen→st.length+1≤M→Vis kids M m (n :: seen) (kids n++st) L→Vis kids M (m+1) seen (n :: st) (n :: L)
theorem Vis.len{kids:Nat→List Nat}{M m:Nat}{seen st L:List Nat}(h:Vis kids M m seen st L):st.length≤M:=by
 cases h with
 |done=>exact Nat.zero_le _
 |old _ h=>exact h
 |new _ h=>exact h
theorem Vis.nil{kids:Nat→List Nat}{M m:Nat}{seen L:List Nat}(h:Vis kids M m seen [] L):L=[]:=by
 cases h
 rfl
theorem Vis.step{kids:Nat→List Nat}{M m n:Nat}{seen st L:List Nat}(h:Vis kids M m seen (n :: st) L):∃k,m=k+1∧((n∈seen∧Vis kids M k seen st L)∨(n∉seen∧∃L',L=n :: L'∧Vis kids M k (n :: seen) (kids n++st) L')):=by
 cases h with
 |old a _ c=>exact⟨_,rfl,.inl ⟨a,c⟩⟩
 |new a _ c=>exact⟨_,rfl,.inr ⟨a,_,rfl,c⟩⟩
def lackN(d out:Nat→Nat):Nat→Nat
 |0=>0
 |K+1=>lackN d out K+(d K-out K)
theorem Qfh{d out out2:Nat→Nat}:∀K,(∀n,n<K→out n=out2 n)→lackN d out K=lackN d out2 K
 |0,_=>rfl
 |K+1,h=>by rw[lackN,lackN,Qfh K (fun n hn=>h n (by omega)),h K (by omega)]
theorem Qcj{d out:Nat→Nat}{x:Nat}(h:out x+1≤d x):∀K,x<K→lackN d (upd out x (out x+1)) K+1=lackN d out K
 |0,h=>by omega
 |K+1,hx=>by
  rw[lackN,lackN];by_cases e:x=K
  ·subst e;rw[upd_same,Qfh x (out2:=out) (fun n hn=>upd_ne _ _ (by omega))];omega
  ·have:=Qcj h K (by omega);rw[upd_ne _ _ (fun q=>e q.symm)];omega
theorem Qge{d:Nat→Nat}{K:Nat}:∀{l:List Nat} {out:Nat→Nat},(∀x∈l,x<K)→(∀n,out n+l.count n≤d n)→l.length≤lackN d out K
 | [],_,_,_=>Nat.zero_le _
 |a :: l,out,hl,hc=>by
  have ha:=hc a;rw[List.count_cons_self]at ha;have h1:=Qcj (d:=d) (out:=out) (x:=a) (by omega) K (hl a (List.mem_cons_self ..));have h2:=Qge (d:=d) (K:=K) (l:=l) (out:=upd out a (out a+1)) (fun x hx=>hl x (List.mem_cons_of_mem _ hx)) (fun n=>by
   have hn:=hc n;by_cases e:n=a
   ·subst e;rw[upd_same];rw[List.count_cons_self]at hn;omega
   ·rw[upd_ne _ _ e];rw[List.count_cons_of_ne (fun q=>e q.symm)]at hn;exact hn)
  rw[List.length_cons];omega
theorem QeM{d out:Nat→Nat}{B:Nat}(h:∀n,d n≤B):∀K,lackN d out K≤K*B
 |0=>Nat.zero_le _
 |K+1=>by
  have:=QeM (d:=d) (out:=out) h K;have:=h K;rw[lackN,Nat.succ_mul];omega
theorem QgO{K:Nat}{kids:Nat→List Nat}{own:List Nat}{d:Nat→Nat}(h:RefOk K kids own d)(hd0:d 0=0){M:Nat}(hM:lackN d (fun _=>0) K≤M) :
  ∀(q:Nat) (pend:List Nat) (out:Nat→Nat) (seen:List Nat),lackN d out K≤q→WalkI K kids own pend out→(∀m,0<out m→0<d m)→(∀m,m∈seen↔m=0∨0<out m)→(∀x∈pend,0<d x) →
  ∃m L,(Vis kids M m seen pend L∧m≤q)∧(∀n,d n=out n+pend.count n+(L.flatMap kids).count n)∧∀n∈L,0<d n
 |q,[],out,seen,_,hw,hs,_,_=>⟨0,[],⟨.done seen,Nat.zero_le _⟩,fun n=>by rw[←hw.done h hs n];simp,fun n hn=>by cases hn⟩
 |0,x :: pend,out,seen,hq,hw,hs,_,hp=>by
  have h1:=hw.sub h hs x;rw[List.count_cons_self]at h1;have:=Qcj (d:=d) (out:=out) (x:=x) (by omega) K (h.lt (hp x (List.mem_cons_self ..)));omega
 |q+1,x :: pend,out,seen,hq,hw,hs,hsn,hp=>by
  have hx:=hp x (List.mem_cons_self ..);have h1:=hw.sub h hs x;rw[List.count_cons_self]at h1;have hxK:=h.lt hx;have hl:=Qcj (d:=d) (out:=out) (x:=x) (by omega) K hxK;have hlen:(x :: pend).length≤M:=by
   refine Nat.le_trans (Qge (d:=d) (K:=K) (out:=fun _=>0) (fun y hy=>h.lt (hp y hy)) (fun n=>?_)) hM;have:=hw.sub h hs n;omega
  rw[List.length_cons]at hlen;have hs':∀m,0<upd out x (out x+1) m→0<d m:=fun m hm=>by
   by_cases e:m=x
   ·subst e;exact hx
   ·rw[upd_ne _ _ e]at hm;exact hs m hm
  by_cases hm:x∈seen
  ·have ho:0<out x:=by
    rcases(hsn x).1 hm with e|e
    ·subst e;omega
    ·exact e
   obtain⟨m,L,⟨v,hmq⟩,c,e⟩:=QgO h hd0 hM q pend (upd out x (out x+1)) seen (by omega) (hw.more hxK ho) hs' (fun m=>by
    rw[hsn m];by_cases e:m=x
    ·subst e;rw[upd_same];exact⟨fun _=>.inr (by omega),fun _=>.inr ho⟩
    ·rw[upd_ne _ _ e]) (fun y hy=>hp y (List.mem_cons_of_mem _ hy))
   refine⟨m+1,L,⟨.old hm hlen v,by omega⟩,fun n=>?_,e⟩;rw[c n];by_cases e:n=x
   ·subst e;rw[upd_same,List.count_cons_self];omega
   ·rw[upd_ne _ _ e,List.count_cons_of_ne (fun z=>e z.symm)]
  ·have ho:out x=0:=Nat.eq_zero_of_not_pos (fun z=>hm ((hsn x).2 (.inr z)));have hw2:=hw.first hxK ho;rw[show(1:Nat)=out x+1 from by omega]at hw2;obtain⟨m,L,⟨v,hmq⟩,c,e⟩:=QgO h hd0 hM q (kids x++pend) (upd out x (out x+1)) (x :: seen) (by omega) hw2 hs' (fun m=>by
    rw[List.mem_cons,hsn m];by_cases e:m=x
    ·subst e;rw[upd_same];exact⟨fun _=>.inr (by omega),fun _=>.inl rfl⟩
    ·rw[upd_ne _ _ e];exact⟨fun z=>z.resolve_left e,.inr⟩) (fun y hy=>by
    rcases List.mem_append.1 hy with z|z
    ·exact h.live hx z
    ·exact hp y (List.mem_cons_of_mem _ z))
   refine⟨m+1,x :: L,⟨.new hm hlen v,by omega⟩,fun n=>?_,fun y hy=>?_⟩
   ·rw[c n,List.flatMap_cons,List.count_append,List.count_append];by_cases e:n=x
    ·subst e;rw[upd_same,List.count_cons_self];omega
    ·rw[upd_ne _ _ e,List.count_cons_of_ne (fun z=>e z.symm)];omega
   ·rcases List.mem_cons.1 hy with rfl|z
    ·exact hx
    ·exact e y z
theorem Qmd{K:Nat}{kids:Nat→List Nat}{own:List Nat}{d:Nat→Nat}(h:RefOk K kids own d)(hd0:d 0=0){M B:Nat}(hB:∀n,d n≤B)(hM:K*B≤M) :
  ∃m L,Vis kids M m [0] own L∧m≤M∧(∀n,(L.flatMap kids++own).count n=d n)∧∀n∈L,0<d n:=by
 obtain⟨m,L,⟨v,hm⟩,c,e⟩:=QgO h hd0 (M:=M) (Nat.le_trans (QeM hB K) hM) _ own (fun _=>0) [0] (Nat.le_refl _) (WalkI.start K kids own) (fun m hm=>by omega) (fun m=>by simp) (fun x hx=>h.Qaz hx);exact⟨m,L,v,Nat.le_trans hm (Nat.le_trans (QeM hB K) hM),fun n=>by rw[List.count_append,c n];omega,e⟩
def addsI(c:List Int):List Nat→List Int
 | []=>c
 |r :: R=>addsI (c.set r (c.getD r 0+1)) R
theorem QfH:∀(R:List Nat) (c:List Int),(addsI c R).length=c.length
 | [],_=>rfl
 |r :: R,c=>by rw[addsI,QfH R,List.length_set]
theorem QfG:∀(R S:List Nat) (c:List Int),addsI c (R++S)=addsI (addsI c R) S
 | [],_,_=>rfl
 |r :: R,S,c=>by rw[List.cons_append,addsI,addsI,QfG R S]
theorem QcF:∀(R:List Nat) (c:List Int),(∀r∈R,r<c.length)→∀n,(addsI c R).getD n 0=c.getD n 0+(R.count n:Int)
 | [],c,_,n=>by simp[addsI]
 |r :: R,c,h,n=>by
  have hr:=h r (List.mem_cons_self ..);rw[addsI,QcF R _ (fun x hx=>by rw[List.length_set];exact h x (List.mem_cons_of_mem _ hx)) n,Cn.Qj _ _ _ _ hr];by_cases e:n=r
  ·subst e;rw[if_pos rfl,List.count_cons_self];omega
  ·rw[if_neg e,List.count_cons_of_ne (fun q=>e q.symm)]
def base0(K:Nat)(pages:List Int):List Int:=(List.range K).map fun(n:Nat)=>if n<2∨(n:Int)∈pages then 1 else 0
theorem Qe0{K n:Nat}(pages:List Int)(h:n<K):(base0 K pages).getD n 0=if n<2∨(n:Int)∈pages then 1 else 0:=by
 unfold base0;rw[List.getD_eq_getElem?_getD,List.getElem?_map,List.getElem?_range h]
 rfl
theorem Qc2(K:Nat)(pages:List Int):(base0 K pages).length=K:=by unfold base0;rw[List.length_map,List.length_range]
theorem GoodC.walked{s:Dv.St}{pages c:List Int}{own R:List Nat}(h:GoodC s pages c own)(hR:∀n,R.count n=dOf pages c n):addsI (base0 s.blocks pages) R=c∧∀r∈R,2≤r∧r<s.blocks∧(r:Int)∉pages:=by
 have hin:∀r∈R,2≤r∧r<s.blocks∧(r:Int)∉pages:=fun r hr=>by
  have h1:=List.count_pos_iff.2 hr;rw[hR r]at h1;obtain⟨a,b,-,-⟩:=Qba h1;exact⟨a,h.ref.lt h1,b⟩
 refine⟨List.ext_getElem? fun n=>?_,hin⟩;have hl:(addsI (base0 s.blocks pages) R).length=c.length:=by rw[QfH,Qc2,h.cok.len]
 by_cases hn:n<c.length
 ·have hnb:n<s.blocks:=by rw[←h.cok.len];exact hn
  have e:=QcF R (base0 s.blocks pages) (fun r hr=>by rw[Qc2];exact(hin r hr).2.1) n;rw[Qe0 pages hnb,hR n]at e;have e2:(addsI (base0 s.blocks pages) R).getD n 0=c.getD n 0:=by
   rw[e];have hc0:0≤c.getD n 0:=by rw[List.getD_eq_getElem?_getD,List.getElem?_eq_getElem hn];exact(h.cok.cnt _ (List.getElem_mem hn)).1
   unfold dOf;by_cases q:n<2
   ·rw[if_pos (.inl q),if_neg (fun z=>by omega)];have:n=0∨n=1:=by omega
    rcases this with rfl|rfl
    ·rw[h.cok.at0];rfl
    ·rw[h.cok.at1];rfl
   ·by_cases z:(n:Int)∈pages
    ·rw[if_pos (.inr z),if_neg (fun y=>y.2 z)];have:=h.pg _ z;rw[Int.toNat_natCast]at this;rw[this]
     rfl
    ·rw[if_neg (fun y=>y.elim q z),if_pos ⟨by omega,z⟩];omega
  rw[List.getD_eq_getElem?_getD,List.getD_eq_getElem?_getD,List.getElem?_eq_getElem hn,List.getElem?_eq_getElem (by omega)]at e2;rw[List.getElem?_eq_getElem hn,List.getElem?_eq_getElem (by omega)];exact congrArg some e2
 ·rw[List.getElem?_eq_none (by omega),List.getElem?_eq_none (by omega)]
end Sp
end Go.Proofs.YtgffbbdcbkikhaaGreatDoor
