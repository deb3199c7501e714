/- Parts of the proof. -/
import Derived.Test.YtbbbocoliandcaaGreatDoorKaG
set_option maxRecDepth 100000
set_option maxHeartbeats 8000000
open Go.Lib (hid)
namespace Go.Proofs.YtbbbocoliandcaaGreatDoor
namespace Ws
open Go.RowKit
theorem QjR(a0 a1:Option Addr)(n c0 c1:Nat)(l:List Int)(w:World)(h0:Seg w a0 n c0 l)(h1:Seg w a1 n c1 l) :
  Calls Tryz.prog 117 #[.slice a0 n c0,.slice a1 n c1] w fun e w'=>e=.returned (.bool true)∧∃m,w'=w.drewN m:=by
 by_cases hn:n=0
 ·subst hn;go_enter Tryz.func117,Tryz.ntmps117
  go_wp2;refine wp_loop_rounds 1 ?_;rw[rounds_succ];go_wp2;go_ret
  exact⟨rfl,0,rfl⟩
 ·obtain⟨g0,o0,rfl,k0⟩:=h0.addr (by omega);obtain⟨g1,o1,rfl,k1⟩:=h1.addr (by omega);have hm:=h0.cap;have hle:=h0.le;unfold maxLen at hm;have K0:=hid k0;have K1:=hid k1;clear k0 k1 h0 h1;go_enter Tryz.func117,Tryz.ntmps117
  go_wp2
  go_loopw [5] (fun si wr=>∃k m:Nat,k≤n∧si=.int .i64 k∧wr=w.drewN m) (fun si _=>n-(intOf si).toNat)
  case atStart=>exact⟨0,0,Nat.zero_le _,rfl,rfl⟩
  case round=>
   obtain⟨k,m,hk,rfl,rfl⟩:=hrel;by_cases hlt:k<n
   ·have q0:=K0.out k hlt;have q1:=K1.out k hlt;go_wp2
    go_quiet (fail)
    go_wp2;go_roundw
    case rel=>exact⟨k+1,m+nq,by omega,by go_num,by simp⟩
    case measure=>simp[intOf];omega
   ·obtain rfl:k=n:=by omega
    go_wp2;go_ret
    exact⟨rfl,m,rfl⟩
def sameB(a b:List Int):Bool:=decide (a=b)
theorem Qiu{a b:List Int}(h:a=b):sameB a b=true:=decide_eq_true h
theorem QfZ{a b:List Int}(h:¬a=b):sameB a b=false:=decide_eq_false h
theorem Qf5{a b:List Int}{k:Nat}(ha:k<a.length)(hb:k<b.length)(h:a.take k=b.take k)(hg:a.getD k 0=b.getD k 0):a.take (k+1)=b.take (k+1):=by
 rw[List.getD_eq_getElem?_getD,List.getD_eq_getElem?_getD,List.getElem?_eq_getElem ha,List.getElem?_eq_getElem hb]at hg;have e:a[k]=b[k]:=by simpa using hg
 rw[List.take_succ_eq_append_getElem ha,List.take_succ_eq_append_getElem hb,h,e]
theorem QjQ(a0 a1:Option Addr)(n0 n1 c0 c1:Nat)(l0 l1:List Int)(w:World)(h0:Seg w a0 n0 c0 l0)(h1:Seg w a1 n1 c1 l1) :
  Calls Tryz.prog 117 #[.slice a0 n0 c0,.slice a1 n1 c1] w fun e w'=>e=.returned (.bool (sameB l0 l1))∧∃m,w'=w.drewN m:=by
 by_cases hn:n0=n1
 ·subst hn;by_cases hz:n0=0
  ·subst hz;obtain rfl:=List.eq_nil_of_length_eq_zero h0.len;obtain rfl:=List.eq_nil_of_length_eq_zero h1.len;exact QjR a0 a1 0 c0 c1 [] w h0 h1
  ·obtain⟨g0,o0,rfl,k0⟩:=h0.addr (by omega);obtain⟨g1,o1,rfl,k1⟩:=h1.addr (by omega);have hm:=h0.cap;have hle:=h0.le;unfold maxLen at hm;have K0:=hid k0;have K1:=hid k1;have L0:=hid h0.len;have L1:=hid h1.len;clear k0 k1 h0 h1;go_enter Tryz.func117,Tryz.ntmps117
   go_wp2
   go_loopw [5] (fun si wr=>∃k m:Nat,k≤n0∧si=.int .i64 k∧wr=w.drewN m∧Hid (l0.take k=l1.take k)) (fun si _=>n0-(intOf si).toNat)
   case atStart=>exact⟨0,0,Nat.zero_le _,rfl,rfl,rfl⟩
   case round=>
    obtain⟨k,m,hk,rfl,rfl,HE⟩:=hrel;by_cases hlt:k<n0
    ·have q0:=K0.out k hlt;have q1:=K1.out k hlt;by_cases he:l0.getD k 0=l1.getD k 0
     ·have HE2:=hid (Qf5 (by rw[L0.out];exact hlt) (by rw[L1.out];exact hlt) HE.out he);rw[←he]at q1;clear he;generalize l0.getD k 0=x at q0 q1;go_wp2
      go_quiet (fail)
      go_wp2;go_roundw
      case rel=>exact⟨k+1,m+nq,by omega,by go_num,by simp,HE2.out⟩
      case measure=>simp[intOf];omega
     ·have hs:=QfZ (show ¬l0=l1 from fun e=>he (by rw[e]));have HS:=hid hs;clear hs;generalize l0.getD k 0=x at q0 he;generalize l1.getD k 0=y at q1 he;have e1:(x==y)=false:=beq_eq_false_iff_ne.2 he;have e2:(x != y)=true:=bne_iff_ne.2 he;have HNE:=hid he;clear he;go_wp2
      go_quiet (fail)
      go_wp2;go_ret
      exact⟨Bs.Q9 HS.out.symm,m+nq,by simp⟩
    ·obtain rfl:k=n0:=by omega
     have hs:=Qiu (show l0=l1 by
      have h:=HE.out
      rwa [List.take_of_length_le (Nat.le_of_eq L0.out),List.take_of_length_le (Nat.le_of_eq L1.out)]at h)
     have HS:=hid hs;clear hs;go_wp2;go_ret
     exact⟨Bs.Q9 HS.out.symm,m,rfl⟩
 ·have hs:=QfZ (show ¬l0=l1 from fun e=>hn (by rw[←h0.len,←h1.len,e]));have HS:=hid hs;clear hs h0 h1;have e1:((n0:Int)==(n1:Int))=false:=beq_eq_false_iff_ne.2 (by omega);have e2:((n0:Int) != (n1:Int))=true:=bne_iff_ne.2 (by omega);go_enter Tryz.func117,Tryz.ntmps117
  go_wp2;go_ret
  exact⟨Bs.Q9 HS.out.symm,0,rfl⟩
end Ws
namespace Sp
open Go.RowKit
inductive Vis (kids:Nat→List Nat) (M:Nat):Nat→List Nat→List Nat→List Nat→Prop
 |done (seen:List Nat):Vis kids M 0 seen [] []
 |old {m n:Nat} {seen st L:List Nat}:n∈seen→st.length+1≤M→Vis kids M m seen st L→Vis kids M (m+1) seen (n :: st) L
 |new {m n:Nat} {seen st L:List Nat}:n∉seen→st.length+1≤M→Vis kids M m (n :: seen) (kids n++st) L→Vis kids M (m+1) seen (n :: st) (n :: L)
theorem Vis.len{kids:Nat→List Nat}{M m:Nat}{seen st L:List Nat}(h:Vis kids M m seen st L):st.length≤M:=by
 cases h with
 |done=>exact Nat.zero_le _
 |old _ h=>exact h
 |new _ h=>exact h
theorem Vis.nil{kids:Nat→List Nat}{M m:Nat}{seen L:List Nat}(h:Vis kids M m seen [] L):L=[]:=by
 cases h
 rfl
theorem Vis.step{kids:Nat→List Nat}{M m n:Nat}{seen st L:List Nat}(h:Vis kids M m seen (n :: st) L):∃k,m=k+1∧((n∈seen∧Vis kids M k seen st L)∨(n∉seen∧∃L',L=n :: L'∧Vis kids M k (n :: seen) (kids n++st) L')):=by
 cases h with
 |old a _ c=>exact⟨_,rfl,.inl ⟨a,c⟩⟩
 |new a _ c=>exact⟨_,rfl,.inr ⟨a,_,rfl,c⟩⟩
def lackN(d out:Nat→Nat):Nat→Nat
 |0=>0
 |K+1=>lackN d out K+(d K-out K)
theorem QeM{d out out2:Nat→Nat}:∀K,(∀n,n<K→out n=out2 n)→lackN d out K=lackN d out2 K
 |0,_=>rfl
 |K+1,h=>by rw[lackN,lackN,QeM K (fun n hn=>h n (by omega)),h K (by omega)]
theorem Qcd{d out:Nat→Nat}{x:Nat}(h:out x+1≤d x):∀K,x<K→lackN d (upd out x (out x+1)) K+1=lackN d out K
 |0,h=>by omega
 |K+1,hx=>by
  rw[lackN,lackN];by_cases e:x=K
  ·subst e;rw[upd_same,QeM x (out2:=out) (fun n hn=>upd_ne _ _ (by omega))];omega
  ·have:=Qcd h K (by omega);rw[upd_ne _ _ (fun q=>e q.symm)];omega
theorem QfD{d:Nat→Nat}{K:Nat}:∀{l:List Nat} {out:Nat→Nat},(∀x∈l,x<K)→(∀n,out n+l.count n≤d n)→l.length≤lackN d out K
 | [],_,_,_=>Nat.zero_le _
 |a :: l,out,hl,hc=>by
  have ha:=hc a;rw[List.count_cons_self]at ha;have h1:=Qcd (d:=d) (out:=out) (x:=a) (by omega) K (hl a (List.mem_cons_self ..));have h2:=QfD (d:=d) (K:=K) (l:=l) (out:=upd out a (out a+1)) (fun x hx=>hl x (List.mem_cons_of_mem _ hx)) (fun n=>by
   have hn:=hc n;by_cases e:n=a
   ·subst e;rw[upd_same];rw[List.count_cons_self]at hn;omega
   ·rw[upd_ne _ _ e];rw[List.count_cons_of_ne (fun q=>e q.symm)]at hn;exact hn)
  rw[List.length_cons];omega
theorem Qee{d out:Nat→Nat}{B:Nat}(h:∀n,d n≤B):∀K,lackN d out K≤K*B
 |0=>Nat.zero_le _
 |K+1=>by
  have:=Qee (d:=d) (out:=out) h K;have:=h K;rw[lackN,Nat.succ_mul];omega
theorem Qf9{K:Nat}{kids:Nat→List Nat}{own:List Nat}{d:Nat→Nat}(h:RefOk K kids own d)(hd0:d 0=0){M:Nat}(hM:lackN d (fun _=>0) K≤M) :
  ∀(q:Nat) (pend:List Nat) (out:Nat→Nat) (seen:List Nat),lackN d out K≤q→WalkI K kids own pend out→(∀m,0<out m→0<d m)→(∀m,m∈seen↔m=0∨0<out m)→(∀x∈pend,0<d x) →
  ∃m L,(Vis kids M m seen pend L∧m≤q)∧(∀n,d n=out n+pend.count n+(L.flatMap kids).count n)∧∀n∈L,0<d n
 |q,[],out,seen,_,hw,hs,_,_=>⟨0,[],⟨.done seen,Nat.zero_le _⟩,fun n=>by rw[←hw.done h hs n];simp,fun n hn=>by cases hn⟩
 |0,x :: pend,out,seen,hq,hw,hs,_,hp=>by
  have h1:=hw.sub h hs x;rw[List.count_cons_self]at h1;have:=Qcd (d:=d) (out:=out) (x:=x) (by omega) K (h.lt (hp x (List.mem_cons_self ..)));omega
 |q+1,x :: pend,out,seen,hq,hw,hs,hsn,hp=>by
  have hx:=hp x (List.mem_cons_self ..);have h1:=hw.sub h hs x;rw[List.count_cons_self]at h1;have hxK:=h.lt hx;have hl:=Qcd (d:=d) (out:=out) (x:=x) (by omega) K hxK;have hlen:(x :: pend).length≤M:=by
   refine Nat.le_trans (QfD (d:=d) (K:=K) (out:=fun _=>0) (fun y hy=>h.lt (hp y hy)) (fun n=>?_)) hM;have:=hw.sub h hs n;omega
  rw[List.length_cons]at hlen;have hs':∀m,0<upd out x (out x+1) m→0<d m:=fun m hm=>by
   by_cases e:m=x
   ·subst e;exact hx
   ·rw[upd_ne _ _ e]at hm;exact hs m hm
  by_cases hm:x∈seen
  ·have ho:0<out x:=by
    rcases(hsn x).1 hm with e|e
    ·subst e;omega
    ·exact e
   obtain⟨m,L,⟨v,hmq⟩,c,e⟩:=Qf9 h hd0 hM q pend (upd out x (out x+1)) seen (by omega) (hw.more hxK ho) hs' (fun m=>by
    rw[hsn m];by_cases e:m=x
    ·subst e;rw[upd_same];exact⟨fun _=>.inr (by omega),fun _=>.inr ho⟩
    ·rw[upd_ne _ _ e]) (fun y hy=>hp y (List.mem_cons_of_mem _ hy))
   refine⟨m+1,L,⟨.old hm hlen v,by omega⟩,fun n=>?_,e⟩;rw[c n];by_cases e:n=x
   ·subst e;rw[upd_same,List.count_cons_self];omega
   ·rw[upd_ne _ _ e,List.count_cons_of_ne (fun z=>e z.symm)]
  ·have ho:out x=0:=Nat.eq_zero_of_not_pos (fun z=>hm ((hsn x).2 (.inr z)));have hw2:=hw.first hxK ho;rw[show(1:Nat)=out x+1 from by omega]at hw2;obtain⟨m,L,⟨v,hmq⟩,c,e⟩:=Qf9 h hd0 hM q (kids x++pend) (upd out x (out x+1)) (x :: seen) (by omega) hw2 hs' (fun m=>by
    rw[List.mem_cons,hsn m];by_cases e:m=x
    ·subst e;rw[upd_same];exact⟨fun _=>.inr (by omega),fun _=>.inl rfl⟩
    ·rw[upd_ne _ _ e];exact⟨fun z=>z.resolve_left e,.inr⟩) (fun y hy=>by
    rcases List.mem_append.1 hy with z|z
    ·exact h.live hx z
    ·exact hp y (List.mem_cons_of_mem _ z))
   refine⟨m+1,x :: L,⟨.new hm hlen v,by omega⟩,fun n=>?_,fun y hy=>?_⟩
   ·rw[c n,List.flatMap_cons,List.count_append,List.count_append];by_cases e:n=x
    ·subst e;rw[upd_same,List.count_cons_self];omega
    ·rw[upd_ne _ _ e,List.count_cons_of_ne (fun z=>e z.symm)];omega
   ·rcases List.mem_cons.1 hy with rfl|z
    ·exact hx
    ·exact e y z
theorem Qlr{K:Nat}{kids:Nat→List Nat}{own:List Nat}{d:Nat→Nat}(h:RefOk K kids own d)(hd0:d 0=0){M B:Nat}(hB:∀n,d n≤B)(hM:K*B≤M) :
  ∃m L,Vis kids M m [0] own L∧m≤M∧(∀n,(L.flatMap kids++own).count n=d n)∧∀n∈L,0<d n:=by
 obtain⟨m,L,⟨v,hm⟩,c,e⟩:=Qf9 h hd0 (M:=M) (Nat.le_trans (Qee hB K) hM) _ own (fun _=>0) [0] (Nat.le_refl _) (WalkI.start K kids own) (fun m hm=>by omega) (fun m=>by simp) (fun x hx=>h.Qa3 hx);exact⟨m,L,v,Nat.le_trans hm (Nat.le_trans (Qee hB K) hM),fun n=>by rw[List.count_append,c n];omega,e⟩
def addsI(c:List Int):List Nat→List Int
 | []=>c
 |r :: R=>addsI (c.set r (c.getD r 0+1)) R
theorem Qfb:∀(R:List Nat) (c:List Int),(addsI c R).length=c.length
 | [],_=>rfl
 |r :: R,c=>by rw[addsI,Qfb R,List.length_set]
theorem Qfa:∀(R S:List Nat) (c:List Int),addsI c (R++S)=addsI (addsI c R) S
 | [],_,_=>rfl
 |r :: R,S,c=>by rw[List.cons_append,addsI,addsI,Qfa R S]
theorem Qcv:∀(R:List Nat) (c:List Int),(∀r∈R,r<c.length)→∀n,(addsI c R).getD n 0=c.getD n 0+(R.count n:Int)
 | [],c,_,n=>by simp[addsI]
 |r :: R,c,h,n=>by
  have hr:=h r (List.mem_cons_self ..);rw[addsI,Qcv R _ (fun x hx=>by rw[List.length_set];exact h x (List.mem_cons_of_mem _ hx)) n,Cn.Qm _ _ _ _ hr];by_cases e:n=r
  ·subst e;rw[if_pos rfl,List.count_cons_self];omega
  ·rw[if_neg e,List.count_cons_of_ne (fun q=>e q.symm)]
def base0(K:Nat)(pages:List Int):List Int:=(List.range K).map fun(n:Nat)=>if n<2∨(n:Int)∈pages then 1 else 0
theorem Qeu{K n:Nat}(pages:List Int)(h:n<K):(base0 K pages).getD n 0=if n<2∨(n:Int)∈pages then 1 else 0:=by
 unfold base0;rw[List.getD_eq_getElem?_getD,List.getElem?_map,List.getElem?_range h]
 rfl
theorem QcU(K:Nat)(pages:List Int):(base0 K pages).length=K:=by unfold base0;rw[List.length_map,List.length_range]
theorem GoodC.walked{s:Dv.St}{pages c:List Int}{own R:List Nat}(h:GoodC s pages c own)(hR:∀n,R.count n=dOf pages c n):addsI (base0 s.blocks pages) R=c∧∀r∈R,2≤r∧r<s.blocks∧(r:Int)∉pages:=by
 have hin:∀r∈R,2≤r∧r<s.blocks∧(r:Int)∉pages:=fun r hr=>by
  have h1:=List.count_pos_iff.2 hr;rw[hR r]at h1;obtain⟨a,b,-,-⟩:=Qbi h1;exact⟨a,h.ref.lt h1,b⟩
 refine⟨List.ext_getElem? fun n=>?_,hin⟩;have hl:(addsI (base0 s.blocks pages) R).length=c.length:=by rw[Qfb,QcU,h.cok.len]
 by_cases hn:n<c.length
 ·have hnb:n<s.blocks:=by rw[←h.cok.len];exact hn
  have e:=Qcv R (base0 s.blocks pages) (fun r hr=>by rw[QcU];exact(hin r hr).2.1) n;rw[Qeu pages hnb,hR n]at e;have e2:(addsI (base0 s.blocks pages) R).getD n 0=c.getD n 0:=by
   rw[e];have hc0:0≤c.getD n 0:=by rw[List.getD_eq_getElem?_getD,List.getElem?_eq_getElem hn];exact(h.cok.cnt _ (List.getElem_mem hn)).1
   unfold dOf;by_cases q:n<2
   ·rw[if_pos (.inl q),if_neg (fun z=>by omega)];have:n=0∨n=1:=by omega
    rcases this with rfl|rfl
    ·rw[h.cok.at0];rfl
    ·rw[h.cok.at1];rfl
   ·by_cases z:(n:Int)∈pages
    ·rw[if_pos (.inr z),if_neg (fun y=>y.2 z)];have:=h.pg _ z;rw[Int.toNat_natCast]at this;rw[this]
     rfl
    ·rw[if_neg (fun y=>y.elim q z),if_pos ⟨by omega,z⟩];omega
  rw[List.getD_eq_getElem?_getD,List.getD_eq_getElem?_getD,List.getElem?_eq_getElem hn,List.getElem?_eq_getElem (by omega)]at e2;rw[List.getElem?_eq_getElem hn,List.getElem?_eq_getElem (by omega)];exact congrArg some e2
 ·rw[List.getElem?_eq_none (by omega),List.getElem?_eq_none (by omega)]
end Sp
end Go.Proofs.YtbbbocoliandcaaGreatDoor
