/- Parts of the proof. -/
import Derived.RangeFuncNested
import Derived.Shelf.Abstract
import Derived.OwnWalkIn
import Derived.TacticsInMore
import Derived.LoopNIn
import Derived.LoopIn
import Derived.Test.YtgffbbdcbkikhaaGreatDoorKbR
set_option maxRecDepth 100000
set_option maxHeartbeats 8000000
open Go.Lib (hid)
namespace Go.Proofs.YtgffbbdcbkikhaaGreatDoor
namespace Dv
open Go.RowKit Go.Shelf Bs
attribute [local go_sem] Oper.semAt_some
def upto{α:Type}(f:Nat→α)(k:Nat):List α:=(List.range k).map f
theorem Qdp{α:Type}(f:Nat→α)(k:Nat):upto f (k+1)=upto f k++[f k]:=by simp[upto,List.range_succ]
theorem Qhg{α:Type}(f:Nat→α)(k:Nat):(upto f k).length=k:=by simp[upto]
abbrev Elem:=Int×(Nat×List Int)
def encW(x:Elem):Array Value:=#[.int .i64 x.1,.agg #[.int .i64 (x.2.1:Int),.string (strOfNums x.2.2)]]
def fromEnd(l:List (Nat×List Int))(j:Nat):Elem:=((l.length:Int)-1-j,l.getD (l.length-1-j) (0,[]))
theorem Qll(F:Fence)(n:Nat)(h57:F.fn 123)(hro:F.round=none)(hn:1≤n)(l Bs n₀ b len cap:Nat)(zs:List (Nat×List Int))(hz:zs.length=len)(hreach:len≤1000000)(hb:b<n₀)(J Jx:List Elem→World→Prop)
  (hY:∀pre x W,J pre W→pre.length<len→YieldAt F (n-1) Tryz.prog l (encW x) W fun e W'=>
   (e=.returned (.bool true)∧J (pre++[x]) W'∧Below n₀ W W')∨(e=.returned (.bool false)∧Jx (pre++[x]) W'))
  (W:World) (hBs:W.cell? ⟨Bs,0,none⟩=some (.slice (some ⟨b,0,none⟩) len cap)) (hBn:Bs<n₀)
  (hc:∀j,j<len→W.cell? ⟨b,j*2,none⟩=some (.int .i64 ((zs.getD j (0,[])).1:Int))∧W.cell? ⟨b,j*2+1,none⟩=some (.string (strOfNums (zs.getD j (0,[])).2))) (h0:J [] W) :
  CallsIn F n Tryz.prog 123 #[.func (.yield l) #[] #[],.pointer (some ⟨Bs,0,none⟩)] W fun e W'=>(∃v,e=.returned v) ∧
   ((∃ys,ys=upto (fromEnd zs) len∧J ys W')∨(∃pre,(∃k,k≤len∧pre=upto (fromEnd zs) k)∧Jx pre W')):=by
 refine callsIn_of_wp Tryz.func123 rfl h57 ?_ hro;simp only[Tryz.ntmps123,List.size_toArray,List.length_cons,List.length_nil,Nat.reduceAdd,Nat.reduceSub,Array.replicate_succ,Array.replicate_zero,List.push_toArray,List.append_toArray,List.nil_append,List.cons_append]
 gi_wp2
 gi_loopw [3] (fun i wr=>∃(k:Nat) (z:Int),k≤len∧z+1+k=len∧i=.int .i64 z∧J (upto (fromEnd zs) k) wr∧Below n₀ W wr)
  (fun i _=>(intOf i+1).toNat)
 case atStart=>exact⟨0,(len:Int)-1,by omega,by omega,rfl,h0,Below.refl _ _⟩
 case round=>
  obtain⟨k,z,hk,hzk,rfl,hJs,hnx⟩:=hrel;have hbx:=(hnx.cell (p:=⟨Bs,0,none⟩) hBn).trans hBs;by_cases hlt:k<len
  ·obtain⟨j,rfl⟩:=Int.eq_ofNat_of_zero_le (show 0≤z by omega);have hj:j<len:=by omega
   have c0:=(hnx.cell (p:=⟨b,j*2,none⟩) hb).trans (hc j hj).1;have c1:=(hnx.cell (p:=⟨b,j*2+1,none⟩) hb).trans (hc j hj).2;have hfe:fromEnd zs k=((j:Int),zs.getD j (0,[])):=by
    unfold fromEnd;rw[hz,show len-1-k=j from by omega,show(len:Int)-1-k=j from by omega]
   have HFE:=hid hfe;obtain⟨fn,tmps,assign,body,hy,hR⟩:=hY _ (fromEnd zs k) wr hJs (by rw[Qhg];exact hlt);rw[hfe]at hy hR;have HR:=hid hR;unfold encW at hy;dsimp only at hy;have HZK:=hid hzk;clear hR hfe hzk hz;generalize zs.getD j (0,[])=q at *;obtain⟨q1,q2⟩:=q;dsimp only at *;generalize strOfNums q2=T at *
   gi_wp2
   refine HR.out.mono ?_;rintro e W3 (⟨rfl,hJ3,hk3⟩|⟨rfl,hJx3⟩)
   ·gi_wp2
    go_roundw
    case rel=>exact⟨k+1,(j:Int)-1,by omega,by have:=HZK.out;omega,rfl,by rw[Qdp,HFE.out];exact hJ3,hnx.trans hk3⟩
    case measure=>simp[intOf]
   ·gi_wp2
    refine bodyPost_ret (results_none rfl _ _ _) rfl ?_;exact⟨⟨_,rfl⟩,.inr ⟨_,⟨k+1,by omega,by rw[Qdp,HFE.out]⟩,hJx3⟩⟩
  ·obtain rfl:k=len:=by omega
   have hneg:z<0:=by omega
   gi_wp2
   go_end0
   exact⟨⟨_,rfl⟩,.inl ⟨_,rfl,hJs⟩⟩
theorem QgS(F:Fence)(n:Nat)(h57:F.fn 123)(hro:F.round=none)(l Bs:Nat)(J:List Elem→World→Prop)(W:World)(hBs:W.cell? ⟨Bs,0,none⟩=some (.slice none 0 0))(h0:J [] W) :
  CallsIn F n Tryz.prog 123 #[.func (.yield l) #[] #[],.pointer (some ⟨Bs,0,none⟩)] W fun e W'=>(∃v,e=.returned v)∧J [] W':=by
 refine callsIn_of_wp Tryz.func123 rfl h57 ?_ hro;simp only[Tryz.ntmps123,List.size_toArray,List.length_cons,List.length_nil,Nat.reduceAdd,Nat.reduceSub,Array.replicate_succ,Array.replicate_zero,List.push_toArray,List.append_toArray,List.nil_append,List.cons_append]
 gi_wp2
 gi_loopw [3] (fun i wr=>i=.int .i64 (-1)∧J [] wr) (fun _ _=>0)
 case atStart=>exact⟨rfl,h0⟩
 case round=>
  obtain⟨rfl,hJs⟩:=hrel
  gi_wp2
  go_end0
  exact⟨⟨_,rfl⟩,hJs⟩
theorem Ql6(F:Fence)(n:Nat)(h49:F.fn 97)(hro:F.round=none)(a:Option Addr)(len cap:Nat)(w:World) :
  CallsIn F n Tryz.prog 97 #[.slice a len cap] w fun e w'=>e=.returned (.func (.func 123) #[] #[.pointer (some ⟨w.heap.size,0,none⟩)])∧w'=w.alloc (.cells #[.slice a len cap] 138):=by
 refine callsIn_of_wp Tryz.func97 rfl h49 ?_ hro;simp only[Tryz.ntmps97,List.size_toArray,List.length_cons,List.length_nil,Nat.reduceAdd,Nat.reduceSub,Array.replicate_succ,Array.replicate_zero,List.push_toArray,List.append_toArray,List.nil_append,List.cons_append]
 gi_wp2
 go_ret
 exact⟨rfl,rfl⟩
theorem QiF(F:Fence)(n:Nat)(h57:F.fn 123)(hro:F.round=none)(hn:1≤n)(Bs n₀:Nat)(v:Value)(zs:List (Nat×List Int))(hreach:zs.length≤1000000)(w:World)(hBn:Bs<n₀)(hn₀:n₀≤w.heap.size)
  (hc:w.cell? ⟨Bs,0,none⟩=some v) (hI:w.ownsRow 0 143 2 v zs.length (wrow zs)) (hlt:∀k,v.ownBlock=some k→k<n₀) :
  SeqStopsK F n Tryz.prog 123 #[.pointer (some ⟨Bs,0,none⟩)] encW (Below n₀) (fun ys=>ys=upto (fromEnd zs) zs.length) (fun pre=>∃k,k≤zs.length∧pre=upto (fromEnd zs) k) zs.length w:=fun l J Jx W hW _ _ hY h0=>by
 have hc':=(hW.cell (p:=⟨Bs,0,none⟩) (Nat.lt_of_lt_of_le hBn hn₀)).trans hc;have hI':=Qa3 hI (Turn.of_below (S:=nowhere) hW) (fun _ _ h=>h);rcases hI'.2 with ⟨rfl,hz0⟩|⟨g,cap,cur,rfl,_,hg,_⟩
 ·have hz:=List.eq_nil_of_length_eq_zero hz0;subst hz;exact(QgS F n h57 hro l Bs J W hc' h0).mono fun e W' ⟨he,hj⟩=>⟨he,.inl ⟨_,rfl,hj⟩⟩
 ·have hcs:∀j u,(wrow zs)[j]?=some u→W.cell? ⟨g,j,none⟩=some u:=fun j u hu=>by
   have:=hI'.cells (g:=g) rfl j u hu
   rwa [Addr.add_lit,Nat.zero_add]at this
  refine Qll F n h57 hro hn l Bs n₀ g zs.length cap zs rfl hreach (hlt g rfl) J Jx hY W hc' hBn (fun j hj=>?_) h0;have:=QhG zs j hj;rw[Nat.mul_comm]at this;exact⟨hcs _ _ this.1,hcs _ _ this.2⟩
attribute [local go_sem] Oper.semAt_some
theorem QdU(l:List (Nat×List Int))(j:Nat)(hj:j<l.length):l.reverse[j]?=some (l.getD (l.length-1-j) (0,[])):=by
 rw[List.getElem?_reverse hj];have h:l.length-1-j<l.length:=by omega
 simp[List.getD,h]
theorem Qi5(s:St)(b:Nat)(h:∀j,j<s.pend.length→(fromEnd s.pend j).2.1≠b):s.last b=s.dur.getD b []:=by
 unfold St.last;have:s.pend.reverse.find? (fun p=>p.1==b)=none:=by
  rw[List.find?_eq_none];intro x hx;obtain⟨j,hj,rfl⟩:=List.mem_iff_getElem.1 hx;have hj':j<s.pend.length:=by simpa using hj
  have e:=QdU s.pend j hj';rw[List.getElem?_eq_getElem hj]at e;have:=h j hj';unfold fromEnd at this;rw[Option.some.inj e]
  simpa using this
 rw[this]
theorem Qi6(s:St)(b k:Nat)(hk:k<s.pend.length)(h1:(fromEnd s.pend k).2.1=b)(h:∀j,j<k→(fromEnd s.pend j).2.1≠b):s.last b=(fromEnd s.pend k).2.2:=by
 unfold St.last;have:s.pend.reverse.find? (fun p=>p.1==b)=some (s.pend.getD (s.pend.length-1-k) (0,[])):=by
  rw[List.find?_eq_some_iff_getElem];refine⟨by unfold fromEnd at h1;simpa using h1,k,by simpa using hk,?_,fun j hj=>?_⟩
  ·have e:=QdU s.pend k hk;rw[List.getElem?_eq_getElem (by simpa using hk)]at e;exact Option.some.inj e
  ·have e:=QdU s.pend j (by omega);rw[List.getElem?_eq_getElem (by simp;omega)]at e;have:=h j hj;unfold fromEnd at this;rw[Option.some.inj e]
   simpa using this
 rw[this]
 rfl
theorem Qfc{A B:World}{row:Option Nat}{g:Nat}{cs:Array Value}{t:TypeId}{fr:Nat×Nat}(h:A.heap[g]?=some (.cells cs t fr))(hg:A.grownBy B row)(hr:∀r,row=some r→∃o:Obj,A.heap[r]?=some o∧o.isCells=false):B.heap[g]?=some (.cells cs t fr):=by
 rw[hg.block g (Array.getElem?_eq_some_iff.1 h).1 (fun e=>by obtain⟨o,ho,hc⟩:=hr g e.symm;rw[h]at ho;cases ho;cases hc)];exact h
theorem Qbi{A B:World}{row:Option Nat}{g:Nat}{v:Value}{t:TypeId}(h:Boxed A g t v)(hg:A.grownBy B row)(hr:∀r,row=some r→∃o:Obj,A.heap[r]?=some o∧o.isCells=false):Boxed B g t v:=Qfc h hg hr
def RI(w:World)(Z k:Nat)(pre:List Elem)(W:World):Prop:=
 ((∀x∈pre,x.2.1≠k)∧Z≤W.heap.size∧Boxed W w.heap.size 3 (.int .i64 (k:Int))∧Boxed W (w.heap.size+1) 9 (.string ⟨#[]⟩)∧Boxed W (w.heap.size+1+1) 31 (.int .i64 0))∧Below w.heap.size w W
def RX(w:World)(k:Nat)(c:Code)(pre:List Elem)(W:World):Prop:=
 (c=.ret∧∃ini last,pre=ini++[last]∧(∀x∈ini,x.2.1≠k)∧last.2.1=k∧Boxed W (w.heap.size+1) 9 (.string (strOfNums last.2.2))∧Boxed W (w.heap.size+1+1) 31 (.int .i64 0))∧Below w.heap.size w W
theorem RI.own(w:World)(Z k B:Nat)(hB:w.heap.size≤B):OwnFrom B (RI w Z k):=
 OwnFrom.and (Own.from (fun _ _ _ _ hs hg hr=>⟨hs.1,Nat.le_trans hs.2.1 hg.size,Qbi hs.2.2.1 hg hr,Qbi hs.2.2.2.1 hg hr,Qbi hs.2.2.2.2 hg hr⟩) _) (ownFrom_below (Nat.le_refl _) hB)
theorem RX.own(w:World)(k B:Nat)(c:Code)(hB:w.heap.size≤B):OwnFrom B (RX w k c):=
 OwnFrom.and (Own.from (fun _ _ _ _ hs hg hr=>by obtain⟨h1,ini,last,h2,h3,h4,h5,h6⟩:=hs;exact⟨h1,ini,last,h2,h3,h4,Qbi h5 hg hr,Qbi h6 hg hr⟩) _) (ownFrom_below (Nat.le_refl _) hB)
theorem QcY(g b:Nat)(P:Value)(s:St)(k:Nat)(w:World)(h:Dev w g b P s)(hk:k<s.blocks) :
  Calls Tryz.prog 58 #[.pointer (some ⟨g,0,none⟩),.int .i64 (k:Int)] w fun e w'=>e=.returned (.tuple #[.string (strOfNums (s.last k)),.int .i64 0])∧Turn w w' nowhere:=by
 refine(callsIn_wide (n:=6)).1 ?_;have HFI:=hid (fun W (t:Turn w W nowhere)=>QfU g b P s k W (h.turn t (fun _ _=>id)));have HB:Hid (blockE s k=0):=hid (if_pos (by unfold St.hasB;omega));have t3:∀o1 o2 o3,Turn w (((w.alloc o1).alloc o2).alloc o3) nowhere:=fun o1 o2 o3=>((Turn.alloc w o1 nowhere).trans (Turn.alloc _ o2 nowhere) (fun _ _ h=>h)).trans (Turn.alloc _ o3 nowhere) (fun _ _ h=>h)
 obtain⟨c,hc,hm,q0,q1,q2,q3,q4,q5,q6⟩:=h.cells;have p3:∀o1 o2 o3,(((w.alloc o1).alloc o2).alloc o3).cell? ⟨g,3,none⟩=some P:=fun o1 o2 o3=>(t3 o1 o2 o3).cell q3 id
 have HT:=hid t3;have HD:=hid h;obtain⟨pa,pc,rfl,_,_,_,_⟩:=Qky h.row;clear h t3 q0 q1 q2 q3 q4 q5 q6;refine callsIn_of_wp_marks Tryz.func58 rfl trivial ?_ rfl;simp only[Tryz.ntmps58,List.size_toArray,List.length_cons,List.length_nil,Nat.reduceAdd,Nat.reduceSub,Array.replicate_succ,Array.replicate_zero,List.push_toArray,List.append_toArray,List.nil_append,List.cons_append]
 gi_wp2_with (first
  |(refine⟨trivial,?_⟩;gi_at_call 85;refine(callsIn_wide.2 (HFI.out _ (HT.out _ _ _))).mono ?_;rw[HB.out];rintro e w' ⟨rfl,rfl⟩)
  |(refine⟨trivial,?_⟩;gi_at_call 97;refine(Ql6 Fence.wide _ trivial rfl _ _ _ _).mono ?_;rintro e w' ⟨rfl,rfl⟩)
  |fail)
 have b3:=(((Boxed.new w 3 (.int .i64 (k:Int))).alloc (.cells #[.string ⟨#[]⟩] 9)).alloc (.cells #[.int .i64 0] 31)).alloc (.cells #[.slice pa s.pend.length pc] 138);have b4:=((Boxed.new (w.alloc (.cells #[.int .i64 (k:Int)] 3)) 9 (.string ⟨#[]⟩)).alloc (.cells #[.int .i64 0] 31)).alloc (.cells #[.slice pa s.pend.length pc] 138);have b5:=(Boxed.new ((w.alloc (.cells #[.int .i64 (k:Int)] 3)).alloc (.cells #[.string ⟨#[]⟩] 9)) 31 (.int .i64 0)).alloc (.cells #[.slice pa s.pend.length pc] 138);have bN:=Boxed.new (((w.alloc (.cells #[.int .i64 (k:Int)] 3)).alloc (.cells #[.string ⟨#[]⟩] 9)).alloc (.cells #[.int .i64 0] 31)) 138 (.slice pa s.pend.length pc);simp only[World.size_alloc]at b4 b5 bN;have hT4:Turn w ((((w.alloc (.cells #[.int .i64 (k:Int)] 3)).alloc (.cells #[.string ⟨#[]⟩] 9)).alloc (.cells #[.int .i64 0] 31)).alloc (.cells #[.slice pa s.pend.length pc] 138)) nowhere:=(HT.out _ _ _).trans (Turn.alloc _ _ nowhere) (fun _ _ h=>h);have hsz:((((w.alloc (.cells #[.int .i64 (k:Int)] 3)).alloc (.cells #[.string ⟨#[]⟩] 9)).alloc (.cells #[.int .i64 0] 31)).alloc (.cells #[.slice pa s.pend.length pc] 138)).heap.size=w.heap.size+4:=by simp
 obtain⟨W0,hW0⟩:∃W0,((((w.alloc (.cells #[.int .i64 (k:Int)] 3)).alloc (.cells #[.string ⟨#[]⟩] 9)).alloc (.cells #[.int .i64 0] 31)).alloc (.cells #[.slice pa s.pend.length pc] 138))=W0:=⟨_,rfl⟩;rw[hW0]at b3 b4 b5 bN hsz hT4 ⊢;clear hW0 p3;have hD0:=HD.out.turn hT4 (fun _ _=>id);have hlt0:=HD.out.lt;have hB0:Below w.heap.size w W0:=⟨hT4.os,hT4.tape,hT4.output,hT4.size,fun i hi=>hT4.block i hi id⟩;refine wpIn_rangeFunc_ownH rfl (by omega) (gf:=123) (lb:=#[.pointer (some ⟨w.heap.size+1+1+1,0,none⟩)]) rfl trivial (enters_of Tryz.func123 (by kernel_rfl) rfl)
  (QiF Fence.wide _ trivial rfl (by omega) (w.heap.size+1+1+1) W0.heap.size (.slice pa s.pend.length pc) s.pend hD0.ok.few W0 (by omega) (Nat.le_refl _) bN.cell hD0.row (fun i hi=>by have:=hlt0 i (.inr (.inr hi));omega)) belowK_t (belowK_b (Nat.le_refl _)) (Below.refl _ _) (fun _=>rfl)
  (RI w W0.heap.size k) (RX w k) (RI.own w _ k _ hT4.size) (fun c=>RX.own w k _ c hT4.size)
  ⟨⟨(fun _ h=>by cases h),Nat.le_refl _,b3,b4,b5⟩,hB0⟩
  (fun x a' W=>∃Bx,w.heap.size+1+1+1<Bx∧W.heap[Bx]?=some (.cells #[.int .i64 (x.2.1:Int),.string (strOfNums x.2.2)] 143 (0,0))∧a'={ tmps:=#[.pointer (some ⟨g,0,none⟩),.int .i64 (k:Int),undef,.pointer (some ⟨w.heap.size,0,none⟩),.pointer (some ⟨w.heap.size+1,0,none⟩),.pointer (some ⟨w.heap.size+1+1,0,none⟩),.int .i64 0,undef,.pointer (some ⟨Bx,0,none⟩),.pointer (some ⟨g,0,none⟩),.int .i64 (k:Int),.int .i64 0,.int .i64 0,.bool false,undef,.pointer (some ⟨g,0,none⟩),.pointer (some ⟨g,0,none⟩),.pointer (some ⟨g,3,none⟩),.slice pa s.pend.length pc,.func (.func 123) #[] #[.pointer (some ⟨w.heap.size+1+1+1,0,none⟩)],.int .i64 x.1,.agg #[.int .i64 (x.2.1:Int),.string (strOfNums x.2.2)],undef,undef,undef,undef,undef,undef,undef,undef,undef,undef],defers:=[] })
  (fun x a' _ X Y row hs hg hr=>by obtain⟨Bx,h1,h2,h3⟩:=hs;exact⟨Bx,h1,Qfc h2 hg (fun r e=>(hr r e).2),h3⟩)
  ?assign ?body ?done ?stop
 case assign=>
  rintro l pre x W K hI hK;have hz:=hI.1.2.1;unfold encW
  gi_wp2
  exact hK _ _ ((KeepsOthers.alloc _ _).from _) ((Below.refl _ W).alloc hz _) ⟨⟨hI.1.1,Nat.le_trans hz (by simp),hI.1.2.2.1.alloc _,hI.1.2.2.2.1.alloc _,hI.1.2.2.2.2.alloc _⟩,hI.2.alloc hI.2.size _⟩ ⟨W.heap.size,by omega,World.alloc_heap_new W _,rfl⟩
 case body=>
  rintro l pre x a' W hl _ hI ⟨Bx,hBx,hX,rfl⟩ hlt;have cX0:W.cell? ⟨Bx,0,none⟩=some (.int .i64 (x.2.1:Int)):=by rw[cell_of_row _ _ _ _ _ _ hX];rfl
  have cX1:W.cell? ⟨Bx,1,none⟩=some (.string (strOfNums x.2.2)):=by rw[cell_of_row _ _ _ _ _ _ hX];rfl
  have cB:=hI.1.2.2.1.cell;have cS:=hI.1.2.2.2.1.cell;have fS:=hI.1.2.2.2.1.frozen;have cE:=hI.1.2.2.2.2.cell;have fE:=hI.1.2.2.2.2.frozen;have HI:=hid hI;clear hI hX;by_cases hx:x.2.1=k
  ·have e1:((x.2.1:Int)==(k:Int))=true:=beq_iff_eq.2 (by omega);have HX:=hid hx;clear hx
   gi_wp2
   exact⟨((KeepsOthers.setCell _ _ _).trans (KeepsOthers.setCell _ _ _)).from _,⟨rfl,pre,x,rfl,HI.out.1.1,HX.out,(HI.out.1.2.2.2.1.set _).other (by omega) _,(HI.out.1.2.2.2.2.other (by omega) _).set _⟩,
    (HI.out.2.setCell (p:=⟨w.heap.size+1,0,none⟩) (by simp) _).setCell (p:=⟨w.heap.size+1+1,0,none⟩) (by simp;omega) _⟩
  ·have e1:((x.2.1:Int)==(k:Int))=false:=beq_eq_false_iff_ne.2 (by omega);have HX:=hid hx;clear hx
   gi_wp2
   exact⟨KeepsFrom.refl _ _,Below.refl _ _,⟨⟨fun y hy=>(List.mem_append.1 hy).elim (HI.out.1.1 y) (fun e=>by simp at e;subst e;exact HX.out),HI.out.1.2⟩,HI.out.2⟩⟩
 case done=>
  rintro D ys W hD rfl hI hK;have cB:=hI.1.2.2.1.cell;have cS:=hI.1.2.2.2.1.cell;have fS:=hI.1.2.2.2.1.frozen;have cE:=hI.1.2.2.2.2.cell;have fE:=hI.1.2.2.2.2.frozen;have hDW:=HD.out.turn (Turn.of_below (S:=nowhere) hI.2) (fun _ _=>id);have HAT:=hid (QiB g b _ s k W hDW hk);have hne:∀j,j<s.pend.length→(fromEnd s.pend j).2.1≠k:=fun j hj=>hI.1.1 _ (by simp only[upto,List.mem_map,List.mem_range];exact⟨j,hj,rfl⟩)
  have HL:=hid (Qi5 s k hne);have hgd:=QdT hDW.ok.dblk (b:=k) (by rw[hDW.ok.dlen];exact hk);have hreg:=hDW.reg.block (n:=s.size) (by have:=hDW.ok.lo;omega) hDW.ok.dblk k (by rw[hDW.ok.dlen];exact hk);have hcv:∀c' m,(convert 46 9 (.slice (some ⟨b,k*s.size,none⟩) s.size c')).run Tryz.prog (W.drewN m)=.ok (.string (strOfNums (s.dur.getD k []))) (W.drewN m):=fun c' m=>Qaw b _ _ c' _ (W.drewN m) (hreg.turn (Turn.drewN W m nowhere) id) hgd.1
  have HI:=hid hI;have HK:=hid hK;clear hI hK hDW hne hgd hreg hD0 hlt0 b3 b4 b5 bN
  gi_wp2_with fail
  refine⟨trivial,(callsIn_wide.2 HAT.out).mono ?_⟩;rintro e w' ⟨c',m,rfl,hc1,hc2,rfl⟩;have hcv1:=hcv c' m;clear hcv
  gi_wp2
  obtain⟨T,hT⟩:∃T,T=strOfNums (s.dur[k]?.getD []):=⟨_,rfl⟩;rw[←hT];have g4:Boxed (W.drewN m) (w.heap.size+1) 9 (.string ⟨#[]⟩):=HI.out.1.2.2.2.1;have g5:Boxed (W.drewN m) (w.heap.size+1+1) 31 (.int .i64 0):=HI.out.1.2.2.2.2;have r4:=((g4.set (.string T)).other (B':=w.heap.size+1+1) (by omega) (.int .i64 0)).cell;have r5:=((g5.other (B':=w.heap.size+1) (by omega) (.string T)).set (.int .i64 0)).cell;have hK':=((KeepsOthers.setCell (W.drewN m) ⟨w.heap.size+1,0,none⟩ (.string T)).trans (KeepsOthers.setCell _ ⟨w.heap.size+1+1,0,none⟩ (.int .i64 0))).same D _ HK.out rfl;have c4:=cell_kept r4 (grownBy_putObj' _ D (.deferred none)) (fun r e=>by cases e;exact⟨_,hK',rfl⟩);have c5:=cell_kept r5 (grownBy_putObj' _ D (.deferred none)) (fun r e=>by cases e;exact⟨_,hK',rfl⟩);have hbel:=(((Bs.below_drewN m HI.out.2).setCell (p:=⟨w.heap.size+1,0,none⟩) (by simp) (.string T)).setCell (p:=⟨w.heap.size+1+1,0,none⟩) (by simp;omega) (.int .i64 0)).trans (belowK_b (w:=w) (Nat.le_refl _) _ D _ (.deferred none) (by omega) hK' rfl rfl);refine⟨by simp,.inl ⟨_,_,rfl,run_takeDeferred hK',?_⟩⟩;refine⟨.tuple #[.string T,.int .i64 0],?_,⟨?_,Turn.of_below hbel⟩⟩
  ·simp[results,Tryz.f58,go_sem,c4,c5]
  ·rw[hT,HL.out];rfl
 case stop=>
  rintro D c pre W hD ⟨j,hj,rfl⟩ ⟨⟨rfl,ini,last,e1,e2,e3,hb4,hb5⟩,hbw⟩ hK
  gi_wp2
  obtain⟨j',rfl⟩:∃j',j=j'+1:=by
   cases j with
   |zero=>simp[upto]at e1
   |succ j'=>exact⟨j',rfl⟩
  rw[Qdp]at e1;obtain⟨rfl,e5⟩:=List.append_inj' e1 rfl;obtain rfl:fromEnd s.pend j'=last:=by simpa using e5
  have HL:=Qi6 s k j' (by omega) e3 (fun i hi=>e2 _ (by simp only[upto,List.mem_map,List.mem_range];exact⟨i,hi,rfl⟩));have c4:=cell_kept hb4.cell (grownBy_putObj' _ D (.deferred none)) (fun r e=>by cases e;exact⟨_,hK,rfl⟩);have c5:=cell_kept hb5.cell (grownBy_putObj' _ D (.deferred none)) (fun r e=>by cases e;exact⟨_,hK,rfl⟩);have hbel:=hbw.trans (belowK_b (w:=w) (Nat.le_refl _) W D _ (.deferred none) (by omega) hK rfl rfl);refine⟨by simp,.inl ⟨_,_,rfl,run_takeDeferred hK,?_⟩⟩;refine⟨.tuple #[.string (strOfNums (fromEnd s.pend j').2.2),.int .i64 0],?_,⟨by rw[HL],Turn.of_below hbel⟩⟩;simp[results,Tryz.f58,go_sem,c4,c5]
end Dv
namespace Dv
open Go.RowKit Bs
theorem QkT(l v:List Int)(h:v.length=l.length):spl l 0 v=v:=by
 unfold spl;rw[List.take_zero,List.nil_append,Nat.zero_add,List.drop_eq_nil_of_le (by omega),List.append_nil]
theorem Dev.relay{w w':World}{g b:Nat}{P:Value}{s:St}(h:Dev w g b P s)(k:Nat)(hk:k<s.blocks)(l:List Int)(hl:l.length=s.size)(hB:IsB l)(h1:Reg w' b (k*s.size) l)(ho:Out w w' b (k*s.size) s.size) :
  Dev w' g b P { s with dur:=s.dur.set k l }:=by
 obtain⟨c,hc,hm,hg⟩:=h.box;have hlt:=h.lt;have lo:=h.ok.lo;refine⟨⟨h.ok.lo,h.ok.hi,h.ok.by64,h.ok.blo,h.ok.bhi,by show(s.dur.set k l).length=s.blocks;rw[List.length_set];exact h.ok.dlen,Qcx h.ok.dblk k hl hB,h.ok.pblk,h.ok.flo,h.ok.fhi,h.ok.few,h.ok.olo⟩,⟨c,hc,hm,?_⟩,?_,?_,h.gb,h.pg,h.pb⟩
 ·rw[ho.turn.block g (hlt g (.inl rfl)) h.gb];exact hg
 ·exact h.reg.reblock (n:=s.size) (by omega) h.ok.dblk k (by rw[h.ok.dlen];exact hk) l hl hB h1 ho
 ·exact Qa3 h.row ho.turn (fun i hi e=>h.pb (by rw[hi,e]))
def St.mid(s:St)(k:Nat):St:={ s with dur:=laid s.dur (s.pend.take k) }
theorem St.mid_zero(s:St):s.mid 0=s:=by simp[St.mid,laid]
theorem St.Qks(s:St)(k:Nat)(hk:k<s.pend.length):s.mid (k+1)={ s.mid k with dur:=(s.mid k).dur.set (s.pend.getD k (0,[])).1 (s.pend.getD k (0,[])).2 }:=by
 have e:s.pend.getD k (0,[])=s.pend[k]:=by simp[List.getD,hk]
 unfold St.mid;rw[List.take_succ_eq_append_getElem hk,Qfi,e]
theorem QiP{g b:Nat}{P:Value}{s:St}{w w1 w2:World}(h1:Dev w2 g b P (s.burn.mid s.pend.length))(h0:¬s.fuse=0)(ho:s.ops<1000000)(hok:s.Ok)(t1:Turn w w1 (·=g))(t2:Turn w1 w2 (fp g b P)) :
  Wrote g b P s.flush w (.returned (.int .i64 0)) (w2.setCell ⟨g,3,none⟩ (.slice none 0 0)):=by
 have hfl:s.flush=(0,{ s.burn with dur:=laid s.dur s.pend,pend:=[] }):=by unfold St.flush;rw[if_neg h0]
 have ok:=hok.flush ho;rw[hfl]at ok ⊢;have t3:Turn w2 (w2.setCell ⟨g,3,none⟩ (.slice none 0 0)) (·=g):=Turn.setCell _ _ _ rfl;obtain⟨c,hc,hm,hg⟩:=h1.box;have hd:(s.burn.mid s.pend.length).dur=laid s.dur s.pend:=by
  show laid s.dur (s.pend.take s.pend.length)=_
  rw[List.take_length]
 refine⟨.slice none 0 0,rfl,?_,((t1.mono (fun _ _ e=>.inl e)).trans t2 (fun _ _ e=>e)).trans t3 (fun _ _ e=>.inl e),?_⟩
 ·refine h1.rebox t3 hc hm ?_ ok rfl rfl hd.symm (World.ownsRow_nil _ _ _ _) (by simp[Value.ownBlock]) (by simp[Value.ownBlock]);rw[heap_set hg]
  rfl
 ·rintro k (e|e|e)
  ·exact .inl (.inl e)
  ·exact .inl (.inr (.inl e))
  ·simp[Value.ownBlock]at e
theorem flush_any (g b:Nat) (P:Value) (s:St) (w:World) (h:Dev w g b P s) (ho:s.ops<1000000) :
    Calls Tryz.prog 94 #[.pointer (some ⟨g,0,none⟩)] w (Wrote g b P s.flush w):=by
  obtain⟨c,hc,hm,q0,q1,q2,q3,q4,q5,q6⟩:=h.cells
  have HV:=hid (Ql g w q6)
  by_cases h0:s.fuse=0
  · have HN:=hid (Qhh     g b P s w h h0)
    have HS:Hid (Wrote g b P s.flush w (.returned (.int .i64 8)) w):=hid (by unfold St.flush;rw[if_pos h0];exact Wrote.same h)
    clear h h0
    go_enter Tryz.func94,Tryz.ntmps94
    go_wp2_with fail
    refine HV.out.mono ?_
    rintro e w' ⟨rfl,rfl⟩
    go_wp2_with fail
    refine HN.out.mono ?_
    rintro e w' ⟨rfl,rfl⟩
    go_wp2
    go_ret
    exact HS.out
  · have HY := hid (QfK      g b P s w h h0 ho)
    have HO:=hid h.ok
    have hfew:=h.ok.few
    have HFE:=hid (fun w1 w2 h1 t1 t2=>QiP (g:=g) (b:=b) (P:=P) (w:=w) (w1:=w1) (w2:=w2) h1 h0 ho h.ok t1 t2)
    have HPL:=hid h.row
    rcases h.row.2 with ⟨rfl,hn0⟩|⟨p,pc,cur,rfl,_,_,hle,hcm,_⟩
    · have HN0:=hid hn0
      clear h h0 hn0
      go_enter Tryz.func94,Tryz.ntmps94
      go_wp2_with fail
      refine HV.out.mono ?_
      rintro e w' ⟨rfl,rfl⟩
      go_wp2_with fail
      refine HY.out.mono ?_
      rintro e w1 ⟨rfl,hd1,ht1⟩
      have p3:w1.cell? ⟨g,3,none⟩=some (.slice none 0 0):=by obtain⟨_,_,_,_,_,_,p3,_⟩:=hd1.cells;exact p3
      have f3:=hd1.free 3
      have HF:Hid (Wrote g b (.slice none 0 0) s.flush w (.returned (.int .i64 0)) (w1.setCell ⟨g,3,none⟩ (.slice none 0 0))):=hid (HFE.out w1 w1 (by rw[HN0.out,St.mid_zero];exact hd1) ht1 (Turn.refl _ _))
      clear hd1 ht1
      go_wp2
      refine wp_loop_rounds 1 ?_
      rw[rounds_succ]
      go_wp2
      go_ret
      exact HF.out
    · obtain ⟨n, hn⟩:∃n,n=s.pend.length:=⟨_,rfl⟩
      have HN:=hid hn
      rw[←hn]at hle hfew
      clear h h0
      go_enter Tryz.func94,Tryz.ntmps94
      go_wp2_with fail
      refine HV.out.mono ?_
      rintro e w' ⟨rfl,rfl⟩
      go_wp2_with fail
      refine HY.out.mono ?_
      rintro e w1 ⟨rfl,hd1,ht1⟩
      rw[←hn]at hd1
      have p3:w1.cell? ⟨g,3,none⟩=some (.slice (some ⟨p,0,none⟩) n pc):=by obtain⟨_,_,_,_,_,_,p3,_⟩:=hd1.cells;exact p3
      have HD1:=hid hd1
      have HT1:=hid ht1
      clear hd1 ht1 hn
      go_wp2
      go_loopw [16] (fun si wr=>∃k:Nat,k≤n∧si=.int .i64 (k:Int)∧Hid (Dev wr g b (.slice (some ⟨p,0,none⟩) n pc) (s.burn.mid k))∧Hid (Turn w1 wr (fp g b (.slice (some ⟨p,0,none⟩) n pc)))) (fun si _=>n-(intOf si).toNat)
      case atStart=>exact⟨0,Nat.zero_le _,rfl,by rw[St.mid_zero];exact HD1.out,Turn.refl _ _⟩
      case round =>
        obtain⟨k,hk,rfl,HR,HQ⟩:=hrel
        by_cases hlt:k<n
        · have hks : k<s.pend.length:=by have:=HN.out;omega
          have hq:s.pend.getD k (0,[])=s.pend[k]:=by simp[List.getD,hks]
          obtain⟨⟨x1,x2⟩,hqq⟩:∃q:Nat×List Int,s.pend.getD k (0,[])=q:=⟨_,rfl⟩
          have hpb:=HO.out.pblk _ (List.getElem_mem hks)
          rw[←hq,hqq]at hpb
          obtain⟨b1,b2,b3⟩:=hpb
          have hat:=QhG s.pend k hks
          rw[hqq,Nat.mul_comm]at hat
          have c0:wr.cell? ⟨p,k*2,none⟩=some (.int .i64 (x1:Int)):=by
            have:=HR.out.row.cells (g:=p) rfl (k*2) _ hat.1
            rwa [Addr.add_lit,Nat.zero_add]at this
          have c1:wr.cell? ⟨p,k*2+1,none⟩=some (.string (strOfNums x2)):=by
            have:=HR.out.row.cells (g:=p) rfl (k*2+1) _ hat.2
            rwa [Addr.add_lit,Nat.zero_add]at this
          have hms:=St.Qks s.burn k hks
          rw[show s.burn.pend.getD k (0,[])=(x1,x2) from hqq]at hms
          have HMS:=hid hms
          clear hms
          have HQQ:=hid hqq
          have hltb:=HR.out.lt b (.inr (.inl rfl))
          have hbk:(s.burn.mid k).blocks=s.blocks:=rfl
          have hsz:(s.burn.mid k).size=s.size:=rfl
          have hcur:=QdT HR.out.ok.dblk (b:=x1) (by rw[HR.out.ok.dlen];exact b1)
          have hreg:=HR.out.reg.block (n:=s.size) (by have:=HO.out.lo;omega) HR.out.ok.dblk x1 (by rw[HR.out.ok.dlen];exact b1)
          have HRA:Hid (∀O,Reg (wr.alloc O) b (x1*s.size) ((s.burn.mid k).dur.getD x1 [])):=hid (fun O=>hreg.turn (Turn.alloc wr O nowhere) id)
          have HDA:Hid (∀O m,Dev ((wr.alloc O).drewN m) g b (.slice (some ⟨p,0,none⟩) n pc) (s.burn.mid k)):=hid (fun O m=>HR.out.turn (Turn.trans (Turn.alloc wr O nowhere) (Turn.drewN _ m nowhere) (fun _ _ h=>h)) (fun _ _=>id))
          have HC1:=hid hcur.1
          obtain⟨cur,hcc⟩:∃cur,cur=(s.burn.mid k).dur.getD x1 []:=⟨_,rfl⟩
          rw[←hcc]at HRA HC1
          have HB2:=hid b2
          have HB3:=hid b3
          have HB1:=hid b1
          obtain⟨T,hT⟩:∃T,T=strOfNums x2:=⟨_,rfl⟩
          rw[←hT]at c1
          have HT:=hid hT
          have p0:(0:Int)≤(k:Int):=by omega
          have p1:(k:Int)<(n:Int):=by omega
          have hne:wr.heap.size≠b:=by omega
          clear hks hq hqq b1 b2 b3 hat hbk hsz hcur hreg hcc hT
          go_wp2
          go_region_held3 (fun w'=>w'.cell? ⟨wr.heap.size,0,none⟩=some (.int .i64 (x1:Int))∧w'.cell? ⟨wr.heap.size,1,none⟩=some (.string T)) (go_keep)
            (first
              | (go_at_call 98
                 (with_reducible refine(QiB g b (.slice (some ⟨p,0,none⟩) n pc) (s.burn.mid k) x1 _ ?hd ?hb).mono ?_)
                 case hd=>exact HDA.out _ 1
                 case hb=>exact HB1.out
                 rintro e w2 ⟨c',m,rfl,hc1,hc2,rfl⟩)
              | (refine QfC           (by rfl) (.tmp 23) (.tmp 25) (by rfl) b (x1*s.size) s.size c' (by rfl) cur x2 (by rw[HT.out];rfl) (by exact HRA.out _) HB3.out (by rw[HB2.out];exact Nat.le_refl _) (by rw[HB2.out,HC1.out];exact Nat.le_refl _) ?_
                 intro w3 hr3 ho3
                 have k0:=ho3.turn.cell (p:=⟨wr.heap.size,0,none⟩) (v:=.int .i64 (x1:Int)) (by simp[go_sem]) hne
                 have k1:=ho3.turn.cell (p:=⟨wr.heap.size,1,none⟩) (v:=.string T) (by simp[go_sem]) hne
                 have HD3:Hid (Dev w3 g b (.slice (some ⟨p,0,none⟩) n pc) (s.burn.mid (k+1))):=hid (by
                   have h1:=(HDA.out (.cells #[.int .i64 (x1:Int),.string T] 143) (1+m)).relay x1 HB1.out x2 HB2.out HB3.out (by rw[QkT cur x2 (HB2.out.trans HC1.out.symm)]at hr3;exact hr3) (by rw[HB2.out]at ho3;exact ho3)
                   rw[HMS.out]
                   exact h1)
                 have HT3:Hid (Turn w1 w3 (fp g b (.slice (some ⟨p,0,none⟩) n pc))):=hid (((HQ.out.trans (Turn.alloc wr _ nowhere) (fun _ _ e=>e.elim)).trans (Turn.drewN _ (1+m) nowhere) (fun _ _ e=>e.elim)).trans ho3.turn (fun _ _ e=>.inr (.inl e)))
                 clear hr3 ho3)
              |fail)
          go_wp2
          go_roundw
          case rel=>exact⟨k+1,by omega,by go_num,HD3.out,HT3.out⟩
          case measure=>simp[intOf];omega
        · obtain rfl:k=n:=by omega
          have hd:=HR.out
          have p3:wr.cell? ⟨g,3,none⟩=some (.slice (some ⟨p,0,none⟩) k pc):=by obtain⟨_,_,_,_,_,_,p3,_⟩:=hd.cells;exact p3
          have f3:=hd.free 3
          have HF:=hid (HFE.out w1 wr (by rw[←HN.out];exact hd) HT1.out (by rw[←HN.out];exact HQ.out))
          clear hd
          go_wp2
          go_ret
          rw[←HN.out]at HF
          exact HF.out
end Dv
end Go.Proofs.YtgffbbdcbkikhaaGreatDoor
