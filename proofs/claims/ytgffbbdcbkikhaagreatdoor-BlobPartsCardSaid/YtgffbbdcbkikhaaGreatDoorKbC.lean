/- Parts of the proof. -/
import Derived.Test.YtgffbbdcbkikhaaGreatDoorRows
import Derived.WalkLawsBesides
import Derived.BigQuiet
import Derived.Lib.Hide
import Derived.Laws.AppendOwnNone
import Derived.Laws.CopyOwn
import Derived.Deep.Slices
import Derived.Lib.SlBytesConst
import Derived.Test.YtgffbbdcbkikhaaGreatDoorKbA
set_option maxRecDepth 100000
set_option maxHeartbeats 8000000
namespace Go.Proofs.YtgffbbdcbkikhaaGreatDoor
namespace Bs
open Go.RowKit
def IsB(l:List Int):Prop:=∀x∈l,0≤x∧x<256
structure Seg (w:World) (a:Option Addr) (n c:Nat) (l:List Int):Prop where
 len:l.length=n
 le:n≤c
 cap:c≤maxLen
 nil_:a=none→n=0∧c=0
 at_:∀ad,a=some ad→∀j u,(l.map (Value.int .u8))[j]?=some u→w.cell? (ad.add j)=some u
theorem Seg.nil(w:World):Seg w none 0 0 []:=⟨rfl,Nat.le_refl _,by unfold maxLen;omega,fun _=>⟨rfl,rfl⟩,fun _ h=>by cases h⟩
theorem Seg.own{w:World}{base e g n c:Nat}{l:List Int}(h:w.ownsRow base e 1 (.slice (some ⟨g,0,none⟩) n c) n (l.map (Value.int .u8))):Seg w (some ⟨g,0,none⟩) n c l:=by
 have hl:l.length=n:=by simpa using h.1
 refine⟨hl,?_,?_,fun e=>by(cases e),?_⟩
 ·rcases h.2 with ⟨e,_⟩|⟨g',cap,cur,e,_,_,h1,h2,_⟩
  ·cases e
  ·cases e;exact h1
 ·rcases h.2 with ⟨e,_⟩|⟨g',cap,cur,e,_,_,h1,h2,_⟩
  ·cases e
  ·cases e;exact h2
 ·intro ad had j u hu;cases had
  exact h.cells rfl j u hu
theorem Seg.kept{w w':World}{a:Option Addr}{n c:Nat}{l:List Int}(h:Seg w a n c l){row:Option Nat}(hg:w.grownBy w' row)(hne:∀ad,a=some ad→row≠some ad.block):Seg w' a n c l:=by
 refine⟨h.len,h.le,h.cap,h.nil_,fun ad had j u hu=>hg.cell (h.at_ ad had j u hu) ?_⟩;intro e;have:(ad.add j).block=ad.block:=by unfold Addr.add;split <;> rfl
 rw[this]at e;exact hne ad had e.symm
theorem Seg.grown{w w':World}{a:Option Addr}{n c:Nat}{l:List Int}(h:Seg w a n c l)(hg:w.grownBy w' none):Seg w' a n c l:=h.kept hg (fun _ _ e=>by cases e)
theorem Seg.addr{w:World}{a:Option Addr}{n c:Nat}{l:List Int}(h:Seg w a n c l)(hn:0<n):∃g o,a=some ⟨g,o,none⟩∧∀j,j<n→w.cell? ⟨g,o+j,none⟩=some (.int .u8 (l.getD j 0)):=by
 have hl:=h.len;cases a with
 |none=>have:=h.nil_ rfl;omega
 |some ad=>
  have hc:=h.at_ ad rfl;obtain⟨g,o,spot⟩:=ad;have h0:=hc 0 (.int .u8 (l.getD 0 0)) (by simp[List.getD];rw[List.getElem?_eq_getElem (by omega)];rfl);have hspot:spot=none:=by simpa [Addr.add] using World.cell?_spot h0
  subst hspot;refine⟨g,o,rfl,fun j hj=>?_⟩;have h1:=hc j (.int .u8 (l.getD j 0)) (by simp[List.getD];rw[List.getElem?_eq_getElem (by omega)];rfl);rw[Addr.add_lit]at h1;exact h1
theorem Seg.take{w:World}{a:Option Addr}{n c m:Nat}{l:List Int}(h:Seg w a n c l)(hm:m≤n):Seg w a m c (l.take m):=by
 refine⟨by rw[List.length_take,h.len];omega,Nat.le_trans hm h.le,h.cap,fun e=>⟨by have:=(h.nil_ e).1;omega,(h.nil_ e).2⟩,fun ad had j u hu=>h.at_ ad had j u ?_⟩;rw[List.map_take]at hu;have hj:j<m:=by
  have:=(List.getElem?_eq_some_iff.1 hu).1;rw[List.length_take]at this;omega
 rwa [List.getElem?_take_of_lt hj]at hu
theorem Seg.drop{w:World}{g o n c k:Nat}{l:List Int}(h:Seg w (some ⟨g,o,none⟩) n c l)(hk:k≤n):Seg w (some ⟨g,o+k,none⟩) (n-k) (c-k) (l.drop k):=by
 refine⟨by rw[List.length_drop,h.len],by have:=h.le;omega,by have:=h.cap;omega,(fun e=>by cases e),fun ad had j u hu=>?_⟩;cases had
 rw[List.map_drop,List.getElem?_drop]at hu;have h1:=h.at_ _ rfl (k+j) u hu;rw[Addr.add_lit]at h1 ⊢;rw[Nat.add_assoc];exact h1
theorem Seg.empty(w:World)(x:Addr)(c:Nat)(hc:c≤maxLen):Seg w (some x) 0 c []:=⟨rfl,Nat.zero_le _,hc,(fun e=>by cases e),fun _ _ j u hu=>by simp at hu⟩
theorem Qq{k:IntKind}{a b:Int}(h:a=b):Ending.returned (.int k a)=.returned (.int k b):=by rw[h]
theorem QaA{a b:Bool}(h:a=b):Ending.returned (.bool a)=.returned (.bool b):=by rw[h]
theorem QU:(Tryz.prog.info? 5).map (fun i=>(i.zero,i.size,i.bytes))=some (some (.int .u8 0),1,1):=by kernel_rfl
def NewB(w:World)(l:List Int)(e:Ending)(w':World):Prop:=
 ∃g,e=.returned (.slice (some ⟨g,0,none⟩) l.length l.length)∧w'.ownsRow w.heap.size 5 1 (.slice (some ⟨g,0,none⟩) l.length l.length) l.length (l.map (Value.int .u8))∧w.grownBy w' none
theorem grownBy_trans{a b c:World}{r:Option Nat}(h:a.grownBy b none)(k:b.grownBy c r)(hr:∀i,r=some i→a.heap.size≤i):a.grownBy c none:=
 ⟨k.os.trans h.os,k.tape.trans h.tape,k.output.trans h.output,Nat.le_trans h.size k.size,fun i hi _=>(k.block i (Nat.lt_of_lt_of_le hi h.size) (fun e=>by have:=hr i e.symm;omega)).trans (h.block i hi (by simp))⟩
theorem QA{w:World}{b b' e s:Nat}{v:Value}{n:Nat}{xs:List Value}(h:w.ownsRow b e s v n xs)(hb:b'≤b):w.ownsRow b' e s v n xs:=by
 refine⟨h.1,?_⟩;rcases h.2 with h2|⟨g,cap,cur,h3,h4,h5⟩
 ·exact .inl h2
 ·exact .inr ⟨g,cap,cur,h3,by omega,h5⟩
theorem below_drewN{B:Nat}{a w:World}(m:Nat)(h:Below B a w):Below B a (w.drewN m):=⟨h.os,h.tape,h.output,h.size,h.block⟩
theorem QfD{P:Program}{w:World}{o:Oper}{a:Act}{K:Act→World→Prop}{Q:Exit→Act→World→Prop}(s x:Operand)(t:TypeId)
  (ho:o.op=.call { callee:=.builtin .append,args:=#[s,x],argTypes:=#[t,t] }) (base:Nat) (e:TypeId) (i:TypeInfo) (ht:P.underlying t=some (.slice e)) (hi:P.info? e=some i) (hz:i.zero=some (.int .u8 0)) (hsize:i.size=1) (hby:i.bytes=1)
  (g n0 c0:Nat) (xs:List Value) (hs:a.eval s=.slice (some ⟨g,0,none⟩) n0 c0) (hown:w.ownsRow base e 1 (.slice (some ⟨g,0,none⟩) n0 c0) n0 xs)
  (sp:Option Addr) (n c:Nat) (l:List Int) (hx:a.eval x=.slice sp n c) (hseg:Seg w sp n c l) (hbytes:n0+n≤140737488355328) (hbase:base≤w.heap.size)
  (h:∀g' c' w',w'.ownsRow base e 1 (.slice (some ⟨g',0,none⟩) (n0+n) c') (n0+n) (xs++l.map (Value.int .u8))→w.grownBy w' (some g)→K (a.put o.dst (.slice (some ⟨g',0,none⟩) (n0+n) c')) w'):o.wp P a w K Q:=by
 cases sp with
 |none=>
  obtain⟨rfl,rfl⟩:=hseg.nil_ rfl;obtain rfl:=List.eq_nil_of_length_eq_zero hseg.len;have hrun:=run_append_owned_none (P:=P) (w:=w) base t o.type e i 1 ht hi _ n0 xs hown;unfold Oper.wp;simp[execOp,ho,resolve,invoke,builtin,hs,hx,hrun,Result.andThen];exact h g c0 w (by simpa using hown) ⟨rfl,rfl,rfl,Nat.le_refl _,fun _ _ _=>rfl⟩
 |some ad=>
  refine wp_append_own w s x t ho base e i (.int .u8 0) 1 1 ht hi hz hsize hby rfl (by decide) _ n0 xs hs hown ad n c (l.map (Value.int .u8)) hx (by simp[hseg.len]) (hseg.at_ ad rfl) (ints_oneCell _ _) (by unfold maxLen;omega) (by omega) hbase ?_;intro v' w1 hown1 hg1 hnil;rcases hown1.2 with ⟨e1,_⟩|⟨g',c',cur,e1,_⟩
  ·exact absurd (hnil.1 e1).1 (by simp)
  ·subst e1;exact h g' c' w1 hown1 hg1
theorem QaT{P:Program}{w:World}{ops:Array Oper}{rest:List Oper}{o:Oper}{a:Act}{Q:Exit→Act→World→Prop}(hgd:o.guard=none)(s x:Operand)(t:TypeId)
  (ho:o.op=.call { callee:=.builtin .append,args:=#[s,x],argTypes:=#[t,t] }) (base:Nat) (e:TypeId) (i:TypeInfo) (ht:P.underlying t=some (.slice e)) (hi:P.info? e=some i) (hz:i.zero=some (.int .u8 0)) (hsize:i.size=1) (hby:i.bytes=1)
  (g n0 c0:Nat) (xs:List Value) (hs:a.eval s=.slice (some ⟨g,0,none⟩) n0 c0) (hown:w.ownsRow base e 1 (.slice (some ⟨g,0,none⟩) n0 c0) n0 xs)
  (sp:Option Addr) (n c:Nat) (l:List Int) (hx:a.eval x=.slice sp n c) (hseg:Seg w sp n c l) (hbytes:n0+n≤140737488355328) (hbase:base≤w.heap.size)
  (h:∀g' c' w',w'.ownsRow base e 1 (.slice (some ⟨g',0,none⟩) (n0+n) c') (n0+n) (xs++l.map (Value.int .u8))→w.grownBy w' (some g)→wpList P ops Q rest (a.put o.dst (.slice (some ⟨g',0,none⟩) (n0+n) c')) w'):wpList P ops Q (o :: rest) a w:=
 wpList_plain hgd fun _ hK=>QfD s x t ho base e i ht hi hz hsize hby g n0 c0 xs hs hown sp n c l hx hseg hbytes hbase fun g' c' w' h1 h2=>hK _ _ (h g' c' w' h1 h2)
theorem QiZ(l:List Int)(h:(l.all fun x=>decide (0≤x) && decide (x<256))=true):IsB l:=by
 intro x hx;have:=List.all_eq_true.1 h x hx
 simpa using this
end Bs
namespace Sp
theorem Qgc(r:Nat→Nat){k:Nat}:∀{l:List Nat},k∈l→r k≤(l.map r).sum
 |a :: l,h=>by
  rw[List.map_cons,List.sum_cons];rcases List.mem_cons.1 h with rfl|h
  ·omega
  ·have:=Qgc r h;omega
def inS(kids:Nat→List Nat)(d:Nat→Nat)(n:Nat):Nat→Nat
 |0=>0
 |K+1=>inS kids d n K+if 0<d K then(kids K).count n else 0
def upd{α:Type}(f:Nat→α)(x:Nat)(v:α):Nat→α:=fun n=>if n=x then v else f n
theorem upd_same{α:Type}(f:Nat→α)(x:Nat)(v:α):upd f x v x=v:=if_pos rfl
theorem upd_ne{α:Type}(f:Nat→α){x n:Nat}(v:α)(h:n≠x):upd f x v n=f n:=if_neg h
theorem Qbo{kids kids2:Nat→List Nat}{d d2:Nat→Nat}(n:Nat):∀K,(∀m,m<K→(0<d m↔0<d2 m)∧(0<d m→kids m=kids2 m))→inS kids d n K=inS kids2 d2 n K
 |0,_=>rfl
 |K+1,h=>by
  obtain⟨h1,h2⟩:=h K (by omega);rw[inS,inS,Qbo n K (fun m hm=>h m (by omega))];by_cases e:0<d K
  ·rw[if_pos e,if_pos (h1.1 e),h2 e]
  ·rw[if_neg e,if_neg (fun q=>e (h1.2 q))]
theorem QcM{kids kids2:Nat→List Nat}{d d2:Nat→Nat}(n x:Nat):∀K,x<K→(∀m,m<K→m≠x→(0<d m↔0<d2 m)∧(0<d m→kids m=kids2 m)) →
  inS kids2 d2 n K+(if 0<d x then(kids x).count n else 0)=inS kids d n K+(if 0<d2 x then(kids2 x).count n else 0)
 |0,h,_=>by omega
 |K+1,hx,h=>by
  rw[inS,inS];by_cases e:x=K
  ·subst e;rw[Qbo n x (fun m hm=>h m (by omega) (by omega))];omega
  ·have ih:=QcM n x K (by omega) (fun m hm hne=>h m (by omega) hne);obtain⟨h1,h2⟩:=h K (by omega) (fun q=>e q.symm);have e2:(if 0<d K then(kids K).count n else 0)=if 0<d2 K then(kids2 K).count n else 0:=by
    by_cases q:0<d K
    ·rw[if_pos q,if_pos (h1.1 q),h2 q]
    ·rw[if_neg q,if_neg (fun z=>q (h1.2 z))]
   omega
theorem Qhl{kids:Nat→List Nat}{d:Nat→Nat}{n m:Nat}(hd:0<d m)(hn:n∈kids m):∀K,m<K→0<inS kids d n K
 |0,h=>by omega
 |K+1,h=>by
  rw[inS];by_cases e:m=K
  ·subst e;rw[if_pos hd];have:=List.count_pos_iff.2 hn;omega
  ·have:=Qhl hd hn K (by omega);omega
structure RefOk (K:Nat) (kids:Nat→List Nat) (own:List Nat) (d:Nat→Nat):Prop where
 sup:∀n,K≤n→d n=0
 eq:∀n,d n=own.count n+inS kids d n K
 rank:∃r:Nat→Nat,∀m,0<d m→∀k∈kids m,r k<r m
section
variable {K : Nat} {kids kids2 : Nat → List Nat} {own own2 : List Nat} {d d2 : Nat → Nat}
theorem RefOk.lt(h:RefOk K kids own d){n:Nat}(hn:0<d n):n<K:=by
 by_cases e:n<K
 ·exact e
 ·have:=h.sup n (by omega);omega
theorem RefOk.live(h:RefOk K kids own d){m n:Nat}(hm:0<d m)(hn:n∈kids m):0<d n:=by
 have:=Qhl hm hn K (h.lt hm);have:=h.eq n;omega
theorem RefOk.Qaz(h:RefOk K kids own d){n:Nat}(hn:n∈own):0<d n:=by
 have:=List.count_pos_iff.2 hn;have:=h.eq n;omega
theorem RefOk.free(h:RefOk K kids own d){n:Nat}(hn:d n=0):n∉own∧∀m,0<d m→n∉kids m:=⟨fun q=>by have:=h.Qaz q;omega,fun m hm q=>by have:=h.live hm q;omega⟩
theorem RefOk.none(K:Nat)(kids:Nat→List Nat):RefOk K kids [] (fun _=>0):=by
 refine⟨fun _ _=>rfl,fun n=>?_,⟨fun _=>0,fun m hm=>absurd hm (by decide)⟩⟩;have:∀K,inS kids (fun _=>0) n K=0:=fun K=>by
  induction K with
  |zero=>rfl
  |succ K ih=>rw[inS,ih,if_neg (by decide)]
 rw[this,List.count_nil]
theorem RefOk.perm(h:RefOk K kids own d)(hp:∀n,own2.count n=own.count n):RefOk K kids own2 d:=⟨h.sup,fun n=>by rw[hp];exact h.eq n,h.rank⟩
theorem RefOk.kept(h:RefOk K kids own d)(hk:∀m,0<d m→kids m=kids2 m):RefOk K kids2 own d:=by
 refine⟨h.sup,fun n=>?_,?_⟩
 ·rw[h.eq n,Qbo n K (fun m _=>⟨Iff.rfl,hk m⟩)]
 ·obtain⟨r,hr⟩:=h.rank;exact⟨r,fun m hm k q=>hr m hm k (by rw[hk m hm];exact q)⟩
theorem count_one(a n:Nat):[a].count n=if n=a then 1 else 0:=by
 rw[List.count_singleton];by_cases e:n=a
 ·rw[if_pos e,if_pos (by simp[e])]
 ·rw[if_neg e,if_neg (by simpa using fun q=>e q.symm)]
theorem RefOk.put{a ks:List Nat}(h:RefOk K kids (a++ks) d){x:Nat}(hx:x<K)(h0:d x=0):RefOk K (upd kids x ks) (a++[x]) (upd d x 1):=by
 obtain⟨f1,f2⟩:=h.free h0;have hone:∀m,m≠x→(0<d m↔0<upd d x 1 m)∧(0<d m→kids m=upd kids x ks m):=fun m hm=>by rw[upd_ne _ _ hm,upd_ne _ _ hm];exact⟨Iff.rfl,fun _=>rfl⟩
 refine⟨fun n hn=>by rw[upd_ne _ _ (by omega)];exact h.sup n hn,fun n=>?_,?_⟩
 ·have ht:=QcM (kids:=kids) (kids2:=upd kids x ks) (d:=d) (d2:=upd d x 1) n x K hx (fun m _ hm=>hone m hm);have he:=h.eq n;rw[upd_same,upd_same,if_neg (by omega),if_pos (by decide)]at ht;rw[List.count_append]at he;rw[List.count_append,count_one];by_cases e:n=x
  ·subst e;rw[upd_same,if_pos rfl];omega
  ·rw[upd_ne _ _ e,if_neg e];omega
 ·obtain⟨r,hr⟩:=h.rank;refine⟨upd r x ((ks.map r).sum+1),fun m hm k hk=>?_⟩;by_cases e:m=x
  ·subst e;rw[upd_same]at hk ⊢;have hkx:k≠m:=fun q=>f1 (List.mem_append_right _ (q▸hk))
   rw[upd_ne _ _ hkx];have:r k≤(ks.map r).sum:=Qgc r hk;omega
  ·rw[upd_ne _ _ e]at hm;rw[upd_ne _ _ e]at hk ⊢;have hkx:k≠x:=fun q=>f2 m hm (q▸hk)
   rw[upd_ne _ _ hkx];exact hr m hm k hk
theorem RefOk.share(h:RefOk K kids own d){x:Nat}(hx:0<d x):RefOk K kids (x :: own) (upd d x (d x+1)):=by
 have hone:∀m,(0<d m↔0<upd d x (d x+1) m):=fun m=>by
  by_cases e:m=x
  ·subst e;rw[upd_same];omega
  ·rw[upd_ne _ _ e]
 refine⟨fun n hn=>by rw[upd_ne _ _ (fun q=>by have:=h.lt hx;omega)];exact h.sup n hn,fun n=>?_,?_⟩
 ·rw[←Qbo n K (fun m _=>⟨hone m,fun _=>rfl⟩),List.count_cons];have he:=h.eq n;by_cases e:n=x
  ·subst e;rw[upd_same,if_pos (by simp)];omega
  ·rw[upd_ne _ _ e,if_neg (by simpa using fun q=>e q.symm)];omega
 ·obtain⟨r,hr⟩:=h.rank;exact⟨r,fun m hm=>hr m ((hone m).2 hm)⟩
theorem RefOk.less{x:Nat}(h:RefOk K kids (x :: own) d)(hx:1<d x):RefOk K kids own (upd d x (d x-1)):=by
 have hone:∀m,(0<d m↔0<upd d x (d x-1) m):=fun m=>by
  by_cases e:m=x
  ·subst e;rw[upd_same];omega
  ·rw[upd_ne _ _ e]
 refine⟨fun n hn=>by rw[upd_ne _ _ (fun q=>by have:=h.lt (show 0<d x by omega);omega)];exact h.sup n hn,fun n=>?_,?_⟩
 ·rw[←Qbo n K (fun m _=>⟨hone m,fun _=>rfl⟩)];have he:=h.eq n;rw[List.count_cons]at he;by_cases e:n=x
  ·subst e;rw[if_pos (by simp)]at he;rw[upd_same];omega
  ·rw[if_neg (by simpa using fun q=>e q.symm)]at he;rw[upd_ne _ _ e];omega
 ·obtain⟨r,hr⟩:=h.rank;exact⟨r,fun m hm=>hr m ((hone m).2 hm)⟩
theorem RefOk.last{x:Nat}(h:RefOk K kids (x :: own) d)(hx:d x=1):RefOk K kids (kids x++own) (upd d x 0):=by
 have hone:∀m,m≠x→(0<d m↔0<upd d x 0 m)∧(0<d m→kids m=kids m):=fun m hm=>by rw[upd_ne _ _ hm];exact⟨Iff.rfl,fun _=>rfl⟩
 have hlt:=h.lt (show 0<d x by omega);obtain⟨r,hr⟩:=h.rank;have hself:(kids x).count x=0:=List.count_eq_zero.2 fun q=>by have:=hr x (by omega) x q;omega
 refine⟨fun n hn=>by rw[upd_ne _ _ (by omega)];exact h.sup n hn,fun n=>?_,⟨r,fun m hm k hk=>?_⟩⟩
 ·have ht:=QcM (kids:=kids) (kids2:=kids) (d:=d) (d2:=upd d x 0) n x K hlt (fun m _ hm=>hone m hm);have he:=h.eq n;rw[upd_same,if_pos (show 0<d x by omega),if_neg (show ¬0<0 by decide)]at ht;rw[List.count_cons]at he;rw[List.count_append];by_cases e:n=x
  ·subst e;rw[if_pos (by simp)]at he;rw[upd_same];omega
  ·rw[if_neg (by simpa using fun q=>e q.symm)]at he;rw[upd_ne _ _ e];omega
 ·by_cases e:m=x
  ·subst e;rw[upd_same]at hm;omega
  ·rw[upd_ne _ _ e]at hm;exact hr m hm k hk
theorem RefOk.one{L:Nat→Prop}(h:RefOk K kids own d)(k:RefOk K kids own d2){r:Nat→Nat}(hr:∀m,L m→∀j∈kids m,r j<r m)(h1:∀m,0<d m→L m)(h2:∀m,0<d2 m→L m):∀n,d n=d2 n:=by
 -- from the greatest rank down
 have hb:∃B,∀m,m<K→r m≤B:=by
  have:∀j,∃B,∀m,m<j→r m≤B:=fun j=>by
   induction j with
   |zero=>exact⟨0,fun m hm=>by omega⟩
   |succ j ih=>
    obtain⟨B,hB⟩:=ih;refine⟨max B (r j),fun m hm=>?_⟩;by_cases e:m=j
    ·subst e;exact Nat.le_max_right _ _
    ·exact Nat.le_trans (hB m (by omega)) (Nat.le_max_left _ _)
  exact this K
 obtain⟨B,hB⟩:=hb;have step:∀t,∀n,n<K→B-r n<t→d n=d2 n:=by
  intro t
  induction t with
  |zero=>intro n _ h;omega
  |succ t ih=>
   intro n hn ht;rw[h.eq n,k.eq n];have:∀j,j≤K→inS kids d n j=inS kids d2 n j:=fun j=>by
    induction j with
    |zero=>intro _;rfl
    |succ j ihj=>
     intro hj;rw[inS,inS,ihj (by omega)];by_cases q:n∈kids j
     ·by_cases lj:L j
      ·have:=hr j lj n q;have hbn:=hB j (by omega);rw[ih j (by omega) (by omega)]
      ·rw[if_neg (fun z=>lj (h1 j z)),if_neg (fun z=>lj (h2 j z))]
     ·rw[List.count_eq_zero.2 q];simp
   rw[this K (Nat.le_refl _)]
 intro n;by_cases hn:n<K
 ·exact step (B-r n+1) n hn (by omega)
 ·rw[h.sup n (by omega),k.sup n (by omega)]
structure WalkI (K:Nat) (kids:Nat→List Nat) (own pend:List Nat) (out:Nat→Nat):Prop where
 sup:∀n,K≤n→out n=0
 eq:∀n,out n+pend.count n=own.count n+inS kids out n K
theorem WalkI.start(K:Nat)(kids:Nat→List Nat)(own:List Nat):WalkI K kids own own (fun _=>0):=by
 refine⟨fun _ _=>rfl,fun n=>?_⟩;have:∀K,inS kids (fun _=>0) n K=0:=fun K=>by
  induction K with
  |zero=>rfl
  |succ K ih=>rw[inS,ih,if_neg (by decide)]
 rw[this];omega
theorem WalkI.more{x:Nat}{pend:List Nat}{out:Nat→Nat}(h:WalkI K kids own (x :: pend) out)(hx:x<K)(h0:0<out x):WalkI K kids own pend (upd out x (out x+1)):=by
 have hone:∀m,(0<out m↔0<upd out x (out x+1) m):=fun m=>by
  by_cases e:m=x
  ·subst e;rw[upd_same];omega
  ·rw[upd_ne _ _ e]
 refine⟨fun n hn=>by rw[upd_ne _ _ (by omega)];exact h.sup n hn,fun n=>?_⟩;rw[←Qbo n K (fun m _=>⟨hone m,fun _=>rfl⟩)];have he:=h.eq n;rw[List.count_cons]at he;by_cases e:n=x
 ·subst e;rw[if_pos (by simp)]at he;rw[upd_same];omega
 ·rw[if_neg (by simpa using fun q=>e q.symm)]at he;rw[upd_ne _ _ e];omega
theorem WalkI.first{x:Nat}{pend:List Nat}{out:Nat→Nat}(h:WalkI K kids own (x :: pend) out)(hx:x<K)(h0:out x=0):WalkI K kids own (kids x++pend) (upd out x 1):=by
 refine⟨fun n hn=>by rw[upd_ne _ _ (by omega)];exact h.sup n hn,fun n=>?_⟩;have ht:=QcM (kids:=kids) (kids2:=kids) (d:=out) (d2:=upd out x 1) n x K hx (fun m _ hm=>by rw[upd_ne _ _ hm];exact⟨Iff.rfl,fun _=>rfl⟩);rw[upd_same,if_neg (by omega),if_pos (by decide)]at ht;have he:=h.eq n;rw[List.count_cons]at he;rw[List.count_append];by_cases e:n=x
 ·subst e;rw[if_pos (by simp)]at he;rw[upd_same];omega
 ·rw[if_neg (by simpa using fun q=>e q.symm)]at he;rw[upd_ne _ _ e];omega
theorem WalkI.sub(h:RefOk K kids own d):∀{pend:List Nat} {out:Nat→Nat},WalkI K kids own pend out→(∀m,0<out m→0<d m)→∀n,out n+pend.count n≤d n:=fun {pend out} k hs n=>by
 have h1:=h.eq n;have h2:=k.eq n;have h3:∀j,inS kids out n j≤inS kids d n j:=fun j=>by
  induction j with
  |zero=>exact Nat.le_refl _
  |succ j ih=>
   rw[inS,inS];by_cases q:0<out j
   ·rw[if_pos q,if_pos (hs j q)];omega
   ·rw[if_neg q];omega
 have:=h3 K;omega
theorem WalkI.done(h:RefOk K kids own d){out:Nat→Nat}(k:WalkI K kids own [] out)(hs:∀m,0<out m→0<d m):∀n,out n=d n:=by
 obtain⟨r,hr⟩:=h.rank;have k2:RefOk K kids own out:=⟨k.sup,fun n=>by have:=k.eq n;rw[List.count_nil]at this;omega,⟨r,fun m hm=>hr m (hs m hm)⟩⟩;exact k2.one h (L:=fun m=>0<d m) hr hs (fun _ q=>q)
end
end Sp
namespace Dv
open Go.RowKit Bs
theorem Qbl(a b:List Int):strOfNums a++strOfNums b=strOfNums (a++b):=by
 apply ByteArray.ext
 simp[strOfNums,ByteArray.data_append]
theorem str_of(s:ByteArray):∃l,IsB l∧s=strOfNums l:=by
 refine⟨s.data.toList.map fun b=>(b.toNat:Int),?_,?_⟩
 ·intro x hx;obtain⟨b,_,rfl⟩:=List.mem_map.1 hx;have:=b.toNat_lt;omega
 ·apply ByteArray.ext
  apply Array.ext'
  simp only[strOfNums,List.map_map];have e:((fun n:Int=>UInt8.ofNat n.toNat) ∘ fun b:UInt8=>(b.toNat:Int))=id:=by
   funext b
   simp
  rw[e,List.map_id]
theorem QgJ(l:List Int)(h:IsB l):(strOfNums l).data.toList.map (fun b=>Value.int .u8 (b.toNat:Int))=l.map (Value.int .u8):=by
 rw[strOfNums_data,List.map_map];apply List.map_congr_left
 intro x hx;have:=h x hx;simp only[Function.comp,UInt8.toNat_ofNat']
 congr 1
 omega
theorem QdL(l:List Int)(a b:Nat):(strOfNums l).extract a b=strOfNums ((l.drop a).take (b-a)):=by
 apply ByteArray.ext
 apply Array.ext'
 simp[strOfNums,ByteArray.data_extract,List.map_drop,List.map_take]
theorem Qh8{a b:List Int}(ha:IsB a)(hb:IsB b):IsB (a++b):=fun x hx=>(List.mem_append.1 hx).elim (ha x) (hb x)
theorem Qay{l:List Int}(h:IsB l)(n:Nat):IsB (l.take n):=fun x hx=>h x (List.mem_of_mem_take hx)
theorem Qae{l:List Int}(h:IsB l)(n:Nat):IsB (l.drop n):=fun x hx=>h x (List.mem_of_mem_drop hx)
theorem QeK(n:Nat)(x:Int)(h:0≤x∧x<256):IsB (List.replicate n x):=fun y hy=>by rw[List.eq_of_mem_replicate hy];exact h
def geoB(size blocks:Int):Bool:=decide (128≤size∧size≤4096∧size % 64=0∧8≤blocks∧blocks≤4096)
def geoE(size blocks:Int):Int:=if geoB size blocks=true then 0 else 2
theorem QdS{size blocks:Int}(h:128≤size∧size≤4096∧size % 64=0∧8≤blocks∧blocks≤4096):geoE size blocks=0:=if_pos (decide_eq_true h)
theorem Qbc{size blocks:Int}(h:¬(128≤size∧size≤4096∧size % 64=0∧8≤blocks∧blocks≤4096)):geoE size blocks=2:=if_neg (by unfold geoB;rw[decide_eq_false h];decide)
def IsD(n:Nat)(d:List (List Int)):Prop:=∀l∈d,l.length=n∧IsB l
theorem Qj6(n:Nat)(d:List (List Int))(h:IsD n d):d.flatten.length=n*d.length:=by
 induction d with
 |nil=>simp
 |cons x d ih=>
  rw[List.flatten_cons,List.length_append,ih (fun l hl=>h l (by simp[hl])),(h x (by simp)).1,List.length_cons,Nat.mul_add];omega
theorem flat_get(n:Nat)(hn:0<n)(d:List (List Int))(h:IsD n d):∀j,d.flatten[j]?=(d[j / n]?).bind (·[j % n]?):=by
 induction d with
 |nil=>intro j;simp
 |cons x d ih=>
  intro j;have hx:=(h x (by simp)).1;rw[List.flatten_cons];by_cases hj:j<n
  ·rw[List.getElem?_append_left (by omega),Nat.div_eq_of_lt hj,Nat.mod_eq_of_lt hj]
   rfl
  ·rw[List.getElem?_append_right (by omega),hx,ih (fun l hl=>h l (by simp[hl]))];have e1:j / n=(j-n) / n+1:=by
    have:=Nat.add_div_right (j-n) hn;rw[Nat.sub_add_cancel (by omega)]at this;exact this
   have e2:j % n=(j-n) % n:=by
    have:=Nat.add_mod_right (j-n) n;rw[Nat.sub_add_cancel (by omega)]at this;exact this
   rw[e1,e2,List.getElem?_cons_succ]
theorem Qcx{n:Nat}{d:List (List Int)}(h:IsD n d)(b:Nat){l:List Int}(hl:l.length=n)(hb:IsB l):IsD n (d.set b l):=by
 intro x hx;rcases List.mem_or_eq_of_mem_set hx with h1|h1
 ·exact h x h1
 ·rw[h1];exact⟨hl,hb⟩
theorem Qj7(n:Nat)(hn:0<n)(d:List (List Int))(h:IsD n d)(b:Nat)(hb:b<d.length)(l:List Int)(hl:l.length=n)(hB:IsB l)(j:Nat) :
  (d.set b l).flatten[j]?=if j / n=b then l[j % n]? else d.flatten[j]?:=by
 rw[flat_get n hn _ (Qcx h b hl hB),flat_get n hn d h];by_cases e:j / n=b
 ·rw[if_pos e,e,List.getElem?_set_self hb]
  rfl
 ·rw[if_neg e,List.getElem?_set_ne (Ne.symm e)]
theorem QhZ(n:Nat)(hn:0<n)(d:List (List Int))(h:IsD n d)(b:Nat)(hb:b<d.length)(j:Nat)(hj:j<n):d.flatten[b*n+j]?=(d[b]'hb)[j]?:=by
 rw[flat_get n hn d h];have e1:(b*n+j) / n=b:=by rw[Nat.mul_comm,Nat.mul_add_div hn,Nat.div_eq_of_lt hj,Nat.add_zero]
 have e2:(b*n+j) % n=j:=by rw[Nat.mul_comm,Nat.mul_add_mod,Nat.mod_eq_of_lt hj]
 rw[e1,e2,List.getElem?_eq_getElem hb]
 rfl
theorem QdT{n:Nat}{d:List (List Int)}(h:IsD n d){b:Nat}(hb:b<d.length):(d.getD b []).length=n∧IsB (d.getD b []):=by
 have e:d.getD b []=d[b]:=by simp[List.getD,hb]
 rw[e];exact h _ (List.getElem_mem hb)
structure St where
 size:Nat
 blocks:Nat
 dur:List (List Int)
 pend:List (Nat×List Int)
 ops:Nat
 fuse:Int
structure St.Ok (s:St):Prop where
 lo:128≤s.size
 hi:s.size≤4096
 by64:s.size % 64=0
 blo:8≤s.blocks
 bhi:s.blocks≤4096
 dlen:s.dur.length=s.blocks
 dblk:IsD s.size s.dur
 pblk:∀p∈s.pend,p.1<s.blocks∧p.2.length=s.size∧IsB p.2
 flo:-1≤s.fuse
 fhi:s.fuse≤9223372036854775807
 few:s.pend.length≤1000000
 olo:s.ops≤1000000
def St.fresh(size blocks:Nat)(dur:List (List Int)):St:=⟨size,blocks,dur,[],0,-1⟩
def St.burn(s:St):St:={ s with ops:=s.ops+1,fuse:=if s.fuse=-1 then -1 else s.fuse-1 }
def St.hasB(s:St)(block:Int):Prop:=0≤block∧block<s.blocks
instance (s:St) (block:Int):Decidable (s.hasB block):=inferInstanceAs (Decidable (_∧_))
def St.write(s:St)(block:Int)(l:List Int):Int×St:=
 if ¬(s.hasB block∧l.length=s.size) then(2,s) else if s.fuse=0 then(8,s) else(0,{ s.burn with pend:=s.pend++[(block.toNat,l)] })
def St.last(s:St)(b:Nat):List Int:=match s.pend.reverse.find? (fun p=>p.1==b) with
 |some p=>p.2
 |none=>s.dur.getD b []
def laid(d:List (List Int))(p:List (Nat×List Int)):List (List Int):=p.foldl (fun d p=>d.set p.1 p.2) d
def St.flush(s:St):Int×St:=if s.fuse=0 then(8,s) else(0,{ s.burn with dur:=laid s.dur s.pend,pend:=[] })
theorem QdW{n:Nat}(p:List (Nat×List Int)):∀d,IsD n d→(∀q∈p,q.2.length=n∧IsB q.2)→IsD n (laid d p)∧(laid d p).length=d.length:=by
 induction p with
 |nil=>intro d h _;exact⟨h,rfl⟩
 |cons q p ih=>
  intro d h hp;have h1:=hp q (by simp);have:=ih (d.set q.1 q.2) (Qcx h q.1 h1.1 h1.2) (fun x hx=>hp x (by simp[hx]));exact⟨this.1,by rw[show laid d (q :: p)=laid (d.set q.1 q.2) p from rfl,this.2,List.length_set]⟩
theorem Qfi(d:List (List Int))(p:List (Nat×List Int))(q:Nat×List Int):laid d (p++[q])=(laid d p).set q.1 q.2:=by simp[laid]
theorem St.Ok.burn{s:St}(h:s.Ok)(ho:s.ops<1000000):s.burn.Ok:=by
 refine⟨h.lo,h.hi,h.by64,h.blo,h.bhi,h.dlen,h.dblk,h.pblk,?_,?_,h.few,?_⟩
 ·show(-1:Int)≤if s.fuse=-1 then -1 else s.fuse-1
  have:=h.flo
  split <;> omega
 ·show(if s.fuse=-1 then -1 else s.fuse-1)≤(9223372036854775807:Int)
  have:=h.fhi
  split <;> omega
 ·show s.ops+1≤1000000
  omega
theorem St.Ok.write{s:St}(h:s.Ok)(block:Int)(l:List Int)(hl:IsB l)(hp:s.pend.length<1000000)(ho:s.ops<1000000):(s.write block l).2.Ok:=by
 unfold St.write
 split
 ·exact h
 ·rename_i h1
  have h1:=Decidable.not_not.1 h1
  split
  ·exact h
  ·rename_i h2
   have hb:=h.burn ho;refine⟨hb.lo,hb.hi,hb.by64,hb.blo,hb.bhi,hb.dlen,hb.dblk,?_,hb.flo,hb.fhi,?_,hb.olo⟩
   ·intro p hp;rcases List.mem_append.1 hp with hp|hp
    ·exact h.pblk p hp
    ·simp at hp;subst hp;have:=h1.1;unfold St.hasB at this;exact⟨by show block.toNat<s.blocks;omega,h1.2,hl⟩
   ·show(s.pend++[(block.toNat,l)]).length≤1000000
    simp;omega
theorem St.Ok.flush{s:St}(h:s.Ok)(ho:s.ops<1000000):s.flush.2.Ok:=by
 unfold St.flush
 split
 ·exact h
 ·rename_i h2
  have hb:=h.burn ho;have hd:=QdW s.pend s.dur h.dblk (fun q hq=>(h.pblk q hq).2);exact⟨hb.lo,hb.hi,hb.by64,hb.blo,hb.bhi,hd.2.trans h.dlen,hd.1,(fun p hp=>by cases hp),hb.flo,hb.fhi,by simp,hb.olo⟩
theorem St.Ok.last{s:St}(h:s.Ok){b:Nat}(hb:b<s.blocks):(s.last b).length=s.size∧IsB (s.last b):=by
 unfold St.last
 split
 ·rename_i p hp
  have:=List.mem_of_find?_eq_some hp;exact(h.pblk p (by simpa using this)).2
 ·exact QdT h.dblk (by rw[h.dlen];exact hb)
theorem QfY{size blocks:Nat}{d:List (List Int)}(h1:128≤size)(h2:size≤4096)(h3:size % 64=0)(h4:8≤blocks)(h5:blocks≤4096)(hd:IsD size d)(hl:d.length=blocks):(St.fresh size blocks d).Ok:=
 ⟨h1,h2,h3,h4,h5,hl,hd,(fun _ h=>by cases h),by show(-1:Int)≤-1;omega,by show(-1:Int)≤9223372036854775807;omega,by simp[St.fresh],by simp[St.fresh]⟩
end Dv
namespace Fr
open Go.RowKit Bs Dv
open Oct (putB ofB Qe Qx Qz Qv)
open Crc (crc num Qb0)
def Fits(n:Int):Prop:=128≤n∧n≤4096∧n % 64=0
instance (n:Int):Decidable (Fits n):=by unfold Fits;infer_instance
def room(n:Int):Int:=if Fits n then n-16 else 0
theorem QeQ(l:List Int)(h:Bs.IsB l):(num l:Int)=ofB l:=by
 induction l with
 |nil=>rfl
 |cons c r ih=>
  have hc:=h c (by simp);have hr:=ih fun x hx=>h x (by simp[hx])
  simp only[num,ofB];omega
theorem Qkt(v:Nat)(h:v<4294967296):num (putB 4 v)=v:=by
 have h1:=QeQ _ (Qx 4 v);rw[Qz 4 v (by omega) (show(v:Int)<4294967296 by omega)]at h1;omega
theorem Qb6(l:List Int)(h:Bs.IsB l):putB l.length (ofB l)=l:=by
 induction l with
 |nil=>rfl
 |cons c r ih=>
  have hc:=h c (by simp);have hr:=ih fun x hx=>h x (by simp[hx])
  simp only[List.length_cons,putB,ofB];rw[show(c+256*ofB r) % 256=c from by omega,show(c+256*ofB r) / 256=ofB r from by omega,hr]
def body(n:Nat)(t g:Int)(d:List Int):List Int:=t :: 0 :: (putB 2 d.length++(putB 8 g++(d++List.replicate (n-16-d.length) 0)))
def blk(n:Nat)(t g:Int)(d:List Int):List Int:=body n t g d++putB 4 (crc (body n t g d):Int)
theorem QaV(n:Nat)(t g:Int)(d:List Int)(h:d.length+16≤n):(body n t g d).length=n-4:=by
 simp only[body,List.length_cons,List.length_append,Qe,List.length_replicate];omega
theorem Qo(n:Nat)(t g:Int)(d:List Int)(h:d.length+16≤n):(blk n t g d).length=n:=by
 rw[blk,List.length_append,QaV n t g d h,Qe];omega
theorem QdN(n:Nat)(t g:Int)(d:List Int)(ht:0≤t∧t<256)(hd:Bs.IsB d):Bs.IsB (body n t g d):=by
 intro x hx;simp only[body,List.mem_cons,List.mem_append]at hx;rcases hx with rfl|rfl|h|h|h|h
 ·exact ht
 ·omega
 ·exact Qx 2 _ x h
 ·exact Qx 8 _ x h
 ·exact hd x h
 ·rw[List.eq_of_mem_replicate h];omega
theorem QaD(n:Nat)(t g:Int)(d:List Int)(ht:0≤t∧t<256)(hd:Bs.IsB d):Bs.IsB (blk n t g d):=
 Qh8 (QdN n t g d ht hd) (Qx 4 _)
def cnt(b:List Int):Int:=ofB ((b.drop 2).take 2)
def gen(b:List Int):Int:=ofB ((b.drop 4).take 8)
def dat(b:List Int):List Int:=(b.drop 12).take (cnt b).toNat
def pad(b:List Int):List Int:=(b.drop (12+(cnt b).toNat)).take (b.length-16-(cnt b).toNat)
def Good(b:List Int):Prop:=crc (b.take (b.length-4))=num (b.drop (b.length-4))
def Shape(b:List Int):Prop:=cnt b+16≤b.length∧b.getD 1 0=0∧∀x∈pad b,x=0
instance (b:List Int):Decidable (Good b):=by unfold Good;infer_instance
instance (b:List Int):Decidable (Shape b):=by unfold Shape;infer_instance
abbrev Fm:=Int×Int×List Int
def none3:Fm:=(0,0,[])
def getF(b:List Int):Fm×Int:=
 if ¬Fits b.length then(none3,2) else if ¬Good b then(none3,10) else if ¬Shape b then(none3,4) else((b.getD 0 0,gen b,dat b),0)
def kindF(b:List Int)(t:Int):Fm×Int:=
 if (getF b).2≠0 then(none3,(getF b).2) else if (getF b).1.1≠t then(none3,11) else((getF b).1,0)
def putF(n:Int)(f:Fm):List Int×Int:=
 if ¬Fits n then([],2) else if n-16<f.2.2.length then([],3) else(blk n.toNat f.1 f.2.1 f.2.2,0)
def FmOk(f:Fm):Prop:=(0≤f.1∧f.1<256)∧(0≤f.2.1∧f.2.1<18446744073709551616)∧Bs.IsB f.2.2
theorem QdZ:FmOk none3:=⟨by decide,by decide,fun _ h=>by cases h⟩
theorem split(l:List Int)(i j:Nat)(h:i≤j):l.drop i=(l.drop i).take (j-i)++l.drop j:=by
 conv=>lhs;rw[←List.take_append_drop (j-i) (l.drop i)]
 rw[List.drop_drop,show i+(j-i)=j from by omega]
theorem Qcf(n:Nat)(t g:Int)(d:List Int):blk n t g d=t :: 0 :: (putB 2 d.length++(putB 8 g++(d++(List.replicate (n-16-d.length) 0++putB 4 (crc (body n t g d):Int))))):=by
 simp[blk,body,List.append_assoc]
theorem QG(a b:List Int)(n:Nat)(h:a.length=n):(a++b).take n=a:=by subst h;simp
theorem QF(a b:List Int)(n:Nat)(h:a.length=n):(a++b).drop n=b:=by subst h;simp
theorem Qe2(n:Nat)(t g:Int)(d:List Int):(blk n t g d).drop 2=putB 2 d.length++(putB 8 g++(d++(List.replicate (n-16-d.length) 0++putB 4 (crc (body n t g d):Int)))):=by
 rw[Qcf];rfl
theorem Qe3(n:Nat)(t g:Int)(d:List Int):(blk n t g d).drop 4=putB 8 g++(d++(List.replicate (n-16-d.length) 0++putB 4 (crc (body n t g d):Int))):=by
 rw[show(4:Nat)=2+2 from rfl,←List.drop_drop,Qe2,QF _ _ 2 (Qe 2 _)]
theorem Qef(n:Nat)(t g:Int)(d:List Int):(blk n t g d).drop 12=d++(List.replicate (n-16-d.length) 0++putB 4 (crc (body n t g d):Int)):=by
 rw[show(12:Nat)=4+8 from rfl,←List.drop_drop,Qe3,QF _ _ 8 (Qe 8 _)]
theorem QeJ(n:Nat)(t g:Int)(d:List Int)(h:d.length<65536):cnt (blk n t g d)=d.length:=by
 unfold cnt;rw[Qe2,QG _ _ 2 (Qe 2 _),Qz 2 _ (by omega) (by show(d.length:Int)<65536;omega)]
theorem Qli(n:Nat)(t g:Int)(d:List Int)(hg:0≤g∧g<18446744073709551616):gen (blk n t g d)=g:=by
 unfold gen;rw[Qe3,QG _ _ 8 (Qe 8 _),Qz 8 _ hg.1 hg.2]
theorem Qlh(n:Nat)(t g:Int)(d:List Int)(h:d.length<65536):dat (blk n t g d)=d:=by
 unfold dat;rw[QeJ n t g d h,Int.toNat_natCast,Qef,QG _ _ _ rfl]
theorem Qlk(n:Nat)(t g:Int)(d:List Int)(h:d.length+16≤n)(h2:d.length<65536):pad (blk n t g d)=List.replicate (n-16-d.length) 0:=by
 unfold pad;rw[QeJ n t g d h2,Int.toNat_natCast,←List.drop_drop,Qef,QF _ _ _ rfl,Qo n t g d h,QG _ _ _ (by simp)]
theorem QiC(n:Nat)(t g:Int)(d:List Int)(h:d.length+16≤n)(h2:d.length<65536):Shape (blk n t g d):=by
 refine⟨by rw[QeJ n t g d h2,Qo n t g d h];omega,by rw[Qcf];rfl,fun x hx=>?_⟩;rw[Qlk n t g d h h2]at hx;exact List.eq_of_mem_replicate hx
theorem QjU(n:Nat)(t g:Int)(d:List Int)(h:d.length+16≤n)(ht:0≤t∧t<256)(hd:Bs.IsB d):Good (blk n t g d):=by
 unfold Good;have hl:=QaV n t g d h;rw[Qo n t g d h,blk,QG _ _ _ hl,QF _ _ _ hl,Qkt _ (Qb0 _ (QdN n t g d ht hd))]
theorem QbS(n:Nat)(f:Fm)(hn:Fits n)(hf:FmOk f)(h:f.2.2.length+16≤n):getF (blk n f.1 f.2.1 f.2.2)=(f,0):=by
 obtain⟨t,g,d⟩:=f;obtain⟨ht,hg,hd⟩:=hf;unfold Fits at hn;have h2:d.length<65536:=by simp at h;omega
 unfold getF;rw[Qo n t g d h,if_neg (by unfold Fits;simpa using hn),if_neg (by simpa using QjU n t g d h ht hd),if_neg (by simpa using QiC n t g d h h2),Qli n t g d hg,Qlh n t g d h2,Qcf]
 rfl
theorem QeR(b:List Int)(hb:Bs.IsB b):0≤cnt b∧cnt b<65536:=by
 have h:=Qv ((b.drop 2).take 2) (Qay (Qae hb 2) 2);unfold cnt;refine⟨h.1,Int.lt_of_lt_of_le h.2 ?_⟩;have:((b.drop 2).take 2).length≤2:=by rw[List.length_take];omega
 generalize ((b.drop 2).take 2).length=k at this
 match k,this with
 |0,_=>decide
 |1,_=>decide
 |2,_=>decide
theorem QiS(b:List Int)(hb:Bs.IsB b)(h:12≤b.length):0≤gen b∧gen b<18446744073709551616:=by
 have h1:=Qv ((b.drop 4).take 8) (Qay (Qae hb 4) 8);rw[show((b.drop 4).take 8).length=8 from by rw[List.length_take,List.length_drop];omega]at h1;exact h1
theorem Ql5(b:List Int)(hb:Bs.IsB b)(hn:128≤b.length)(hg:Good b)(hs:Shape b):blk b.length (b.getD 0 0) (gen b) (dat b)=b:=by
 obtain⟨h1,h2,h3⟩:=hs;obtain⟨c0,c1⟩:=QeR b hb;obtain⟨k,hk⟩:∃k:Nat,cnt b=k:=⟨(cnt b).toNat,by omega⟩;have hdl:(dat b).length=k:=by unfold dat;rw[List.length_take,List.length_drop,hk];omega
 have e0:b=b.getD 0 0 :: b.drop 1:=by
  cases b with
  |nil=>simp at hn
  |cons x r=>rfl
 have e1:b.drop 1=0 :: b.drop 2:=by
  rw[←h2]
  match b,hn with
  |x :: y :: r,_=>rfl
 have e2:b.drop 2=putB 2 k++b.drop 4:=by
  have h:=split b 2 4 (by omega);have h4:putB 2 (k:Int)=(b.drop 2).take 2:=by
   have:=Qb6 ((b.drop 2).take 2) (Qay (Qae hb 2) 2);rw[show((b.drop 2).take 2).length=2 from by rw[List.length_take,List.length_drop];omega]at this;rw[←hk];exact this
  rw[h4];exact h
 have e3:b.drop 4=putB 8 (gen b)++b.drop 12:=by
  have h:=split b 4 12 (by omega);have h4:putB 8 (gen b)=(b.drop 4).take 8:=by
   have:=Qb6 ((b.drop 4).take 8) (Qay (Qae hb 4) 8);rw[show((b.drop 4).take 8).length=8 from by rw[List.length_take,List.length_drop];omega]at this;exact this
  rw[h4];exact h
 have e4:b.drop 12=dat b++b.drop (12+k):=by
  have h:=split b 12 (12+k) (by omega);rw[show 12+k-12=k from by omega]at h;unfold dat;rw[hk];exact h
 have e5:b.drop (12+k)=List.replicate (b.length-16-k) 0++b.drop (b.length-4):=by
  have h:=split b (12+k) (b.length-4) (by omega);have h4:(b.drop (12+k)).take (b.length-4-(12+k))=List.replicate (b.length-16-k) 0:=by
   unfold pad at h3;rw[hk,Int.toNat_natCast]at h3;rw[show b.length-4-(12+k)=b.length-16-k from by omega];refine List.eq_replicate_iff.2 ⟨by rw[List.length_take,List.length_drop];omega,h3⟩
  rw[h4]at h;exact h
 have e6:b=body b.length (b.getD 0 0) (gen b) (dat b)++b.drop (b.length-4):=by
  unfold body;rw[hdl];simp only[List.cons_append,List.append_assoc];rw[←e5,←e4,←e3,←e2,←e1,←e0]
 have e7:body b.length (b.getD 0 0) (gen b) (dat b)=b.take (b.length-4):=by
  have h:=QaV b.length (b.getD 0 0) (gen b) (dat b) (by omega);have h4:=QG (body b.length (b.getD 0 0) (gen b) (dat b)) (b.drop (b.length-4)) _ h;rw[←e6]at h4;exact h4.symm
 have e8:putB 4 (crc (body b.length (b.getD 0 0) (gen b) (dat b)):Int)=b.drop (b.length-4):=by
  rw[e7,hg,QeQ _ (Qae hb _)];have:=Qb6 (b.drop (b.length-4)) (Qae hb _);rw[show(b.drop (b.length-4)).length=4 from by rw[List.length_drop];omega]at this;exact this
 unfold blk;rw[e8];exact e6.symm
theorem Qka{b:List Int}(hb:Bs.IsB b)(k:Nat):0≤b.getD k 0∧b.getD k 0<256:=by
 rw[List.getD_eq_getElem?_getD];by_cases hk:k<b.length
 ·rw[List.getElem?_eq_getElem hk];exact hb _ (List.getElem_mem _)
 ·rw[List.getElem?_eq_none (by omega)];decide
theorem Qdb(b:List Int)(hb:Bs.IsB b):FmOk (getF b).1:=by
 unfold getF
 split
 ·exact QdZ
 ·rename_i h
  split
  ·exact QdZ
  ·split
   ·exact QdZ
   ·refine⟨Qka hb 0,QiS b hb ?_,Qay (Qae hb _) _⟩;have:=Decidable.not_not.1 h;unfold Fits at this;omega
theorem Qlw(b:List Int)(h:(getF b).2≠0):(getF b).1=none3:=by
 unfold getF at h ⊢
 split
 ·rfl
 ·split
  ·rfl
  ·split
   ·rfl
   ·rename_i h1 h2 h3
    rw[if_neg h1,if_neg h2,if_neg h3]at h;exact absurd rfl h
theorem Qhu(b:List Int)(hb:Bs.IsB b)(h:(getF b).2=0):putF b.length (getF b).1=(b,0):=by
 unfold getF at h ⊢
 split at h
 ·exact absurd h (by decide)
 ·rename_i h1
  split at h
  ·exact absurd h (by decide)
  ·rename_i h2
   split at h
   ·exact absurd h (by decide)
   ·rename_i h3
    rw[if_neg h1,if_neg h2,if_neg h3];have n1:=Decidable.not_not.1 h1;have n2:=Decidable.not_not.1 h2;have n3:=Decidable.not_not.1 h3;unfold putF;rw[if_neg h1,if_neg,Int.toNat_natCast,Ql5 b hb (by unfold Fits at n1;omega) n2 n3]
    show ¬(b.length:Int)-16<((dat b).length:Int)
    have h0:=QeR b hb;have hs:=n3.1;have:(dat b).length≤(cnt b).toNat:=by unfold dat;rw[List.length_take];omega
    omega
theorem get_put(n:Int)(f:Fm)(hf:FmOk f)(h:(putF n f).2=0):getF (putF n f).1=(f,0)∧((putF n f).1.length:Int)=n∧Fits n∧(f.2.2.length:Int)+16≤n∧Bs.IsB (putF n f).1∧(putF n f).1=blk n.toNat f.1 f.2.1 f.2.2:=by
 unfold putF at h ⊢
 split at h
 ·exact absurd h (by decide)
 ·rename_i h1
  split at h
  ·exact absurd h (by decide)
  ·rename_i h2
   rw[if_neg h1,if_neg h2];have n1:=Decidable.not_not.1 h1;have hn:((n.toNat:Nat):Int)=n:=by unfold Fits at n1;omega
   refine⟨QbS n.toNat f (by rw[hn];exact n1) hf (by omega),?_,n1,by omega,QaD _ _ _ _ hf.1 hf.2.2,rfl⟩
   show((blk n.toNat f.1 f.2.1 f.2.2).length:Int)=n
   rw[Qo _ _ _ _ (by omega),hn]
theorem Qlj(n:Nat)(f g:Fm)(hn:Fits n)(hf:FmOk f)(hg:FmOk g)(h:f.2.2.length+16≤n)(h2:g.2.2.length+16≤n):blk n f.1 f.2.1 f.2.2=blk n g.1 g.2.1 g.2.2↔f=g:=by
 refine⟨fun e=>?_,fun e=>by rw[e]⟩;have h3:=QbS n f hn hf h;rw[e,QbS n g hn hg h2]at h3;exact(Prod.mk.inj h3).1.symm
theorem QbY(a b c v:List Int)(p:Nat)(hp:a.length=p)(hv:v.length=b.length):(a++(b++c)).take p++v++(a++(b++c)).drop (p+v.length)=a++(v++c):=by
 subst hp;rw[List.take_left,←List.drop_drop,List.drop_left,hv,List.drop_left,List.append_assoc]
end Fr
namespace Su
open Go.RowKit
open Fr (Fits room putF getF kindF Fm FmOk blk)
open Oct (putB ofB)
open Dv (geoE)
structure Sup where
 gen:Int
 size:Int
 blocks:Int
 root:Int
 pages:List Int
def zeroS:Sup:=⟨0,0,0,0,[]⟩
structure SupOk (s:Sup):Prop where
 gen:0≤s.gen∧s.gen<18446744073709551616
 root:0≤s.root∧s.root<4294967296
 pages:∀p∈s.pages,0≤p∧p<4294967296
def GeoOk(size blocks:Int):Prop:=128≤size∧size≤4096∧size % 64=0∧8≤blocks∧blocks≤4096
instance (a b:Int):Decidable (GeoOk a b):=by unfold GeoOk;exact inferInstance
theorem QaE(size blocks:Int):geoE size blocks=0↔GeoOk size blocks:=by
 by_cases h:GeoOk size blocks
 ·exact⟨fun _=>h,fun _=>Dv.QdS h⟩
 ·constructor
  ·intro e;rw[Dv.Qbc h]at e;cases e
  ·intro e;exact absurd e h
theorem Qbn{size blocks:Int}(h:GeoOk size blocks):Fits size:=⟨h.1,h.2.1,h.2.2.1⟩
theorem QR{size blocks:Int}(h:GeoOk size blocks):room size=size-16:=if_pos (Qbn h)
def pagesF(size blocks:Int):Int:=if GeoOk size blocks then(2*blocks+room size-1) / room size else 0
def pageP(blocks n:Int):Prop:=2≤n∧n<blocks
instance (a b:Int):Decidable (pageP a b):=by unfold pageP;exact inferInstance
def pagesOk(blocks root:Int)(l:List Int):Prop:=(∀p∈l,pageP blocks p∧p≠root)∧l.Nodup
instance (a b:Int) (l:List Int):Decidable (pagesOk a b l):=by unfold pagesOk;exact inferInstance
def Valid(s:Sup):Prop:=GeoOk s.size s.blocks∧s.gen≠0∧(s.root=0∨pageP s.blocks s.root)∧(s.pages.length:Int)=pagesF s.size s.blocks∧pagesOk s.blocks s.root s.pages
instance (s:Sup):Decidable (Valid s):=by unfold Valid;exact inferInstance
def supE(s:Sup):Int:=if Valid s then(if room s.size<14+4*(s.pages.length:Int) then 3 else 0) else 2
def fours:List Int→List Int
 | []=>[]
 |p :: l=>putB 4 p++fours l
theorem Qau:∀l:List Int,(fours l).length=4*l.length
 | []=>rfl
 |p :: l=>by rw[fours,List.length_append,Oct.Qe,Qau l,List.length_cons];omega
theorem Qfa:∀a b:List Int,fours (a++b)=fours a++fours b
 | [],_=>rfl
 |p :: a,b=>by rw[List.cons_append,fours,fours,Qfa a b,List.append_assoc]
def dataS(s:Sup):List Int:=putB 4 s.size++(putB 4 s.blocks++(putB 4 s.root++(putB 2 (s.pages.length:Int)++fours s.pages)))
theorem Qax(s:Sup):(dataS s).length=14+4*s.pages.length:=by
 unfold dataS;rw[List.length_append,List.length_append,List.length_append,List.length_append,Oct.Qe,Oct.Qe,Oct.Qe,Oct.Qe,Qau];omega
theorem Qci:∀l:List Int,Bs.IsB (fours l)
 | [],_,h=>by cases h
 |p :: l,x,h=>by
  rw[fours]at h;rcases List.mem_append.1 h with h|h
  ·exact Oct.Qx 4 p x h
  ·exact Qci l x h
theorem QaZ(s:Sup):Bs.IsB (dataS s):=by
 intro x hx;unfold dataS at hx;rcases List.mem_append.1 hx with h|hx
 ·exact Oct.Qx 4 _ x h
 ·rcases List.mem_append.1 hx with h|hx
  ·exact Oct.Qx 4 _ x h
  ·rcases List.mem_append.1 hx with h|hx
   ·exact Oct.Qx 4 _ x h
   ·rcases List.mem_append.1 hx with h|hx
    ·exact Oct.Qx 2 _ x h
    ·exact Qci _ x hx
def putS(s:Sup):List Int×Int:=if supE s≠0 then([],supE s) else putF s.size (1,s.gen,dataS s)
def chunks:Nat→List Int→List Int
 |0,_=>[]
 |f+1,l=>if l.length<4 then [] else ofB (l.take 4) :: chunks f (l.drop 4)
def readS(g:Int)(d:List Int):Sup:=⟨g,ofB (d.take 4),ofB ((d.drop 4).take 4),ofB ((d.drop 8).take 4),chunks d.length (d.drop 14)⟩
def getS(b:List Int):Sup×Int:=
 if (kindF b 1).2≠0 then(zeroS,(kindF b 1).2)
 else if (kindF b 1).1.2.2.length<14 then(zeroS,4)
 else if putS (readS (kindF b 1).1.2.1 (kindF b 1).1.2.2)=(b,0) then(readS (kindF b 1).1.2.1 (kindF b 1).1.2.2,0) else(zeroS,4)
def chooseS(a b:List Int):Int×Sup×Int:=
 if (getS a).2≠0∧(getS b).2≠0 then(-1,zeroS,10)
 else if (getS a).2≠0∨((getS b).2=0∧(getS a).1.gen<(getS b).1.gen) then(1,(getS b).1,0)
 else(0,(getS a).1,0)
theorem Qd9{size blocks:Int}(h:GeoOk size blocks):112≤room size:=by rw[QR h];have:=h.1;omega
theorem Qaq{s:Sup}(h:supE s=0):Valid s∧14+4*(s.pages.length:Int)≤room s.size:=by
 unfold supE at h;by_cases hv:Valid s
 ·rw[if_pos hv]at h;by_cases hr:room s.size<14+4*(s.pages.length:Int)
  ·rw[if_pos hr]at h;cases h
  ·exact⟨hv,by omega⟩
 ·rw[if_neg hv]at h;cases h
theorem Qu{s:Sup}(h:supE s=0):putS s=(blk s.size.toNat 1 s.gen (dataS s),0):=by
 obtain⟨hv,hr⟩:=Qaq h;have hg:=QR hv.1;have hl:=Qax s;unfold putS;rw[if_neg (by simp[h])];unfold putF;rw[if_neg (fun h=>h (Qbn hv.1))];rw[if_neg (by show ¬s.size-16<((dataS s).length:Int);omega)]
theorem put_e(s:Sup):(putS s).2=supE s:=by
 by_cases h:supE s=0
 ·rw[Qu h,h]
 ·unfold putS;rw[if_pos h]
theorem Qb7{s:Sup}(h:supE s≠0):putS s=([],supE s):=if_pos h
theorem QbZ:∀(l:List Int) (f:Nat),(∀p∈l,0≤p∧p<4294967296)→4*l.length≤f→chunks f (fours l)=l
 | [],0,_,_=>rfl
 | [],f+1,_,_=>by rw[chunks,if_pos (by show(0:Nat)<4;omega)]
 |p :: l,0,_,h=>by rw[List.length_cons]at h;omega
 |p :: l,f+1,hp,h=>by
  have h4:(putB 4 p).length=4:=Oct.Qe 4 p;have hl:=Qau l;rw[List.length_cons]at h;rw[chunks,fours,if_neg (by rw[List.length_append];omega),Fr.QG _ _ 4 h4,Fr.QF _ _ 4 h4,QbZ l f (fun q hq=>hp q (List.mem_cons_of_mem _ hq)) (by omega)];have:=hp p (List.mem_cons_self ..);rw[Oct.Qz 4 p (by omega) (by show p<256 ^ 4;omega)]
theorem Qfu{s:Sup}(h:supE s=0)(ho:SupOk s):readS s.gen (dataS s)=s:=by
 obtain⟨hv,hr⟩:=Qaq h;have g:=hv.1;unfold GeoOk at g;have l4:∀v,(putB 4 v).length=4:=fun v=>Oct.Qe 4 v
 have hr0:=ho.root;have hl:=Qax s;have e1:(dataS s).take 4=putB 4 s.size:=Fr.QG _ _ 4 (l4 _);have e2:(dataS s).drop 4=putB 4 s.blocks++(putB 4 s.root++(putB 2 (s.pages.length:Int)++fours s.pages)):=Fr.QF _ _ 4 (l4 _);have e3:(dataS s).drop 8=putB 4 s.root++(putB 2 (s.pages.length:Int)++fours s.pages):=by
  rw[show(8:Nat)=4+4 from rfl,←List.drop_drop,e2,Fr.QF _ _ 4 (l4 _)]
 have e4:(dataS s).drop 14=fours s.pages:=by
  rw[show(14:Nat)=8+4+2 from rfl,←List.drop_drop,←List.drop_drop,e3,Fr.QF _ _ 4 (l4 _),Fr.QF _ _ 2 (Oct.Qe 2 _)]
 unfold readS;rw[e1,e2,e3,e4,Fr.QG _ _ 4 (l4 _),Fr.QG _ _ 4 (l4 _),QbZ _ _ ho.pages (by omega)];rw[Oct.Qz 4 _ (by omega) (by show s.size<256 ^ 4;omega),Oct.Qz 4 _ (by omega) (by show s.blocks<256 ^ 4;omega),Oct.Qz 4 _ (by omega) (by show s.root<256 ^ 4;omega)]
theorem get_put{s:Sup}(h:supE s=0)(ho:SupOk s):getS (putS s).1=(s,0):=by
 obtain⟨hv,hr⟩:=Qaq h;have hg:=QR hv.1;have hl:=Qax s;have hf:FmOk (1,s.gen,dataS s):=⟨⟨(by show(0:Int)≤1;decide),(by show(1:Int)<256;decide)⟩,ho.gen,QaZ s⟩;have hpf:putF s.size (1,s.gen,dataS s)=((putS s).1,0):=by
  have h1:putS s=putF s.size (1,s.gen,dataS s):=if_neg (by simp[h]);have h2:=Qu h;rw[←h1,h2]
 obtain⟨k1,-⟩:=Fr.get_put s.size (1,s.gen,dataS s) hf (by rw[hpf]);rw[hpf]at k1;have hk:kindF (putS s).1 1=((1,s.gen,dataS s),0):=by
  unfold kindF;rw[k1];simp
 have h3:putS (readS s.gen (dataS s))=((putS s).1,0):=by rw[Qfu h ho];exact Prod.ext rfl ((put_e s).trans h)
 unfold getS;rw[hk];rw[if_neg (by simp),if_neg (by show ¬(dataS s).length<14;omega),if_pos h3,Qfu h ho]
theorem Qf0{b:List Int}(h:(getS b).2=0):putS (getS b).1=(b,0):=by
 unfold getS at h ⊢;by_cases h1:(kindF b 1).2≠0
 ·rw[if_pos h1]at h;exact absurd h h1
 ·rw[if_neg h1]at h ⊢;by_cases h2:(kindF b 1).1.2.2.length<14
  ·rw[if_pos h2]at h;cases h
  ·rw[if_neg h2]at h ⊢;by_cases h3:putS (readS (kindF b 1).1.2.1 (kindF b 1).1.2.2)=(b,0)
   ·rw[if_pos h3];exact h3
   ·rw[if_neg h3]at h;cases h
theorem Qkc{b:List Int}(h:(getS b).2≠0):(getS b).1=zeroS:=by
 unfold getS at h ⊢;by_cases h1:(kindF b 1).2≠0
 ·rw[if_pos h1]
 ·rw[if_neg h1]at h ⊢;by_cases h2:(kindF b 1).1.2.2.length<14
  ·rw[if_pos h2]
  ·rw[if_neg h2]at h ⊢;by_cases h3:putS (readS (kindF b 1).1.2.1 (kindF b 1).1.2.2)=(b,0)
   ·rw[if_pos h3]at h;exact absurd rfl h
   ·rw[if_neg h3]
theorem QfA{a b:List Int}{t:Sup}(hb:getS b=(t,0))(h:(getS a).2≠0∨(getS a).1.gen<t.gen):chooseS a b=(1,t,0):=by
 unfold chooseS;rw[hb];rw[if_neg (by rintro⟨_,h⟩;exact h rfl),if_pos (by rcases h with h|h;exact .inl h;exact .inr ⟨rfl,h⟩)]
theorem QfL{a b:List Int}{s:Sup}(ha:getS a=(s,0))(h:(getS b).2=0→¬s.gen<(getS b).1.gen):chooseS a b=(0,s,0):=by
 unfold chooseS;rw[ha];rw[if_neg (by rintro⟨h,_⟩;exact h rfl),if_neg (by rintro(h1|⟨h1,h2⟩);exact h1 rfl;exact h h1 h2)]
theorem QB{size blocks:Int}(h:GeoOk size blocks):1≤pagesF size blocks∧pagesF size blocks≤74∧2*blocks≤pagesF size blocks*room size∧(pagesF size blocks-1)*room size<2*blocks:=by
 have hr:=Qd9 h;have hb:8≤blocks∧blocks≤4096:=⟨h.2.2.2.1,h.2.2.2.2⟩;unfold pagesF;rw[if_pos h];generalize room size=r at *;have e:=Int.mul_ediv_add_emod (2*blocks+r-1) r;have m0:=Int.emod_nonneg (2*blocks+r-1) (by omega:r≠0);have m1:=Int.emod_lt_of_pos (2*blocks+r-1) (by omega:0<r);generalize (2*blocks+r-1) / r=q at *;generalize (2*blocks+r-1) % r=m at *;have hq:1≤q:=by
  rcases Int.lt_or_le q 1 with h|h
  ·have:r*q≤r*0:=Int.mul_le_mul_of_nonneg_left (by omega) (by omega);omega
  ·exact h
 have hq2:q≤74:=by
  rcases Int.lt_or_le 74 q with h|h
  ·have:r*75≤r*q:=Int.mul_le_mul_of_nonneg_left (by omega) (by omega);omega
  ·exact h
 refine⟨hq,hq2,?_,?_⟩
 ·rw[Int.mul_comm q r];omega
 ·rw[Int.sub_mul,Int.mul_comm q r,Int.one_mul];omega
end Su
namespace Su
open Go.RowKit
open Fr (Fits room putF getF kindF Fm FmOk blk)
open Oct (putB ofB)
def OkD(g:Int)(d:List Int):Prop:=14≤d.length∧(d.length-14) % 4=0∧((readS g d).pages.length:Int)=ofB ((d.drop 12).take 2)
instance (g:Int) (d:List Int):Decidable (OkD g d):=by unfold OkD;exact inferInstance
def getP(b:List Int):Sup×Int:=
 if (kindF b 1).2≠0 then(zeroS,(kindF b 1).2)
 else if ¬OkD (kindF b 1).1.2.1 (kindF b 1).1.2.2 then(zeroS,4)
 else if (readS (kindF b 1).1.2.1 (kindF b 1).1.2.2).size≠(b.length:Int) then(zeroS,4)
 else if supE (readS (kindF b 1).1.2.1 (kindF b 1).1.2.2)≠0 then(zeroS,4)
 else(readS (kindF b 1).1.2.1 (kindF b 1).1.2.2,0)
theorem chunks_len : ∀(f:Nat) (l:List Int),l.length≤4*f→(chunks f l).length=l.length / 4
  | 0, l, h => by have:l.length=0:=by omega
                  rw[chunks,this];rfl
  | f+1,l,h=>by
    rw[chunks]
    by_cases h4:l.length<4
    · rw[if_pos h4,List.length_nil];omega
    · rw[if_neg h4,List.length_cons,chunks_len f (l.drop 4) (by rw[List.length_drop];omega),List.length_drop];omega
theorem QdC:∀(f:Nat) (l:List Int),Bs.IsB l→l.length % 4=0→l.length≤4*f→fours (chunks f l)=l
 |0,l,_,_,h=>by
  have:l=[]:=List.length_eq_zero_iff.1 (by omega);rw[this];rfl
 |f+1,l,hb,h4,h=>by
  rw[chunks];by_cases hl:l.length<4
  ·rw[if_pos hl];have:l=[]:=List.length_eq_zero_iff.1 (by omega);rw[this];rfl
  ·rw[if_neg hl,fours,QdC f (l.drop 4) (fun x hx=>hb x (List.mem_of_mem_drop hx)) (by rw[List.length_drop];omega) (by rw[List.length_drop];omega)];have h1:(l.take 4).length=4:=by rw[List.length_take];omega
   have h2:=Fr.Qb6 (l.take 4) (fun x hx=>hb x (List.mem_of_mem_take hx));rw[h1]at h2;rw[h2,List.take_append_drop]
theorem Qei:∀(f:Nat) (l:List Int),Bs.IsB l→∀p∈chunks f l,0≤p∧p<4294967296
 |0,l,_,p,hp=>by cases hp
 |f+1,l,hb,p,hp=>by
  rw[chunks]at hp;by_cases hl:l.length<4
  ·rw[if_pos hl]at hp;cases hp
  ·rw[if_neg hl]at hp;rcases List.mem_cons.1 hp with rfl|hp
   ·have h1:=Oct.Qv (l.take 4) (fun x hx=>hb x (List.mem_of_mem_take hx));have h2:(l.take 4).length=4:=by rw[List.length_take];omega
    rw[h2]at h1;exact⟨h1.1,by have:=h1.2;rwa [show(256:Int) ^ 4=4294967296 from by decide]at this⟩
   ·exact Qei f _ (fun x hx=>hb x (List.mem_of_mem_drop hx)) p hp
theorem QbQ(d:List Int)(hb:Bs.IsB d)(o k:Nat)(h:o+k≤d.length):putB k (ofB ((d.drop o).take k))=(d.drop o).take k:=by
 have h1:((d.drop o).take k).length=k:=by rw[List.length_take,List.length_drop];omega
 have h2:=Fr.Qb6 ((d.drop o).take k) (fun x hx=>hb x (List.mem_of_mem_drop (List.mem_of_mem_take hx)))
 rwa [h1]at h2
theorem QdO(d:List Int)(o k:Nat):(d.drop o).take k++d.drop (o+k)=d.drop o:=by
 rw[←List.drop_drop,List.take_append_drop]
theorem QlJ{g:Int}{d:List Int}(hb:Bs.IsB d)(h:OkD g d):dataS (readS g d)=d:=by
 obtain⟨h1,h2,h3⟩:=h;unfold dataS;rw[h3];have q1:=QbQ d hb 0 4 (by omega);have q2:=QbQ d hb 4 4 (by omega);have q3:=QbQ d hb 8 4 (by omega);have q4:=QbQ d hb 12 2 (by omega);have q5:=QdC d.length (d.drop 14) (fun x hx=>hb x (List.mem_of_mem_drop hx)) (by rw[List.length_drop];exact h2) (by rw[List.length_drop];omega)
 show putB 4 (ofB (d.take 4))++(putB 4 (ofB ((d.drop 4).take 4))++(putB 4 (ofB ((d.drop 8).take 4))++(putB 2 (ofB ((d.drop 12).take 2))++fours (chunks d.length (d.drop 14)))))=d
 rw[List.drop_zero]at q1;rw[q1,q2,q3,q4,q5,QdO d 12 2,QdO d 8 4,QdO d 4 4,List.take_append_drop]
theorem Qlq{g:Int}{d:List Int}(h:dataS (readS g d)=d)(hl:d.length<65536):OkD g d:=by
 have hlen:=Qax (readS g d);rw[h]at hlen;refine⟨by omega,by omega,?_⟩;have e:d.drop 12=putB 2 ((readS g d).pages.length:Int)++fours (readS g d).pages:=by
  have l4:∀v,(putB 4 v).length=4:=fun v=>Oct.Qe 4 v
  have e0:=congrArg (List.drop 12) h;rw[←e0];unfold dataS;rw[show(12:Nat)=4+4+4 from rfl,←List.drop_drop,←List.drop_drop,Fr.QF _ _ 4 (l4 _),Fr.QF _ _ 4 (l4 _),Fr.QF _ _ 4 (l4 _)]
 rw[e,Fr.QG _ _ 2 (Oct.Qe 2 _),Oct.Qz 2 _ (by omega) (by show((readS g d).pages.length:Int)<256 ^ 2;rw[show(256:Int) ^ 2=65536 from by decide];omega)]
theorem Qdf{b:List Int}(h:(kindF b 1).2=0):getF b=((1,(kindF b 1).1.2.1,(kindF b 1).1.2.2),0):=by
 unfold kindF at h ⊢;by_cases h1:(getF b).2≠0
 ·rw[if_pos h1]at h;exact absurd h h1
 ·rw[if_neg h1]at h ⊢;by_cases h2:(getF b).1.1≠1
  ·rw[if_pos h2]at h;cases h
  ·rw[if_neg h2];have h3:(getF b).1.1=1:=by omega
   have h4:(getF b).2=0:=by omega
   refine Prod.ext ?_ h4;exact Prod.ext h3 rfl
theorem QeL{b:List Int}(hb:Bs.IsB b)(h:(kindF b 1).2=0):FmOk (1,(kindF b 1).1.2.1,(kindF b 1).1.2.2):=by
 have:=Fr.Qdb b hb
 rwa [Qdf h]at this
theorem Qde{b:List Int}(h:(kindF b 1).2=0):Fits b.length:=by
 have h1:=Qdf h;unfold getF at h1;by_cases hf:Fits (b.length:Int)
 ·exact hf
 ·rw[if_pos hf]at h1;cases h1
theorem QcQ{b:List Int}(hb:Bs.IsB b)(h:(kindF b 1).2=0):putF b.length (1,(kindF b 1).1.2.1,(kindF b 1).1.2.2)=(b,0):=by
 have h1:=Qdf h;have h2:=Fr.Qhu b hb (by rw[h1])
 rwa [h1]at h2
theorem Qga{b:List Int}(hb:Bs.IsB b)(h:(kindF b 1).2=0):(kindF b 1).1.2.2.length+16≤b.length:=by
 have h1:=QcQ hb h;have h2:=Qde h;unfold putF at h1;rw[if_neg (fun h=>h h2)]at h1;by_cases h3:(b.length:Int)-16<((kindF b 1).1.2.2.length:Int)
 ·rw[if_pos h3]at h1;exact absurd (congrArg Prod.snd h1) (show ¬(3:Int)=0 by decide)
 ·omega
theorem QiT{b:List Int}(hb:Bs.IsB b):getS b=getP b:=by
 unfold getS getP;by_cases h1:(kindF b 1).2=0
 ·have h1':¬(kindF b 1).2≠0:=fun h=>h h1
  rw[if_neg h1',if_neg h1'];have hf:=Qde h1;have hok:=QeL hb h1;have hbl:=QcQ hb h1;have hkl:=Qga hb h1;obtain⟨g,hg⟩:∃g,g=(kindF b 1).1.2.1:=⟨_,rfl⟩;obtain⟨d,hd⟩:∃d,d=(kindF b 1).1.2.2:=⟨_,rfl⟩;rw[←hg,←hd]at hok hbl ⊢;rw[←hd]at hkl;have hfl:b.length≤4096:=by have:=hf.2.1;omega
  have hdb:Bs.IsB d:=hok.2.2;by_cases h2:d.length<14
  ·rw[if_pos h2,if_pos (by rintro⟨h,_⟩;omega)]
  ·rw[if_neg h2];by_cases h3:putS (readS g d)=(b,0)
   ·rw[if_pos h3];have he:supE (readS g d)=0:=by rw[←put_e,h3]
    have hp:=Qu he;obtain⟨hv,hr⟩:=Qaq he;have hgr:=QR hv.1;have hdl:=Qax (readS g d);have hff:=Qbn hv.1;have hlen:(b.length:Int)=(readS g d).size:=by
     rw[h3]at hp;have e:=congrArg (fun p=>(p.1.length:Nat)) hp;simp only at e;rw[Fr.Qo _ _ _ _ (by unfold Fits at hff;omega)]at e;unfold Fits at hff;omega
    have hdata:dataS (readS g d)=d:=by
     have e1:putF b.length (1,g,d)=(blk b.length 1 g d,0):=by
      unfold putF;rw[if_neg (fun h=>h hf),if_neg (by show ¬(b.length:Int)-16<(d.length:Int);omega)];simp
     rw[e1]at hbl;rw[h3,←hlen,Int.toNat_natCast]at hp;have e2:blk b.length 1 g d=blk b.length 1 g (dataS (readS g d)):=by
      have a1:=congrArg Prod.fst hbl;have a2:=congrArg Prod.fst hp;exact a1.trans a2
     have:=(Fr.Qlj b.length (1,g,d) (1,g,dataS (readS g d)) hf hok ⟨hok.1,hok.2.1,QaZ _⟩ hkl (by unfold Fits at hff;show(dataS (readS g d)).length+16≤b.length;omega)).1 e2;exact(congrArg (fun p=>p.2.2) this).symm
    rw[if_neg (fun h=>h (Qlq hdata (by omega))),if_neg (fun h=>h hlen.symm),if_neg (fun h=>h he)]
   ·rw[if_neg h3];by_cases h4:OkD g d
    ·rw[if_neg (fun h=>h h4)];by_cases h5:(readS g d).size=(b.length:Int)
     ·rw[if_neg (fun h=>h h5)];by_cases h6:supE (readS g d)=0
      ·exfalso
       apply h3
       have:putS (readS g d)=putF (readS g d).size (1,g,dataS (readS g d)):=if_neg (fun h=>h h6);rw[this,QlJ hdb h4,h5,hbl]
      ·rw[if_pos h6]
     ·rw[if_pos h5]
    ·rw[if_pos h4]
 ·rw[if_pos h1,if_pos h1]
theorem QcD:SupOk zeroS:=⟨by decide,by decide,fun p hp=>by cases hp⟩
theorem Qhv{g:Int}{d:List Int}(hok:FmOk (1,g,d)):SupOk (readS g d):=by
 refine⟨hok.2.1,?_,Qei _ _ (fun x hx=>hok.2.2 x (List.mem_of_mem_drop hx))⟩;have h1:=Oct.Qv ((d.drop 8).take 4) (fun x hx=>hok.2.2 x (List.mem_of_mem_drop (List.mem_of_mem_take hx)));have h2:((d.drop 8).take 4).length≤4:=by rw[List.length_take];omega
 refine⟨h1.1,Int.lt_of_lt_of_le h1.2 ?_⟩;generalize ((d.drop 8).take 4).length=k at h2;have:k=0∨k=1∨k=2∨k=3∨k=4:=by omega
 rcases this with rfl|rfl|rfl|rfl|rfl <;> (show _≤(4294967296:Int);decide)
theorem Qly{b:List Int}(hb:Bs.IsB b):SupOk (getS b).1:=by
 by_cases h:(getS b).2=0
 ·rw[QiT hb];unfold getP;by_cases h1:(kindF b 1).2=0
  ·have hok:=QeL hb h1;rw[if_neg (show ¬(kindF b 1).2≠0 from fun h=>h h1)];have hro:=Qhv hok
   split
   ·exact QcD
   ·split
    ·exact QcD
    ·split
     ·exact QcD
     ·exact hro
  ·rw[if_pos h1];exact QcD
 ·rw[Qkc h];exact QcD
theorem Qhj{b:List Int}(hb:Bs.IsB b)(h:(getS b).2=0):0<(getS b).1.gen:=by
 have h1:=Qf0 h;have h2:supE (getS b).1=0:=by rw[←put_e,h1]
 have h3:=(Qaq h2).1.2.1;have h4:=(Qly hb).gen;omega
def pickS(i:Int)(b:List Int)(z:Int×Sup×Int):Int×Sup×Int:=if (getS b).2=0∧z.2.1.gen<(getS b).1.gen then(i,(getS b).1,0) else z
theorem QiG{a b:List Int}(ha:Bs.IsB a)(hb:Bs.IsB b):pickS 1 b (pickS 0 a (-1,zeroS,10))=chooseS a b:=by
 unfold pickS chooseS;by_cases h1:(getS a).2=0
 ·have p1:=Qhj ha h1;rw[if_pos (show(getS a).2=0∧(-1,zeroS,(10:Int)).2.1.gen<(getS a).1.gen from⟨h1,p1⟩)];rw[if_neg (fun h:(getS a).2≠0∧(getS b).2≠0=>h.1 h1)];by_cases h2:(getS b).2=0∧(getS a).1.gen<(getS b).1.gen
  ·rw[if_pos h2,if_pos (.inr h2)]
  ·rw[if_neg h2,if_neg (by rintro(h|h);exact h h1;exact h2 h)]
 ·rw[if_neg (fun h:(getS a).2=0∧_=>h1 h.1)];by_cases h2:(getS b).2=0
  ·have p2:=Qhj hb h2;rw[if_pos (show(getS b).2=0∧(-1,zeroS,(10:Int)).2.1.gen<(getS b).1.gen from⟨h2,p2⟩),if_neg (fun h:(getS a).2≠0∧(getS b).2≠0=>h.2 h2),if_pos (.inl h1)]
  ·rw[if_neg (fun h:(getS b).2=0∧_=>h2 h.1),if_pos ⟨h1,h2⟩]
end Su
namespace Cn
open Oct (putB ofB)
open Su (GeoOk pagesF)
open Fr (room)
def bytesC:List Int→List Int
 | []=>[]
 |x :: l=>putB 2 x++bytesC l
theorem Qa8:∀l:List Int,(bytesC l).length=2*l.length
 | []=>rfl
 |x :: l=>by rw[bytesC,List.length_append,Oct.Qe,Qa8 l,List.length_cons];omega
theorem Qc3:∀a b:List Int,bytesC (a++b)=bytesC a++bytesC b
 | [],b=>rfl
 |x :: a,b=>by rw[List.cons_append,bytesC,bytesC,Qc3 a b,List.append_assoc]
def IsC(l:List Int):Prop:=∀x∈l,0≤x∧x<65536
def cntsB:Nat→List Int→List Int
 |0,_=>[]
 |f+1,l=>if l.length<2 then [] else ofB (l.take 2) :: cntsB f (l.drop 2)
theorem Qek:∀(f:Nat) (l:List Int),IsC l→l.length≤f→cntsB f (bytesC l)=l
 |0,l,_,h=>by
  obtain rfl:l=[]:=List.length_eq_zero_iff.1 (by omega)
  rfl
 |f+1,[],_,_=>rfl
 |f+1,x :: l,hc,h=>by
  have h2:(putB 2 x).length=2:=Oct.Qe 2 x;have hx:=hc x (List.mem_cons_self ..);rw[bytesC,cntsB,if_neg (by rw[List.length_append,h2];omega),Fr.QG _ _ 2 h2,Fr.QF _ _ 2 h2,Oct.Qz 2 x hx.1 (by show x<256 ^ 2;rw[show(256:Int) ^ 2=65536 from by decide];exact hx.2),Qek f l (fun y hy=>hc y (List.mem_cons_of_mem _ hy)) (by rw[List.length_cons]at h;omega)]
def pagesL(each:Nat):Nat→List Int→List (List Int)
 |0,_=>[]
 |f+1,l=>if l.length=0 then [] else bytesC (l.take each) :: pagesL each f (l.drop each)
theorem Qex(each:Nat)(he:0<each):∀(f:Nat) (l:List Int),l.length≤f→(pagesL each f l).flatten=bytesC l
 |0,l,h=>by
  obtain rfl:l=[]:=List.length_eq_zero_iff.1 (by omega)
  rfl
 |f+1,l,h=>by
  rw[pagesL];by_cases h0:l.length=0
  ·rw[if_pos h0];obtain rfl:l=[]:=List.length_eq_zero_iff.1 h0
   rfl
  ·rw[if_neg h0,List.flatten_cons,Qex each he f (l.drop each) (by rw[List.length_drop];omega),←Qc3,List.take_append_drop]
theorem QbA(each:Nat)(he:0<each):∀(f:Nat) (l:List Int),l.length≤f→(pagesL each f l).length=(l.length+each-1) / each
 |0,l,h=>by
  rw[pagesL,List.length_nil,show l.length=0 by omega,Nat.zero_add,Nat.div_eq_of_lt (by omega)]
 |f+1,l,h=>by
  rw[pagesL];by_cases h0:l.length=0
  ·rw[if_pos h0,List.length_nil,h0,Nat.zero_add,Nat.div_eq_of_lt (by omega)]
  ·rw[if_neg h0,List.length_cons,QbA each he f (l.drop each) (by rw[List.length_drop];omega),List.length_drop];by_cases h1:l.length≤each
   ·rw[show l.length-each+each-1=each-1 by omega,Nat.div_eq_of_lt (by omega),show l.length+each-1=(l.length-1)+each by omega,Nat.add_div_right _ he,Nat.div_eq_of_lt (by omega)]
   ·rw[show l.length+each-1=(l.length-each+each-1)+each by omega,Nat.add_div_right _ he]
theorem Qcm(each:Nat)(he:0<each):∀(f k:Nat) (l:List Int),l.length≤f→k*each<l.length→(pagesL each f l)[k]?=some (bytesC ((l.drop (k*each)).take each))
 |0,k,l,h,hk=>by omega
 |f+1,k,l,h,hk=>by
  rw[pagesL,if_neg (by omega)];cases k with
  |zero=>rw[Nat.zero_mul,List.drop_zero];rfl
  |succ k=>
   have e:(k+1)*each=each+k*each:=by rw[Nat.add_mul];omega
   rw[List.getElem?_cons_succ,Qcm each he f k (l.drop each) (by rw[List.length_drop];omega) (by rw[List.length_drop];omega),List.drop_drop,e]
def eachC(size:Int):Nat:=(room size / 2).toNat
theorem QX{size blocks:Int}(h:GeoOk size blocks):56≤eachC size∧(2*(eachC size:Int))=room size:=by
 have hr:=Su.QR h;unfold GeoOk at h;unfold eachC;rw[hr];omega
theorem Qav{size:Int}{n:Nat}(h:GeoOk size n)(l:List Int)(hl:l.length=n):((pagesL (eachC size) n l).length:Int)=pagesF size n:=by
 obtain⟨h1,h2⟩:=QX h;rw[QbA _ (by omega) _ _ (by omega),hl];unfold pagesF;rw[if_pos h,←h2];obtain⟨e,he⟩:∃e,eachC size=e:=⟨_,rfl⟩;rw[he]at h1 h2 ⊢;have h3:(2*n+2*e-1) / (2*e)=(n+e-1) / e:=by
  obtain⟨q,hq⟩:∃q,(n+e-1) / e=q:=⟨_,rfl⟩;have q1:q*e≤n+e-1:=by rw[←hq];exact Nat.div_mul_le_self _ _
  have q2:n+e-1<(q+1)*e:=by rw[←hq];exact Nat.lt_mul_of_div_lt (Nat.lt_succ_self _) (by omega)
  rw[hq];have q3:q*(2*e)=2*(q*e):=by rw[←Nat.mul_assoc,Nat.mul_comm q 2,Nat.mul_assoc]
  have q4:(q+1)*(2*e)=2*((q+1)*e):=by rw[←Nat.mul_assoc,Nat.mul_comm (q+1) 2,Nat.mul_assoc]
  exact Nat.div_eq_of_lt_le (by rw[q3];omega) (by rw[q4];omega)
 have h4:(2*(n:Int)+2*(e:Int)-1)=((2*n+2*e-1:Nat):Int):=by omega
 have h5:2*(e:Int)=((2*e:Nat):Int):=by omega
 rw[h4,h5,←h3]
 norm_cast
theorem Qey(each:Nat):∀(f:Nat) (l m:List Int),l.length=m.length→(pagesL each f l).map List.length=(pagesL each f m).map List.length
 |0,_,_,_=>rfl
 |f+1,l,m,h=>by
  rw[pagesL,pagesL];by_cases h0:l.length=0
  ·rw[if_pos h0,if_pos (by omega)]
  ·rw[if_neg h0,if_neg (by omega),List.map_cons,List.map_cons,Qa8,Qa8,List.length_take,List.length_take,h,Qey each f (l.drop each) (m.drop each) (by rw[List.length_drop,List.length_drop,h])]
def loadC(size:Int)(n:Nat)(ps:List (List Int)):List Int×Int:=
 if ¬GeoOk size n then([],2)
 else if (ps.length:Int)≠pagesF size n then([],4)
 else if ps.map List.length≠(pagesL (eachC size) n (List.replicate n 0)).map List.length then([],4)
 else if (cntsB n ps.flatten).getD 0 0≠1∨(cntsB n ps.flatten).getD 1 0≠1 then([],4)
 else(cntsB n ps.flatten,0)
theorem Qic{size:Int}{n:Nat}(h:GeoOk size n)(N:List Int)(hN:N.length=n)(hc:IsC N)(h0:N.getD 0 0=1)(h1:N.getD 1 0=1):loadC size n (pagesL (eachC size) n N)=(N,0):=by
 have he:=(QX h).1;have e:cntsB n (pagesL (eachC size) n N).flatten=N:=by rw[Qex _ (by omega) _ _ (by omega),Qek n N hc (by omega)]
 unfold loadC;rw[if_neg (fun k=>k h),if_neg (fun k=>k (Qav h N hN)),if_neg (fun k=>k (Qey _ _ _ _ (by rw[List.length_replicate,hN]))),e,if_neg (by rw[h0,h1];rintro(k|k) <;> exact k rfl)]
structure CnOk (size:Int) (n:Nat) (N:List Int):Prop where
 geo:GeoOk size n
 len:N.length=n
 cnt:IsC N
 at0:N.getD 0 0=1
 at1:N.getD 1 0=1
def newC(n:Nat):List Int:=1 :: 1 :: List.replicate (n-2) 0
theorem Qgn{size:Int}{n:Nat}(h:GeoOk size n):CnOk size n (newC n):=by
 refine⟨h,?_,fun x hx=>?_,rfl,rfl⟩
 ·unfold newC GeoOk at *;simp only[List.length_cons,List.length_replicate];omega
 ·unfold newC at hx;rcases List.mem_cons.1 hx with rfl|hx
  ·omega
  ·rcases List.mem_cons.1 hx with rfl|hx
   ·omega
   ·rw[(List.mem_replicate.1 hx).2];omega
theorem CnOk.set{size:Int}{n:Nat}{N:List Int}(h:CnOk size n N)(k:Nat)(hk:2≤k)(x:Int)(hx:0≤x∧x<65536):CnOk size n (N.set k x):=by
 refine⟨h.geo,by rw[List.length_set];exact h.len,fun y hy=>?_,?_,?_⟩
 ·rcases List.mem_or_eq_of_mem_set hy with hy|rfl
  ·exact h.cnt y hy
  ·exact hx
 ·rw[List.getD_eq_getElem?_getD,List.getElem?_set_ne (by omega),←List.getD_eq_getElem?_getD];exact h.at0
 ·rw[List.getD_eq_getElem?_getD,List.getElem?_set_ne (by omega),←List.getD_eq_getElem?_getD];exact h.at1
theorem CnOk.load{size:Int}{n:Nat}{N:List Int}(h:CnOk size n N):loadC size n (pagesL (eachC size) n N)=(N,0):=Qic h.geo N h.len h.cnt h.at0 h.at1
def freeC(held N:List Int)(i:Nat):Prop:=2≤i∧i<N.length∧N.getD i 0=0∧held.getD i 0=0
inductive TakeR (held N:List Int):Option Nat→Prop
 |one (k:Nat) (h:freeC held N k) (hl:∀j,j<k→¬freeC held N j):TakeR held N (some k)
 |full (h:∀j,¬freeC held N j):TakeR held N none
theorem QgL{held N:List Int}{r s:Option Nat}(h:TakeR held N r)(k:TakeR held N s):r=s:=by
 cases h with
 |one a ha hla=>
  cases k with
  |one b hb hlb=>
   have h1:¬a<b:=fun q=>hlb a q ha
   have h2:¬b<a:=fun q=>hla b q hb
   rw[show a=b by omega]
  |full hb=>exact absurd ha (hb a)
 |full ha=>
  cases k with
  |one b hb _=>exact absurd hb (ha b)
  |full _=>rfl
end Cn
namespace Cn
instance (held N:List Int) (i:Nat):Decidable (freeC held N i):=by unfold freeC;exact inferInstance
theorem Qj(N:List Int)(k:Nat)(x:Int)(j:Nat)(hk:k<N.length):(N.set k x).getD j 0=if j=k then x else N.getD j 0:=by
 by_cases h:j=k
 ·subst h;rw[if_pos rfl,List.getD_eq_getElem?_getD,List.getElem?_set_self hk]
  rfl
 ·rw[if_neg h,List.getD_eq_getElem?_getD,List.getElem?_set_ne (fun e=>h e.symm),←List.getD_eq_getElem?_getD]
theorem count_one:∀(n k:Nat) (p q:Nat→Bool),k<n→p k=true→(∀j,q j=(p j && decide (j≠k)))→(List.range n).countP q+1=(List.range n).countP p
 |0,k,_,_,h,_,_=>by omega
 |n+1,k,p,q,h,hp,hq=>by
  rw[List.range_succ,List.countP_append,List.countP_append,List.countP_cons,List.countP_cons,List.countP_nil,List.countP_nil];by_cases e:k=n
  ·subst e;have h1:(List.range k).countP q=(List.range k).countP p:=List.countP_congr fun j hj=>by
    have:=List.mem_range.1 hj;rw[hq j,decide_eq_true (show j≠k by omega),Bool.and_true]
   have h2:q k=false:=by rw[hq k];simp
   rw[h1,h2,hp];simp
  ·have ih:=count_one n k p q (by omega) hp hq;have h2:q n=p n:=by rw[hq n,decide_eq_true (show n≠k by omega),Bool.and_true]
   rw[h2];omega
def onesC(n i:Nat):List Int:=List.replicate i 1++List.replicate (n-i) 0
theorem Qd2(n i:Nat)(h:i≤n):(onesC n i).length=n:=by unfold onesC;rw[List.length_append,List.length_replicate,List.length_replicate];omega
theorem Qgo(n:Nat):newC n=onesC n 2:=rfl
theorem QlK(n i j:Nat)(_h:i≤n):(onesC n i).getD j 0=if j<i then 1 else 0:=by
 unfold onesC;rw[List.getD_eq_getElem?_getD];by_cases hj:j<i
 ·rw[if_pos hj,List.getElem?_append_left (by rw[List.length_replicate];exact hj),List.getElem?_replicate,if_pos hj];rfl
 ·rw[if_neg hj,List.getElem?_append_right (by rw[List.length_replicate];omega),List.getElem?_replicate]
  split <;> rfl
end Cn
namespace Dv
open Go.RowKit Bs
def lastOf(d:List (List Int))(p:List (Nat×List Int))(b:Nat):List Int:=match p.reverse.find? (fun q=>q.1==b) with
 |some q=>q.2
 |none=>d.getD b []
theorem Qct(d:List (List Int))(p:List (Nat×List Int))(q:Nat×List Int)(b:Nat):lastOf d (p++[q]) b=if q.1=b then q.2 else lastOf d p b:=by
 unfold lastOf;rw[List.reverse_append,List.reverse_singleton,List.singleton_append,List.find?_cons];by_cases h:q.1=b
 ·simp[h]
 ·have:(q.1==b)=false:=beq_eq_false_iff_ne.2 h;simp[h,this]
theorem Qgb(p:List (Nat×List Int)):∀d:List (List Int),(laid d p).length=d.length:=by
 induction p with
 |nil=>intro d;rfl
 |cons q p ih=>intro d;exact(ih _).trans (List.length_set)
theorem Qi4(d:List (List Int))(b:Nat)(hb:b<d.length):∀n (p:List (Nat×List Int)),p.length=n→(laid d p).getD b []=lastOf d p b:=by
 intro n
 induction n with
 |zero=>intro p hp;rw[List.eq_nil_of_length_eq_zero hp];rfl
 |succ n ih=>
  intro p hp;obtain⟨r,q,rfl⟩:∃r q,p=r++[q]:=⟨p.dropLast,p.getLast (by intro e;rw[e]at hp;simp at hp),(List.dropLast_concat_getLast _).symm⟩;have hr:r.length=n:=by simpa using hp
  rw[Qfi,Qct,List.getD_eq_getElem?_getD];by_cases h:q.1=b
  ·rw[if_pos h,h,List.getElem?_set_self (by rw[Qgb];exact hb)];rfl
  ·rw[if_neg h,List.getElem?_set_ne h,←List.getD_eq_getElem?_getD];exact ih r hr
end Dv
namespace Bs
open Go.RowKit
def pick(n m:Int):Int:=if m<1 then 0 else n % m
theorem Qai(n m:Int)(h:1≤m):0≤pick n m∧pick n m<m:=by
 unfold pick;rw[if_neg (by omega)];exact⟨Int.emod_nonneg _ (by omega),Int.emod_lt_of_pos _ (by omega)⟩
theorem QlL(n m:Int)(h1:1≤m)(h2:m≤9223372036854775807)(h:n.tmod m<0):wrap64 (n.tmod m+m)=pick n m:=by
 have hr:=Qai n m h1;unfold pick at hr ⊢;rw[if_neg (by omega)]at hr ⊢;have e:=Int.tmod_eq_emod (a:=n) (b:=m)
 split at e
 ·omega
 ·rw[IntWalk.wrap64_in _ (by omega)];omega
theorem Qjr(n m:Int)(h1:1≤m)(h:0≤n.tmod m):n.tmod m=pick n m:=by
 have hr:=Qai n m h1;unfold pick at hr ⊢;rw[if_neg (by omega)]at hr ⊢;have e:=Int.tmod_eq_emod (a:=n) (b:=m)
 split at e
 ·omega
 ·omega
theorem Qd5(n m:Int)(w:World)(h1:1≤m)(h2:m≤9223372036854775807) :
  Calls Tryz.prog 19 #[.int .i64 n,.int .i64 m] w fun e w'=>e=.returned (.int .i64 (pick n m))∧w=w':=by
 go_enter Tryz.func19,Tryz.ntmps19
 go_wp2
 ·have hlt:n.tmod m<0:=by assumption
  go_ret
  exact⟨Qq (QlL n m h1 h2 hlt),rfl⟩
 ·have hge:0≤n.tmod m:=by assumption
  go_ret
  exact⟨Qq (Qjr n m h1 hge),rfl⟩
end Bs
end Go.Proofs.YtgffbbdcbkikhaaGreatDoor
