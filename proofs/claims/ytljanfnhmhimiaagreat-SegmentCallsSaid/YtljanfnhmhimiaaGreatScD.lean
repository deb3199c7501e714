/- Parts of the proof. -/
import Derived.Test.YtljanfnhmhimiaaGreatRows
import Derived.WalkLawsBesides
import Derived.BigQuiet
import Derived.Lib.Hide
import Derived.Laws.AppendOwnNone
import Derived.Laws.CopyOwn
import Derived.Deep.Slices
import Derived.Lib.SlBytesConst
import Derived.Test.YtljanfnhmhimiaaGreatScA
set_option maxRecDepth 100000
set_option maxHeartbeats 8000000
open Go.Lib (hid)
namespace Go.Proofs.YtljanfnhmhimiaaGreat
namespace Bs
open Go.RowKit
def IsB(l:List Int):Prop:=∀x∈l,0≤x∧x<256
structure Seg (w:World) (a:Option Addr) (n c:Nat) (l:List Int):Prop where
 len:l.length=n
 le:n≤c
 cap:c≤maxLen
 nil_:a=none→n=0∧c=0
 at_:∀ad,a=some ad→∀j u,(l.map (Value.int .u8))[j]?=some u→w.cell? (ad.add j)=some u
theorem Seg.nil(w:World):Seg w none 0 0 []:=⟨rfl,Nat.le_refl _,by unfold maxLen;omega,fun _=>⟨rfl,rfl⟩,fun _ h=>by cases h⟩
theorem Seg.own{w:World}{base e g n c:Nat}{l:List Int}(h:w.ownsRow base e 1 (.slice (some ⟨g,0,none⟩) n c) n (l.map (Value.int .u8))):Seg w (some ⟨g,0,none⟩) n c l:=by
 have hl:l.length=n:=by simpa using h.1
 refine⟨hl,?_,?_,fun e=>by(cases e),?_⟩
 ·rcases h.2 with ⟨e,_⟩|⟨g',cap,cur,e,_,_,h1,h2,_⟩
  ·cases e
  ·cases e;exact h1
 ·rcases h.2 with ⟨e,_⟩|⟨g',cap,cur,e,_,_,h1,h2,_⟩
  ·cases e
  ·cases e;exact h2
 ·intro ad had j u hu;cases had
  exact h.cells rfl j u hu
theorem Seg.kept{w w':World}{a:Option Addr}{n c:Nat}{l:List Int}(h:Seg w a n c l){row:Option Nat}(hg:w.grownBy w' row)(hne:∀ad,a=some ad→row≠some ad.block):Seg w' a n c l:=by
 refine⟨h.len,h.le,h.cap,h.nil_,fun ad had j u hu=>hg.cell (h.at_ ad had j u hu) ?_⟩;intro e;have:(ad.add j).block=ad.block:=by unfold Addr.add;split <;> rfl
 rw[this]at e;exact hne ad had e.symm
theorem Seg.grown{w w':World}{a:Option Addr}{n c:Nat}{l:List Int}(h:Seg w a n c l)(hg:w.grownBy w' none):Seg w' a n c l:=h.kept hg (fun _ _ e=>by cases e)
theorem Seg.addr{w:World}{a:Option Addr}{n c:Nat}{l:List Int}(h:Seg w a n c l)(hn:0<n):∃g o,a=some ⟨g,o,none⟩∧∀j,j<n→w.cell? ⟨g,o+j,none⟩=some (.int .u8 (l.getD j 0)):=by
 have hl:=h.len;cases a with
 |none=>have:=h.nil_ rfl;omega
 |some ad=>
  have hc:=h.at_ ad rfl;obtain⟨g,o,spot⟩:=ad;have h0:=hc 0 (.int .u8 (l.getD 0 0)) (by simp[List.getD];rw[List.getElem?_eq_getElem (by omega)];rfl);have hspot:spot=none:=by simpa [Addr.add] using World.cell?_spot h0
  subst hspot;refine⟨g,o,rfl,fun j hj=>?_⟩;have h1:=hc j (.int .u8 (l.getD j 0)) (by simp[List.getD];rw[List.getElem?_eq_getElem (by omega)];rfl);rw[Addr.add_lit]at h1;exact h1
theorem Seg.take{w:World}{a:Option Addr}{n c m:Nat}{l:List Int}(h:Seg w a n c l)(hm:m≤n):Seg w a m c (l.take m):=by
 refine⟨by rw[List.length_take,h.len];omega,Nat.le_trans hm h.le,h.cap,fun e=>⟨by have:=(h.nil_ e).1;omega,(h.nil_ e).2⟩,fun ad had j u hu=>h.at_ ad had j u ?_⟩;rw[List.map_take]at hu;have hj:j<m:=by
  have:=(List.getElem?_eq_some_iff.1 hu).1;rw[List.length_take]at this;omega
 rwa [List.getElem?_take_of_lt hj]at hu
theorem Qq{k:IntKind}{a b:Int}(h:a=b):Ending.returned (.int k a)=.returned (.int k b):=by rw[h]
theorem Qbl{a b:Bool}(h:a=b):Ending.returned (.bool a)=.returned (.bool b):=by rw[h]
theorem Qj:(Tryz.prog.info? 5).map (fun i=>(i.zero,i.size,i.bytes))=some (some (.int .u8 0),1,1):=by kernel_rfl
theorem grownBy_trans{a b c:World}{r:Option Nat}(h:a.grownBy b none)(k:b.grownBy c r)(hr:∀i,r=some i→a.heap.size≤i):a.grownBy c none:=
 ⟨k.os.trans h.os,k.tape.trans h.tape,k.output.trans h.output,Nat.le_trans h.size k.size,fun i hi _=>(k.block i (Nat.lt_of_lt_of_le hi h.size) (fun e=>by have:=hr i e.symm;omega)).trans (h.block i hi (by simp))⟩
theorem Qv{w:World}{b b' e s:Nat}{v:Value}{n:Nat}{xs:List Value}(h:w.ownsRow b e s v n xs)(hb:b'≤b):w.ownsRow b' e s v n xs:=by
 refine⟨h.1,?_⟩;rcases h.2 with h2|⟨g,cap,cur,h3,h4,h5⟩
 ·exact .inl h2
 ·exact .inr ⟨g,cap,cur,h3,by omega,h5⟩
theorem grown_of{w w':World}(h:Below w.heap.size w w'):w.grownBy w' none:=⟨h.os,h.tape,h.output,h.size,fun k hk _=>h.block k hk⟩
theorem below_drewN{B:Nat}{a w:World}(m:Nat)(h:Below B a w):Below B a (w.drewN m):=⟨h.os,h.tape,h.output,h.size,h.block⟩
theorem QcJ{P:Program}{w:World}{o:Oper}{a:Act}{K:Act→World→Prop}{Q:Exit→Act→World→Prop}(s x:Operand)(t:TypeId)
  (ho:o.op=.call { callee:=.builtin .append,args:=#[s,x],argTypes:=#[t,t] }) (base:Nat) (e:TypeId) (i:TypeInfo) (ht:P.underlying t=some (.slice e)) (hi:P.info? e=some i) (hz:i.zero=some (.int .u8 0)) (hsize:i.size=1) (hby:i.bytes=1)
  (g n0 c0:Nat) (xs:List Value) (hs:a.eval s=.slice (some ⟨g,0,none⟩) n0 c0) (hown:w.ownsRow base e 1 (.slice (some ⟨g,0,none⟩) n0 c0) n0 xs)
  (sp:Option Addr) (n c:Nat) (l:List Int) (hx:a.eval x=.slice sp n c) (hseg:Seg w sp n c l) (hbytes:n0+n≤140737488355328) (hbase:base≤w.heap.size)
  (h:∀g' c' w',w'.ownsRow base e 1 (.slice (some ⟨g',0,none⟩) (n0+n) c') (n0+n) (xs++l.map (Value.int .u8))→w.grownBy w' (some g)→K (a.put o.dst (.slice (some ⟨g',0,none⟩) (n0+n) c')) w'):o.wp P a w K Q:=by
 cases sp with
 |none=>
  obtain⟨rfl,rfl⟩:=hseg.nil_ rfl;obtain rfl:=List.eq_nil_of_length_eq_zero hseg.len;have hrun:=run_append_owned_none (P:=P) (w:=w) base t o.type e i 1 ht hi _ n0 xs hown;unfold Oper.wp;simp[execOp,ho,resolve,invoke,builtin,hs,hx,hrun,Result.andThen];exact h g c0 w (by simpa using hown) ⟨rfl,rfl,rfl,Nat.le_refl _,fun _ _ _=>rfl⟩
 |some ad=>
  refine wp_append_own w s x t ho base e i (.int .u8 0) 1 1 ht hi hz hsize hby rfl (by decide) _ n0 xs hs hown ad n c (l.map (Value.int .u8)) hx (by simp[hseg.len]) (hseg.at_ ad rfl) (ints_oneCell _ _) (by unfold maxLen;omega) (by omega) hbase ?_;intro v' w1 hown1 hg1 hnil;rcases hown1.2 with ⟨e1,_⟩|⟨g',c',cur,e1,_⟩
  ·exact absurd (hnil.1 e1).1 (by simp)
  ·subst e1;exact h g' c' w1 hown1 hg1
theorem Qr{P:Program}{w:World}{ops:Array Oper}{rest:List Oper}{o:Oper}{a:Act}{Q:Exit→Act→World→Prop}(hgd:o.guard=none)(s x:Operand)(t:TypeId)
  (ho:o.op=.call { callee:=.builtin .append,args:=#[s,x],argTypes:=#[t,t] }) (base:Nat) (e:TypeId) (i:TypeInfo) (ht:P.underlying t=some (.slice e)) (hi:P.info? e=some i) (hz:i.zero=some (.int .u8 0)) (hsize:i.size=1) (hby:i.bytes=1)
  (g n0 c0:Nat) (xs:List Value) (hs:a.eval s=.slice (some ⟨g,0,none⟩) n0 c0) (hown:w.ownsRow base e 1 (.slice (some ⟨g,0,none⟩) n0 c0) n0 xs)
  (sp:Option Addr) (n c:Nat) (l:List Int) (hx:a.eval x=.slice sp n c) (hseg:Seg w sp n c l) (hbytes:n0+n≤140737488355328) (hbase:base≤w.heap.size)
  (h:∀g' c' w',w'.ownsRow base e 1 (.slice (some ⟨g',0,none⟩) (n0+n) c') (n0+n) (xs++l.map (Value.int .u8))→w.grownBy w' (some g)→wpList P ops Q rest (a.put o.dst (.slice (some ⟨g',0,none⟩) (n0+n) c')) w'):wpList P ops Q (o :: rest) a w:=
 wpList_plain hgd fun _ hK=>QcJ s x t ho base e i ht hi hz hsize hby g n0 c0 xs hs hown sp n c l hx hseg hbytes hbase fun g' c' w' h1 h2=>hK _ _ (h g' c' w' h1 h2)
theorem QbV(w:World)(l:List Int)(hl:l.length≤1000):Seg (w.alloc (.cells (l.map (Value.int .u8)).toArray 5)) (some ⟨w.heap.size,0,none⟩) l.length l.length l:=by
 have h:=World.ownsRow_lit (base:=w.heap.size) (e:=5) (size:=1) w (l.map (Value.int .u8)).toArray l.length (Nat.le_refl _) (by unfold maxLen;omega) (by simp);have e:(l.map (Value.int .u8)).toArray.toList=l.map (Value.int .u8):=by simp
 rw[e]at h;exact Seg.own h
end Bs
namespace Dv
open Go.RowKit Bs
theorem QmD{x y:Int}(hx:0≤x∧x<256)(hy:0≤y∧y<256)(h:UInt8.ofNat x.toNat=UInt8.ofNat y.toNat):x=y:=by
 have h2:=congrArg UInt8.toNat h;simp only[UInt8.toNat_ofNat']at h2;omega
theorem Qkj(a:List Int):∀b:List Int,IsB a→IsB b→a.map (fun n=>UInt8.ofNat n.toNat)=b.map (fun n=>UInt8.ofNat n.toNat)→a=b:=by
 induction a with
 |nil=>intro b _ _ h;cases b with
  |nil=>rfl
  |cons y b=>simp at h
 |cons x a ih=>intro b ha hb h;cases b with
  |nil=>simp at h
  |cons y b=>
   simp only[List.map_cons,List.cons.injEq]at h;rw[QmD (ha x (by simp)) (hb y (by simp)) h.1,ih b (fun z hz=>ha z (by simp[hz])) (fun z hz=>hb z (by simp[hz])) h.2]
theorem QbF{a b:List Int}(ha:IsB a)(hb:IsB b)(h:strOfNums a=strOfNums b):a=b:=by
 apply Qkj a b ha hb
 have:=congrArg (fun s:ByteArray=>s.data.toList) h
 simpa [strOfNums] using this
theorem QpL(s:ByteArray):∃l,IsB l∧s=strOfNums l:=by
 refine⟨s.data.toList.map fun b=>(b.toNat:Int),?_,?_⟩
 ·intro x hx;obtain⟨b,_,rfl⟩:=List.mem_map.1 hx;have:=b.toNat_lt;omega
 ·apply ByteArray.ext
  apply Array.ext'
  simp only[strOfNums,List.map_map];have e:((fun n:Int=>UInt8.ofNat n.toNat) ∘ fun b:UInt8=>(b.toNat:Int))=id:=by
   funext b
   simp
  rw[e,List.map_id]
theorem Qja(l:List Int)(h:IsB l):(strOfNums l).data.toList.map (fun b=>Value.int .u8 (b.toNat:Int))=l.map (Value.int .u8):=by
 rw[strOfNums_data,List.map_map];apply List.map_congr_left
 intro x hx;have:=h x hx;simp only[Function.comp,UInt8.toNat_ofNat']
 congr 1
 omega
theorem QX(l:List Int)(a b:Nat):(strOfNums l).extract a b=strOfNums ((l.drop a).take (b-a)):=by
 apply ByteArray.ext
 apply Array.ext'
 simp[strOfNums,ByteArray.data_extract,List.map_drop,List.map_take]
end Dv
namespace Is
open Go.RowKit
open Bs (grownBy_trans Qv)
def IsI(l:List Int):Prop:=∀x∈l,-9223372036854775808≤x∧x≤9223372036854775807
structure Seg (w:World) (a:Option Addr) (n c:Nat) (l:List Int):Prop where
 len:l.length=n
 le:n≤c
 cap:c≤maxLen
 nil_:a=none→n=0∧c=0
 at_:∀ad,a=some ad→∀j u,(l.map (Value.int .i64))[j]?=some u→w.cell? (ad.add j)=some u
theorem Seg.nil(w:World):Seg w none 0 0 []:=⟨rfl,Nat.le_refl _,by unfold maxLen;omega,fun _=>⟨rfl,rfl⟩,fun _ h=>by cases h⟩
theorem Seg.own{w:World}{base e g n c:Nat}{l:List Int}(h:w.ownsRow base e 1 (.slice (some ⟨g,0,none⟩) n c) n (l.map (Value.int .i64))):Seg w (some ⟨g,0,none⟩) n c l:=by
 have hl:l.length=n:=by simpa using h.1
 refine⟨hl,?_,?_,fun e=>by(cases e),?_⟩
 ·rcases h.2 with ⟨e,_⟩|⟨g',cap,cur,e,_,_,h1,h2,_⟩
  ·cases e
  ·cases e;exact h1
 ·rcases h.2 with ⟨e,_⟩|⟨g',cap,cur,e,_,_,h1,h2,_⟩
  ·cases e
  ·cases e;exact h2
 ·intro ad had j u hu;cases had
  exact h.cells rfl j u hu
theorem Seg.kept{w w':World}{a:Option Addr}{n c:Nat}{l:List Int}(h:Seg w a n c l){row:Option Nat}(hg:w.grownBy w' row)(hne:∀ad,a=some ad→row≠some ad.block):Seg w' a n c l:=by
 refine⟨h.len,h.le,h.cap,h.nil_,fun ad had j u hu=>hg.cell (h.at_ ad had j u hu) ?_⟩;intro e;have:(ad.add j).block=ad.block:=by unfold Addr.add;split <;> rfl
 rw[this]at e;exact hne ad had e.symm
theorem Seg.grown{w w':World}{a:Option Addr}{n c:Nat}{l:List Int}(h:Seg w a n c l)(hg:w.grownBy w' none):Seg w' a n c l:=h.kept hg (fun _ _ e=>by cases e)
theorem Seg.addr{w:World}{a:Option Addr}{n c:Nat}{l:List Int}(h:Seg w a n c l)(hn:0<n):∃g o,a=some ⟨g,o,none⟩∧∀j,j<n→w.cell? ⟨g,o+j,none⟩=some (.int .i64 (l.getD j 0)):=by
 have hl:=h.len;cases a with
 |none=>have:=h.nil_ rfl;omega
 |some ad=>
  have hc:=h.at_ ad rfl;obtain⟨g,o,spot⟩:=ad;have h0:=hc 0 (.int .i64 (l.getD 0 0)) (by simp[List.getD];rw[List.getElem?_eq_getElem (by omega)];rfl);have hspot:spot=none:=by simpa [Addr.add] using World.cell?_spot h0
  subst hspot;refine⟨g,o,rfl,fun j hj=>?_⟩;have h1:=hc j (.int .i64 (l.getD j 0)) (by simp[List.getD];rw[List.getElem?_eq_getElem (by omega)];rfl);rw[Addr.add_lit]at h1;exact h1
theorem Qax:(Tryz.prog.info? 2).map (fun i=>(i.zero,i.size,i.bytes))=some (some (.int .i64 0),1,8):=by kernel_rfl
end Is
namespace Ss
open Go.RowKit
open Bs (grownBy_trans Qv)
def encW(x:List Int):Value:=.string (strOfNums x)
def IsS(l:List (List Int)):Prop:=∀x∈l,Bs.IsB x∧x.length≤140737488355328
theorem Qjj(zs:List (List Int)):∀u∈zs.map encW,u.oneCell'=true:=by
 intro u hu;obtain⟨x,_,rfl⟩:=List.mem_map.1 hu
 rfl
theorem IsS.at{l:List (List Int)}(h:IsS l)(k:Nat):Bs.IsB (l.getD k [])∧(l.getD k []).length≤140737488355328:=by
 by_cases hk:k<l.length
 ·rw[List.getD_eq_getElem?_getD,List.getElem?_eq_getElem hk];exact h _ (List.getElem_mem hk)
 ·rw[List.getD_eq_getElem?_getD,List.getElem?_eq_none (Nat.not_lt.1 hk)];refine⟨fun x h=>?_,Nat.zero_le _⟩;cases h
theorem IsS.take{l:List (List Int)}(h:IsS l)(k:Nat):IsS (l.take k):=fun x hx=>h x (List.mem_of_mem_take hx)
structure Seg (w:World) (a:Option Addr) (n c:Nat) (l:List (List Int)):Prop where
 len:l.length=n
 le:n≤c
 cap:c≤maxLen
 nil_:a=none→n=0∧c=0
 at_:∀ad,a=some ad→∀j u,(l.map encW)[j]?=some u→w.cell? (ad.add j)=some u
theorem Seg.nil(w:World):Seg w none 0 0 []:=⟨rfl,Nat.le_refl _,by unfold maxLen;omega,fun _=>⟨rfl,rfl⟩,fun _ h=>by cases h⟩
theorem Seg.own{w:World}{base e g n c:Nat}{l:List (List Int)}(h:w.ownsRow base e 1 (.slice (some ⟨g,0,none⟩) n c) n (l.map encW)):Seg w (some ⟨g,0,none⟩) n c l:=by
 have hl:l.length=n:=by simpa using h.1
 refine⟨hl,?_,?_,fun e=>by(cases e),?_⟩
 ·rcases h.2 with ⟨e,_⟩|⟨g',cap,cur,e,_,_,h1,h2,_⟩
  ·cases e
  ·cases e;exact h1
 ·rcases h.2 with ⟨e,_⟩|⟨g',cap,cur,e,_,_,h1,h2,_⟩
  ·cases e
  ·cases e;exact h2
 ·intro ad had j u hu;cases had
  exact h.cells rfl j u hu
theorem Seg.kept{w w':World}{a:Option Addr}{n c:Nat}{l:List (List Int)}(h:Seg w a n c l){row:Option Nat}(hg:w.grownBy w' row)(hne:∀ad,a=some ad→row≠some ad.block):Seg w' a n c l:=by
 refine⟨h.len,h.le,h.cap,h.nil_,fun ad had j u hu=>hg.cell (h.at_ ad had j u hu) ?_⟩;intro e;have:(ad.add j).block=ad.block:=by unfold Addr.add;split <;> rfl
 rw[this]at e;exact hne ad had e.symm
theorem Seg.grown{w w':World}{a:Option Addr}{n c:Nat}{l:List (List Int)}(h:Seg w a n c l)(hg:w.grownBy w' none):Seg w' a n c l:=h.kept hg (fun _ _ e=>by cases e)
theorem Seg.addr{w:World}{a:Option Addr}{n c:Nat}{l:List (List Int)}(h:Seg w a n c l)(hn:0<n):∃g o,a=some ⟨g,o,none⟩∧∀j,j<n→w.cell? ⟨g,o+j,none⟩=some (.string (strOfNums (l.getD j []))):=by
 have hl:=h.len;cases a with
 |none=>have:=h.nil_ rfl;omega
 |some ad=>
  have hc:=h.at_ ad rfl;obtain⟨g,o,spot⟩:=ad;have h0:=hc 0 (encW (l.getD 0 [])) (by simp[List.getD];rw[List.getElem?_eq_getElem (by omega)];exact⟨_,rfl,rfl⟩);have hspot:spot=none:=by simpa [Addr.add] using World.cell?_spot h0
  subst hspot;refine⟨g,o,rfl,fun j hj=>?_⟩;have h1:=hc j (encW (l.getD j [])) (by simp[List.getD];rw[List.getElem?_eq_getElem (by omega)];exact⟨_,rfl,rfl⟩);rw[Addr.add_lit]at h1;exact h1
theorem Seg.take{w:World}{a:Option Addr}{n c m:Nat}{l:List (List Int)}(h:Seg w a n c l)(hm:m≤n):Seg w a m c (l.take m):=by
 refine⟨by rw[List.length_take,h.len];omega,Nat.le_trans hm h.le,h.cap,fun e=>⟨by have:=(h.nil_ e).1;omega,(h.nil_ e).2⟩,fun ad had j u hu=>h.at_ ad had j u ?_⟩;rw[List.map_take]at hu;have hj:j<m:=by
  have:=(List.getElem?_eq_some_iff.1 hu).1;rw[List.length_take]at this;omega
 rwa [List.getElem?_take_of_lt hj]at hu
theorem Seg.drop{w:World}{g o n c k:Nat}{l:List (List Int)}(h:Seg w (some ⟨g,o,none⟩) n c l)(hk:k≤n):Seg w (some ⟨g,o+k,none⟩) (n-k) (c-k) (l.drop k):=by
 refine⟨by rw[List.length_drop,h.len],by have:=h.le;omega,by have:=h.cap;omega,(fun e=>by cases e),fun ad had j u hu=>?_⟩;cases had
 rw[List.map_drop,List.getElem?_drop]at hu;have h1:=h.at_ _ rfl (k+j) u hu;rw[Addr.add_lit]at h1 ⊢;rw[Nat.add_assoc];exact h1
theorem Seg.dropAd{w:World}{x:Addr}{n c k:Nat}{l:List (List Int)}(h:Seg w (some x) n c l)(hk:k≤n):Seg w (some (x.add k)) (n-k) (c-k) (l.drop k):=by
 refine⟨by rw[List.length_drop,h.len],by have:=h.le;omega,by have:=h.cap;omega,(fun e=>by cases e),fun ad had j u hu=>?_⟩;cases had
 rw[List.map_drop,List.getElem?_drop]at hu;rw[Go.Deep.add_add];exact h.at_ _ rfl (k+j) u hu
theorem Seg.empty(w:World)(x:Addr)(c:Nat)(hc:c≤maxLen):Seg w (some x) 0 c []:=⟨rfl,Nat.zero_le _,hc,(fun e=>by cases e),fun _ _ j u hu=>by simp at hu⟩
theorem Seg.from_{w:World}{a:Option Addr}{n c k:Nat}{l:List (List Int)}(h:Seg w a n c l)(hk:k≤n):Seg w (if c=k then a else Option.map (fun x=>x.add k) a) (n-k) (c-k) (l.drop k):=by
 have hle:=h.le;have hl:=h.len;cases a with
 |none=>
  obtain⟨rfl,rfl⟩:=h.nil_ rfl;obtain rfl:k=0:=by omega
  obtain rfl:=List.eq_nil_of_length_eq_zero hl;exact Seg.nil w
 |some x=>
  by_cases e:c=k
  ·rw[if_pos e];have hz:l.drop k=[]:=List.drop_eq_nil_of_le (by omega);rw[hz,show n-k=0 from by omega,show c-k=0 from by omega];exact Seg.empty w x 0 (by unfold maxLen;omega)
  ·rw[if_neg e];exact h.dropAd hk
theorem Q4:(Tryz.prog.info? 9).map (fun i=>(i.zero,i.size,i.bytes))=some (some (.string ⟨#[]⟩),1,16):=by kernel_rfl
theorem QcJ{P:Program}{w:World}{o:Oper}{a:Act}{K:Act→World→Prop}{Q:Exit→Act→World→Prop}(s x:Operand)(t:TypeId)
  (ho:o.op=.call { callee:=.builtin .append,args:=#[s,x],argTypes:=#[t,t] }) (base:Nat) (e:TypeId) (i:TypeInfo) (ht:P.underlying t=some (.slice e)) (hi:P.info? e=some i) (hz:i.zero=some (.string ⟨#[]⟩)) (hsize:i.size=1) (hby:i.bytes=16)
  (g n0 c0:Nat) (xs:List Value) (hs:a.eval s=.slice (some ⟨g,0,none⟩) n0 c0) (hown:w.ownsRow base e 1 (.slice (some ⟨g,0,none⟩) n0 c0) n0 xs)
  (sp:Option Addr) (n c:Nat) (l:List (List Int)) (hx:a.eval x=.slice sp n c) (hseg:Seg w sp n c l) (hbytes:(n0+n)*16≤140737488355328) (hbase:base≤w.heap.size)
  (h:∀g' c' w',w'.ownsRow base e 1 (.slice (some ⟨g',0,none⟩) (n0+n) c') (n0+n) (xs++l.map encW)→w.grownBy w' (some g)→K (a.put o.dst (.slice (some ⟨g',0,none⟩) (n0+n) c')) w'):o.wp P a w K Q:=by
 cases sp with
 |none=>
  obtain⟨rfl,rfl⟩:=hseg.nil_ rfl;obtain rfl:=List.eq_nil_of_length_eq_zero hseg.len;have hrun:=run_append_owned_none (P:=P) (w:=w) base t o.type e i 1 ht hi _ n0 xs hown;unfold Oper.wp;simp[execOp,ho,resolve,invoke,builtin,hs,hx,hrun,Result.andThen];exact h g c0 w (by simpa using hown) ⟨rfl,rfl,rfl,Nat.le_refl _,fun _ _ _=>rfl⟩
 |some ad=>
  refine wp_append_own w s x t ho base e i (.string ⟨#[]⟩) 1 16 ht hi hz hsize hby rfl (by decide) _ n0 xs hs hown ad n c (l.map encW) hx (by simp[hseg.len]) (hseg.at_ ad rfl) (Qjj _) (by unfold maxLen;omega) (by omega) hbase ?_;intro v' w1 hown1 hg1 hnil;rcases hown1.2 with ⟨e1,_⟩|⟨g',c',cur,e1,_⟩
  ·exact absurd (hnil.1 e1).1 (by simp)
  ·subst e1;exact h g' c' w1 hown1 hg1
theorem QbV(w:World)(l:List (List Int))(hl:l.length≤1000):Seg (w.alloc (.cells (l.map encW).toArray 9)) (some ⟨w.heap.size,0,none⟩) l.length l.length l:=by
 have h:=World.ownsRow_lit (base:=w.heap.size) (e:=9) (size:=1) w (l.map encW).toArray l.length (Nat.le_refl _) (by unfold maxLen;omega) (by simp);have e:(l.map encW).toArray.toList=l.map encW:=by simp
 rw[e]at h;exact Seg.own h
end Ss
namespace Tx
open Go.RowKit
open Ss (IsS)
def byt(x:List Int):List UInt8:=x.map fun n=>UInt8.ofNat n.toNat
theorem QeB(x:List Int):(strOfNums x).data.toList=byt x:=strOfNums_data x
theorem Qkf{a b:List Int}(ha:Bs.IsB a)(hb:Bs.IsB b)(h:byt a=byt b):a=b:=Dv.Qkj a b ha hb h
theorem QlV{a b:List Int}(ha:Bs.IsB a)(hb:Bs.IsB b)(h:¬byt a<byt b)(k:¬byt b<byt a):a=b:=
 Qkf ha hb (List.le_antisymm (List.not_lt.1 k) (List.not_lt.1 h))
def AllB(l:List (List Int)):Prop:=∀x∈l,Bs.IsB x
def Up(l:List (List Int)):Prop:=l.Pairwise fun a b=>byt a<byt b
theorem Up.unique:∀{a b:List (List Int)},Up a→Up b→(∀x,x∈a↔x∈b)→a=b
 | [],[],_,_,_=>rfl
 | [],y :: b,_,_,h=>absurd ((h y).2 (by simp)) (by simp)
 |x :: a,[],_,_,h=>absurd ((h x).1 (by simp)) (by simp)
 |x :: a,y :: b,ha,hb,h=>by
  obtain⟨ha1,ha2⟩:=List.pairwise_cons.1 ha;obtain⟨hb1,hb2⟩:=List.pairwise_cons.1 hb;have e:x=y:=by
   rcases List.mem_cons.1 ((h x).1 (by simp)) with e|hx
   ·exact e
   rcases List.mem_cons.1 ((h y).2 (by simp)) with e|hy
   ·exact e.symm
   exact absurd (List.lt_trans (hb1 x hx) (ha1 y hy)) (List.lt_irrefl _)
  subst e;rw[Up.unique ha2 hb2 fun z=>⟨fun hz=>?_,fun hz=>?_⟩]
  ·rcases List.mem_cons.1 ((h z).1 (List.mem_cons_of_mem _ hz)) with e|hz2
   ·subst e;exact absurd (ha1 z hz) (List.lt_irrefl _)
   ·exact hz2
  ·rcases List.mem_cons.1 ((h z).2 (List.mem_cons_of_mem _ hz)) with e|hz2
   ·subst e;exact absurd (hb1 z hz) (List.lt_irrefl _)
   ·exact hz2
def ins(x:List Int):List (List Int)→List (List Int)
 | []=>[x]
 |y :: r=>if byt y<byt x then y :: ins x r else if y=x then y :: r else x :: y :: r
def wordsF:List (List Int)→List (List Int)
 | []=>[]
 |x :: l=>ins x (wordsF l)
theorem Qfl(x z:List Int):∀l,z∈ins x l↔z=x∨z∈l
 | []=>by simp[ins]
 |y :: r=>by
  unfold ins
  split
  ·simp only[List.mem_cons,Qfl x z r]
   constructor
   ·rintro(h|h|h)
    ·exact .inr (.inl h)
    ·exact .inl h
    ·exact .inr (.inr h)
   ·rintro(h|h|h)
    ·exact .inr (.inl h)
    ·exact .inl h
    ·exact .inr (.inr h)
  ·split
   ·rename_i e
    subst e;simp
   ·simp
theorem QiM(x:List Int)(hx:Bs.IsB x):∀l,AllB l→Up l→Up (ins x l)
 | [],_,_=>by simp[ins,Up]
 |y :: r,hb,h=>by
  obtain⟨h1,h2⟩:=List.pairwise_cons.1 h;unfold ins
  split
  ·rename_i hlt
   refine List.pairwise_cons.2 ⟨fun z hz=>?_,QiM x hx r (fun z hz=>hb z (by simp[hz])) h2⟩;rcases(Qfl x z r).1 hz with e|hz
   ·subst e;exact hlt
   ·exact h1 z hz
  ·split
   ·exact h
   ·rename_i hnl hne
    have hlt:byt x<byt y:=Classical.byContradiction fun hn=>hne (QlV (hb y (by simp)) hx hnl hn)
    refine List.pairwise_cons.2 ⟨fun z hz=>?_,h⟩;rcases List.mem_cons.1 hz with e|hz
    ·subst e;exact hlt
    ·exact List.lt_trans hlt (h1 z hz)
theorem Qkg(x:List Int):∀l,(ins x l).length≤l.length+1
 | []=>by simp[ins]
 |y :: r=>by
  unfold ins
  split
  ·simp only[List.length_cons];have:=Qkg x r;omega
  ·split <;> simp
theorem QZ(z:List Int):∀l,z∈wordsF l↔z∈l
 | []=>Iff.rfl
 |x :: l=>by unfold wordsF;rw[Qfl,QZ z l];simp
theorem QeA{l:List (List Int)}(h:AllB l):AllB (wordsF l):=fun z hz=>h z ((QZ z l).1 hz)
theorem Qbr:∀l,AllB l→Up (wordsF l)
 | [],_=>List.Pairwise.nil
 |x :: l,h=>QiM x (h x (by simp)) _ (QeA fun z hz=>h z (by simp[hz])) (Qbr l fun z hz=>h z (by simp[hz]))
theorem QaT:∀l:List (List Int),(wordsF l).length≤l.length
 | []=>Nat.le_refl _
 |x :: l=>by unfold wordsF;have:=Qkg x (wordsF l);have:=QaT l;simp only[List.length_cons];omega
theorem Qn4{l ws:List (List Int)}(hl:AllB l)(hu:Up ws)(h:∀x,x∈ws↔x∈l):ws=wordsF l:=
 hu.unique (Qbr l hl) fun x=>(h x).trans (QZ x l).symm
theorem QlE{l:List (List Int)}(hl:AllB l)(x:List Int)(hx:Bs.IsB x):wordsF (l++[x])=ins x (wordsF l):=
 (Qn4 (fun z hz=>(List.mem_append.1 hz).elim (hl z) fun h=>by rw[List.mem_singleton.1 h];exact hx) (QiM x hx _ (QeA hl) (Qbr l hl))
  fun z=>by rw[Qfl,QZ];simp[or_comm]).symm
theorem Up.nodup{l:List (List Int)}(h:Up l):l.Nodup:=List.Pairwise.imp (fun {a b} hlt (e:a=b)=>by subst e;exact List.lt_irrefl _ hlt) h
theorem Qdl{l:List (List Int)}(h:IsS l):IsS (wordsF l):=fun z hz=>h z ((QZ z l).1 hz)
theorem Qfk{l:List (List Int)}(h:IsS l):AllB l:=fun z hz=>(h z hz).1
def idx(ws:List (List Int))(x:List Int):Nat:=ws.idxOf x
theorem QdM{ws:List (List Int)}{x:List Int}(h:x∈ws):idx ws x<ws.length:=List.idxOf_lt_length_iff.2 h
theorem QgW{ws:List (List Int)}{x:List Int}(h:x∈ws):ws.getD (idx ws x) []=x:=by
 rw[List.getD_eq_getElem?_getD,List.getElem?_eq_getElem (QdM h)];exact List.getElem_idxOf (QdM h)
theorem Qgo{ws:List (List Int)}(hn:ws.Nodup)(k:Nat)(hk:k<ws.length):idx ws (ws.getD k [])=k:=by
 rw[List.getD_eq_getElem?_getD,List.getElem?_eq_getElem hk];exact hn.idxOf_getElem k hk
def idxsF(ws l:List (List Int)):List Int:=l.map fun x=>((idx ws x:Nat):Int)
theorem Qcm(ws l:List (List Int)):(idxsF ws l).length=l.length:=by simp[idxsF]
end Tx
namespace Us
open Go.RowKit
open Bs (grownBy_trans Qv)
structure Seg (w:World) (a:Option Addr) (n c:Nat) (l:List Int):Prop where
 len:l.length=n
 le:n≤c
 cap:c≤maxLen
 nil_:a=none→n=0∧c=0
 at_:∀ad,a=some ad→∀j u,(l.map (Value.int .u64))[j]?=some u→w.cell? (ad.add j)=some u
theorem Seg.nil(w:World):Seg w none 0 0 []:=⟨rfl,Nat.le_refl _,by unfold maxLen;omega,fun _=>⟨rfl,rfl⟩,fun _ h=>by cases h⟩
theorem Seg.own{w:World}{base e g n c:Nat}{l:List Int}(h:w.ownsRow base e 1 (.slice (some ⟨g,0,none⟩) n c) n (l.map (Value.int .u64))):Seg w (some ⟨g,0,none⟩) n c l:=by
 have hl:l.length=n:=by simpa using h.1
 refine⟨hl,?_,?_,fun e=>by(cases e),?_⟩
 ·rcases h.2 with ⟨e,_⟩|⟨g',cap,cur,e,_,_,h1,h2,_⟩
  ·cases e
  ·cases e;exact h1
 ·rcases h.2 with ⟨e,_⟩|⟨g',cap,cur,e,_,_,h1,h2,_⟩
  ·cases e
  ·cases e;exact h2
 ·intro ad had j u hu;cases had
  exact h.cells rfl j u hu
theorem Seg.kept{w w':World}{a:Option Addr}{n c:Nat}{l:List Int}(h:Seg w a n c l){row:Option Nat}(hg:w.grownBy w' row)(hne:∀ad,a=some ad→row≠some ad.block):Seg w' a n c l:=by
 refine⟨h.len,h.le,h.cap,h.nil_,fun ad had j u hu=>hg.cell (h.at_ ad had j u hu) ?_⟩;intro e;have:(ad.add j).block=ad.block:=by unfold Addr.add;split <;> rfl
 rw[this]at e;exact hne ad had e.symm
theorem Seg.grown{w w':World}{a:Option Addr}{n c:Nat}{l:List Int}(h:Seg w a n c l)(hg:w.grownBy w' none):Seg w' a n c l:=h.kept hg (fun _ _ e=>by cases e)
theorem Seg.addr{w:World}{a:Option Addr}{n c:Nat}{l:List Int}(h:Seg w a n c l)(hn:0<n):∃g o,a=some ⟨g,o,none⟩∧∀j,j<n→w.cell? ⟨g,o+j,none⟩=some (.int .u64 (l.getD j 0)):=by
 have hl:=h.len;cases a with
 |none=>have:=h.nil_ rfl;omega
 |some ad=>
  have hc:=h.at_ ad rfl;obtain⟨g,o,spot⟩:=ad;have h0:=hc 0 (.int .u64 (l.getD 0 0)) (by simp[List.getD];rw[List.getElem?_eq_getElem (by omega)];rfl);have hspot:spot=none:=by simpa [Addr.add] using World.cell?_spot h0
  subst hspot;refine⟨g,o,rfl,fun j hj=>?_⟩;have h1:=hc j (.int .u64 (l.getD j 0)) (by simp[List.getD];rw[List.getElem?_eq_getElem (by omega)];rfl);rw[Addr.add_lit]at h1;exact h1
theorem Qak:(Tryz.prog.info? 85).map (fun i=>(i.zero,i.size,i.bytes))=some (some (.int .u64 0),1,8):=by kernel_rfl
end Us
namespace Pk
open Go.RowKit
def HasBits(x:Int)(n:Int):Prop:=0≤n∧n≤64∧x<2 ^ n.toNat∧(1≤n→2 ^ (n.toNat-1)≤x)
def blf:Nat→Nat→Nat
 |0,_=>0
 |f+1,k=>if k=0 then 0 else blf f (k / 2)+1
theorem Qix(f:Nat):∀k:Nat,k<2 ^ f→k<2 ^ blf f k∧(1≤k→1≤blf f k∧2 ^ (blf f k-1)≤k)∧blf f k≤f:=by
 induction f with
 |zero=>intro k hk;simp at hk;subst hk;simp[blf]
 |succ f ih=>
  intro k hk;simp only[blf];by_cases h:k=0
  ·rw[if_pos h];subst h;simp
  ·rw[if_neg h];have:=ih (k / 2) (by rw[Nat.pow_succ]at hk;omega);obtain⟨h1,h2,h3⟩:=this;refine⟨by rw[Nat.pow_succ];omega,fun _=>⟨by omega,?_⟩,by omega⟩;rw[Nat.add_sub_cancel];by_cases h4:k / 2=0
   ·have:blf f (k / 2)=0:=by rw[h4];cases f <;> simp[blf]
    rw[this];simp;omega
   ·obtain⟨h5,h6⟩:=h2 (by omega);rw[show blf f (k / 2)=(blf f (k / 2)-1)+1 from by omega,Nat.pow_succ];omega
def tabB(t:ByteArray):Bool:=t.size==256 && (List.range 256).all fun k=>(t.data.toList.getD k 0).toNat==blf 8 k
theorem QdZ(t:ByteArray)(ht:tabB t=true)(k:Nat)(h:k<t.size):(t[k]'h).toNat=blf 8 k:=by
 simp only[tabB,Bool.and_eq_true,beq_iff_eq,List.all_eq_true,List.mem_range]at ht;have h2:=ht.2 k (by omega);rw[←h2];have h3:k<t.data.toList.length:=by simpa using h
 rw[List.getD_eq_getElem?_getD,List.getElem?_eq_getElem h3]
 rfl
theorem QfH(S:Int)(s b:Nat)(hS:S=s)(hs':s≤56)(hb:b≤8):wrap64 (S+wrap64 (b:Int))=((s+b:Nat):Int):=by
 have e1:wrap64 (b:Int)=b:=IntWalk.wrap64_in _ (by omega);rw[e1,IntWalk.wrap64_in _ (by omega)];omega
theorem Qc7(x i:Int)(s b:Nat)(hi:i=x / 2 ^ s)(hs:s=0∨1≤i)(h0:0≤x)(hs':s≤56)(b1:i.toNat<2 ^ b)(b2:1≤i.toNat→1≤b∧2 ^ (b-1)≤i.toNat)(b3:b≤8)(b0:i.toNat=0→b=0) :
  HasBits x ((s+b:Nat):Int):=by
 have hD:(0:Int)<2 ^ s:=Int.pow_pos (by decide);have hi0:0≤i:=by rw[hi];exact Int.ediv_nonneg h0 (Int.le_of_lt hD)
 have lo:i*2 ^ s≤x:=by rw[hi];exact Int.ediv_mul_le _ (Int.ne_of_gt hD)
 have hi':x<(i+1)*2 ^ s:=by rw[hi];exact Int.lt_ediv_add_one_mul_self _ hD
 clear hi;have b1':i+1≤2 ^ b:=by
  have h:((i.toNat:Nat):Int)+1≤((2 ^ b:Nat):Int):=by exact_mod_cast b1
  rw[Int.natCast_pow]at h;have:((i.toNat:Nat):Int)=i:=Int.toNat_of_nonneg hi0;rw[this]at h;exact h
 refine⟨by omega,by omega,?_,fun h1=>?_⟩
 ·rw[Int.toNat_natCast,Nat.add_comm,Int.pow_add];exact Int.lt_of_lt_of_le hi' (Int.mul_le_mul_of_nonneg_right b1' (Int.le_of_lt hD))
 ·rw[Int.toNat_natCast];by_cases hk:1≤i
  ·obtain⟨b4,b5⟩:=b2 (by omega);have b5':(2:Int) ^ (b-1)≤i:=by
    have h:((2 ^ (b-1):Nat):Int)≤(i.toNat:Int):=by exact_mod_cast b5
    rw[Int.natCast_pow,Int.toNat_of_nonneg hi0]at h;exact h
   rw[show s+b-1=(b-1)+s from by omega,Int.pow_add];exact Int.le_trans (Int.mul_le_mul_of_nonneg_right b5' (Int.le_of_lt hD)) lo
  ·have h2:i.toNat=0:=by omega
   have:=b0 h2;omega
theorem Qaj(t:ByteArray)(ht:tabB t=true)(x S i:Int)(s:Nat)(h:i.toNat<t.size)(hS:S=s)(hi:i=x / 2 ^ s)(hs:s=0∨1≤i)(h0:0≤x)(hs':s≤56)(hi2:i<256) :
  HasBits x (wrap64 (S+wrap64 ((t[i.toNat]'h).toNat:Int))):=by
 rw[QdZ t ht];have hb:=Qix 8 i.toNat (by omega);have hb0:i.toNat=0→blf 8 i.toNat=0:=fun e=>by rw[e];rfl
 generalize blf 8 i.toNat=b at hb hb0;rw[QfH S s b hS hs' hb.2.2];exact Qc7 x i s b hi hs h0 hs' hb.1 hb.2.1 hb.2.2 hb0
theorem Qd4(b:Nat)(hb:b≤8):wrap64 (wrap64 (b:Int))=((0+b:Nat):Int):=by
 have e1:wrap64 (b:Int)=b:=IntWalk.wrap64_in _ (by omega);rw[e1,e1];omega
theorem QeZ(t:ByteArray)(ht:tabB t=true)(x:Int)(h:x.toNat<t.size)(h0:0≤x)(hi2:x<256) :
  HasBits x (wrap64 (wrap64 ((t[x.toNat]'h).toNat:Int))):=by
 rw[QdZ t ht];have hb:=Qix 8 x.toNat (by omega);have hb0:x.toNat=0→blf 8 x.toNat=0:=fun e=>by rw[e];rfl
 generalize blf 8 x.toNat=b at hb hb0;rw[Qd4 b hb.2.2];exact Qc7 x x 0 b (by show x=x / 1;omega) (.inl rfl) h0 (by decide) hb.1 hb.2.1 hb.2.2 hb0
theorem QeN(x:Int)(w:World)(h0:0≤x)(h1:x<18446744073709551616) :
  Calls Tryz.prog 136 #[.int .u64 x] w fun e w'=>∃n,e=.returned (.int .i64 n)∧HasBits x n∧w=w':=by
 by_cases a:4294967296≤x
 ·by_cases b:65536≤x / 4294967296
  ·by_cases c:256≤x / 4294967296 / 65536
   ·have E:Hid (x / 4294967296 / 65536 / 256=x / 2 ^ 56):=hid (by show _=x / 72057594037927936;omega);have d1:1≤x / 4294967296 / 65536 / 256:=by omega
    have d2:x / 4294967296 / 65536 / 256<256:=by omega
    go_enter Tryz.func136,Tryz.ntmps136
    go_wp2;go_ret
    exact⟨_,rfl,Qaj _ (by kernel_rfl) x _ _ 56 _ rfl E.out (.inr d1) h0 (by decide) d2,rfl⟩
   ·have E:Hid (x / 4294967296 / 65536=x / 2 ^ 48):=hid (by show _=x / 281474976710656;omega);have d1:1≤x / 4294967296 / 65536:=by omega
    have d2:x / 4294967296 / 65536<256:=by omega
    go_enter Tryz.func136,Tryz.ntmps136
    go_wp2;go_ret
    exact⟨_,rfl,Qaj _ (by kernel_rfl) x _ _ 48 _ rfl E.out (.inr d1) h0 (by decide) d2,rfl⟩
  ·by_cases c:256≤x / 4294967296
   ·have E:Hid (x / 4294967296 / 256=x / 2 ^ 40):=hid (by show _=x / 1099511627776;omega);have d1:1≤x / 4294967296 / 256:=by omega
    have d2:x / 4294967296 / 256<256:=by omega
    go_enter Tryz.func136,Tryz.ntmps136
    go_wp2;go_ret
    exact⟨_,rfl,Qaj _ (by kernel_rfl) x _ _ 40 _ rfl E.out (.inr d1) h0 (by decide) d2,rfl⟩
   ·have E:Hid (x / 4294967296=x / 2 ^ 32):=hid (by show _=x / 4294967296;omega);have d1:1≤x / 4294967296:=by omega
    have d2:x / 4294967296<256:=by omega
    go_enter Tryz.func136,Tryz.ntmps136
    go_wp2;go_ret
    exact⟨_,rfl,Qaj _ (by kernel_rfl) x _ _ 32 _ rfl E.out (.inr d1) h0 (by decide) d2,rfl⟩
 ·by_cases b:65536≤x
  ·by_cases c:256≤x / 65536
   ·have E:Hid (x / 65536 / 256=x / 2 ^ 24):=hid (by show _=x / 16777216;omega);have d1:1≤x / 65536 / 256:=by omega
    have d2:x / 65536 / 256<256:=by omega
    go_enter Tryz.func136,Tryz.ntmps136
    go_wp2;go_ret
    exact⟨_,rfl,Qaj _ (by kernel_rfl) x _ _ 24 _ rfl E.out (.inr d1) h0 (by decide) d2,rfl⟩
   ·have E:Hid (x / 65536=x / 2 ^ 16):=hid (by show _=x / 65536;omega);have d1:1≤x / 65536:=by omega
    have d2:x / 65536<256:=by omega
    go_enter Tryz.func136,Tryz.ntmps136
    go_wp2;go_ret
    exact⟨_,rfl,Qaj _ (by kernel_rfl) x _ _ 16 _ rfl E.out (.inr d1) h0 (by decide) d2,rfl⟩
  ·by_cases c:256≤x
   ·have E:Hid (x / 256=x / 2 ^ 8):=hid (by show _=x / 256;omega);have d1:1≤x / 256:=by omega
    have d2:x / 256<256:=by omega
    go_enter Tryz.func136,Tryz.ntmps136
    go_wp2;go_ret
    exact⟨_,rfl,Qaj _ (by kernel_rfl) x _ _ 8 _ rfl E.out (.inr d1) h0 (by decide) d2,rfl⟩
   ·have d2:x<256:=by omega
    go_enter Tryz.func136,Tryz.ntmps136
    go_wp2;go_ret
    exact⟨_,rfl,QeZ _ (by kernel_rfl) x _ h0 d2,rfl⟩
theorem Qlv{x n:Int}(h0:0≤x)(h:HasBits x n):n=(bl x.toNat:Int):=by
 obtain⟨h1,_,h2,h3⟩:=h;have e:=bl_of x.toNat n.toNat (by
  have h4:((x.toNat:Nat):Int)<((2 ^ n.toNat:Nat):Int):=by rw[Int.toNat_of_nonneg h0,Int.natCast_pow];exact h2
  exact Int.ofNat_lt.1 h4) (fun k=>by
  have h5:=h3 (by omega);have h6:((2 ^ (n.toNat-1):Nat):Int)≤((x.toNat:Nat):Int):=by rw[Int.toNat_of_nonneg h0,Int.natCast_pow];exact h5
  exact Int.ofNat_le.1 h6)
 omega
theorem QpJ(x:Int)(w:World)(h0:0≤x)(h1:x<18446744073709551616) :
  Calls Tryz.prog 136 #[.int .u64 x] w fun e w'=>e=.returned (.int .i64 (bl x.toNat:Int))∧w=w':=
 (QeN x w h0 h1).mono fun _ _ ⟨_,he,hb,hw⟩=>⟨by rw[he,Qlv h0 hb],hw⟩
end Pk
namespace Pk
open Go.RowKit Bs
theorem Qcq(n v:Int)(w:World):Calls Tryz.prog 83 #[.int .i64 n,.int .i64 v] w fun e w'=>e=.returned (.bool (canB n v))∧w=w':=by
 have hc:=Qy n v;generalize canB n v=c at hc ⊢;by_cases h1:0≤n
 ·by_cases h2:n≤65536
  ·by_cases h3:0≤v
   ·by_cases h4:v≤64
    ·obtain rfl:c=true:=hc.2 ⟨h1,h2,h3,h4⟩;clear hc;go_enter Tryz.func83,Tryz.ntmps83
     go_wp2;go_ret
     exact⟨rfl,rfl⟩
    ·obtain rfl:c=false:=by cases c;rfl;exact absurd (hc.1 rfl).2.2.2 h4
     clear hc;go_enter Tryz.func83,Tryz.ntmps83
     go_wp2;go_ret
     exact⟨rfl,rfl⟩
   ·obtain rfl:c=false:=by cases c;rfl;exact absurd (hc.1 rfl).2.2.1 h3
    clear hc;go_enter Tryz.func83,Tryz.ntmps83
    go_wp2;go_ret
    exact⟨rfl,rfl⟩
  ·obtain rfl:c=false:=by cases c;rfl;exact absurd (hc.1 rfl).2.1 h2
   clear hc;go_enter Tryz.func83,Tryz.ntmps83
   go_wp2;go_ret
   exact⟨rfl,rfl⟩
 ·obtain rfl:c=false:=by cases c;rfl;exact absurd (hc.1 rfl).1 h1
  clear hc;go_enter Tryz.func83,Tryz.ntmps83
  go_wp2;go_ret
  exact⟨rfl,rfl⟩
theorem QbZ(n v:Int)(w:World):Calls Tryz.prog 77 #[.int .i64 n,.int .i64 v] w fun e w'=>e=.returned (.bool (canB n v))∧w=w':=by
 have hc:=Qy n v;generalize canB n v=c at hc ⊢;by_cases h1:0≤n
 ·by_cases h2:n≤65536
  ·by_cases h3:0≤v
   ·by_cases h4:v≤64
    ·obtain rfl:c=true:=hc.2 ⟨h1,h2,h3,h4⟩;clear hc;go_enter Tryz.func77,Tryz.ntmps77
     go_wp2;go_ret
     exact⟨rfl,rfl⟩
    ·obtain rfl:c=false:=by cases c;rfl;exact absurd (hc.1 rfl).2.2.2 h4
     clear hc;go_enter Tryz.func77,Tryz.ntmps77
     go_wp2;go_ret
     exact⟨rfl,rfl⟩
   ·obtain rfl:c=false:=by cases c;rfl;exact absurd (hc.1 rfl).2.2.1 h3
    clear hc;go_enter Tryz.func77,Tryz.ntmps77
    go_wp2;go_ret
    exact⟨rfl,rfl⟩
  ·obtain rfl:c=false:=by cases c;rfl;exact absurd (hc.1 rfl).2.1 h2
   clear hc;go_enter Tryz.func77,Tryz.ntmps77
   go_wp2;go_ret
   exact⟨rfl,rfl⟩
 ·obtain rfl:c=false:=by cases c;rfl;exact absurd (hc.1 rfl).1 h1
  clear hc;go_enter Tryz.func77,Tryz.ntmps77
  go_wp2;go_ret
  exact⟨rfl,rfl⟩
theorem Qga{n v:Int}(h:canB n v=false):sizeF n v=0:=by unfold sizeF;rw[h];rfl
theorem Qe4{n v:Int}(h:0≤n∧n≤65536∧0≤v∧v≤64):0≤n*v∧n*v≤4194304:=by
 obtain⟨a,rfl⟩:=Int.eq_ofNat_of_zero_le h.1;obtain⟨b,rfl⟩:=Int.eq_ofNat_of_zero_le h.2.2.1;have:=Nat.mul_le_mul (show a≤65536 by omega) (show b≤64 by omega);have e:(a:Int)*(b:Int)=((a*b:Nat):Int):=by simp
 omega
theorem Qdn{n v:Int}(h:canB n v=true):sizeF n v=(n*v+7) / 8:=by
 unfold sizeF;rw[if_pos h];have h':=(Qy n v).1 h;obtain⟨a,rfl⟩:=Int.eq_ofNat_of_zero_le h'.1;obtain⟨b,rfl⟩:=Int.eq_ofNat_of_zero_le h'.2.2.1;unfold sizeN;simp
theorem Qco(n v:Int):0≤sizeF n v∧sizeF n v≤524288:=by
 cases h:canB n v with
 |true=>rw[Qdn h];have:=Qe4 ((Qy n v).1 h);omega
 |false=>rw[Qga h];omega
theorem Qeh(n v:Int)(w:World):Calls Tryz.prog 85 #[.int .i64 n,.int .i64 v] w fun e w'=>e=.returned (.int .i64 (sizeF n v))∧w=w':=by
 cases h:canB n v with
 |false=>
  rw[Qga h];have hb:∀w,Calls Tryz.prog 83 #[.int .i64 n,.int .i64 v] w fun e w'=>e=.returned (.bool false)∧w=w':=fun w=>by have:=Qcq n v w;rwa [h]at this
  have HB:=hid hb;clear h hb;go_enter Tryz.func85,Tryz.ntmps85
  go_wp2_with (go_at_call 83;refine(HB.out _).mono ?_;rintro e w' ⟨rfl,rfl⟩)
  go_ret
  exact⟨rfl,rfl⟩
 |true=>
  have hm:=Qe4 ((Qy n v).1 h);have HS:=hid (Qdn h);have hb:∀w,Calls Tryz.prog 83 #[.int .i64 n,.int .i64 v] w fun e w'=>e=.returned (.bool true)∧w=w':=fun w=>by have:=Qcq n v w;rwa [h]at this
  have HB:=hid hb;clear h hb;generalize sizeF n v=s at HS ⊢;obtain⟨m,hmm⟩:∃m,n*v=m:=⟨_,rfl⟩;rw[hmm]at hm HS;go_enter Tryz.func85,Tryz.ntmps85
  go_wp2_with (go_at_call 83;refine(HB.out _).mono ?_;rintro e w' ⟨rfl,rfl⟩)
  go_ret
  exact⟨Qq (by rw[HS.out];omega),rfl⟩
theorem Qcy(n v:Int)(w:World):Calls Tryz.prog 79 #[.int .i64 n,.int .i64 v] w fun e w'=>e=.returned (.int .i64 (sizeF n v))∧w=w':=by
 cases h:canB n v with
 |false=>
  rw[Qga h];have hb:∀w,Calls Tryz.prog 77 #[.int .i64 n,.int .i64 v] w fun e w'=>e=.returned (.bool false)∧w=w':=fun w=>by have:=QbZ n v w;rwa [h]at this
  have HB:=hid hb;clear h hb;go_enter Tryz.func79,Tryz.ntmps79
  go_wp2_with (go_at_call 77;refine(HB.out _).mono ?_;rintro e w' ⟨rfl,rfl⟩)
  go_ret
  exact⟨rfl,rfl⟩
 |true=>
  have hm:=Qe4 ((Qy n v).1 h);have HS:=hid (Qdn h);have hb:∀w,Calls Tryz.prog 77 #[.int .i64 n,.int .i64 v] w fun e w'=>e=.returned (.bool true)∧w=w':=fun w=>by have:=QbZ n v w;rwa [h]at this
  have HB:=hid hb;clear h hb;generalize sizeF n v=s at HS ⊢;obtain⟨m,hmm⟩:∃m,n*v=m:=⟨_,rfl⟩;rw[hmm]at hm HS;go_enter Tryz.func79,Tryz.ntmps79
  go_wp2_with (go_at_call 77;refine(HB.out _).mono ?_;rintro e w' ⟨rfl,rfl⟩)
  go_ret
  exact⟨Qq (by rw[HS.out]),rfl⟩
def unF(n v:Int):Int:=8*sizeF n v-n*v
theorem Ql9(n v:Int)(w:World)(h:canB n v=true):Calls Tryz.prog 87 #[.int .i64 n,.int .i64 v] w fun e w'=>e=.returned (.int .i64 (unF n v))∧w=w':=by
 have hm:=Qe4 ((Qy n v).1 h);have hs:=Qco n v;have HB:Hid (∀w,Calls Tryz.prog 85 #[.int .i64 n,.int .i64 v] w fun e w'=>e=.returned (.int .i64 (sizeF n v))∧w=w'):=hid (Qeh n v);unfold unF;generalize sizeF n v=s at hs HB ⊢;obtain⟨m,hmm⟩:∃m,n*v=m:=⟨_,rfl⟩;rw[hmm]at hm ⊢;clear h;go_enter Tryz.func87,Tryz.ntmps87
 go_wp2_with (go_at_call 85;refine(HB.out _).mono ?_;rintro e w' ⟨rfl,rfl⟩)
 go_ret
 exact⟨Qq (by omega),rfl⟩
theorem Ql8{n v:Int}(h:canB n v=true):0≤unF n v∧unF n v<8:=by
 unfold unF;rw[Qdn h];omega
end Pk
namespace Pk
open Go.RowKit Bs
theorem Qgf{l:List Int}(h:IsU l):0≤(wid l:Int)∧(wid l:Int)≤64:=by have:=Qbh h;omega
theorem Qki{l:List Int}(h:IsU l):(maxN l:Int)<18446744073709551616:=by
 have:=(QkE l 64).2 (fun x hx=>(h.fit x hx).2);omega
theorem Ql3{l:List Int}(h:IsU l)(k:Nat):IsU (l.take k):=fun x hx=>h x (List.mem_of_mem_take hx)
theorem QdA(l:List Int)(k:Nat)(h:k<l.length):l.take (k+1)=l.take k++[l.getD k 0]:=by
 rw[List.take_succ_eq_append_getElem h,List.getD_eq_getElem?_getD,List.getElem?_eq_getElem h];rfl
theorem Qgl{l:List Int}(h:IsU l){k:Nat}(hk:k<l.length):0≤l.getD k 0∧l.getD k 0<18446744073709551616:=by
 rw[List.getD_eq_getElem?_getD,List.getElem?_eq_getElem hk];exact h _ (List.getElem_mem hk)
theorem Qn8(l:List Int)(k:Nat)(h:k<l.length)(x:Int)(hx:l.getD k 0=x)(h0:0≤x):(maxN (l.take (k+1)):Int)=max (maxN (l.take k):Int) x:=by
 rw[QdA l k h,Qh4,hx];omega
theorem Qbx(a:Option Addr)(n c:Nat)(l:List Int)(w:World)(hs:Us.Seg w a n c l)(hu:IsU l) :
  Calls Tryz.prog 84 #[.slice a n c] w fun e w'=>e=.returned (.int .i64 (wid l:Int))∧w=w':=by
 have hm:=hs.cap;have hle:=hs.le;have HLen:=hid hs.len;unfold maxLen at hm;have HU:=hid hu;have HW:Hid (∀x,x=(maxN l:Int)→∀w,Calls Tryz.prog 136 #[.int .u64 x] w fun e w'=>e=.returned (.int .i64 (wid l:Int))∧w=w'):=hid (fun x hx w=>by
  have h:=QpJ (maxN l:Int) w (by omega) (Qki hu);rw[Int.toNat_natCast]at h;rw[hx];exact h)
 by_cases hn:n=0
 ·subst hn;have hl:=List.eq_nil_of_length_eq_zero hs.len;have HW0:Hid (∀w,Calls Tryz.prog 136 #[.int .u64 0] w fun e w'=>e=.returned (.int .i64 (wid l:Int))∧w=w'):=hid (HW.out 0 (by rw[hl];rfl));generalize wid l=W at HW0 ⊢;clear hs hl HW HU HLen hu;go_enter Tryz.func84,Tryz.ntmps84
  go_wp2;refine wp_loop_rounds 1 ?_;rw[rounds_succ];go_wp2_with (go_at_call 136;refine(HW0.out _).mono ?_;rintro e w' ⟨rfl,rfl⟩)
  go_ret
  exact⟨rfl,rfl⟩
 ·obtain⟨g,o,rfl,hc⟩:=hs.addr (by omega);have HC:=hid hc;obtain⟨W,hW⟩:∃W,wid l=W:=⟨_,rfl⟩;rw[hW]at HW ⊢;clear hW hs hc hu;go_enter Tryz.func84,Tryz.ntmps84
  go_wp2
  go_loop [3,8] (fun gr i=>∃k m:Nat,k≤n∧i=.int .i64 k∧gr=.int .u64 m∧Hid ((maxN (l.take k))=m)) (fun _ i=>n-(intOf i).toNat)
  case atStart=>exact⟨0,0,Nat.zero_le _,rfl,rfl,rfl⟩
  case round=>
   obtain⟨k,m,hk,rfl,rfl,HM⟩:=hrel;by_cases hlt:k<n
   ·have q:=HC.out k hlt;have hx:=Qgl HU.out (show k<l.length by rw[HLen.out];exact hlt);have HS:=hid (Qn8 l k (by rw[HLen.out];exact hlt) _ rfl hx.1);have hmb:=Qki (Ql3 HU.out k);rw[HM.out]at hmb HS;generalize l.getD k 0=x at q hx HS;by_cases hgt:(m:Int)≤x
    ·go_wp2
     go_round
     case rel=>exact⟨k+1,x.toNat,by omega,by go_num,by rw[Int.toNat_of_nonneg hx.1];first|rfl|(congr 1;omega),hid (by have:=HS.out;omega)⟩
     case measure=>simp[intOf];omega
    ·go_wp2
     go_round
     case rel=>exact⟨k+1,m,by omega,by go_num,by first|rfl|(congr 1;omega),hid (by have:=HS.out;omega)⟩
     case measure=>simp[intOf];omega
   ·obtain rfl:k=n:=by omega
    have HW2:=hid (HW.out (m:Int) (by rw[←HM.out,List.take_of_length_le (Nat.le_of_eq HLen.out)]));go_wp2_with (go_at_call 136;refine(HW2.out _).mono ?_;rintro e w' ⟨rfl,rfl⟩)
    go_ret
    exact⟨rfl,rfl⟩
theorem QnS(x:Int)(w:World)(h0:0≤x)(h1:x<18446744073709551616) :
  Calls Tryz.prog 134 #[.int .u64 x] w fun e w'=>e=.returned (.int .i64 (bl x.toNat:Int))∧w=w':=by
 have hb:bl x.toNat≤64:=(bl_le _ _).2 (by omega);obtain⟨B,hB⟩:∃B,bl x.toNat=B:=⟨_,rfl⟩;rw[hB]at hb ⊢;have HB:=hid hB;clear hB;go_enter Tryz.func134,Tryz.ntmps134
 go_wp2
 go_loop [0,3] (fun v i=>∃u k:Nat,v=.int .u64 u∧i=.int .i64 k∧u<18446744073709551616∧Hid (bl u+k=B)) (fun v _=>(intOf v).toNat)
 case atStart=>exact⟨x.toNat,0,by rw[Int.toNat_of_nonneg h0],rfl,by omega,hid HB.out⟩
 case round=>
  obtain⟨u,k,rfl,rfl,hu,HK⟩:=hrel;by_cases hz:u=0
  ·subst hz;have HE:Hid (k=B):=hid (by have:=HK.out;rw[Qo6]at this;omega);go_wp2;go_ret
   exact⟨Qq (by rw[HE.out]),rfl⟩
  ·have hk:k<64:=by have:=HK.out;have:=QkF u hz;omega
   have HK2:Hid (bl (u / 2)+(k+1)=B):=hid (by have:=HK.out;have:=QkF u hz;omega);have hp:0<u:=by omega
   clear hz;go_wp2
   go_round
   case rel=>exact⟨u / 2,k+1,by first|rfl|(congr 1)|(congr 1;omega),by go_num,by omega,HK2.out⟩
   case measure=>simp[intOf];omega
theorem QnT(l:List Int)(k:Nat)(h:k<l.length)(x:Int)(hx:l.getD k 0=x):(wid (l.take (k+1)):Int)=max (wid (l.take k):Int) (bl x.toNat:Int):=by
 rw[QdA l k h,Qoa,hx];omega
theorem QcQ(a:Option Addr)(n c:Nat)(l:List Int)(w:World)(hs:Us.Seg w a n c l)(hu:IsU l) :
  Calls Tryz.prog 78 #[.slice a n c] w fun e w'=>e=.returned (.int .i64 (wid l:Int))∧w=w':=by
 have hm:=hs.cap;have hle:=hs.le;have HLen:=hid hs.len;unfold maxLen at hm;have HU:=hid hu;by_cases hn:n=0
 ·subst hn;have hl:=List.eq_nil_of_length_eq_zero hs.len;subst hl;rw[QoS];clear hs HU HLen hu;go_enter Tryz.func78,Tryz.ntmps78
  go_wp2;refine wp_loop_rounds 1 ?_;rw[rounds_succ];go_wp2;go_ret
  exact⟨rfl,rfl⟩
 ·obtain⟨g,o,rfl,hc⟩:=hs.addr (by omega);have HC:=hid hc;obtain⟨W,hW⟩:∃W,wid l=W:=⟨_,rfl⟩;rw[hW];have HW:=hid hW;clear hW hs hc hu;go_enter Tryz.func78,Tryz.ntmps78
  go_wp2
  go_loop [3,4] (fun gr i=>∃k m:Nat,k≤n∧i=.int .i64 k∧gr=.int .i64 m∧Hid (wid (l.take k)=m)) (fun _ i=>n-(intOf i).toNat)
  case atStart=>exact⟨0,0,Nat.zero_le _,rfl,rfl,rfl⟩
  case round=>
   obtain⟨k,m,hk,rfl,rfl,HM⟩:=hrel;by_cases hlt:k<n
   ·have q:=HC.out k hlt;have hx:=Qgl HU.out (show k<l.length by rw[HLen.out];exact hlt);have HS:=hid (QnT l k (by rw[HLen.out];exact hlt) _ rfl);have hmb:=Qbh (Ql3 HU.out k);rw[HM.out]at hmb HS;generalize l.getD k 0=x at q hx HS;have HBB:=hid (fun w=>QnS x w hx.1 hx.2);generalize bl x.toNat=y at HS HBB;by_cases hgt:m≤y
    ·go_wp2_with (go_at_call 134;refine(HBB.out _).mono ?_;rintro e w' ⟨rfl,rfl⟩)
     go_round
     case rel=>exact⟨k+1,y,by omega,by go_num,by first|rfl|(congr 1;omega),hid (by have:=HS.out;omega)⟩
     case measure=>simp[intOf];omega
    ·go_wp2_with (go_at_call 134;refine(HBB.out _).mono ?_;rintro e w' ⟨rfl,rfl⟩)
     go_round
     case rel=>exact⟨k+1,m,by omega,by go_num,by first|rfl|(congr 1;omega),hid (by have:=HS.out;omega)⟩
     case measure=>simp[intOf];omega
   ·obtain rfl:k=n:=by omega
    have HE:Hid (W=m):=hid (by rw[←HM.out,List.take_of_length_le (Nat.le_of_eq HLen.out),HW.out]);go_wp2;go_ret
    exact⟨Qq (by rw[HE.out]),rfl⟩
end Pk
namespace Pk
open Go.RowKit Bs
theorem byte_at(l:List Int)(hb:Fit 8 l)(j:Nat)(hj:j<l.length):(l.getD j 0).toNat=packN 8 l / 2 ^ (j*8) % 2 ^ 8:=by
 have h:=QcR 8 l hb;have h2:=Qpa 8 (packN 8 l) l.length j hj;rw[h]at h2;rw[h2,Int.toNat_natCast]
theorem QjF(X a r k:Nat)(h:r+k≤a):X % 2 ^ a / 2 ^ r % 2 ^ k=X / 2 ^ r % 2 ^ k:=by
 have e:2 ^ a=2 ^ r*2 ^ (a-r):=by rw[←Nat.pow_add];congr 1;omega
 rw[e,Nat.mod_mul_right_div_self,Nat.mod_mod_of_dvd];exact Nat.pow_dvd_pow 2 (by omega)
theorem Qkv(l:List Int)(hb:Fit 8 l)(p k:Nat)(hk:p % 8+k≤8)(hj:p / 8<l.length):(l.getD (p / 8) 0).toNat / 2 ^ (p % 8) % 2 ^ k=packN 8 l / 2 ^ p % 2 ^ k:=by
 rw[byte_at l hb _ hj,QjF _ _ _ _ hk,Nat.div_div_eq_div_mul,←Nat.pow_add]
 congr 3
 omega
theorem Qgv(X g k:Nat):X % 2 ^ g+X / 2 ^ g % 2 ^ k*2 ^ g=X % 2 ^ (g+k):=by
 rw[Nat.pow_add,Nat.mod_mul,Nat.mul_comm]
theorem Qb6(v p g:Nat)(h:v<2 ^ g):v ||| p*2 ^ g=v+p*2 ^ g:=by
 rw[Nat.or_comm,Nat.mul_comm,←Nat.two_pow_add_eq_or_of_lt h,Nat.add_comm]
theorem u64w(x:Nat)(h:x<18446744073709551616):IntKind.u64.wrap (x:Int)=(x:Int):=by rw[IntKind.wrap_u64];omega
theorem mask64(d:Nat)(h:d≤63):IntKind.u64.wrap (IntKind.u64.wrap (2 ^ d)-1)=((2 ^ d-1:Nat):Int):=by
 have h1:2 ^ d<2 ^ 64:=Nat.pow_lt_pow_right (by decide) (by omega);have h0:=Qab d;have e:(2:Int) ^ d=((2 ^ d:Nat):Int):=by rw[Int.natCast_pow];rfl
 rw[e,u64w _ h1,show((2 ^ d:Nat):Int)-1=((2 ^ d-1:Nat):Int) from by omega,u64w _ (by omega)]
theorem QjC(y d:Nat)(hy:y<18446744073709551616)(h:d≤63):bits .and .u64 (y:Int) (IntKind.u64.wrap (IntKind.u64.wrap (2 ^ d)-1))=((y % 2 ^ d:Nat):Int):=by
 have h1:2 ^ d<2 ^ 64:=Nat.pow_lt_pow_right (by decide) (by omega);rw[mask64 d h,u64_and_nat y _ hy (by omega),Nat.and_two_pow_sub_one_eq_mod]
theorem QiU(x:Int)(r:Nat)(h:0≤x):x / 2 ^ r=((x.toNat / 2 ^ r:Nat):Int):=by
 obtain⟨y,rfl⟩:=Int.eq_ofNat_of_zero_le h;rw[Int.toNat_natCast,Int.natCast_ediv,Int.natCast_pow];rfl
theorem QfL(y g:Nat):(y:Int)*2 ^ g=((y*2 ^ g:Nat):Int):=by
 rw[Int.natCast_mul,Int.natCast_pow];rfl
theorem Qjm(y g k m:Nat)(hy:y<2 ^ k)(h:g+k≤m):y*2 ^ g<2 ^ m:=by
 have h1:y*2 ^ g<2 ^ k*2 ^ g:=Nat.mul_lt_mul_of_pos_right hy (Qab g);rw[←Nat.pow_add]at h1;exact Nat.lt_of_lt_of_le h1 (Nat.pow_le_pow_right (by decide) (by omega))
theorem Qiw(v g d r Y:Nat)(x:Int)(hx:0≤x∧x<256)(hY:x.toNat / 2 ^ r % 2 ^ d=Y)(hv:v<2 ^ g)(hg:g+d≤64)(hd:d≤8) :
  bits .or .u64 (v:Int) (IntKind.u64.wrap (bits .and .u64 (x / 2 ^ r) (IntKind.u64.wrap (IntKind.u64.wrap (2 ^ d)-1))*2 ^ g))=((v+Y*2 ^ g:Nat):Int):=by
 have hq:x.toNat / 2 ^ r≤x.toNat:=Nat.div_le_self _ _;rw[QiU x r hx.1,QjC _ d (by omega) (by omega),hY,QfL];have hYl:Y<2 ^ d:=by rw[←hY];exact Nat.mod_lt _ (Qab d)
 have h2:=Qjm Y g d 64 hYl hg;have h3:v<2 ^ 64:=Nat.lt_of_lt_of_le hv (Nat.pow_le_pow_right (by decide) (by omega));rw[u64w _ h2,u64_or_nat v _ h3 h2,Qb6 v Y g hv]
theorem Qjk(a:Option Addr)(n c:Nat)(l:List Int)(at_ m:Nat)(w:World)(hs:Seg w a n c l)(hb:Fit 8 l)(hn:n≤524288)(hm:m≤64)(hl:at_+m≤8*n) :
  Calls Tryz.prog 166 #[.slice a n c,.int .i64 at_,.int .i64 m] w fun e w'=>e=.returned (.int .u64 ((packN 8 l / 2 ^ at_ % 2 ^ m:Nat):Int))∧∃q,w'=w.drewN q:=by
 obtain⟨N,hN⟩:∃N,packN 8 l=N:=⟨_,rfl⟩;by_cases hm0:m=0
 ·subst hm0;rw[Nat.pow_zero,Nat.mod_one];clear hs hN hb;go_enter Tryz.func166,Tryz.ntmps166
  go_wp2;refine wp_loop_rounds 1 ?_;rw[rounds_succ];go_wp2;go_ret
  exact⟨rfl,0,rfl⟩
 ·obtain⟨g,o,rfl,hc⟩:=hs.addr (by omega);have HC:=hid hc;have HLen:=hid hs.len;have HB:=hid hb;have HN:=hid hN;have hmp:0<m:=by omega
  rw[hN];have hcap:=hs.cap;have hle:=hs.le;unfold maxLen at hcap;clear hs hN hb hc hm0;go_enter Tryz.func166,Tryz.ntmps166
  go_wp2
  go_loopw [7,8] (fun sv si wr=>∃got v q:Nat,got≤m∧si=.int .i64 got∧sv=.int .u64 v∧wr=w.drewN q∧Hid (v=N / 2 ^ at_ % 2 ^ got)) (fun _ si _=>m-(intOf si).toNat)
  case atStart=>exact⟨0,0,0,Nat.zero_le _,rfl,rfl,rfl,hid (by rw[Nat.pow_zero,Nat.mod_one])⟩
  case round=>
   obtain⟨got,v,q,hg,rfl,rfl,rfl,HV⟩:=hrel;by_cases hlt:got<m
   ·obtain⟨p,hp⟩:∃p,at_+got=p:=⟨_,rfl⟩;obtain⟨r,hr⟩:∃r,p % 8=r:=⟨_,rfl⟩;obtain⟨j,hj⟩:∃j,p / 8=j:=⟨_,rfl⟩;obtain⟨d,hd⟩:∃d,m-got=d:=⟨_,rfl⟩;obtain⟨k,hk⟩:∃k,min d (8-r)=k:=⟨_,rfl⟩;have hr8:r<8:=by omega
    have hjn:j<n:=by omega
    have q0:=HC.out j hjn;have HP:=hid (Qkv l HB.out p k (by omega) (by rw[HLen.out];omega));rw[hj,hr,HN.out]at HP;have hx:0≤l.getD j 0∧l.getD j 0<256:=by
     rw[List.getD_eq_getElem?_getD,List.getElem?_eq_getElem (by rw[HLen.out];exact hjn)];exact HB.out.isB _ (List.getElem_mem _)
    generalize l.getD j 0=x at q0 hx HP;have HPP:=hid hp;have hgk:got+k≤m:=by omega
    have hk1:1≤k:=by omega
    have hk8:k≤8:=by omega
    have e1:(at_:Int)+(got:Int)=(p:Int):=by omega
    have e2:(p:Int) % 8=(r:Int):=by omega
    have e3:(p:Int) / 8=(j:Int):=by omega
    have e4:(m:Int)-(got:Int)=(d:Int):=by omega
    have b1:p≤4194304:=by omega
    obtain⟨s,hs⟩:∃s,8-r=s:=⟨_,rfl⟩;have e5:(8:Int)-(r:Int)=(s:Int):=by omega
    have b2:s≤8:=by omega
    have b3:d≤64:=by omega
    have hkk:min d s=k:=by omega
    clear hp hr hj hd hk hs;by_cases hds:d≤s
    ·obtain rfl:d=k:=by omega
     clear hkk;have HVAL:=hid (Qiw v got d r _ x hx HP.out (by rw[HV.out];exact Nat.mod_lt _ (Qab got)) (by omega) (by omega));have HNEW:Hid (v+N / 2 ^ p % 2 ^ d*2 ^ got=N / 2 ^ at_ % 2 ^ (got+d)):=hid (by rw[←Qgv,←HV.out,Nat.div_div_eq_div_mul,←Nat.pow_add,HPP.out]);go_wp2
     go_quiet (fail)
     go_wp2;go_roundw
     case rel=>exact⟨got+d,v+N / 2 ^ p % 2 ^ d*2 ^ got,q+nq,hgk,by rw[Int.natCast_add],by rw[HVAL.out],rfl,HNEW⟩
     case measure=>simp[intOf];omega
    ·obtain rfl:s=k:=by omega
     clear hkk;have HVAL:=hid (Qiw v got s r _ x hx HP.out (by rw[HV.out];exact Nat.mod_lt _ (Qab got)) (by omega) (by omega));have HNEW:Hid (v+N / 2 ^ p % 2 ^ s*2 ^ got=N / 2 ^ at_ % 2 ^ (got+s)):=hid (by rw[←Qgv,←HV.out,Nat.div_div_eq_div_mul,←Nat.pow_add,HPP.out]);go_wp2
     go_quiet (fail)
     go_wp2;go_roundw
     case rel=>exact⟨got+s,v+N / 2 ^ p % 2 ^ s*2 ^ got,q+nq,hgk,by rw[Int.natCast_add],by rw[HVAL.out],rfl,HNEW⟩
     case measure=>simp[intOf];omega
   ·obtain rfl:got=m:=by omega
    go_wp2;go_ret
    exact⟨Qq (by rw[HV.out]),q,rfl⟩
end Pk
namespace Pk
open Go.RowKit Bs
theorem Qel{b:List Int}{n w:Int}(h:canB n w=false):getR b n w=(2,[]):=by unfold getR;rw[h];rfl
theorem QaI{n v:Nat}(h:canB n v=true):sizeF n v=(sizeN n v:Int):=by unfold sizeF;rw[if_pos h];rfl
theorem QgK{b:List Int}{n w:Nat}(h:canB n w=true)(hl:¬b.length=sizeN n w):getR b n w=(4,[]):=by
 unfold getR;rw[if_pos h,if_neg (fun k=>hl (by simpa using k.1))]
theorem QfE{b:List Int}{n w:Nat}(h:canB n w=true)(hl:¬packN 8 b / 2 ^ (n*w)=0):getR b n w=(4,[]):=by
 unfold getR;rw[if_pos h,if_neg (fun k=>hl (by simpa using k.2))]
theorem QdN{b:List Int}{n w:Nat}(h:canB n w=true)(hl:b.length=sizeN n w)(hz:packN 8 b / 2 ^ (n*w)=0):getR b n w=(0,getL w (packN 8 b) n):=by
 unfold getR;rw[if_pos h,if_pos (by rw[Int.toNat_natCast,Int.toNat_natCast];exact⟨hl,hz⟩)];simp
theorem Qdi(a:Option Addr)(len c:Nat)(l:List Int)(n v:Int)(w:World)(hs:Seg w a len c l)(hb:Fit 8 l) :
  Calls Tryz.prog 142 #[.slice a len c,.int .i64 n,.int .i64 v] w fun e w'=>e=.returned (.int .i64 (getR l n v).1)∧∃q,w'=w.drewN q:=by
 have hm:=hs.cap;have hle:=hs.le;unfold maxLen at hm;cases hc:canB n v with
 |false=>
  rw[Qel hc];have HB:Hid (∀w,Calls Tryz.prog 83 #[.int .i64 n,.int .i64 v] w fun e w'=>e=.returned (.bool false)∧w=w'):=hid (fun w=>by have:=Qcq n v w;rwa [hc]at this);clear hc hs hb;go_enter Tryz.func142,Tryz.ntmps142
  go_wp2_with (go_at_call 83;refine(HB.out _).mono ?_;rintro e w' ⟨rfl,rfl⟩)
  go_ret
  exact⟨rfl,0,rfl⟩
 |true=>
  have hc':=(Qy n v).1 hc;have HB:Hid (∀w,Calls Tryz.prog 83 #[.int .i64 n,.int .i64 v] w fun e w'=>e=.returned (.bool true)∧w=w'):=hid (fun w=>by have:=Qcq n v w;rwa [hc]at this);obtain⟨n,rfl⟩:=Int.eq_ofNat_of_zero_le hc'.1;obtain⟨v,rfl⟩:=Int.eq_ofNat_of_zero_le hc'.2.2.1;have HS:Hid (∀w,Calls Tryz.prog 85 #[.int .i64 n,.int .i64 v] w fun e w'=>e=.returned (.int .i64 (sizeN n v:Int))∧w=w'):=hid (fun w=>by have:=Qeh n v w;rwa [QaI hc]at this);by_cases hl:len=sizeN n v
  ·have hsz:=Qco n v;rw[QaI hc]at hsz;have hu:=Ql8 hc;obtain⟨u,hue⟩:=Int.eq_ofNat_of_zero_le hu.1;have hue2:unF n v=8*(sizeN n v:Int)-(n:Int)*(v:Int):=by unfold unF;rw[QaI hc]
   have HU:Hid (∀w,Calls Tryz.prog 87 #[.int .i64 n,.int .i64 v] w fun e w'=>e=.returned (.int .i64 (u:Int))∧w=w'):=hid (fun w=>by have:=Ql9 n v w hc;rwa [hue]at this);have hmb:=Qe4 hc';obtain⟨p,hp⟩:∃p,n*v=p:=⟨_,rfl⟩;have hpi:(n:Int)*(v:Int)=(p:Int):=by rw[←Int.natCast_mul,hp]
   rw[hpi]at hmb hue2;have hpu:p+u=8*sizeN n v:=by omega
   have HT:Hid (∀w',Seg w' a len c l→Calls Tryz.prog 166 #[.slice a len c,.int .i64 p,.int .i64 u] w' fun e w2=>e=.returned (.int .u64 ((packN 8 l / 2 ^ p:Nat):Int))∧∃q,w2=w'.drewN q):=hid (fun w' hs'=>by
    have h:=Qjk a len c l p u w' hs' hb (by omega) (by omega) (by omega);have e:packN 8 l / 2 ^ p % 2 ^ u=packN 8 l / 2 ^ p:=by
     refine Nat.mod_eq_of_lt ?_;have h1:=Qbt 8 l hb;rw[hs.len,hl,Nat.mul_comm,←hpu,Nat.pow_add]at h1;exact Nat.div_lt_of_lt_mul h1
    rwa [e]at h)
   have HT2:=hid (HT.out w hs);have HR:Hid ((getR l n v).1=if packN 8 l / 2 ^ p=0 then 0 else 4):=hid (by
    split
    ·rename_i hz;rw[QdN hc (hs.len.trans hl) (by rw[hp];exact hz)]
    ·rename_i hz;rw[QfE hc (by rw[hp];exact hz)])
   generalize (getR l n v).1=E at HR ⊢;have hpk:packN 8 l / 2 ^ p<18446744073709551616:=by
    have h1:=Qbt 8 l hb;rw[hs.len,hl,Nat.mul_comm,←hpu,Nat.pow_add]at h1;have h2:=Nat.div_lt_of_lt_mul h1;have h3:2 ^ u≤2 ^ 64:=Nat.pow_le_pow_right (by decide) (by omega);omega
   generalize packN 8 l / 2 ^ p=Z at HT2 HR hpk;have e0:((len:Int)==((sizeN n v:Nat):Int))=true:=beq_iff_eq.2 (by omega);have e1:((len:Int) != ((sizeN n v:Nat):Int))=false:=by simp;omega
   generalize sizeN n v=S at *;clear hp hc hc' hs hb HT hue hue2 hu hpu hl;by_cases hz:Z=0
   ·subst hz;have HE:Hid (E=0):=hid (by rw[HR.out];rfl);go_enter Tryz.func142,Tryz.ntmps142
    go_wp2_with (first
     |(go_at_call 83;refine(HB.out _).mono ?_;rintro e w' ⟨rfl,rfl⟩)
     |(go_at_call 85;refine(HS.out _).mono ?_;rintro e w' ⟨rfl,rfl⟩)
     |(go_at_call 87;refine(HU.out _).mono ?_;rintro e w' ⟨rfl,rfl⟩)
     |(go_at_call 166;refine HT2.out.mono ?_;rintro e w' ⟨rfl,q,rfl⟩))
    go_ret
    exact⟨Qq (by rw[HE.out]),_,rfl⟩
   ·have HE:Hid (E=4):=hid (by rw[HR.out,if_neg hz]);have f0:((Z:Int)==0)=false:=by simp;omega
    have f1:((Z:Int) != 0)=true:=by simp;omega
    clear hz;go_enter Tryz.func142,Tryz.ntmps142
    go_wp2_with (first
     |(go_at_call 83;refine(HB.out _).mono ?_;rintro e w' ⟨rfl,rfl⟩)
     |(go_at_call 85;refine(HS.out _).mono ?_;rintro e w' ⟨rfl,rfl⟩)
     |(go_at_call 87;refine(HU.out _).mono ?_;rintro e w' ⟨rfl,rfl⟩)
     |(go_at_call 166;refine HT2.out.mono ?_;rintro e w' ⟨rfl,q,rfl⟩))
    go_ret
    exact⟨Qq (by rw[HE.out]),_,rfl⟩
  ·have e0:((len:Int)==((sizeN n v:Nat):Int))=false:=by simp;omega
   have e1:((len:Int) != ((sizeN n v:Nat):Int))=true:=by simp;omega
   rw[QgK hc (by rw[hs.len];exact hl)];generalize sizeN n v=S at *;clear hc hc' hs hb hl;go_enter Tryz.func142,Tryz.ntmps142
   go_wp2_with (first
    |(go_at_call 83;refine(HB.out _).mono ?_;rintro e w' ⟨rfl,rfl⟩)
    |(go_at_call 85;refine(HS.out _).mono ?_;rintro e w' ⟨rfl,rfl⟩))
   go_ret
   exact⟨rfl,0,rfl⟩
end Pk
namespace Ss
open Go.RowKit
theorem QeI{a b:ByteArray}(h:a≠b):¬a.toList=b.toList:=by
 rw[Go.ByteArray.toList_eq,Go.ByteArray.toList_eq];intro e;apply h
 obtain⟨⟨a⟩⟩:=a;obtain⟨⟨b⟩⟩:=b;have:a=b:=e;rw[this]
theorem QaH{a b:List Int}(ha:Bs.IsB a)(hb:Bs.IsB b)(h:¬a=b):((strOfNums a).toList==(strOfNums b).toList)=false:=
 beq_eq_false_iff_ne.2 (QeI fun e=>h (Dv.QbF ha hb e))
def sameB(a b:List (List Int)):Bool:=decide (a=b)
theorem QeG{a b:List (List Int)}(h:a=b):sameB a b=true:=decide_eq_true h
theorem Qeo{a b:List (List Int)}(h:¬a=b):sameB a b=false:=decide_eq_false h
theorem QeM{a b:List (List Int)}{k:Nat}(ha:k<a.length)(hb:k<b.length)(h:a.take k=b.take k)(hg:a.getD k []=b.getD k []):a.take (k+1)=b.take (k+1):=by
 rw[List.getD_eq_getElem?_getD,List.getD_eq_getElem?_getD,List.getElem?_eq_getElem ha,List.getElem?_eq_getElem hb]at hg;have e:a[k]=b[k]:=by simpa using hg
 rw[List.take_succ_eq_append_getElem ha,List.take_succ_eq_append_getElem hb,h,e]
end Ss
namespace Tx
open Go.RowKit
open Ss (sameB QeG Qeo QaH QeM)
theorem QmE(a0 a1:Option Addr)(n c0 c1:Nat)(l:List (List Int))(w:World)(h0:Ss.Seg w a0 n c0 l)(h1:Ss.Seg w a1 n c1 l) :
  Calls Tryz.prog 175 #[.slice a0 n c0,.slice a1 n c1] w fun e w'=>e=.returned (.bool true)∧∃m,w'=w.drewN m:=by
 by_cases hn:n=0
 ·subst hn;go_enter Tryz.func175,Tryz.ntmps175
  go_wp2;refine wp_loop_rounds 1 ?_;rw[rounds_succ];go_wp2;go_ret
  exact⟨rfl,0,rfl⟩
 ·obtain⟨g0,o0,rfl,k0⟩:=h0.addr (by omega);obtain⟨g1,o1,rfl,k1⟩:=h1.addr (by omega);have hm:=h0.cap;have hle:=h0.le;unfold maxLen at hm;have K0:=hid k0;have K1:=hid k1;clear k0 k1 h0 h1;go_enter Tryz.func175,Tryz.ntmps175
  go_wp2
  go_loopw [13] (fun si wr=>∃k m:Nat,k≤n∧si=.int .i64 k∧wr=w.drewN m) (fun si _=>n-(intOf si).toNat)
  case atStart=>exact⟨0,0,Nat.zero_le _,rfl,rfl⟩
  case round=>
   obtain⟨k,m,hk,rfl,rfl⟩:=hrel;by_cases hlt:k<n
   ·have q0:=K0.out k hlt;have q1:=K1.out k hlt;go_wp2
    go_quiet (fail)
    go_wp2;go_roundw
    case rel=>exact⟨k+1,m+nq,by omega,by go_num,by simp⟩
    case measure=>simp[intOf];omega
   ·obtain rfl:k=n:=by omega
    go_wp2;go_ret
    exact⟨rfl,m,rfl⟩
theorem QlY(a0 a1:Option Addr)(n0 n1 c0 c1:Nat)(l0 l1:List (List Int))(w:World)(h0:Ss.Seg w a0 n0 c0 l0)(h1:Ss.Seg w a1 n1 c1 l1)(hi0:Ss.IsS l0)(hi1:Ss.IsS l1) :
  Calls Tryz.prog 175 #[.slice a0 n0 c0,.slice a1 n1 c1] w fun e w'=>e=.returned (.bool (sameB l0 l1))∧∃m,w'=w.drewN m:=by
 by_cases hn:n0=n1
 ·subst hn;by_cases hz:n0=0
  ·subst hz;obtain rfl:=List.eq_nil_of_length_eq_zero h0.len;obtain rfl:=List.eq_nil_of_length_eq_zero h1.len;exact QmE a0 a1 0 c0 c1 [] w h0 h1
  ·obtain⟨g0,o0,rfl,k0⟩:=h0.addr (by omega);obtain⟨g1,o1,rfl,k1⟩:=h1.addr (by omega);have hm:=h0.cap;have hle:=h0.le;unfold maxLen at hm;have K0:=hid k0;have K1:=hid k1;have L0:=hid h0.len;have L1:=hid h1.len;have I0:=hid hi0;have I1:=hid hi1;clear k0 k1 h0 h1 hi0 hi1;go_enter Tryz.func175,Tryz.ntmps175
   go_wp2
   go_loopw [13] (fun si wr=>∃k m:Nat,k≤n0∧si=.int .i64 k∧wr=w.drewN m∧Hid (l0.take k=l1.take k)) (fun si _=>n0-(intOf si).toNat)
   case atStart=>exact⟨0,0,Nat.zero_le _,rfl,rfl,rfl⟩
   case round=>
    obtain⟨k,m,hk,rfl,rfl,HE⟩:=hrel;by_cases hlt:k<n0
    ·have q0:=K0.out k hlt;have q1:=K1.out k hlt;by_cases he:l0.getD k []=l1.getD k []
     ·have HE2:=hid (QeM (by rw[L0.out];exact hlt) (by rw[L1.out];exact hlt) HE.out he);rw[←he]at q1;clear he;generalize l0.getD k []=x at q0 q1;go_wp2
      go_quiet (fail)
      go_wp2;go_roundw
      case rel=>exact⟨k+1,m+nq,by omega,by go_num,by simp,HE2.out⟩
      case measure=>simp[intOf];omega
     ·have hs:=Qeo (show ¬l0=l1 from fun e=>he (by rw[e]));have HS:=hid hs;clear hs;have e1:=QaH (I0.out.at k).1 (I1.out.at k).1 he;have e2:=QaH (I1.out.at k).1 (I0.out.at k).1 (fun h=>he h.symm);generalize l0.getD k []=x at q0 he e1 e2;generalize l1.getD k []=y at q1 he e1 e2;have HNE:=hid he;clear he;go_wp2
      go_quiet (fail)
      go_wp2;go_ret
      exact⟨Bs.Qbl HS.out.symm,m+nq,by simp⟩
    ·obtain rfl:k=n0:=by omega
     have hs:=QeG (show l0=l1 by
      have h:=HE.out
      rwa [List.take_of_length_le (Nat.le_of_eq L0.out),List.take_of_length_le (Nat.le_of_eq L1.out)]at h)
     have HS:=hid hs;clear hs;go_wp2;go_ret
     exact⟨Bs.Qbl HS.out.symm,m,rfl⟩
 ·have hs:=Qeo (show ¬l0=l1 from fun e=>hn (by rw[←h0.len,←h1.len,e]));have HS:=hid hs;clear hs h0 h1;have e1:((n0:Int)==(n1:Int))=false:=beq_eq_false_iff_ne.2 (by omega);have e2:((n0:Int) != (n1:Int))=true:=bne_iff_ne.2 (by omega);go_enter Tryz.func175,Tryz.ntmps175
  go_wp2;go_ret
  exact⟨Bs.Qbl HS.out.symm,0,rfl⟩
end Tx
namespace Bs
open Go.RowKit
theorem Qfv{P:Program}{fn:Func}{p u:Tmp}{ty:TypeId}(h:fn.results=#[.cell p ty,.tmp u])(tmps:Array Value)(w:World)(g:Nat)(t:TypeId)(cs:Array Value)(fr:Nat×Nat)(d:TypeDesc)
  (hp:tmps.getD p undef=.pointer (some ⟨g,0,none⟩)) (hg:w.heap[g]?=some (.cells cs t fr))
  (hu:P.underlying ty=some d) (hd:(match d with | .struct _ | .array _ _=>true|_=>false)=true) (hi:(P.info? ty).map (·.size)=some cs.size) :
  (results fn tmps).run P w=.ok (.tuple #[.agg cs,tmps.getD u undef]) w:=by
 rw[results_cell_tmp h,hp];simp[asAddr,Result.andThen,run_loadVar_row w g t ty cs fr d hg hu hd hi]
end Bs
end Go.Proofs.YtljanfnhmhimiaaGreat
