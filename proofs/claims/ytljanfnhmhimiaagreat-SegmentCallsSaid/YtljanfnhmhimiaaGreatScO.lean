/- Parts of the proof. -/
import Derived.RangeFuncNested
import Derived.RangeFuncBound
import Derived.Shelf.RegionOpen
import Derived.OwnWalkIn
import Derived.LoopNIn
import Derived.LoopIn
import Derived.Test.YtljanfnhmhimiaaGreatScG
import Derived.Test.YtljanfnhmhimiaaGreatScJ
set_option maxRecDepth 100000
set_option maxHeartbeats 8000000
open Go.Lib (hid)
namespace Go.Proofs.YtljanfnhmhimiaaGreat
namespace Pk
open Go.RowKit Bs Dv Go.Shelf
attribute [local go_sem] Oper.semAt_some
def Kept(P:Nat→Prop)(W W':World):Prop:=Turn W W' (fun i=>¬P i)
theorem Kept.t{P:Nat→Prop}{A B C:World}(h:Kept P A B)(k:Kept P B C):Kept P A C:=Turn.trans h k (fun _ _ h=>h)
theorem Kept.b{P:Nat→Prop}{w:World}(hP:∀i,P i→i<w.heap.size)(W:World)(l:Nat)(o o':Obj)(hl:w.heap.size≤l)(_:W.heap[l]?=some o)(_:o.isCells=false)(_:o.isWalk=false):Kept P W (W.putObj l o'):=
 Turn.QD (grownBy_putObj' W l o') (fun i e _ h=>by cases e;have:=hP _ h;omega)
structure Iter (w:World) (lb:Array Value) (P:Nat→Prop) (l:List Int) (cnt v:Nat):Prop where
 ex:∃Bn Bb Bv a n c,lb=#[.pointer (some ⟨Bn,0,none⟩),.pointer (some ⟨Bb,0,none⟩),.pointer (some ⟨Bv,0,none⟩)] ∧
  w.cell? ⟨Bn,0,none⟩=some (.int .i64 (cnt:Int))∧w.cell? ⟨Bb,0,none⟩=some (.slice a n c)∧w.cell? ⟨Bv,0,none⟩=some (.int .i64 (v:Int))∧Seg w a n c l∧n≤524288∧cnt*v≤8*n ∧
  P Bn∧P Bb∧P Bv∧(∀ad,a=some ad→0<n→P ad.block)
 fit:Fit 8 l
 hv:v≤64
 hc:cnt≤65536
theorem Seg.turn{w w':World}{a:Option Addr}{n c:Nat}{l:List Int}{S:Nat→Prop}(h:Seg w a n c l)(k:Turn w w' S)(hne:∀ad,a=some ad→0<n→¬S ad.block):Seg w' a n c l:=
 ⟨h.len,h.le,h.cap,h.nil_,fun ad had j u hu=>k.cell (h.at_ ad had j u hu) (by
  rw[block_add];have hj:=(List.getElem?_eq_some_iff.1 hu).1;rw[List.length_map,h.len]at hj;exact hne ad had (by omega))⟩
theorem Iter.turn{w w':World}{lb:Array Value}{P:Nat→Prop}{l:List Int}{cnt v:Nat}{S:Nat→Prop}(h:Iter w lb P l cnt v)(k:Turn w w' S)(hS:∀i,P i→¬S i):Iter w' lb P l cnt v:=by
 obtain⟨⟨Bn,Bb,Bv,a,n,c,e,h1,h2,h3,h4,h5,h6,p1,p2,p3,p4⟩,hf,hv,hc⟩:=h;exact⟨⟨Bn,Bb,Bv,a,n,c,e,k.cell h1 (hS _ p1),k.cell h2 (hS _ p2),k.cell h3 (hS _ p3),Seg.turn h4 k (fun ad had hn=>hS _ (p4 ad had hn)),h5,h6,p1,p2,p3,p4⟩,hf,hv,hc⟩
def nth(l:List Int)(v i:Nat):Nat:=packN 8 l / 2 ^ (i*v) % 2 ^ v
theorem QcI(cnt k:Nat)(hk:k<cnt):(List.finRange cnt).take (k+1)=(List.finRange cnt).take k++[⟨k,hk⟩]:=by
 rw[List.take_succ_eq_append_getElem (by simpa using hk)]
 congr 2
 simp
theorem QiH(cnt k:Nat)(hk:k≤cnt):((List.finRange cnt).take k).length=k:=by
 rw[List.length_take,List.length_finRange,Nat.min_eq_left hk]
theorem QeJ(cnt:Nat):(List.finRange cnt).take cnt=List.finRange cnt:=List.take_of_length_le (by simp)
theorem QnA(m:Nat)(hm:1≤m)(y:Nat)(P:Nat→Prop)(b:List Int)(cnt v:Nat)(lb:Array Value)(J Jx:List (Fin cnt)→World→Prop)(B:Nat)
  (hJ:AbidesFrom B J)
  (hY:∀pre x W1,J pre W1→pre.length<cnt→YieldAt Fence.wide (m-1) Tryz.prog y #[.int .i64 ((x:Fin cnt).1:Int),.int .u64 (nth b v x.1:Int)] W1 fun e W'=>
   (e=.returned (.bool true)∧J (pre++[x]) W'∧Kept P W1 W')∨(e=.returned (.bool false)∧Jx (pre++[x]) W'))
  (W:World) (hI:Iter W lb P b cnt v) (h0:J [] W) :
  CallsIn Fence.wide m Tryz.prog 167 (#[.func (.yield y) #[] #[]]++lb) W fun e W'=>(∃z,e=.returned z) ∧
   ((∃ys,ys=List.finRange cnt∧J ys W')∨(∃pre,(∃k,k≤cnt∧pre=(List.finRange cnt).take k)∧Jx pre W')):=by
 have HI:=hid hI;have hv:=hI.hv;have hcn:=hI.hc;obtain⟨Bn,Bb,Bv,a,n,c,rfl,h1,h2,h3,h4,h5,h6,p1,p2,p3,p4⟩:=hI.ex;have HSg:=hid h4;have HP:=hid p4;have HP1:=hid p1;have HP2:=hid p2;have HP3:=hid p3;have HJ:=hid hJ;have HY:=hid hY;have HFit:=hid hI.fit;have H6:=hid h6;have hb1:=h1;clear hI h4 p4 p1 p2 p3 hJ hY h6 hb1;refine callsIn_of_wp Tryz.func167 rfl trivial ?_ rfl;simp only[Tryz.ntmps167,List.size_toArray,List.length_cons,List.length_nil,Nat.reduceAdd,Nat.reduceSub,Array.replicate_succ,Array.replicate_zero,List.push_toArray,List.append_toArray,List.nil_append,List.cons_append]
 gi_wp2
 gi_loopw [7] (fun i wr=>∃k:Nat,k≤cnt∧i=.int .i64 k∧Hid (J ((List.finRange cnt).take k) wr)∧Hid (Kept P W wr)) (fun i _=>cnt-(intOf i).toNat)
 case atStart=>exact⟨0,Nat.zero_le _,rfl,h0,Turn.refl _ _⟩
 case round=>
  obtain⟨k,hk,rfl,HJs,HK⟩:=hrel;by_cases hlt:k<cnt
  ·have c2:=HK.out.cell h2 (fun h=>h HP2.out);have c3:=HK.out.cell h3 (fun h=>h HP3.out);have hs:=Seg.turn HSg.out HK.out (fun ad had hn h=>h (HP.out ad had hn));have hkv:k*v+v≤8*n:=by
    have h1:(k+1)*v≤cnt*v:=Nat.mul_le_mul_right _ hlt;rw[Nat.add_mul,Nat.one_mul]at h1;have:=H6.out;omega
   have HTK:=hid (Qjk a n c b (k*v) v wr hs HFit.out h5 hv hkv);have e1:(k:Int)*(v:Int)=((k*v:Nat):Int):=by rw[Int.natCast_mul]
   have hb:k*v≤4194304:=by omega
   have HN:Hid (packN 8 b / 2 ^ (k*v) % 2 ^ v=nth b v k):=hid rfl;rw[HN.out]at HTK;clear hs hkv HN;generalize k*v=kv at HTK e1 hb;obtain⟨p,hp⟩:∃p,nth b v k=p:=⟨_,rfl⟩;rw[hp]at HTK;have HPp:=hid hp;clear hp
   gi_wp2_with ((refine⟨trivial,?_⟩;gi_at_call 166;refine(callsIn_wide.2 HTK.out).mono ?_;rintro e w' ⟨rfl,q,rfl⟩;have hJ2:=HJ.out _ _ (wr.drewN q) none HJs.out ⟨rfl,rfl,rfl,Nat.le_refl _,fun _ _ _=>rfl⟩ (fun _ e=>by cases e);obtain⟨fn,tmps,assign,body,hy,hR⟩:=HY.out _ ⟨k,hlt⟩ _ hJ2 (by rw[QiH _ _ hk];exact hlt);dsimp only at hy;rw[HPp.out]at hy))
   refine hR.mono ?_;rintro e W3 (⟨rfl,hJ3,hk3⟩|⟨rfl,hJx3⟩)
   ·have HJ3:=hid hJ3;have HK3:=hid (Kept.t (Kept.t HK.out (Turn.drewN wr q _)) hk3);clear hJ3 hk3 hR hy hJ2
    gi_wp2
    go_roundw
    case rel=>exact⟨k+1,by omega,by go_num,hid (by rw[QcI cnt k hlt];exact HJ3.out),HK3⟩
    case measure=>simp[intOf];omega
   ·have HJ3:=hid hJx3;clear hJx3 hR hy hJ2
    gi_wp2
    refine bodyPost_ret (results_none rfl _ _ _) rfl ?_;exact⟨⟨_,rfl⟩,.inr ⟨_,⟨k+1,by omega,(QcI cnt k hlt).symm⟩,HJ3.out⟩⟩
  ·obtain rfl:k=cnt:=by omega
   gi_wp2
   go_end0
   exact⟨⟨_,rfl⟩,.inl ⟨_,rfl,by rw[←QeJ];exact HJs.out⟩⟩
theorem Qln(m:Nat)(hm:1≤m)(P:Nat→Prop)(b:List Int)(cnt v:Nat)(lb:Array Value)(w:World)(hI:Iter w lb P b cnt v)(hP:∀i,P i→i<w.heap.size) :
  SeqStopsK Fence.wide m Tryz.prog 167 lb (fun x:Fin cnt=>#[.int .i64 (x.1:Int),.int .u64 (nth b v x.1:Int)]) (Kept P) (fun ys=>ys=List.finRange cnt) (fun pre=>∃k,k≤cnt∧pre=(List.finRange cnt).take k) cnt w:=
 fun l J Jx W hW hJ _ hY h0=>QnA m hm l P b cnt v lb J Jx W.heap.size hJ hY W (hI.turn (S:=fun i=>w.heap.size≤i) ⟨hW.os,hW.tape,hW.output,hW.size,fun k hk _=>hW.block k hk⟩ (fun i hi h=>by have:=hP i hi;omega)) h0
theorem QdI(a:Option Addr)(n c:Nat)(cnt v:Int)(w:World) :
  Calls Tryz.prog 143 #[.slice a n c,.int .i64 cnt,.int .i64 v] w fun e w'=>
   e=.returned (.func (.func 167) #[] #[.pointer (some ⟨w.heap.size+1,0,none⟩),.pointer (some ⟨w.heap.size,0,none⟩),.pointer (some ⟨w.heap.size+1+1,0,none⟩)]) ∧
   w'=(((w.alloc (.cells #[.slice a n c] 45)).alloc (.cells #[.int .i64 cnt] 3)).alloc (.cells #[.int .i64 v] 3)):=by
 have hmf:∀(fn:Fn) (first cap:Array Value) (w:World),(Instr.makeFunc fn first cap).run Tryz.prog w=.ok (.func fn first cap) w:=fun _ _ _ _=>rfl
 go_enter Tryz.func143,Tryz.ntmps143
 go_wp2;go_ret
 exact⟨rfl,rfl⟩
theorem QiG(a:Option Addr)(n c cnt v:Nat)(l:List Int)(w:World)(hs:Seg w a n c l)(hb:Fit 8 l)(hv:v≤64)(hc:cnt≤65536)(hn:n≤524288)(hk:cnt*v≤8*n) :
  Calls Tryz.prog 143 #[.slice a n c,.int .i64 cnt,.int .i64 v] w fun e w'=>
   ∃lb,e=.returned (.func (.func 167) #[] lb)∧Iter w' lb (fun i=>(w.heap.size≤i∧i<w'.heap.size)∨∃ad,a=some ad∧0<n∧i=ad.block) l cnt v∧Turn w w' nowhere:=by
 refine(QdI a n c cnt v w).mono ?_;rintro e w' ⟨rfl,rfl⟩;have b1:=Qm w (.slice a n c) 45;have b2:=Qm (w.alloc (.cells #[.slice a n c] 45)) (.int .i64 (cnt:Int)) 3;have b3:=Qm ((w.alloc (.cells #[.slice a n c] 45)).alloc (.cells #[.int .i64 (cnt:Int)] 3)) (.int .i64 (v:Int)) 3;simp only[World.size_alloc]at b2 b3;have up:∀{W:World} {B:Nat} {x:Value} (o:Obj),W.cell? ⟨B,0,none⟩=some x→(W.alloc o).cell? ⟨B,0,none⟩=some x:=fun {W B x} o h=>(Turn.alloc W o nowhere).cell h id
 have hT:Turn w (((w.alloc (.cells #[.slice a n c] 45)).alloc (.cells #[.int .i64 (cnt:Int)] 3)).alloc (.cells #[.int .i64 (v:Int)] 3)) nowhere:=
  ((Turn.alloc w _ nowhere).trans (Turn.alloc _ _ nowhere) (fun _ _ h=>h)).trans (Turn.alloc _ _ nowhere) (fun _ _ h=>h)
 refine⟨_,rfl,⟨⟨w.heap.size+1,w.heap.size,w.heap.size+1+1,a,n,c,rfl,up _ b2,up _ (up _ b1),b3,Seg.turn hs hT (fun _ _ _=>id),hn,hk,?_,?_,?_,fun ad e hn=>.inr ⟨ad,e,hn,rfl⟩⟩,hb,hv,hc⟩,hT⟩
 all_goals
  left
  simp only[World.size_alloc];omega
end Pk
namespace Pk
open Go.RowKit Bs Dv Go.Shelf
attribute [local go_sem] Oper.semAt_some
def GetX(w:World)(r:Int×List Int)(e:Ending)(w':World):Prop:=
 ∃a k,e=.returned (.tuple #[.slice a r.2.length k,.int .i64 r.1])∧Us.Seg w' a r.2.length k r.2∧w.grownBy w' none
theorem QkQ(a:Option Addr)(len c:Nat)(l:List Int)(n v:Int)(w:World)(hs:Seg w a len c l)(hb:Fit 8 l)(hno:¬(getR l n v).1=0) :
  Calls Tryz.prog 104 #[.slice a len c,.int .i64 n,.int .i64 v] w (GetX w (getR l n v)):=by
 have h2:=QeP l n v hno;have HC:=hid (Qdi a len c l n v w hs hb);obtain⟨R,hR⟩:∃R,getR l n v=R:=⟨_,rfl⟩;rw[hR]at hno h2 HC ⊢;obtain⟨E,L⟩:=R;obtain rfl:L=[]:=h2;replace hno:¬E=0:=hno;have e0:(E==0)=false:=by simp;exact hno
 have e1:(E != 0)=true:=by simp;exact hno
 have HX:Hid (∀q,GetX w (E,[]) (.returned (.tuple #[.slice none 0 0,.int .i64 E])) (w.drewN q)):=hid (fun q=>⟨none,0,rfl,Us.Seg.nil _,⟨rfl,rfl,rfl,Nat.le_refl _,fun _ _ _=>rfl⟩⟩);clear hR hno hs hb;dsimp only at HC;go_enter Tryz.func104,Tryz.ntmps104
 go_wp2_with (go_at_call 142;refine HC.out.mono ?_;rintro e w' ⟨rfl,q,rfl⟩)
 go_ret2
 exact HX.out _
def roomU(S:Nat):Array Value:=madeCells (Value.int .u64 0).cells S
theorem Qb8(S:Nat):(roomU S).size=S:=size_madeCells _ _
theorem Qk8(S:Nat):(roomU S).toList=(List.replicate S (0:Int)).map (Value.int .u64):=by
 rw[List.map_replicate];exact toList_madeCells_one _ _
theorem Qfc(S:Nat)(hS:S≤100000000)(W:World):(Instr.makeSlice 88 (.int .i64 (S:Int)) (.int .i64 (S:Int))).run Tryz.prog W=.ok (.slice (some ⟨W.heap.size,0,none⟩) S S) (W.alloc (.cells (roomU S) 85)):=by
 obtain⟨i0,hi,hz0,hz1,hz2⟩:=info_parts Us.Qak;have h:=run_make (P:=Tryz.prog) W 88 85 i0 (.int .u64 0) Tryz.underlying88 hi hz0 .i64 .i64 (S:Int) (S:Int) (by omega) (by omega) (by rw[hz2];omega) (by omega);rw[hz1,Int.toNat_natCast,Nat.mul_one]at h;exact h
theorem QfN(W:World)(S:Nat)(hS:S≤100000000):(W.alloc (.cells (roomU S) 85)).ownsRow W.heap.size 85 1 (.slice (some ⟨W.heap.size,0,none⟩) S S) S ((List.replicate S (0:Int)).map (Value.int .u64)):=
 ⟨by simp,.inr ⟨W.heap.size,S,roomU S,rfl,Nat.le_refl _,heap_alloc_new W _,Nat.le_refl _,by unfold maxLen;omega,by rw[Qb8,Nat.mul_one],by rw[Qk8];exact List.take_of_length_le (by simp)⟩⟩
def fill(l:List Int)(v cnt:Nat)(pre:List (Fin cnt)):List Int:=pre.foldl (fun r x=>r.set x.1 (nth l v x.1:Int)) (List.replicate cnt 0)
theorem Qh1(l:List Int)(v cnt:Nat)(pre:List (Fin cnt))(x:Fin cnt):fill l v cnt (pre++[x])=(fill l v cnt pre).set x.1 (nth l v x.1:Int):=by simp[fill]
theorem Qou(l:List Int)(v cnt:Nat)(pre:List (Fin cnt)):(fill l v cnt pre).length=cnt:=by
 unfold fill
 suffices h:∀(pre:List (Fin cnt)) (r:List Int),(pre.foldl (fun r x=>r.set x.1 (nth l v x.1:Int)) r).length=r.length by rw[h];simp
 intro pre
 induction pre with
 |nil=>intro r;rfl
 |cons x t ih=>intro r;rw[List.foldl_cons,ih,List.length_set]
theorem QmW(l:List Int)(v cnt:Nat):∀k,k≤cnt→fill l v cnt ((List.finRange cnt).take k)=getL v (packN 8 l) k++List.replicate (cnt-k) 0:=by
 intro k
 induction k with
 |zero=>intro _;simp[fill,Qh6]
 |succ k ih=>
  intro hk;rw[QcI cnt k hk,Qh1,ih (by omega),Qe2];have e:cnt-k=(cnt-(k+1))+1:=by omega
  rw[e,List.replicate_succ,List.set_append_right _ _ (by rw[QH];exact Nat.le_refl _),QH,Nat.sub_self,List.set_cons_zero,List.append_assoc]
  rfl
theorem Qn9(l:List Int)(v cnt:Nat):fill l v cnt (List.finRange cnt)=getL v (packN 8 l) cnt:=by
 have h:=QmW l v cnt cnt (Nat.le_refl _)
 rwa [QeJ,Nat.sub_self,List.replicate_zero,List.append_nil]at h
theorem Qpf{w w':World}{v N n:Nat}(h:w'.ownsRow w.heap.size 85 1 (.slice (some ⟨w.heap.size,0,none⟩) n n) n ((getL v N n).map (Value.int .u64)))(hg:w.grownBy w' none) :
  GetX w ((0:Int),getL v N n) (.returned (.tuple #[.slice (some ⟨w.heap.size,0,none⟩) n n,.int .i64 0])) w':=by
 have e:(((0:Int),getL v N n):Int×List Int).2.length=n:=QH v N n;refine⟨some ⟨w.heap.size,0,none⟩,n,by rw[e],?_,hg⟩;rw[e];exact Us.Seg.own h
theorem QaL{w w':World}{base e size n g c:Nat}{xs:List Value}{S:Nat→Prop}(h:w.ownsRow base e size (.slice (some ⟨g,0,none⟩) n c) n xs)(k:Turn w w' S)(hS:¬S g):w'.ownsRow base e size (.slice (some ⟨g,0,none⟩) n c) n xs:=by
 refine⟨h.1,?_⟩;rcases h.2 with ⟨e1,_⟩|⟨g',cap,cur,e1,hb,hgg,rest⟩
 ·cases e1
 ·cases e1
  exact .inr ⟨g,c,cur,rfl,hb,(k.block g (Array.getElem?_eq_some_iff.1 hgg).1 hS).trans hgg,rest⟩
theorem Qj9(a:Option Addr)(len c:Nat)(l:List Int)(n v:Nat)(w:World)(hs:Seg w a len c l)(hb:Fit 8 l)(hok:(getR l n v).1=0) :
  Calls Tryz.prog 104 #[.slice a len c,.int .i64 (n:Int),.int .i64 (v:Int)] w (GetX w (getR l n v)):=by
 have HC:=hid (Qdi a len c l n v w hs hb);rw[hok]at HC;obtain⟨hc,hl,hz⟩:canB n v=true∧l.length=sizeN n v∧packN 8 l / 2 ^ (n*v)=0:=by
  unfold getR at hok;by_cases h1:canB n v=true
  ·rw[if_pos h1]at hok;by_cases h2:l.length=sizeN (n:Int).toNat (v:Int).toNat∧packN 8 l / 2 ^ ((n:Int).toNat*(v:Int).toNat)=0
   ·exact⟨h1,by simpa only[Int.toNat_natCast] using h2.1,by simpa only[Int.toNat_natCast] using h2.2⟩
   ·rw[if_neg h2]at hok;simp at hok
  ·rw[if_neg h1]at hok;simp at hok
 rw[QdN hc hl hz];have hc':=(Qy _ _).1 hc;have hsz:=Qco n v;rw[QaI hc]at hsz;have hlen:=hs.len;have h8:=size8 n v;have HN:Hid (∀W:World,Turn w W nowhere→Calls Tryz.prog 143 #[.slice a len c,.int .i64 (n:Int),.int .i64 (v:Int)] W fun e w'=>
   ∃lb,e=.returned (.func (.func 167) #[] lb)∧Iter w' lb (fun i=>(W.heap.size≤i∧i<w'.heap.size)∨∃ad,a=some ad∧0<len∧i=ad.block) l n v∧Turn W w' nowhere):=
  hid (fun W hT=>QiG a len c n v l W (Seg.turn hs hT (fun _ _ _=>id)) hb (by omega) (by omega) (by omega) (by omega))
 have hn:n≤65536:=by omega
 have hmk:=Qfc n (by omega);have HAD:Hid (∀ad,a=some ad→0<len→ad.block<w.heap.size):=hid (fun ad had h0=>by
  have h:=hs.at_ ad had 0 _ (by rw[List.getElem?_map,List.getElem?_eq_getElem (by omega)];rfl);have h2:=World.block_lt_of_cell? w _ h
  rwa [block_add]at h2)
 have HTm:Hid (∀q,Turn w (((w.drewN q).alloc (.cells (roomU n) 85)).alloc (.cells #[.slice (some ⟨w.heap.size,0,none⟩) n n] 88)) nowhere):=hid (fun q=>
  ((Turn.drewN w q nowhere).trans (Turn.alloc _ _ nowhere) (fun _ _ h=>h)).trans (Turn.alloc _ _ nowhere) (fun _ _ h=>h))
 have HMO:=hid (fun W=>QfN W n (by omega));clear hok hc hl hz hc' hsz hlen h8 hs hb;refine(callsIn_wide (n:=3)).1 ?_;refine callsIn_of_wp_marks Tryz.func104 rfl trivial ?_ rfl;simp only[Tryz.ntmps104,List.size_toArray,List.length_cons,List.length_nil,Nat.reduceAdd,Nat.reduceSub,Array.replicate_succ,Array.replicate_zero,List.push_toArray,List.append_toArray,List.nil_append,List.cons_append]
 gi_wp2_with (first
  |(refine⟨trivial,?_⟩;gi_at_call 142;refine(callsIn_wide.2 HC.out).mono ?_;rintro e w' ⟨rfl,q,rfl⟩)
  |(refine⟨trivial,?_⟩;gi_at_call 143;refine(callsIn_wide.2 (HN.out _ (HTm.out q))).mono ?_;rintro e w1 ⟨lb,rfl,hI,hT1⟩))
 have hsz:(((w.drewN q).alloc (.cells (roomU n) 85)).alloc (.cells #[.slice (some ⟨w.heap.size,0,none⟩) n n] 88)).heap.size=w.heap.size+2:=by simp[World.size_alloc]
 have hT0:=(HTm.out q).trans hT1 (fun _ _ h=>h);have o1:=QaL ((HMO.out (w.drewN q)).alloc (.cells #[.slice (some ⟨w.heap.size,0,none⟩) n n] 88)) hT1 id;have c1:=hT1.cell (Qm ((w.drewN q).alloc (.cells (roomU n) 85)) (.slice (some ⟨w.heap.size,0,none⟩) n n) 88) id;have f1:=(hT1.frozen (p:=⟨((w.drewN q).alloc (.cells (roomU n) 85)).heap.size,0,none⟩) (by simp) id).trans (Qez ((w.drewN q).alloc (.cells (roomU n) 85)) (.slice (some ⟨w.heap.size,0,none⟩) n n) 88);have e1:((w.drewN q).alloc (.cells (roomU n) 85)).heap.size=w.heap.size+1:=by simp[World.size_alloc]
 rw[e1]at c1 f1;rw[hsz]at hI;have hz1:=hT1.size;rw[hsz]at hz1;have hP:∀i,((w.heap.size+2≤i∧i<w1.heap.size)∨∃ad,a=some ad∧0<len∧i=ad.block)→i<w1.heap.size:=by
  rintro i (h|⟨ad,h1,h2,rfl⟩)
  ·exact h.2
  ·have:=HAD.out ad h1 h2;omega
 have hG:∀i,i=w.heap.size∨i=w.heap.size+1→¬((w.heap.size+2≤i∧i<w1.heap.size)∨∃ad,a=some ad∧0<len∧i=ad.block):=by
  rintro i hi (h|⟨ad,h1,h2,rfl⟩)
  ·omega
  ·have:=HAD.out ad h1 h2;omega
 have HG:=hid hG;clear hG e1 hsz hmk HMO HN HC;refine wpIn_rangeFunc_ownG rfl (by decide) (gf:=167) (lb:=lb) rfl trivial (enters_of Tryz.func167 (by kernel_rfl) rfl)
  (Qln 2 (by decide) (fun i=>(w.heap.size+2≤i∧i<w1.heap.size)∨∃ad,a=some ad∧0<len∧i=ad.block) l n v lb w1 hI hP) (fun h k=>Kept.t h k) (Kept.b hP) (Below.refl _ _) (fun _=>rfl)
  (fun pre W=>(W.ownsRow w.heap.size 85 1 (.slice (some ⟨w.heap.size,0,none⟩) n n) n ((fill l v n pre).map (Value.int .u64))∧W.cell? ⟨w.heap.size+1,0,none⟩=some (.slice (some ⟨w.heap.size,0,none⟩) n n))∧Below w.heap.size w W)
  (fun _ _ _=>False)
  (OwnFrom.and (fun s A B row hs hg hr=>⟨hs.1.kept hg (.inr (fun e=>by have h2:w1.heap.size≤w.heap.size:=(hr _ e.symm).1;omega)),hg.cell hs.2 (fun e=>by have:=(hr _ e.symm).1;simp at this;omega)⟩) (ownFrom_below (Nat.le_refl _) (by omega)))
  (fun _ _ _ _ _ hs _ _=>hs)
  ⟨⟨o1,c1⟩,⟨hT0.os,hT0.tape,hT0.output,hT0.size,fun i hi=>hT0.block i hi id⟩⟩
  (fun x=>{ tmps:=#[.slice a len c,.int .i64 (n:Int),.int .i64 (v:Int),undef,undef,undef,.slice none 0 0,.int .i64 0,.int .i64 0,.pointer (some ⟨w.heap.size+1,0,none⟩),.int .i64 (x.1:Int),.int .u64 (nth l v x.1:Int),.slice a len c,.int .i64 (n:Int),.int .i64 (v:Int),.int .i64 0,.int .i64 0,.bool false,undef,.int .i64 (n:Int),.slice (some ⟨w.heap.size,0,none⟩) n n,
   .slice a len c,.int .i64 (n:Int),.int .i64 (v:Int),.func (.func 167) #[] lb,.int .i64 (x.1:Int),.int .u64 (nth l v x.1:Int),undef,undef,undef,undef,undef],defers:=[] }) ?assign ?body ?done ?stop
 case assign=>
  intro l x W K hK
  gi_wp2
  exact hK
 case body=>
  rintro y pre ⟨i,hi⟩ W ⟨⟨hR,hc⟩,hB⟩ _;have hcell:=hR.cellAt i (by omega);rw[List.getElem?_map,List.getElem?_eq_getElem (by rw[Qou];exact hi)]at hcell;simp only[Option.map_some]at hcell;have hfree:=hR.frozenAt i;have hst:=(hR.stored i (.int .u64 (nth l v i:Int))).1;rw[←List.map_set,←Qh1 l v n pre ⟨i,hi⟩]at hst;have HST:=hid hst;have HB:=hid hB;clear hst hR hB c1 f1 o1;dsimp only;generalize nth l v i=p at HST ⊢;generalize (fill l v n pre)[i]'_=z at hcell;have hi':(i:Int)<(n:Int):=by omega
  gi_wp2
  exact⟨(KeepsOthers.setCell _ _ _).from _,Turn.setCell W ⟨w.heap.size,i,none⟩ _ (S:=fun j=>¬((w.heap.size+2≤j∧j<w1.heap.size)∨∃ad,a=some ad∧0<len∧j=ad.block)) (HG.out _ (.inl rfl)),
   ⟨HST.out,Turn.cell (Turn.setCell W ⟨w.heap.size,i,none⟩ _ (S:=fun j=>j=w.heap.size) rfl) hc (by simp)⟩,HB.out.setCell (p:=⟨w.heap.size,i,none⟩) (Nat.le_refl _) _⟩
 case done=>
  rintro D ys W hD rfl ⟨⟨hR,hc⟩,hB⟩ hK
  gi_wp2
  refine⟨by simp,.inl ⟨_,_,rfl,run_takeDeferred hK,?_⟩⟩;refine⟨_,results_tmp2 rfl _ _ _,?_⟩;exact Qpf (by rw[←Qn9];exact ownsRow_putObj hR _ hK rfl) (grown_of (hB.trans (belowK_b (w:=w) (Nat.le_refl _) W D _ _ (by omega) hK rfl rfl)))
 case stop=>
  rintro D c pre W _ _ h _;exact h.elim
theorem Qc2(a:Option Addr)(len c:Nat)(l:List Int)(n v:Int)(w:World)(hs:Seg w a len c l)(hb:Fit 8 l) :
  Calls Tryz.prog 104 #[.slice a len c,.int .i64 n,.int .i64 v] w (GetX w (getR l n v)):=by
 by_cases h:(getR l n v).1=0
 ·have hc:=(Qy n v).1 (by
   cases hc:canB n v with
   |true=>rfl
   |false=>rw[Qel hc]at h;simp at h)
  obtain⟨v',rfl⟩:=Int.eq_ofNat_of_zero_le hc.2.2.1;obtain⟨n',rfl⟩:=Int.eq_ofNat_of_zero_le hc.1;exact Qj9 a len c l n' v' w hs hb h
 ·exact QkQ a len c l n v w hs hb h
end Pk
namespace Pk
open Go.RowKit Bs Dv
theorem QW{w w':World}(h:Turn w w' nowhere):Below w.heap.size w w':=⟨h.os,h.tape,h.output,h.size,fun k hk=>h.block k hk id⟩
theorem Qc{w w':World}(h:w.grownBy w' none):Turn w w' nowhere:=Turn.QD h (fun _ e=>by cases e)
theorem Turn.then{a b c:World}(h:Turn a b nowhere)(k:Turn b c nowhere):Turn a c nowhere:=Turn.trans h k (fun _ _ h=>h)
def PutF(w:World)(m:Nat)(E:Int)(B:List Int)(e:Ending)(w':World):Prop:=
 ∃a k,e=.returned (.tuple #[.slice a m k,.int .i64 E])∧Seg w' a m k B∧Turn w w' nowhere
def GetF(w:World)(m:Nat)(E:Int)(B:List Int)(e:Ending)(w':World):Prop:=
 ∃a k,e=.returned (.tuple #[.slice a m k,.int .i64 E])∧Us.Seg w' a m k B∧Turn w w' nowhere
theorem Qbd{l:List Int}{v E:Int}{B:List Int}{m:Nat}(hR:putR l v=(E,B))(hm:B.length=m)(hu:IsU l)(a:Option Addr)(n c:Nat)(W:World)(hs:Us.Seg W a n c l) :
  Calls Tryz.prog 50 #[.slice a n c,.int .i64 v] W (PutF W m E B):=
 (Qc4 a n c l v W hs hu).mono fun e w' h=>by
  rw[hR]at h;obtain⟨a',k,he,h1,h2,_⟩:=h;subst hm;exact⟨a',k,he,h1,Qc h2⟩
def PutO(w:World)(m:Nat)(E:Int)(B:List Int)(e:Ending)(w':World):Prop:=
 ∃a k,e=.returned (.tuple #[.slice a m k,.int .i64 E])∧Seg w' a m k B∧Turn w w' nowhere∧(E=0→∃g,a=some ⟨g,0,none⟩∧w'.ownsRow w.heap.size 5 1 (.slice (some ⟨g,0,none⟩) m k) m (B.map (Value.int .u8)))
theorem Qjc{l:List Int}{v E:Int}{B:List Int}{m:Nat}(hR:putR l v=(E,B))(hm:B.length=m)(hu:IsU l)(a:Option Addr)(n c:Nat)(W:World)(hs:Us.Seg W a n c l) :
  Calls Tryz.prog 50 #[.slice a n c,.int .i64 v] W (PutO W m E B):=
 (Qc4 a n c l v W hs hu).mono fun e w' h=>by
  rw[hR]at h;obtain⟨a',k,he,h1,h2,h3⟩:=h;subst hm;exact⟨a',k,he,h1,Qc h2,h3⟩
theorem QfO{l:List Int}{n v E:Int}{B:List Int}{m:Nat}(hR:getR l n v=(E,B))(hm:B.length=m)(hb:Fit 8 l)(a:Option Addr)(len c:Nat)(W:World)(hs:Seg W a len c l) :
  Calls Tryz.prog 104 #[.slice a len c,.int .i64 n,.int .i64 v] W (GetF W m E B):=
 (Qc2 a len c l n v W hs hb).mono fun e w' h=>by
  rw[hR]at h;obtain⟨a',k,he,h1,h2⟩:=h;subst hm;exact⟨a',k,he,h1,Qc h2⟩
end Pk
namespace Pk
open Go.RowKit Bs Dv
theorem Qpw(S:Nat):getL 8 0 S=List.replicate S 0:=by
 unfold getL;apply List.ext_getElem
 ·simp
 ·intro i h1 h2;simp
theorem QoG(M p S:Nat)(hM:M<2 ^ p)(hp:p / 8<S):getL 8 (M+2 ^ p) S=(getL 8 M S).set (p / 8) ((M / 2 ^ (p / 8*8)+2 ^ (p % 8):Nat):Int):=by
 have hpe:2 ^ p=2 ^ (p / 8*8)*2 ^ (p % 8):=by rw[←Nat.pow_add];congr 1;omega
 have hT:M / 2 ^ (p / 8*8)<2 ^ (p % 8):=Nat.div_lt_of_lt_mul (by rw[←hpe];exact hM);have h7:2 ^ (p % 8)≤2 ^ 7:=Nat.pow_le_pow_right (by decide) (by omega);apply List.ext_getElem?
 intro j;rw[List.getElem?_set];by_cases hj:j<S
 ·rw[QfJ 8 _ S j hj];by_cases he:p / 8=j
  ·rw[if_pos he,if_pos (by rw[QH];omega),←he]
   congr 2
   rw[hpe,Nat.add_mul_div_left _ _ (Qab _)];exact Nat.mod_eq_of_lt (by omega)
  ·rw[if_neg he,QfJ 8 _ S j hj]
   congr 2
   by_cases hlt:j<p / 8
   ·have e2:2 ^ p=2 ^ (j*8)*(2 ^ 8*2 ^ (p-j*8-8)):=by rw[←Nat.pow_add,←Nat.pow_add];congr 1;omega
    rw[e2,Nat.add_mul_div_left _ _ (Qab _),Nat.add_mul_mod_self_left]
   ·have h3:2 ^ (p+1)≤2 ^ (j*8):=Nat.pow_le_pow_right (by decide) (by omega);rw[Nat.pow_succ]at h3;rw[Nat.div_eq_of_lt (show M+2 ^ p<2 ^ (j*8) by omega),Nat.div_eq_of_lt (show M<2 ^ (j*8) by omega)]
 ·rw[List.getElem?_eq_none (by rw[QH];omega),if_neg (by omega),List.getElem?_eq_none (by rw[QH];omega)]
theorem or_bit(T r:Nat)(hT:T<2 ^ r)(hr:r<8):bits .or .u8 (T:Int) (2 ^ r % 256)=((T+2 ^ r:Nat):Int):=by
 have h7:2 ^ r≤2 ^ 7:=Nat.pow_le_pow_right (by decide) (by omega);have e:(2:Int) ^ r % 256=((2 ^ r:Nat):Int):=by
  rw[show(2:Int) ^ r=((2 ^ r:Nat):Int) from by rw[Int.natCast_pow];rfl];omega
 rw[e,u8_or_nat T _ (by omega) (by omega)];have:=Qb6 T 1 r hT;rw[Nat.one_mul]at this;rw[this]
theorem rem2(x k:Nat):((x:Int) / 2 ^ k).tmod 2=((x / 2 ^ k % 2:Nat):Int):=by
 have e:(x:Int) / 2 ^ k=((x / 2 ^ k:Nat):Int):=by rw[Int.natCast_ediv,Int.natCast_pow];rfl
 rw[e,Int.tmod_eq_emod_of_nonneg (Int.natCast_nonneg _)];omega
theorem Qg3(x k:Nat):x % 2 ^ (k+1)=x % 2 ^ k+x / 2 ^ k % 2*2 ^ k:=by rw[←Qgv,Nat.pow_one]
theorem QmT(S:Nat)(hS:S≤100000000)(W:World):(Instr.makeSlice 45 (.int .i64 (S:Int)) (.int .i64 (S:Int))).run Tryz.prog W=.ok (.slice (some ⟨W.heap.size,0,none⟩) S S) (W.alloc (.cells (room S) 5)):=by
 obtain⟨i0,hi,hz0,hz1,hz2⟩:=info_parts Qj;have h:=run_make (P:=Tryz.prog) W 45 5 i0 (.int .u8 0) Tryz.underlying45 hi hz0 .i64 .i64 (S:Int) (S:Int) (by omega) (by omega) (by rw[hz2];omega) (by omega);rw[hz1,Int.toNat_natCast,Nat.mul_one]at h;exact h
theorem Qop(W:World)(S:Nat)(hS:S≤100000000):(W.alloc (.cells (room S) 5)).ownsRow W.heap.size 5 1 (.slice (some ⟨W.heap.size,0,none⟩) S S) S ((getL 8 0 S).map (Value.int .u8)):=
 ⟨by simp[QH],.inr ⟨W.heap.size,S,room S,rfl,Nat.le_refl _,heap_alloc_new W _,Nat.le_refl _,by unfold maxLen;omega,by rw[Qe5,Nat.mul_one],by
  rw[Qpw,List.map_replicate,show(room S).toList=List.replicate S (.int .u8 0) from toList_madeCells_one _ _];exact List.take_of_length_le (by simp)⟩⟩
theorem QjH(a:Option Addr)(n c:Nat)(l:List Int)(v:Int)(w:World)(hs:Us.Seg w a n c l)(hu:IsU l)(hno:¬(putR l v).1=0) :
  Calls Tryz.prog 46 #[.slice a n c,.int .i64 v] w (PutX w (putR l v)):=by
 have hlen:=hs.len;cases hc:canB l.length v with
 |false=>
  have HP:=hid (Qfn (putR l v) 2 w (Qjg hc) (by decide));have HB:Hid (∀w,Calls Tryz.prog 77 #[.int .i64 n,.int .i64 v] w fun e w'=>e=.returned (.bool false)∧w=w'):=hid (fun w=>by have:=QbZ n v w;rwa [←hlen,hc,hlen]at this);generalize putR l v=R at HP ⊢;clear hc hno hs hlen;go_enter Tryz.func46,Tryz.ntmps46
  go_wp2_with (go_at_call 77;refine(HB.out _).mono ?_;rintro e w' ⟨rfl,rfl⟩)
  go_ret2
  exact HP.out
 |true=>
  have hw:¬(wid l:Int)≤v:=fun h=>hno ((Qbw l v).2 ⟨hc,h⟩)
  have HP:=hid (Qfn (putR l v) 3 w (Qji hc hw) (by decide));have HB:Hid (∀w,Calls Tryz.prog 77 #[.int .i64 n,.int .i64 v] w fun e w'=>e=.returned (.bool true)∧w=w'):=hid (fun w=>by have:=QbZ n v w;rwa [←hlen,hc,hlen]at this);have HW:=hid (QcQ a n c l w hs hu);have hgt:v<(wid l:Int):=by omega
  have hb:=Qgf hu;generalize putR l v=R at HP ⊢;generalize wid l=W at HW hgt hb;clear hc hno hs hlen hw;go_enter Tryz.func46,Tryz.ntmps46
  go_wp2_with (first
   |(go_at_call 77;refine(HB.out _).mono ?_;rintro e w' ⟨rfl,rfl⟩)
   |(go_at_call 78;refine HW.out.mono ?_;rintro e w' ⟨rfl,rfl⟩))
  go_ret2
  exact HP.out
theorem Qn5{w w':World}{g S N:Nat}(h:w'.ownsRow w.heap.size 5 1 (.slice (some ⟨g,0,none⟩) S S) S ((getL 8 N S).map (Value.int .u8)))(hg:w.grownBy w' none):PutX w ((0:Int),getL 8 N S) (.returned (.tuple #[.slice (some ⟨g,0,none⟩) S S,.int .i64 0])) w':=by
 have e:(((0:Int),getL 8 N S):Int×List Int).2.length=S:=QH 8 N S;refine⟨some ⟨g,0,none⟩,S,by rw[e],?_,hg,fun _=>⟨g,rfl,?_⟩⟩
 ·rw[e];exact Seg.own h
 ·rw[e];exact h
theorem Qiq(a:Option Addr)(n c:Nat)(l:List Int)(v:Nat)(w:World)(hs:Us.Seg w a n c l)(hu:IsU l)(hok:(putR l v).1=0) :
  Calls Tryz.prog 46 #[.slice a n c,.int .i64 (v:Int)] w (PutX w (putR l v)):=by
 have hlen:=hs.len;obtain⟨hc,hw⟩:=(Qbw l v).1 hok;have hc':=(Qy _ _).1 hc;rw[Qit hc hw];have hf:Fit v l:=(Qbv l v hu.nonneg).1 (by omega);have HF:=hid hf;have HB:Hid (∀w,Calls Tryz.prog 77 #[.int .i64 n,.int .i64 (v:Int)] w fun e w'=>e=.returned (.bool true)∧w=w'):=hid (fun w=>by have:=QbZ n v w;rwa [←hlen,hc,hlen]at this);have HW:=hid (QcQ a n c l w hs hu);rw[hlen]at hc hc' ⊢;have HS:Hid (∀w,Calls Tryz.prog 79 #[.int .i64 n,.int .i64 (v:Int)] w fun e w'=>e=.returned (.int .i64 (sizeN n v:Int))∧w=w'):=hid (fun w=>by have:=Qcy n v w;rwa [QaI hc]at this);have h8:=size8 n v;have hszb:=Qco n v;rw[QaI hc]at hszb;obtain⟨S,hS⟩:∃S,sizeN n v=S:=⟨_,rfl⟩;rw[hS]at HS h8 hszb ⊢;have H8:=hid h8;have hv64:v≤64:=by omega
 have hnle:n≤65536:=by omega
 have hwb:=Qgf hu;have HLen:=hid hlen;have HIU:=hid hu;have HSg:=hid hs;obtain⟨R,hR⟩:∃R,((0:Int),getL 8 (packN v l) S)=R:=⟨_,rfl⟩;rw[hR];have HR:=hid hR;have hwv:(wid l:Int)≤(v:Int):=hw;generalize wid l=W at HW hwv hwb;have hmk:=QmT S (by omega);have HO:=hid (Qop w S (by omega));have HT0:=hid (Turn.alloc w (.cells (room S) 5) nowhere);have hcap:=hs.cap;have hle:=hs.le;unfold maxLen at hcap;obtain⟨gA,o,hform,hcell⟩:=QiT hs;have HCell:=hid hcell;have HForm:=hid hform;have hSb:S≤524288:=by omega
 clear hcell hform hR hu hs hlen hS hok hc hc' hw hf hszb h8;go_enter Tryz.func46,Tryz.ntmps46
 go_wp2_with (first
  |(go_at_call 77;refine(HB.out _).mono ?_;rintro e w' ⟨rfl,rfl⟩)
  |(go_at_call 78;refine HW.out.mono ?_;rintro e w' ⟨rfl,rfl⟩)
  |(go_at_call 79;refine(HS.out _).mono ?_;rintro e w' ⟨rfl,rfl⟩))
 clear hmk;generalize w.alloc (.cells (room S) 5)=W0 at HO HT0 ⊢;obtain⟨g,hg⟩:∃g,w.heap.size=g:=⟨_,rfl⟩;have HG:Hid (w.heap.size=g):=hid hg;rw[hg]at HO ⊢;clear hg
 go_loopw [7] (fun si wr=>∃i:Nat,i≤n∧si=.int .i64 i∧Hid (wr.ownsRow g 5 1 (.slice (some ⟨g,0,none⟩) S S) S ((getL 8 (packN v (l.take i)) S).map (Value.int .u8)))∧Hid (Turn w wr nowhere)) (fun si _=>n-(intOf si).toNat)
 case atStart=>exact⟨0,Nat.zero_le _,rfl,HO,HT0⟩
 case round=>
  obtain⟨i,hi,rfl,HRow,HT⟩:=hrel;by_cases hlt:i<n
  ·rcases HForm.out with rfl|hn0
   ·have q0:=HCell.out i hlt;have HQ:=hid q0;have hx:=Qgl HIU.out (show i<l.length by rw[HLen.out];exact hlt);have hfit:(l.getD i 0).toNat<2 ^ v:=by
     rw[List.getD_eq_getElem?_getD,List.getElem?_eq_getElem (show i<l.length by rw[HLen.out];exact hlt)];exact(HF.out _ (List.getElem_mem _)).2
    have htk:=QdA l i (by rw[HLen.out];exact hlt);have hX:packN v (l.take i)<2 ^ (i*v):=by
     have h:=Qbt v (l.take i) (fun y hy=>HF.out y (List.mem_of_mem_take hy))
     rwa [List.length_take,HLen.out,Nat.min_eq_left hi]at h
    have hNX:packN v (l.take (i+1))=packN v (l.take i)+(l.getD i 0).toNat*2 ^ (i*v):=by
     rw[htk,Qgu,List.length_take,HLen.out,Nat.min_eq_left hi]
    obtain⟨x,hx'⟩:=Int.eq_ofNat_of_zero_le hx.1;rw[hx']at HQ hfit hNX hx;rw[Int.toNat_natCast]at hfit hNX;have hbs:i*v+v≤S*8:=by
     have h1:(i+1)*v≤n*v:=Nat.mul_le_mul_right _ hlt;rw[Nat.add_mul,Nat.one_mul]at h1;have:=H8.out.1;omega
    have hiv:(i:Int)*(v:Int)=((i*v:Nat):Int):=by rw[Int.natCast_mul]
    have HNX:=hid hNX;have HXl:=hid hX;have HFx:=hid hfit;generalize packN v (l.take i)=M at HRow HNX HXl;generalize i*v=iv at hbs hiv HNX HXl;have hxb:x<18446744073709551616:=by omega
    clear hx' hfit htk hX hNX hx q0;go_wp2
    go_loopw [8] (fun sk wk=>∃k:Nat,k≤v∧sk=.int .i64 k∧Hid (wk.ownsRow g 5 1 (.slice (some ⟨g,0,none⟩) S S) S ((getL 8 (M+x % 2 ^ k*2 ^ iv) S).map (Value.int .u8)))∧Hid (Turn w wk nowhere)) (fun sk _=>v-(intOf sk).toNat)
    case atStart=>exact⟨0,Nat.zero_le _,rfl,hid (by rw[Nat.pow_zero,Nat.mod_one,Nat.zero_mul,Nat.add_zero];exact HRow.out),HT⟩
    case round=>
     obtain⟨k,hk,rfl,HRk,HTk⟩:=hrel;by_cases hkl:k<v
     ·have q1:=HTk.out.cell HQ.out id;obtain⟨b,hbb⟩:∃b,x / 2 ^ k % 2=b:=⟨_,rfl⟩;have hem:=rem2 x k;rw[hbb]at hem;obtain⟨N,hN⟩:∃N,M+x % 2 ^ k*2 ^ iv=N:=⟨_,rfl⟩;have hNl:N<2 ^ (iv+k):=by
       rw[←hN];have h1:=Nat.mod_lt x (Qab k);have h2:(x % 2 ^ k+1)*2 ^ iv≤2 ^ k*2 ^ iv:=Nat.mul_le_mul_right _ h1;rw[Nat.add_mul,←Nat.pow_add,Nat.one_mul,Nat.add_comm k iv]at h2;have:=HXl.out;omega
      have hnew:M+x % 2 ^ (k+1)*2 ^ iv=N+b*2 ^ (iv+k):=by
       rw[←hN,Qg3,hbb,Nat.add_mul,Nat.mul_assoc,←Nat.pow_add,Nat.add_comm k iv,Nat.add_assoc]
      rw[hN]at HRk;obtain⟨p,hp⟩:∃p,iv+k=p:=⟨_,rfl⟩;rw[hp]at hNl hnew;have hps:p<S*8:=by omega
      have e1:(iv:Int)+(k:Int)=(p:Int):=by omega
      clear hN hbb hp;by_cases hb1:b=1
      ·subst hb1;rw[Nat.one_mul]at hnew;have HSet:=hid (QoG N p S hNl (by omega));have hcell:=HRk.out.cellAt (p / 8) (by omega);rw[List.getElem?_map,QfJ 8 N S (p / 8) (by omega)]at hcell;simp only[Option.map_some]at hcell;have hfree:=HRk.out.frozenAt (p / 8);have hst:=HRk.out.stored (p / 8);have hpe:2 ^ p=2 ^ (p / 8*8)*2 ^ (p % 8):=by rw[←Nat.pow_add];congr 1;omega
       have hT:N / 2 ^ (p / 8*8)<2 ^ (p % 8):=Nat.div_lt_of_lt_mul (by rw[←hpe];exact hNl);have h7:2 ^ (p % 8)≤2 ^ 8:=Nat.pow_le_pow_right (by decide) (by omega);rw[Nat.mod_eq_of_lt (show N / 2 ^ (p / 8*8)<2 ^ 8 by omega)]at hcell;obtain⟨q,hq⟩:∃q,p / 8=q:=⟨_,rfl⟩;obtain⟨r,hr⟩:∃r,p % 8=r:=⟨_,rfl⟩;rw[hq]at hcell hfree hst HSet hT;rw[hr]at hT HSet;obtain⟨T,hTT⟩:∃T,N / 2 ^ (q*8)=T:=⟨_,rfl⟩;rw[hTT]at hcell hT HSet;have HOR:=hid (or_bit T r hT (by omega));have HST:=hid hst;have HNEW:=hid hnew;have e2:(p:Int) / 8=(q:Int):=by omega
       have e3:(p:Int) % 8=(r:Int):=by omega
       have hr8:r<8:=by omega
       have hqS:q<S:=by omega
       clear hq hr hTT hT hst hnew hpe h7 hNl;have hem1:(((1:Nat):Int)==1)=true:=rfl;go_wp2;go_roundw
       case rel=>
        refine⟨k+1,by omega,by go_num,hid ?_,hid ?_⟩
        ·rw[HNEW.out,HSet.out,HOR.out,List.map_set];exact(HST.out _).1
        ·exact Turn.trans HTk.out (Turn.QD (S:=fun i=>i=g) (HST.out _).2 (fun i e _=>by cases e;rfl)) (fun i hi e=>by have:=HG.out;omega)
       case measure=>simp[intOf];omega
      ·have hb0:b=0:=by
        have h1:b=x / 2 ^ k % 2:=by
         have h2:=rem2 x k;rw[hem]at h2;omega
        omega
       subst hb0;rw[Nat.zero_mul,Nat.add_zero]at hnew;have HNEW:=hid hnew;clear hnew hb1 hNl;have hem1:(((0:Nat):Int)==1)=false:=rfl;go_wp2;go_roundw
       case rel=>exact⟨k+1,by omega,by go_num,hid (by rw[HNEW.out];exact HRk.out),HTk⟩
       case measure=>simp[intOf];omega
     ·obtain rfl:k=v:=by omega
      go_wp2;go_roundw
      case rel=>exact⟨i+1,by omega,by go_num,hid (by rw[HNX.out];have h:=HRk.out;rw[Nat.mod_eq_of_lt HFx.out]at h;exact h),HTk⟩
      case measure=>simp[intOf];omega
   ·exfalso;omega
  ·obtain rfl:i=n:=by omega
   have htk:l.take i=l:=List.take_of_length_le (Nat.le_of_eq HLen.out);rw[htk]at HRow;clear htk;go_wp2;go_ret2
   rw[←HR.out];exact Qn5 (by rw[HG.out];exact HRow.out) HT.out.grown
theorem Qay(a:Option Addr)(n c:Nat)(l:List Int)(v:Int)(w:World)(hs:Us.Seg w a n c l)(hu:IsU l) :
  Calls Tryz.prog 46 #[.slice a n c,.int .i64 v] w (PutX w (putR l v)):=by
 by_cases h:(putR l v).1=0
 ·have hc:=(Qy _ _).1 ((Qbw l v).1 h).1;obtain⟨v',rfl⟩:=Int.eq_ofNat_of_zero_le hc.2.2.1;exact Qiq a n c l v' w hs hu h
 ·exact QjH a n c l v w hs hu h
end Pk
namespace Pk
open Go.RowKit Bs Dv
theorem Qm2{w:World}{a:Option Addr}{n c:Nat}{l:List Int}(h:Seg w a n c l):∃g o,(a=some ⟨g,o,none⟩∨n=0)∧∀j,j<n→w.cell? ⟨g,o+j,none⟩=some (.int .u8 (l.getD j 0)):=by
 by_cases hn:n=0
 ·exact⟨0,0,.inr hn,fun j hj=>by omega⟩
 ·obtain⟨g,o,e,hc⟩:=h.addr (by omega);exact⟨g,o,.inl e,hc⟩
theorem QpI(l:List Int)(hb:Fit 8 l)(p:Nat)(hj:p / 8<l.length):(l.getD (p / 8) 0).toNat / 2 ^ (p % 8) % 2=packN 8 l / 2 ^ p % 2:=by
 have h:=Qkv l hb p 1 (by omega) hj
 rwa [Nat.pow_one]at h
theorem Qf7(w:World)(r:Int×List Int)(E:Int)(q:World)(hr:r=(E,[]))(hT:Turn w q nowhere):GetX w r (.returned (.tuple #[.slice none 0 0,.int .i64 E])) q:=by
 subst hr;exact⟨none,0,rfl,Us.Seg.nil _,hT.grown⟩
theorem Qd2(a:Option Addr)(len c:Nat)(l:List Int)(n v:Int)(w:World)(hs:Seg w a len c l)(hno:canB n v=false∨(canB n v=true∧¬(len:Int)=sizeF n v)) :
  Calls Tryz.prog 74 #[.slice a len c,.int .i64 n,.int .i64 v] w (GetX w (getR l n v)):=by
 have hlen:=hs.len;have hcap:=hs.cap;have hle:=hs.le;unfold maxLen at hcap;rcases hno with hc|⟨hc,hl⟩
 ·have HP:=hid (Qf7 w (getR l n v) 2 w (Qel hc) (Turn.refl _ _));have HB:Hid (∀w,Calls Tryz.prog 77 #[.int .i64 n,.int .i64 v] w fun e w'=>e=.returned (.bool false)∧w=w'):=hid (fun w=>by have:=QbZ n v w;rwa [hc]at this);generalize getR l n v=R at HP ⊢;clear hc hs hlen;go_enter Tryz.func74,Tryz.ntmps74
  go_wp2_with (go_at_call 77;refine(HB.out _).mono ?_;rintro e w' ⟨rfl,rfl⟩)
  go_ret2
  exact HP.out
 ·have hc':=(Qy n v).1 hc;have HP:=hid (Qf7 w (getR l n v) 4 w (by
   obtain⟨n,rfl⟩:=Int.eq_ofNat_of_zero_le hc'.1;obtain⟨v,rfl⟩:=Int.eq_ofNat_of_zero_le hc'.2.2.1;exact QgK hc (fun h=>hl (by rw[QaI hc,←h,hlen]))) (Turn.refl _ _))
  have HB:Hid (∀w,Calls Tryz.prog 77 #[.int .i64 n,.int .i64 v] w fun e w'=>e=.returned (.bool true)∧w=w'):=hid (fun w=>by have:=QbZ n v w;rwa [hc]at this);have HS:=hid (fun W=>Qcy n v W);have e0:((len:Int)==sizeF n v)=false:=beq_eq_false_iff_ne.2 hl;have e1:((len:Int) != sizeF n v)=true:=bne_iff_ne.2 hl;generalize getR l n v=R at HP ⊢;generalize sizeF n v=S at HS e0 e1;clear hc hs hlen hl hc';go_enter Tryz.func74,Tryz.ntmps74
  go_wp2_with (first
   |(go_at_call 77;refine(HB.out _).mono ?_;rintro e w' ⟨rfl,rfl⟩)
   |(go_at_call 79;refine(HS.out _).mono ?_;rintro e w' ⟨rfl,rfl⟩))
  go_ret2
  exact HP.out
theorem Qm9{w w':World}{V:Value}{v N n:Nat}(h:w'.ownsRow w.heap.size 85 1 V n ((getL v N n).map (Value.int .u64)))(hT:Turn w w' nowhere):GetX w ((0:Int),getL v N n) (.returned (.tuple #[V,.int .i64 0])) w':=by
 have e:(((0:Int),getL v N n):Int×List Int).2.length=n:=QH v N n;have h2:=h;rcases h.2 with ⟨rfl,rfl⟩|⟨g,cap,cur,rfl,_⟩
 ·refine⟨none,0,rfl,Us.Seg.nil _,hT.grown⟩
 ·refine⟨some ⟨g,0,none⟩,cap,by rw[e],?_,hT.grown⟩;rw[e];exact Us.Seg.own h2
theorem or_one(z b k:Nat)(hz:z<2 ^ k)(hb:b<2)(hk:k≤63):bits .or .u64 (z:Int) (IntKind.u64.wrap ((b:Int)*2 ^ k))=((z+b*2 ^ k:Nat):Int):=by
 have h1:=Qjm b k 1 64 (by omega) (by omega);have h2:z<2 ^ 64:=Nat.lt_of_lt_of_le hz (Nat.pow_le_pow_right (by decide) (by omega));rw[QfL,u64w _ h1,u64_or_nat z _ h2 h1,Qb6 z b k hz]
theorem cell_one_new(w:World)(v:Value)(t:TypeId):∀j u,[v][j]?=some u→(w.alloc (.cells #[v] t)).cell? ((⟨w.heap.size,0,none⟩:Addr).add j)=some u:=by
 intro j u hu;cases j with
 |zero=>simp at hu;subst hu;exact Qm w v t
 |succ j=>simp at hu
theorem Qh9(a:Option Addr)(len c:Nat)(l:List Int)(n v:Nat)(w:World)(hs:Seg w a len c l)(hb:Fit 8 l)(hc:canB n v=true)(hl:len=sizeN n v) :
  Calls Tryz.prog 74 #[.slice a len c,.int .i64 (n:Int),.int .i64 (v:Int)] w (GetX w (getR l n v)):=by
 obtain⟨j0,hj,hy0,hy1,hy2⟩:=info_parts Us.Qak;have hlen:=hs.len;have hc':=(Qy _ _).1 hc;have h8:=size8 n v;have hszb:=Qco n v;rw[QaI hc]at hszb;rw[←hl]at h8 hszb;have hv64:v≤64:=by omega
 have hnle:n≤65536:=by omega
 have HB:Hid (∀w,Calls Tryz.prog 77 #[.int .i64 n,.int .i64 (v:Int)] w fun e w'=>e=.returned (.bool true)∧w=w'):=hid (fun w=>by have:=QbZ n v w;rwa [hc]at this);have HS:Hid (∀w,Calls Tryz.prog 79 #[.int .i64 n,.int .i64 (v:Int)] w fun e w'=>e=.returned (.int .i64 (len:Int))∧w=w'):=hid (fun w=>by have:=Qcy n v w;rwa [QaI hc,←hl]at this);have HNl:=Qbt 8 l hb;rw[hlen]at HNl;have HBit:=hid (fun p h=>QpI l hb p h);have HYes:=hid (fun h=>QdN (b:=l) (n:=n) (w:=v) hc (by rw[hlen];exact hl) h);have HNo:=hid (fun h=>QfE (b:=l) (n:=n) (w:=v) hc h);have HFb:=hid hb.isB;obtain⟨N,hN⟩:∃N,packN 8 l=N:=⟨_,rfl⟩;rw[hN]at HNl HBit HYes HNo;have HNlt:=hid HNl;clear HNl hN;obtain⟨nv,hnv⟩:∃m,n*v=m:=⟨_,rfl⟩;rw[hnv]at h8 HYes HNo;have hnvi:(n:Int)*(v:Int)=(nv:Int):=by rw[←hnv,Int.natCast_mul]
 have HNV:=hid hnv;have HLen:=hid hlen;generalize getR l n v=R at HYes HNo ⊢;obtain⟨gA,o,hform,hcell⟩:=Qm2 hs;have HCell:=hid hcell;have HForm:=hid hform;have hcap:=hs.cap;have hle:=hs.le;unfold maxLen at hcap;have hlb:len≤524288:=by omega
 have hn8:nv≤8*len:=by omega
 clear hcell hform hs hb hc hl hlen hc' hszb h8 hnv;go_enter Tryz.func74,Tryz.ntmps74
 go_wp2_with (first
  |(go_at_call 77;refine(HB.out _).mono ?_;rintro e w' ⟨rfl,rfl⟩)
  |(go_at_call 79;refine(HS.out _).mono ?_;rintro e w' ⟨rfl,rfl⟩))
 go_loop [8] (fun sp=>∃p:Nat,nv≤p∧p≤8*len∧sp=.int .i64 p∧Hid (N / 2 ^ nv % 2 ^ (p-nv)=0)) (fun sp=>8*len-(intOf sp).toNat)
 case atStart=>exact⟨nv,Nat.le_refl _,hn8,rfl,hid (by rw[Nat.sub_self,Nat.pow_zero,Nat.mod_one])⟩
 case round=>
  obtain⟨p,hp1,hp2,rfl,HZ⟩:=hrel;by_cases hlt:p<8*len
  ·rcases HForm.out with rfl|hn0
   ·obtain⟨q,hq⟩:∃q,p / 8=q:=⟨_,rfl⟩;obtain⟨r,hr⟩:∃r,p % 8=r:=⟨_,rfl⟩;have hqn:q<len:=by omega
    have q0:=HCell.out q hqn;have hx:0≤l.getD q 0∧l.getD q 0<256:=by
     rw[List.getD_eq_getElem?_getD,List.getElem?_eq_getElem (by rw[HLen.out];exact hqn)];exact HFb.out _ (List.getElem_mem _)
    have hbt:=HBit.out p (by rw[HLen.out];omega);rw[hq,hr]at hbt;obtain⟨x,hx'⟩:=Int.eq_ofNat_of_zero_le hx.1;rw[hx']at q0 hx hbt;rw[Int.toNat_natCast]at hbt;have hem:=rem2 x r;rw[hbt]at hem;have e2:(p:Int) / 8=(q:Int):=by omega
    have e3:(p:Int) % 8=(r:Int):=by omega
    have hr8:r<8:=by omega
    have hxb:x<256:=by omega
    have hpl:(p:Int)<8*(len:Int):=by omega
    clear hq hr hx hx';by_cases hb1:N / 2 ^ p % 2=1
    ·rw[hb1]at hem hbt;have hz:¬N / 2 ^ nv=0:=by
      intro h;rcases Nat.div_eq_zero_iff.1 h with h|h
      ·have:=Qab nv;omega
      ·have h2:2 ^ nv≤2 ^ p:=Nat.pow_le_pow_right (by decide) hp1;rw[Nat.div_eq_of_lt (show N<2 ^ p by omega)]at hb1;simp at hb1
     have HP:=hid (Qf7 w R 4 w (HNo.out hz) (Turn.refl _ _));have hem1:(((1:Nat):Int)==1)=true:=rfl;clear hz hb1 hbt;go_wp2;go_ret2
     exact HP.out
    ·have hb0:N / 2 ^ p % 2=0:=by omega
     rw[hb0]at hem;have HZ2:Hid (N / 2 ^ nv % 2 ^ (p+1-nv)=0):=hid (by
      rw[show p+1-nv=(p-nv)+1 from by omega,Qg3,HZ.out,Nat.div_div_eq_div_mul,←Nat.pow_add,show nv+(p-nv)=p from by omega,hb0,Nat.zero_mul])
     have hem1:(((0:Nat):Int)==1)=false:=rfl;clear hb1 hb0 hbt;go_wp2
     go_round
     case rel=>exact⟨p+1,by omega,by omega,by go_num,HZ2⟩
     case measure=>simp[intOf];omega
   ·exfalso;omega
  ·obtain rfl:p=8*len:=by omega
   have hz:N / 2 ^ nv=0:=by
    have h:=HZ.out;have h2:N / 2 ^ nv<2 ^ (8*len-nv):=Nat.div_lt_of_lt_mul (by rw[←Nat.pow_add,show nv+(8*len-nv)=len*8 by omega];exact HNlt.out)
    rwa [Nat.mod_eq_of_lt h2]at h
   have HRY:=hid (HYes.out hz);clear hz;go_wp2
   go_loopw [9,10] (fun sv si wr=>∃i:Nat,i≤n∧si=.int .i64 i∧Hid (wr.ownsRow w.heap.size 85 1 sv i ((getL v N i).map (Value.int .u64)))∧Hid (Turn w wr nowhere)) (fun _ si _=>n-(intOf si).toNat)
   case atStart=>exact⟨0,Nat.zero_le _,rfl,hid (World.ownsRow_nil w _ _ _),hid (Turn.refl _ _)⟩
   case round=>
    obtain⟨i,hi,rfl,HRow,HT⟩:=hrel;by_cases hil:i<n
    ·have hivb:i*v+v≤nv:=by
      have h1:(i+1)*v≤n*v:=Nat.mul_le_mul_right _ hil;rw[Nat.add_mul,Nat.one_mul,HNV.out]at h1;exact h1
     have hiv:(i:Int)*(v:Int)=((i*v:Nat):Int):=by rw[Int.natCast_mul]
     have HSN:=hid (Qe2 v N i);obtain⟨iv,hive⟩:∃iv,i*v=iv:=⟨_,rfl⟩;rw[hive]at hivb hiv HSN;clear hive;go_wp2
     go_loop [11,12] (fun sz sk=>∃k z:Nat,k≤v∧sk=.int .i64 k∧sz=.int .u64 z∧Hid (z=N / 2 ^ iv % 2 ^ k)) (fun _ sk=>v-(intOf sk).toNat)
     case atStart=>exact⟨0,0,Nat.zero_le _,rfl,rfl,hid (by rw[Nat.pow_zero,Nat.mod_one])⟩
     case round=>
      obtain⟨k,z,hk,rfl,rfl,HZk⟩:=hrel;by_cases hkl:k<v
      ·rcases HForm.out with rfl|hn0
       ·obtain⟨p,hp⟩:∃p,iv+k=p:=⟨_,rfl⟩;obtain⟨q,hq⟩:∃q,p / 8=q:=⟨_,rfl⟩;obtain⟨r,hr⟩:∃r,p % 8=r:=⟨_,rfl⟩;have hqn:q<len:=by omega
        have q0:=HT.out.cell (HCell.out q hqn) id;have hx:0≤l.getD q 0∧l.getD q 0<256:=by
         rw[List.getD_eq_getElem?_getD,List.getElem?_eq_getElem (by rw[HLen.out];exact hqn)];exact HFb.out _ (List.getElem_mem _)
        have hbt:=HBit.out p (by rw[HLen.out];omega);rw[hq,hr]at hbt;obtain⟨x,hx'⟩:=Int.eq_ofNat_of_zero_le hx.1;rw[hx']at q0 hx hbt;rw[Int.toNat_natCast]at hbt;have hem:=rem2 x r;rw[hbt]at hem;have e1:(iv:Int)+(k:Int)=(p:Int):=by omega
        have e2:(p:Int) / 8=(q:Int):=by omega
        have e3:(p:Int) % 8=(r:Int):=by omega
        have hr8:r<8:=by omega
        have hxb:x<256:=by omega
        have hpb:p≤4194304:=by omega
        have HNZ:Hid (z+N / 2 ^ p % 2*2 ^ k=N / 2 ^ iv % 2 ^ (k+1)):=hid (by
         rw[Qg3,←HZk.out,Nat.div_div_eq_div_mul,←Nat.pow_add,hp])
        have hzl:z<2 ^ k:=by rw[HZk.out];exact Nat.mod_lt _ (Qab k)
        have hb2:N / 2 ^ p % 2<2:=Nat.mod_lt _ (by decide);generalize N / 2 ^ p % 2=b at hem HNZ hb2;have HOR:=hid (or_one z b k hzl hb2 (by omega));have hbw:IntKind.u64.wrap (b:Int)=(b:Int):=u64w b (by omega);clear hq hr hx hx' hp hbt hzl;go_wp2
        go_round
        case rel=>exact⟨k+1,z+b*2 ^ k,by omega,by go_num,by rw[HOR.out],HNZ⟩
        case measure=>simp[intOf];omega
       ·exfalso;omega
      ·obtain rfl:k=v:=by omega
       have hz:=HZk.out;have HSN2:Hid (getL k N (i+1)=getL k N i++[(z:Int)]):=hid (by rw[HSN.out,hz]);clear hz;have HRa:=hid (HRow.out.alloc (.cells #[.int .u64 (z:Int)] 85));have hzz:=HT.out.size;have HCl:=hid (cell_one_new wr (.int .u64 (z:Int)) 85);go_wp2_with (at_builtin;refine wpList_append_own _ rfl (.tmp 76) (.tmp 78) 88 rfl w.heap.size 85 j0 (.int .u64 0) 1 8 Tryz.underlying88 hj hy0 hy1 hy2 rfl (by decide) _ i _ rfl HRa.out ⟨wr.heap.size,0,none⟩ 1 1 [.int .u64 (z:Int)] rfl rfl HCl.out (by simp[Value.oneCell']) (by unfold maxLen;omega) (by omega) (by simp;omega) ?_;intro V' w2 hown2 hgrow2 hnil2;have HO2:=hid hown2;have HG2:=hid hgrow2;clear hown2 hgrow2 hnil2)
       go_roundw
       case rel=>exact⟨i+1,by omega,by go_num,hid (by rw[HSN2.out,List.map_append];exact HO2.out),hid (Turn.trans (Turn.then HT.out (Turn.alloc wr _ nowhere)) (Turn.QD (S:=fun j=>w.heap.size≤j) HG2.out (fun j e _=>(HRow.out.lt j e).1)) (fun j hj h=>by omega))⟩
       case measure=>simp[intOf];omega
    ·obtain rfl:i=n:=by omega
     go_wp2;go_ret2
     rw[HRY.out];exact Qm9 HRow.out HT.out
theorem Qew(a:Option Addr)(len c:Nat)(l:List Int)(n v:Int)(w:World)(hs:Seg w a len c l)(hb:Fit 8 l) :
  Calls Tryz.prog 74 #[.slice a len c,.int .i64 n,.int .i64 v] w (GetX w (getR l n v)):=by
 cases hc:canB n v with
 |false=>exact Qd2 a len c l n v w hs (.inl hc)
 |true=>
  by_cases hl:(len:Int)=sizeF n v
  ·have hc':=(Qy n v).1 hc;obtain⟨v',rfl⟩:=Int.eq_ofNat_of_zero_le hc'.2.2.1;obtain⟨n',rfl⟩:=Int.eq_ofNat_of_zero_le hc'.1;rw[QaI hc]at hl;exact Qh9 a len c l n' v' w hs hb hc (by omega)
  ·exact Qd2 a len c l n v w hs (.inr ⟨hc,hl⟩)
end Pk
namespace Nu
open Go.RowKit Go.Shelf Go
variable {F : Fence} {n : Nat} {P : Program}
def Feeds(F:Fence)(n:Nat)(P:Program)(g:Nat)(first lb:Array Value)(e:Nat→Array Value)(N:Nat)(Kp:World→World→Prop)(w:World):Prop:=
 ∀(l:Nat) (J:Nat→World→Prop) (W:World),Below w.heap.size w W→AbidesFrom W.heap.size J →
  (∀k W1,k<N→J k W1→YieldAt F (n-1) P l (e k) W1 fun x W'=>x=.returned (.bool true)∧J (k+1) W'∧Kp W1 W') →
  J 0 W→CallsIn F n P g (first++#[.func (.yield l) #[] #[]]++lb) W fun x W'=>(∃v,x=.returned v)∧J N W'
def roundOn(B:Nat)(Kp:World→World→Prop)(I:Nat→World→Prop)(k:Nat)(W:World):Exit→Act→World→Prop
 | .normal,_,W'=>KeepsFrom B W W'∧Kp W W'∧I (k+1) W'
 |_,_,_=>False
theorem QgF{g:Operand}{ps:Array Tmp}{assign body:Code}{Q:Exit→Act→World→Prop}{a:Act}{w:World}
  (hro:F.round=none) (h1:1≤n) {gf:Nat} {first lb:Array Value} (hg:a.eval g=.func (.func gf) first lb) (hFg:F.fn gf) (eg:∀args w,(callFunc gf args).run P w=.ok (.enter gf args) w)
  {e:Nat→Array Value} {N:Nat} {Kp:World→World→Prop} {w0:World} (hf:Feeds F (n-1) P gf first lb e N Kp w0) (hb0:Below w0.heap.size w0 w)
  (hKt:∀{A B C:World},Kp A B→Kp B C→Kp A C) (hKb:∀(W:World) (l:Nat) (o o':Obj),w.heap.size≤l→W.heap[l]?=some o→o.isCells=false→o.isWalk=false→Kp W (W.putObj l o'))
  (hps:∀k,(e k).size=ps.size) (I:Nat→World→Prop) (hI:OwnFrom w.heap.size I) (h0:I 0 w) (a₁:Nat→Act)
  (hassign:∀(l k:Nat) (W:World) (K:Act→World→Prop),K (a₁ k) W →
   assign.wpIn (F.inRound l) (n-1-1) P (Exit.then K (fun _ _ _=>False)) { tmps:=(ps.zip (e k)).foldl (fun t (p,v)=>t.setIfInBounds p v) a.tmps,defers:=[] } W)
  (hbody:∀(l k:Nat) (W:World),k<N→I k W→body.wpIn (F.inRound l) (n-1-1) P (roundOn w.heap.size Kp I k W) (a₁ k) W)
  (hdone:∀(D:Nat) (W:World),w.heap.size≤D→I N W→W.heap[D]?=some (.deferred (some []))→Q .normal { a with defers:={ target:=.collected D,args:=#[] } :: a.defers } W) :
  (Code.rangeFunc g ps assign body).wpIn F n P Q a w:=by
 refine wpIn_rangeFunc fun fn hfn=>?_
 rw[hro]
 -- the loop's record,block D+1;the block for deferred calls,D
 obtain⟨D,hD⟩:∃D,w.heap.size=D:=⟨_,rfl⟩
 let rec':LoopState→Loop:=fun st=>{ state:=st,pending:=none,fn,tmps:=a.tmps,params:=ps,assign,body,defers:=D }
 obtain⟨W1,hW1⟩:∃W1,(w.alloc (.deferred (some []))).alloc (.loop (rec' .ready))=W1:=⟨_,rfl⟩;have hsz:W1.heap.size=D+2:=by rw[←hW1];simp[World.size_alloc,hD]
 have hL:W1.heap[D+1]?=some (.loop (rec' .ready)):=by
  have h:=World.alloc_heap_new (w.alloc (.deferred (some []))) (.loop (rec' .ready));rw[World.size_alloc,hD,hW1]at h;exact h
 have hK:W1.heap[D]?=some (.deferred (some [])):=by
  have h:=World.alloc_heap_new w (.deferred (some []));rw[hD]at h;rw[←hW1];exact(Below.heap_alloc _ _ _ (by simp[hD])).trans h
 have hB1:Below w0.heap.size w0 W1:=by
  rw[←hW1];exact(hb0.alloc hb0.size _).alloc (Nat.le_trans hb0.size (by simp)) _
 have hI1:I 0 W1:=by rw[←hW1];exact hI.alloc _ (hI.alloc _ h0)
 -- what stands beside the caller's own word
 let J:Nat→World→Prop:=fun k W=>I k W∧W.heap[D+1]?=some (.loop (rec' .ready))∧W.heap[D]?=some (.deferred (some []))
 have hJ:AbidesFrom W1.heap.size J:=by
  rintro k A B row ⟨j1,j2,j3⟩ hgr hrow;have hcell:∀r,row=some r→w.heap.size≤r∧∃o:Obj,A.heap[r]?=some o∧o.isCells=false:=fun r er=>by
   obtain⟨hr,o,ho,hw⟩:=hrow r er;exact⟨by omega,o,ho,Obj.not_cells_of_walk hw⟩
  have keep:=fun {i:Nat} {o:Obj} (hi:A.heap[i]?=some o) (ho:o.isWalk=false)=>(grownBy_keeps hgr (fun r er=>(hrow r er).2) hi ho).trans hi
  exact⟨hI k A B row j1 hgr hcell,keep j2 rfl,keep j3 rfl⟩
 have hround:∀k W,k<N→J k W→YieldAt F (n-1-1) P (D+1) (e k) W fun x W'=>x=.returned (.bool true)∧J (k+1) W'∧Kp W W':=by
  rintro k W hk ⟨j1,j2,j3⟩;refine⟨fn,_,assign,body,run_yield (args:=e k) j2 (hps k),roundIn_of_wpIn hfn (hassign _ k W _ ⟨_,run_beginRound j2 rfl,?_⟩)⟩;have hlt:=(Array.getElem?_eq_some_iff.1 j2).1;have b2:(W.putObj (D+1) (.loop (rec' .busy))).heap[D+1]?=some (.loop (rec' .busy)):=World.putObj_heap_same hlt;have b3:(W.putObj (D+1) (.loop (rec' .busy))).heap[D]?=some (.deferred (some [])):=(World.putObj_heap_other (by omega)).trans j3;refine wpIn_mono (hbody _ k _ hk (hI.putObj (.loop (rec' .busy)) j1 (by omega) j2 rfl)) ?_;rintro x a3 W3 hx;cases x with
  |normal=>
   obtain⟨x1,x2,x3⟩:=hx;have c2:=x1.same _ _ (by omega) b2 rfl;have c3:=x1.same _ _ (by omega) b3 rfl;refine⟨_,_,run_endRound none c2,rfl,⟨hI.putObj _ x3 (by omega) c2 rfl,World.putObj_heap_same (Array.getElem?_eq_some_iff.1 c2).1,(World.putObj_heap_other (by omega)).trans c3⟩,?_⟩;exact hKt (hKt (hKb W _ _ _ (by omega) j2 rfl rfl) x2) (hKb W3 _ _ _ (by omega) c2 rfl rfl)
  |ret=>exact hx.elim
  |exit=>exact hx.elim
  |goto=>exact hx.elim
  |panic=>exact hx.elim
  |outgrown=>exact hx.elim
 refine⟨D+1,[{ target:=.collected D,args:=#[] }],W1,{ target:=.fn (.func gf) lb,args:=first++#[.func (.yield (D+1)) #[] #[]] },W1,gf,first++#[.func (.yield (D+1)) #[] #[]]++lb,W1,?_,?_,?_,?_,fun _=>h1,?_⟩
 ·have h:=run_enterLoop_outer (P:=P) (w:=w) fn a.tmps ps assign body;rw[hD]at h;rw[h,←hW1]
 ·simp only[resolve,hg];simp[go_sem]
 ·intro f' hf';simp[Target.leads]at hf';exact hf'▸hFg
 ·simp[invoke,go_sem,eg]
 ·refine(hf (D+1) J W1 hB1 hJ hround ⟨hI1,hL,hK⟩).mono ?_;rintro x W2 ⟨⟨v,rfl⟩,j1,j2,j3⟩;refine⟨none,_,run_endLoop j2 (by simp[rec']),?_⟩;exact hdone D _ (by omega) (hI.putObj _ j1 (by omega) j2 rfl) ((World.putObj_heap_other (by omega)).trans j3)
end Nu
namespace Nu
open Go.RowKit Go.Shelf
open Dv (Turn)
open Pk (Kept)
attribute [local go_sem] Oper.semAt_some
theorem QhW{w w':World}{a:Option Addr}{n c:Nat}{l:List Bool}{S:Nat→Prop}(h:Bl.Seg w a n c l)(k:Turn w w' S)(hne:∀ad,a=some ad→0<n→¬S ad.block):Bl.Seg w' a n c l:=
 ⟨h.len,h.le,h.cap,h.nil_,fun ad had j u hu=>k.cell (h.at_ ad had j u hu) (by
  rw[Dv.block_add];have hj:=(List.getElem?_eq_some_iff.1 hu).1;rw[List.length_map,h.len]at hj;exact hne ad had (by omega))⟩
def encR(l:List Bool)(k:Nat):Array Value:=#[.int .i64 (((runsL l).getD k (0,false)).1:Int),.bool ((runsL l).getD k (0,false)).2]
theorem QnB{m:List Bool}{i:Nat}(h0:0<i)(hi:i<m.length)(hs:∀j,j<i→m.getD j false=m.getD 0 false)(hn:¬m.getD i false=m.getD 0 false):runsL m=(i,m.getD 0 false) :: runsL (m.drop i):=by
 have e:m=List.replicate ((i-1)+1) (m.getD 0 false)++m.drop i:=by
  conv=>lhs;rw[←List.take_append_drop i m]
  congr 1
  rw[show i-1+1=i from by omega];apply List.ext_getElem
  ·simp;omega
  ·intro j h1 h2;have hj:j<i:=by simp at h1;omega
   have h3:=hs j hj;rw[List.getD_eq_getElem?_getD,List.getElem?_eq_getElem (by omega)]at h3;rw[List.getElem_take,List.getElem_replicate];exact h3
 have:=QhZ (m.getD 0 false) (m.drop i) (fun y t h=>by
  have h4:(m.drop i)[0]?=some y:=by rw[h];rfl
  rw[List.getElem?_drop,Nat.add_zero]at h4;rw[List.getD_eq_getElem?_getD,h4]at hn;exact hn) (i-1)
 rw[←e,show i-1+1=i from by omega]at this;exact this
theorem QnG{m:List Bool}(h0:0<m.length)(hs:∀j,j<m.length→m.getD j false=m.getD 0 false):runsL m=[(m.length,m.getD 0 false)]:=by
 have e:m=List.replicate ((m.length-1)+1) (m.getD 0 false)++[]:=by
  rw[List.append_nil,show m.length-1+1=m.length from by omega];apply List.ext_getElem
  ·simp
  ·intro j h1 h2;have h3:=hs j h1;rw[List.getD_eq_getElem?_getD,List.getElem?_eq_getElem h1]at h3;rw[List.getElem_replicate];exact h3
 have:=QhZ (m.getD 0 false) [] (fun y t h=>by cases h) (m.length-1);rw[←e,show m.length-1+1=m.length from by omega]at this;exact this
theorem left_at{R S:List (Nat×Bool)}{k:Nat}{q:Nat×Bool}(h:q :: S=R.drop k):k<R.length∧R.getD k (0,false)=q∧S=R.drop (k+1):=by
 have hk:k<R.length:=by
  apply Classical.byContradiction
  intro hc;rw[List.drop_eq_nil_of_le (by omega)]at h;cases h
 rw[List.drop_eq_getElem_cons hk]at h;obtain⟨h1,h2⟩:=List.cons.inj h;exact⟨hk,by rw[List.getD_eq_getElem?_getD,List.getElem?_eq_getElem hk,h1];rfl,h2⟩
theorem QoU(m:Nat)(hm:1≤m)(y:Nat)(P:Nat→Prop)(a:Option Addr)(n c:Nat)(l:List Bool)(J:Nat→World→Prop)
  (hY:∀k W1,k<(runsL l).length→J k W1→YieldAt Fence.wide (m-1) Tryz.prog y (encR l k) W1 fun x W'=>x=.returned (.bool true)∧J (k+1) W'∧Kept P W1 W')
  (W:World) (hs:Bl.Seg W a n c l) (hP:∀ad,a=some ad→0<n→P ad.block) (h0:J 0 W) :
  CallsIn Fence.wide m Tryz.prog 135 #[.slice a n c,.func (.yield y) #[] #[]] W fun e W'=>(∃z,e=.returned z)∧J (runsL l).length W':=by
 have HY:=hid hY;have HS0:=hid hs;have HP0:=hid hP;have HJ0:=hid h0;clear hY hs hP h0;refine callsIn_of_wp Tryz.func135 rfl trivial ?_ rfl;simp only[Tryz.ntmps135,List.size_toArray,List.length_cons,List.length_nil,Nat.reduceAdd,Nat.reduceSub,Array.replicate_succ,Array.replicate_zero,List.push_toArray,List.append_toArray,List.nil_append,List.cons_append];refine wpIn_wide.2 ?_;go_wp2
 go_step3
 go_wp2
 go_step3
 go_wp2
 go_loopw [0] (fun sf wr=>∃(k:Nat) (a':Option Addr) (n' c':Nat) (r:List Bool),sf=.slice a' n' c'∧Hid (k≤(runsL l).length)∧Hid (Bl.Seg W a' n' c' r)∧Hid (∀ad,a'=some ad→0<n'→P ad.block)∧Hid (runsL r=(runsL l).drop k)∧Hid (J k wr)∧Hid (Kept P W wr))
  (fun sf _=>match sf with | .slice _ k _=>k|_=>0)
 case atStart=>exact⟨0,a,n,c,l,rfl,hid (Nat.zero_le _),HS0,HP0,hid rfl,HJ0,hid (Turn.refl _ _)⟩
 case round=>
  obtain⟨k,a',n',c',r,rfl,HKN,HS,HP,HR,HJ,HK⟩:=hrel;have hle:=HS.out.le;have hcap:=HS.out.cap;unfold maxLen at hcap;by_cases hn0:n'=0
  ·subst hn0;have HF:Hid (J (runsL l).length wr):=hid (by
    have hr:=HR.out;rw[List.eq_nil_of_length_eq_zero HS.out.len]at hr;have h2:=congrArg List.length hr;rw[List.length_drop]at h2;have h3:=HKN.out;have:k=(runsL l).length:=by
     have h4:(runsL []).length=0:=rfl;omega
    rw[←this];exact HJ.out)
   go_wp2;rw[Exit.noGoto_normal]
   go_end0
   exact⟨⟨_,rfl⟩,HF.out⟩
  ·obtain⟨g,o,rfl,hc⟩:=HS.out.addr (by omega);have hc0:=hc 0 (by omega);rw[Nat.add_zero]at hc0;obtain⟨x,hx⟩:∃x,r.getD 0 false=x:=⟨_,rfl⟩;have HX:=hid hx;have HL:=hid HS.out.len;have HC:=hid hc;rw[hx]at hc0;have hw0:=HK.out.cell hc0 (fun h=>h (HP.out _ rfl (by omega)));clear hx hc hc0;have hn1:(0:Int)<(n':Int):=by omega
   go_wp2
   go_loopw [0,11] (fun sf si w2=>∃i:Nat,i≤n'∧si=.int .i64 i∧sf=.slice (some ⟨g,o,none⟩) n' c'∧wr=w2∧Hid (∀j,j<i→r.getD j false=x)) (fun _ si _=>n'-(intOf si).toNat)
   case atStart=>exact⟨0,Nat.zero_le _,rfl,rfl,rfl,hid (fun j h=>absurd h (Nat.not_lt_zero j))⟩
   case round=>
    obtain⟨i,hi,rfl,rfl,rfl,HI⟩:=hrel;by_cases hlt:i<n'
    ·have hwi:=HK.out.cell (HC.out i hlt) (fun h=>h (HP.out ⟨g,o,none⟩ rfl (by omega)));by_cases he:r.getD i false=x
     ·have HI2:Hid (∀j,j<i+1→r.getD j false=x):=hid (fun j hj=>by
       by_cases hji:j=i
       ·rw[hji];exact he
       ·exact HI.out j (by omega))
      rw[he]at hwi;clear he;cases x
      all_goals
       go_wp2;go_roundw
       case rel=>exact⟨i+1,by omega,by go_num,rfl,trivial,HI2⟩
       case measure=>simp[intOf];omega
     ·have hi0:0<i:=by
       rcases Nat.eq_zero_or_pos i with h|h
       ·subst h;exact absurd HX.out he
       ·exact h
      have HI0:=hid hi0;have HCut:=hid (QnB (m:=r) (i:=i) hi0 (by rw[HL.out];exact hlt) (fun j hj=>by rw[HI.out j hj,HX.out]) (by rw[HX.out];exact he));rw[HX.out]at HCut;obtain⟨hkN,hq,hrest⟩:=left_at (HCut.out.symm.trans HR.out);have hE:encR l k=#[.int .i64 (i:Int),.bool x]:=by unfold encR;rw[hq]
      obtain⟨fn,tmps,assign,body,hy,hR⟩:=HY.out k wr hkN HJ.out;rw[hE]at hy;have HKN2:=hid hkN;have HRest:=hid hrest;have HS2:=hid (HS.out.drop (k:=i) (by omega));have hci:¬c'=i:=by omega
      obtain⟨y2,hy2⟩:∃y,r.getD i false=y:=⟨_,rfl⟩;rw[hy2]at hwi he;clear hE hq hkN hrest hy2 hi0;refine(wpIn_wide (n:=m)).1 ?_;cases x <;> cases y2 <;> first|exact absurd rfl he|skip
      all_goals clear he
      all_goals
       gi_wp2
       refine hR.mono ?_;rintro e W3 ⟨rfl,hJ3,hk3⟩;have HJ3:=hid hJ3;have HK3:=hid (Kept.t HK.out hk3);clear hJ3 hk3 hR hy
       gi_wp2
       go_roundw
       case rel=>exact⟨k+1,_,_,_,_,rfl,HKN2,HS2,hid (fun ad e _=>by cases e;exact HP.out ⟨g,o,none⟩ rfl (by omega)),HRest,HJ3,HK3⟩
       case measure=>dsimp only;have:=HI0.out;omega
    ·obtain rfl:i=n':=by omega
     have HAll:=hid (QnG (m:=r) (by rw[HL.out];omega) (fun j hj=>by rw[HI.out j (by rw[HL.out]at hj;exact hj),HX.out]));rw[HX.out,HL.out]at HAll;obtain⟨hkN,hq,hrest⟩:=left_at (HAll.out.symm.trans HR.out);have hE:encR l k=#[.int .i64 (i:Int),.bool x]:=by unfold encR;rw[hq]
     obtain⟨fn,tmps,assign,body,hy,hR⟩:=HY.out k wr hkN HJ.out;rw[hE]at hy;have HN:Hid ((runsL l).length=k+1):=hid (by
      have h:=congrArg List.length hrest;rw[List.length_drop]at h;simp at h;omega)
     clear hE hq hkN hrest;refine(wpIn_wide (n:=m)).1 ?_;cases x
     all_goals
      gi_wp2
      refine(wpIn_wide (n:=m)).1 ?_
      gi_wp2
      refine hR.mono ?_;rintro e W3 ⟨rfl,hJ3,hk3⟩;have HJ3:Hid (J (runsL l).length W3):=hid (by rw[HN.out];exact hJ3);clear hJ3 hk3 hR hy
      gi_wp2
      rw[Exit.noGoto_ret];refine bodyPost_ret (results_none rfl _ _ _) rfl ?_;exact⟨⟨_,rfl⟩,HJ3.out⟩
theorem Qgs(m:Nat)(hm:1≤m)(P:Nat→Prop)(a:Option Addr)(n c:Nat)(l:List Bool)(w:World)(hs:Bl.Seg w a n c l)(hP:∀ad,a=some ad→0<n→P ad.block)(hPw:∀i,P i→i<w.heap.size) :
  Feeds Fence.wide m Tryz.prog 135 #[.slice a n c] #[] (encR l) (runsL l).length (Kept P) w:=
 fun y J W hW _ hY h0=>QoU m hm y P a n c l J hY W (QhW hs (S:=fun i=>w.heap.size≤i) ⟨hW.os,hW.tape,hW.output,hW.size,fun k hk _=>hW.block k hk⟩ (fun ad had hn h=>by have:=hPw _ (hP ad had hn);omega)) hP h0
end Nu
namespace Nu
open Go.RowKit Go.Shelf
open Dv (Turn nowhere)
open Pk (Kept Turn.then)
attribute [local go_sem] Oper.semAt_some
def blockOf(a:Option Addr)(n:Nat)(i:Nat):Prop:=∃ad,a=some ad∧0<n∧i=ad.block
theorem Qfr{w:World}{a:Option Addr}{n c:Nat}{l:List Bool}(h:Bl.Seg w a n c l):∀i,blockOf a n i→i<w.heap.size:=by
 rintro i ⟨ad,rfl,h0,rfl⟩;obtain⟨g,o,e,hc⟩:=h.addr h0;cases e
 exact World.block_lt_of_cell? w _ (hc 0 h0)
theorem Qad{w w':World}{a:Option Addr}{n c:Nat}{l:List Bool}(h:Bl.Seg w a n c l)(k:Turn w w' nowhere):Bl.Seg w' a n c l:=h.grown k.grown
theorem Qbe{w w':World}{n₀:Nat}{a:Option Addr}{n c:Nat}{l:List Bool}(h:Bl.Seg w a n c l)(k:Below n₀ w w')(hn:n₀=w.heap.size):Bl.Seg w' a n c l:=by
 subst hn;exact QhW h (S:=fun i=>w.heap.size≤i) ⟨k.os,k.tape,k.output,k.size,fun i hi _=>k.block i hi⟩ (fun ad had h0 hS=>by
  have:=Qfr h ad.block ⟨ad,had,h0,rfl⟩;omega)
def cntR(l:List Bool)(k:Nat):Nat:=cnt (flagsR ((runsL l).take k))
theorem QoN(l:List Bool):cntR l (runsL l).length=cnt l:=by
 unfold cntR;rw[List.take_length,Qds]
theorem QmU(l:List Bool)(k:Nat)(hk:k<(runsL l).length):cntR l (k+1)=cntR l k+(if ((runsL l).getD k (0,false)).2=true then((runsL l).getD k (0,false)).1 else 0)∧cntR l k+((runsL l).getD k (0,false)).1≤l.length:=by
 have h1:=(QfV _ _ hk).2;have h2:=QhA _ _ hk;rw[Qds]at h2;unfold cntR;have h3:=QaK (flagsR ((runsL l).take k));rw[h1,QbL,Qo0];exact⟨rfl,by omega⟩
theorem QeH(a:Option Addr)(n c:Nat)(l:List Bool)(w:World)(hs:Bl.Seg w a n c l) :
  Calls Tryz.prog 80 #[.slice a n c] w fun e w'=>e=.returned (.int .i64 (cnt l:Int))∧Below w.heap.size w w':=by
 have hcap:=hs.cap;have hle:=hs.le;unfold maxLen at hcap;have hT0:Turn w (w.alloc (.cells #[.int .i64 0] 3)) nowhere:=Turn.alloc w _ _;have HS1:=hid (Qad hs hT0);have HL:=hid hs.len;have HLt:=hid (Qfr hs);have bB:=Boxed.new w 3 (.int .i64 0);have HB0:Hid (Below w.heap.size w (w.alloc (.cells #[.int .i64 0] 3))):=hid ((Below.refl _ w).alloc (Nat.le_refl _) _);have hmf:∀(fn:Fn) (first cap:Array Value) (w:World),(Instr.makeFunc fn first cap).run Tryz.prog w=.ok (.func fn first cap) w:=fun _ _ _ _=>rfl
 have HBB:=hid bB;clear hs hT0 bB;refine(callsIn_wide (n:=3)).1 ?_;refine callsIn_of_wp_marks Tryz.func80 rfl trivial ?_ rfl;simp only[Tryz.ntmps80,List.size_toArray,List.length_cons,List.length_nil,Nat.reduceAdd,Nat.reduceSub,Array.replicate_succ,Array.replicate_zero,List.push_toArray,List.append_toArray,List.nil_append,List.cons_append]
 gi_wp2
 have hPw:∀i,blockOf a n i→i<(w.alloc (.cells #[.int .i64 0] 3)).heap.size:=fun i hi=>by have:=HLt.out i hi;simp;omega
 refine QgF rfl (by decide) (gf:=135) (first:=#[.slice a n c]) (lb:=#[]) rfl trivial (enters_of Tryz.func135 (by kernel_rfl) rfl)
  (Qgs 2 (by decide) (blockOf a n) a n c l _ HS1.out (fun ad e h0=>⟨ad,e,h0,rfl⟩) hPw) (Below.refl _ _) (fun h k=>Kept.t h k) (Kept.b hPw) (fun _=>rfl)
  (fun k W=>Boxed W w.heap.size 3 (.int .i64 (cntR l k:Int))∧Below w.heap.size w W)
  (OwnFrom.and (Own.from (boxed_own w.heap.size 3 (fun k:Nat=>.int .i64 (cntR l k:Int))) _) (ownFrom_below (Nat.le_refl _) (by simp)))
  ⟨HBB.out,HB0.out⟩
  (fun k=>{ tmps:=#[.slice a n c,undef,.int .i64 0,.pointer (some ⟨w.heap.size,0,none⟩),.int .i64 (((runsL l).getD k (0,false)).1:Int),.bool ((runsL l).getD k (0,false)).2,.slice a n c,.func (.func 135) #[.slice a n c] #[],
   .int .i64 (((runsL l).getD k (0,false)).1:Int),.bool ((runsL l).getD k (0,false)).2,undef,undef,undef,undef,undef],defers:=[] }) ?assign ?body ?done
 case assign=>
  intro l k W K hK;unfold encR
  gi_wp2
  exact hK
 case body=>
  rintro y k W hk ⟨hbx,hB⟩;obtain⟨h1,h2⟩:=QmU l k hk;rw[HL.out]at h2;have HB:=hid hB;have hfin:∀W',Boxed W' w.heap.size 3 (.int .i64 (((cntR l k:Nat):Int)+(if ((runsL l).getD k (0,false)).2=true then(((runsL l).getD k (0,false)).1:Int) else 0)))→Boxed W' w.heap.size 3 (.int .i64 (cntR l (k+1):Int)):=fun W' h=>by
   rw[h1]
   revert h
   split <;> intro h
   ·rw[Int.natCast_add];exact h
   ·simpa using h
  have HFin:=hid hfin;have hc1:=hbx.cell;have hf1:=hbx.frozen;have HBx:=hid hbx;have HKp:Hid (¬blockOf a n w.heap.size):=hid (fun h=>by have:=HLt.out _ h;omega);clear h1 hfin hB hbx;obtain⟨z,hz⟩:∃z,cntR l k=z:=⟨_,rfl⟩;obtain⟨q,hq⟩:∃q,((runsL l).getD k (0,false)).1=q:=⟨_,rfl⟩;obtain⟨b,hb⟩:∃b,((runsL l).getD k (0,false)).2=b:=⟨_,rfl⟩;rw[hz,hq,hb]at HFin;rw[hz,hq]at h2;rw[hz]at hc1 HBx;rw[hq,hb];clear hz hq hb;have hw:IntKind.i64.wrap ((z:Int)+(q:Int))=(z:Int)+(q:Int):=by rw[IntKind.wrap_i64];omega
  cases b with
  |true=>
   gi_wp2
   exact⟨(KeepsOthers.setCell _ _ _).from _,Turn.setCell W ⟨w.heap.size,0,none⟩ _ (fun h=>HKp.out h),HFin.out _ (HBx.out.set _),HB.out.setCell (p:=⟨w.heap.size,0,none⟩) (Nat.le_refl _) _⟩
  |false=>
   gi_wp2
   exact⟨KeepsFrom.refl _ _,Turn.refl _ _,HFin.out _ (by simpa using HBx.out),HB.out⟩
 case done=>
  rintro D W hD ⟨hbx,hB⟩ hK;rw[QoN]at hbx;have hc1:=hbx.cell;have HB:Hid (Below w.heap.size w (W.putObj D (.deferred none))):=hid (hB.trans (belowK_b (w:=w) (Nat.le_refl _) W D _ (.deferred none) (by simp at hD;omega) hK rfl rfl));clear hbx hB
  gi_wp2
  refine⟨by simp,.inl ⟨_,_,rfl,run_takeDeferred hK,?_⟩⟩;exact⟨_,results_tmp rfl _ _ _,rfl,HB.out⟩
end Nu
end Go.Proofs.YtljanfnhmhimiaaGreat
