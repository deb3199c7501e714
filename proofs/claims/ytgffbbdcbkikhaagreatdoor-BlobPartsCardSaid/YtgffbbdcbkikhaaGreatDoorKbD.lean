/- Parts of the proof. -/
import Derived.Test.YtgffbbdcbkikhaaGreatDoorKbC
set_option maxRecDepth 100000
set_option maxHeartbeats 8000000
open Go.Lib (hid)
namespace Go.Proofs.YtgffbbdcbkikhaaGreatDoor
namespace Sp
open Go.RowKit
open Fr (Fits room putF getF kindF Fm FmOk blk QbS)
open Su (Sup SupOk GeoOk fours Qau Qci chunks QbZ)
open Oct (putB ofB)
open Cn (CnOk Qj)
structure Pg where
 tag:Int
 kids:List Int
 data:List Int
structure PgOk (p:Pg):Prop where
 tag:0≤p.tag∧p.tag<256
 kids:∀k∈p.kids,0≤k∧k<4294967296
 data:Bs.IsB p.data
def dataP(p:Pg):List Int:=putB 2 (p.kids.length:Int)++(fours p.kids++p.data)
theorem Qas(p:Pg):(dataP p).length=2+4*p.kids.length+p.data.length:=by
 unfold dataP;rw[List.length_append,List.length_append,Oct.Qe,Qau];omega
theorem Qcg(p:Pg)(h:Bs.IsB p.data):Bs.IsB (dataP p):=by
 intro x hx;unfold dataP at hx;rcases List.mem_append.1 hx with q|hx
 ·exact Oct.Qx 2 _ x q
 ·rcases List.mem_append.1 hx with q|hx
  ·exact Qci _ x q
  ·exact h x hx
theorem Qeh:∀(l r:List Int),(∀p∈l,0≤p∧p<4294967296)→chunks l.length (fours l++r)=l
 | [],r,_=>rfl
 |p :: l,r,hp=>by
  have h4:(putB 4 p).length=4:=Oct.Qe 4 p;rw[List.length_cons,chunks,fours,if_neg (by rw[List.length_append,List.length_append];omega),List.append_assoc,Fr.QG _ _ 4 h4,Fr.QF _ _ 4 h4,Qeh l r (fun q hq=>hp q (List.mem_cons_of_mem _ hq))];have:=hp p (List.mem_cons_self ..);rw[Oct.Qz 4 p (by omega) (by show p<256 ^ 4;omega)]
def pageF(K:Nat)(b:List Int):Option Pg:=
 if (getF b).2≠0∨(getF b).1.1<3∨(getF b).1.2.2.length<2∨((getF b).1.2.2.length:Int)<2+4*ofB ((getF b).1.2.2.take 2) then none
 else if ∀x∈chunks (ofB ((getF b).1.2.2.take 2)).toNat ((getF b).1.2.2.drop 2),2≤x∧x<(K:Int) then
  some ⟨(getF b).1.1,chunks (ofB ((getF b).1.2.2.take 2)).toNat ((getF b).1.2.2.drop 2),(getF b).1.2.2.drop (2+4*(ofB ((getF b).1.2.2.take 2)).toNat)⟩
 else none
theorem Qgv{S K:Nat}{g:Int}{p:Pg}(ho:PgOk p)(h3:3≤p.tag)(hk:∀k∈p.kids,2≤k∧k<(K:Int))(hn:Fits S)(hl:(dataP p).length+16≤S)(hg:0≤g∧g<18446744073709551616) :
  pageF K (blk S p.tag g (dataP p))=some p:=by
 have h1:=QbS S (p.tag,g,dataP p) hn ⟨ho.tag,hg,Qcg p ho.data⟩ hl;have hlen:=Qas p;have hS:S≤4096:=by unfold Fits at hn;omega
 have h2:(putB 2 (p.kids.length:Int)).length=2:=Oct.Qe 2 _;have e1:(dataP p).take 2=putB 2 (p.kids.length:Int):=Fr.QG _ _ 2 h2;have e2:(dataP p).drop 2=fours p.kids++p.data:=Fr.QF _ _ 2 h2;have e3:ofB (putB 2 (p.kids.length:Int))=(p.kids.length:Int):=Oct.Qz 2 _ (by omega) (by show(p.kids.length:Int)<256 ^ 2;omega);have e4:(dataP p).drop (2+4*p.kids.length)=p.data:=by
  rw[←List.drop_drop,e2,Fr.QF _ _ _ (Qau p.kids)]
 unfold pageF;have h1:getF (blk S p.tag g (dataP p))=((p.tag,g,dataP p),0):=h1;rw[h1]
 show(if (0:Int)≠0∨p.tag<3∨(dataP p).length<2∨((dataP p).length:Int)<2+4*ofB ((dataP p).take 2) then none else if ∀x∈chunks (ofB ((dataP p).take 2)).toNat ((dataP p).drop 2),2≤x∧x<(K:Int) then some (⟨p.tag,chunks (ofB ((dataP p).take 2)).toNat ((dataP p).drop 2),(dataP p).drop (2+4*(ofB ((dataP p).take 2)).toNat)⟩:Pg) else none)=some p
 rw[e1,e2,e3,Int.toNat_natCast,Qeh _ _ ho.kids,e4,if_neg (by omega),if_pos hk]
theorem QcS(s:Dv.St)(n:Nat)(l:List Int)(hn:n<s.blocks)(hl:l.length=s.size)(hf:s.fuse≠0) :
  s.write n l=(0,{ s.burn with pend:=s.pend++[(n,l)] })∧∀m,(s.write n l).2.last m=if m=n then l else s.last m:=by
 have e:s.write n l=(0,{ s.burn with pend:=s.pend++[(n,l)] }):=by
  unfold Dv.St.write;rw[if_neg (by rw[Classical.not_not];exact⟨⟨by omega,by omega⟩,hl⟩),if_neg hf,Int.toNat_natCast]
 refine⟨e,fun m=>?_⟩;rw[e];unfold Dv.St.last;rw[List.reverse_append,List.reverse_singleton,List.singleton_append,List.find?_cons];by_cases q:m=n
 ·subst q;simp
 ·have h2:(n==m)=false:=beq_eq_false_iff_ne.2 (fun z=>q z.symm);simp only[h2,if_neg q]
  rfl
def kidsOf(s:Dv.St)(m:Nat):List Nat:=match pageF s.blocks (s.last m) with
 |some p=>p.kids.map Int.toNat
 |none=>[]
def dOf(pages c:List Int)(m:Nat):Nat:=if 2≤m∧(m:Int)∉pages then(c.getD m 0).toNat else 0
structure GoodC (s:Dv.St) (pages c:List Int) (own:List Nat):Prop where
 cok:CnOk s.size s.blocks c
 pg:∀p∈pages,c.getD p.toNat 0=1
 ref:RefOk s.blocks (kidsOf s) own (dOf pages c)
 has:∀m,0<dOf pages c m→(pageF s.blocks (s.last m)).isSome=true
section
variable {s t : Dv.St} {pages c c2 : List Int} {own own2 : List Nat}
theorem Qba{m:Nat}(h:0<dOf pages c m):2≤m∧(m:Int)∉pages∧0<c.getD m 0∧dOf pages c m=(c.getD m 0).toNat:=by
 unfold dOf at h ⊢;by_cases q:2≤m∧(m:Int)∉pages
 ·rw[if_pos q]at h ⊢;exact⟨q.1,q.2,by omega,rfl⟩
 ·rw[if_neg q]at h;omega
theorem Qcw{n:Nat}(v:Int)(hn:n<c.length)(h2:2≤n)(hp:(n:Int)∉pages):dOf pages (c.set n v)=upd (dOf pages c) n v.toNat:=by
 funext m
 by_cases e:m=n
 ·subst e;rw[upd_same,dOf,if_pos ⟨h2,hp⟩,Qj _ _ _ _ hn,if_pos rfl]
 ·rw[upd_ne _ _ e,dOf,dOf,Qj _ _ _ _ hn,if_neg e]
theorem GoodC.kept(h:GoodC s pages c own)(hs:t.size=s.size)(hb:t.blocks=s.blocks)(hl:∀m,0<dOf pages c m→t.last m=s.last m):GoodC t pages c own:=by
 refine⟨by rw[hs,hb];exact h.cok,h.pg,?_,fun m hm=>by rw[hb,hl m hm];exact h.has m hm⟩;rw[hb];exact h.ref.kept fun m hm=>by unfold kidsOf;rw[hb,hl m hm]
theorem GoodC.perm(h:GoodC s pages c own)(hp:∀n,own2.count n=own.count n):GoodC s pages c own2:=⟨h.cok,h.pg,h.ref.perm hp,h.has⟩
theorem GoodC.at'(h:GoodC s pages c own){n:Nat}(hn:n∈own):2≤n∧n<s.blocks∧(n:Int)∉pages∧0<c.getD n 0:=by
 have h1:=h.ref.Qaz hn;obtain⟨a,b,c,_⟩:=Qba h1;exact⟨a,h.ref.lt h1,b,c⟩
theorem GoodC.put{a:List Nat}{p:Pg}{n:Nat}(h:GoodC s pages c (a++p.kids.map Int.toNat))(hn:n<s.blocks)(h2:2≤n)(hp:(n:Int)∉pages)(h0:c.getD n 0=0)
  (hs:t.size=s.size) (hb:t.blocks=s.blocks) (hl:∀m,m≠n→t.last m=s.last m) (hl2:pageF s.blocks (t.last n)=some p):GoodC t pages (c.set n 1) (a++[n]):=by
 have hd0:dOf pages c n=0:=by unfold dOf;rw[if_pos ⟨h2,hp⟩,h0];rfl
 have hlen:n<c.length:=by rw[h.cok.len];exact hn
 have hset:=Qcw (pages:=pages) (c:=c) 1 hlen h2 hp;refine⟨by rw[hs,hb];exact h.cok.set n h2 1 (by decide),fun q hq=>?_,?_,fun m hm=>?_⟩
 ·rw[Qj _ _ _ _ hlen];by_cases e:q.toNat=n
  ·rw[if_pos e]
  ·rw[if_neg e];exact h.pg q hq
 ·rw[hset,hb];refine(h.ref.put hn hd0).kept fun m hm=>?_
  by_cases e:m=n
  ·subst e;rw[upd_same];unfold kidsOf;rw[hb,hl2]
  ·rw[upd_ne _ _ e];unfold kidsOf;rw[hb,hl m e]
 ·rw[hset]at hm;by_cases e:m=n
  ·subst e;rw[hb,hl2]
   rfl
  ·rw[upd_ne _ _ e]at hm;rw[hb,hl m e];exact h.has m hm
theorem GoodC.share{n:Nat}(h:GoodC s pages c own)(hn:n∈own)(hc:c.getD n 0<65535):GoodC s pages (c.set n (c.getD n 0+1)) (n :: own):=by
 obtain⟨h2,hlt,hp,h0⟩:=h.at' hn;have hlen:n<c.length:=by rw[h.cok.len];exact hlt
 have hset:=Qcw (pages:=pages) (c:=c) (c.getD n 0+1) hlen h2 hp;have hd:dOf pages c n=(c.getD n 0).toNat:=by unfold dOf;rw[if_pos ⟨h2,hp⟩]
 have e1:(c.getD n 0+1).toNat=dOf pages c n+1:=by rw[hd];omega
 rw[e1]at hset;refine⟨h.cok.set n h2 _ (by omega),fun q hq=>?_,by rw[hset];exact h.ref.share (h.ref.Qaz hn),fun m hm=>?_⟩
 ·rw[Qj _ _ _ _ hlen];by_cases e:q.toNat=n
  ·have e2:q=(n:Int):=by omega
   exact absurd (e2▸hq) hp
  ·rw[if_neg e];exact h.pg q hq
 ·rw[hset]at hm;by_cases e:m=n
  ·subst e;exact h.has m (h.ref.Qaz hn)
  ·rw[upd_ne _ _ e]at hm;exact h.has m hm
theorem GoodC.less{n:Nat}(h:GoodC s pages c (n :: own))(hc:c.getD n 0≠1):GoodC s pages (c.set n (c.getD n 0-1)) own:=by
 obtain⟨h2,hlt,hp,h0⟩:=h.at' (List.mem_cons_self ..);have hlen:n<c.length:=by rw[h.cok.len];exact hlt
 have hset:=Qcw (pages:=pages) (c:=c) (c.getD n 0-1) hlen h2 hp;have hd:dOf pages c n=(c.getD n 0).toNat:=by unfold dOf;rw[if_pos ⟨h2,hp⟩]
 have e1:(c.getD n 0-1).toNat=dOf pages c n-1:=by rw[hd];omega
 rw[e1]at hset;have hb:c.getD n 0<65536:=by
  rw[List.getD_eq_getElem?_getD,List.getElem?_eq_getElem hlen];exact(h.cok.cnt _ (List.getElem_mem hlen)).2
 refine⟨h.cok.set n h2 _ (by omega),fun q hq=>?_,by rw[hset];exact h.ref.less (by omega),fun m hm=>?_⟩
 ·rw[Qj _ _ _ _ hlen];by_cases e:q.toNat=n
  ·have e2:q=(n:Int):=by omega
   exact absurd (e2▸hq) hp
  ·rw[if_neg e];exact h.pg q hq
 ·rw[hset]at hm;by_cases e:m=n
  ·subst e;exact h.has m (h.ref.Qaz (List.mem_cons_self ..))
  ·rw[upd_ne _ _ e]at hm;exact h.has m hm
theorem GoodC.last{n:Nat}(h:GoodC s pages c (n :: own))(hc:c.getD n 0=1):GoodC s pages (c.set n 0) (kidsOf s n++own):=by
 obtain⟨h2,hlt,hp,h0⟩:=h.at' (List.mem_cons_self ..);have hlen:n<c.length:=by rw[h.cok.len];exact hlt
 have hset:=Qcw (pages:=pages) (c:=c) 0 hlen h2 hp;have hd:dOf pages c n=1:=by unfold dOf;rw[if_pos ⟨h2,hp⟩,hc];rfl
 have e1:(0:Int).toNat=0:=rfl;rw[e1]at hset;refine⟨h.cok.set n h2 _ (by omega),fun q hq=>?_,by rw[hset];exact h.ref.last hd,fun m hm=>?_⟩
 ·rw[Qj _ _ _ _ hlen];by_cases e:q.toNat=n
  ·have e2:q=(n:Int):=by omega
   exact absurd (e2▸hq) hp
  ·rw[if_neg e];exact h.pg q hq
 ·rw[hset]at hm;by_cases e:m=n
  ·subst e;rw[upd_same]at hm;omega
  ·rw[upd_ne _ _ e]at hm;exact h.has m hm
theorem GoodC.one{L:List Int}{lown:List Nat}(h0:GoodC s pages L lown)(h:GoodC s pages c own)(k:GoodC s pages c2 own2)(ho:∀n,own2.count n=own.count n)(h1:∀m,0<dOf pages c m→0<dOf pages L m)(h2:∀m,0<dOf pages c2 m→0<dOf pages L m):c=c2:=by
 obtain⟨r,hr⟩:=h0.ref.rank;have hd:=h.ref.one (k.ref.perm (own2:=own) (fun n=>(ho n).symm)) hr h1 h2;have hlen:c.length=c2.length:=by rw[h.cok.len,k.cok.len]
 refine List.ext_getElem? fun j=>?_
 by_cases hj:j<c.length
 ·have e:c.getD j 0=c2.getD j 0:=by
   by_cases q:2≤j
   ·by_cases z:(j:Int)∈pages
    ·have a1:=h.pg _ z;have a2:=k.pg _ z;rw[Int.toNat_natCast]at a1 a2;rw[a1,a2]
    ·have:=hd j;unfold dOf at this;rw[if_pos ⟨q,z⟩,if_pos ⟨q,z⟩]at this;have b1:0≤c.getD j 0:=by rw[List.getD_eq_getElem?_getD,List.getElem?_eq_getElem hj];exact(h.cok.cnt _ (List.getElem_mem hj)).1
     have b2:0≤c2.getD j 0:=by rw[List.getD_eq_getElem?_getD,List.getElem?_eq_getElem (by omega)];exact(k.cok.cnt _ (List.getElem_mem _)).1
     omega
   ·rcases(show j=0∨j=1 by omega) with rfl|rfl
    ·rw[h.cok.at0,k.cok.at0]
    ·rw[h.cok.at1,k.cok.at1]
  rw[List.getD_eq_getElem?_getD,List.getD_eq_getElem?_getD,List.getElem?_eq_getElem hj,List.getElem?_eq_getElem (by omega)]at e;rw[List.getElem?_eq_getElem hj,List.getElem?_eq_getElem (by omega)];exact congrArg some e
 ·rw[List.getElem?_eq_none (by omega),List.getElem?_eq_none (by omega)]
end
end Sp
namespace Tr
open Go.RowKit Bs Oct
open Sp (Pg)
end Tr
namespace Sp
open Go.RowKit
open Su (Sup SupOk GeoOk getS putS supE chooseS)
open Cn (CnOk Qj pagesL eachC loadC)
open Fr (blk)
structure SpS where
 dv:Dv.St
 sup:Sup
 held:List Int
 now:List Int
 mark:Option (List Int)
 slot:Nat
def mayP(s:SpS)(i:Nat):Bool:=decide (2≤i) && decide (s.now.getD i 0=0) && decide (s.held.getD i 0=0) && (match s.mark with|none=>true|some m=>decide (m.getD i 0=0))
theorem QY(s:SpS)(i:Nat):mayP s i=true↔2≤i∧s.now.getD i 0=0∧s.held.getD i 0=0∧∀m,s.mark=some m→m.getD i 0=0:=by
 unfold mayP;rw[Bool.and_eq_true,Bool.and_eq_true,Bool.and_eq_true,decide_eq_true_iff,decide_eq_true_iff,decide_eq_true_iff];cases h:s.mark with
 |none=>exact⟨fun q=>⟨q.1.1.1,q.1.1.2,q.1.2,fun m e=>by cases e⟩,fun q=>⟨⟨⟨q.1,q.2.1⟩,q.2.2.1⟩,rfl⟩⟩
 |some m=>exact⟨fun q=>⟨q.1.1.1,q.1.1.2,q.1.2,fun m2 e=>by cases e;exact of_decide_eq_true q.2⟩,fun q=>⟨⟨⟨q.1,q.2.1⟩,q.2.2.1⟩,decide_eq_true (q.2.2.2 m rfl)⟩⟩
def frees(s:SpS):List Nat:=(List.range s.dv.blocks).filter (mayP s)
theorem QaM{s:SpS}{i:Nat}:i∈frees s↔i<s.dv.blocks∧mayP s i=true:=by
 unfold frees;rw[List.mem_filter,List.mem_range]
theorem QaL(s:SpS):(frees s).Pairwise (· < ·):=List.pairwise_lt_range.filter _
theorem QgZ(s:SpS):(frees s).Nodup:=(QaL s).imp (fun h=>Nat.ne_of_lt h)
theorem Qep{s:SpS}{n:Nat}{l:List Nat}(h:frees s=n :: l)(hl:s.now.length=s.dv.blocks):frees { s with now:=s.now.set n 1 }=l:=by
 have hn:n<s.dv.blocks:=(QaM.1 (by rw[h];exact List.mem_cons_self ..)).1;have hm:∀i,mayP { s with now:=s.now.set n 1 } i=(mayP s i && decide (i≠n)):=fun i=>by
  rw[Bool.eq_iff_iff,Bool.and_eq_true,QY,QY,decide_eq_true_iff]
  show(2≤i∧(s.now.set n 1).getD i 0=0∧_)↔_
  rw[Qj _ _ _ _ (by rw[hl];exact hn)];by_cases e:i=n
  ·rw[if_pos e];exact⟨fun q=>absurd q.2.1 (by decide),fun q=>absurd e q.2⟩
  ·rw[if_neg e];exact⟨fun q=>⟨q,e⟩,fun q=>q.1⟩
 have h2:frees { s with now:=s.now.set n 1 }=(frees s).filter (fun i=>decide (i≠n)):=by
  unfold frees;rw[List.filter_filter];exact congrArg (List.filter · (List.range s.dv.blocks)) (funext fun i=>by rw[hm i,Bool.and_comm])
 have hs:=QaL s;rw[h]at hs;rw[h2,h,List.filter_cons_of_neg (by simp),List.filter_eq_self.2];intro a ha;have:=(List.pairwise_cons.1 hs).1 a ha;simp;omega
def setAll(c:List Int)(l:List Nat)(v:Int):List Int:=l.foldl (fun c n=>c.set n v) c
theorem QE(l:List Nat)(v:Int):∀c:List Int,(setAll c l v).length=c.length:=by
 induction l with
 |nil=>intro c;rfl
 |cons n l ih=>intro c;exact(ih _).trans List.length_set
theorem Qak(v:Int):∀(l:List Nat) (c:List Int) (m:Nat),(∀n∈l,n<c.length)→(setAll c l v).getD m 0=if m∈l then v else c.getD m 0
 | [],c,m,_=>by rw[if_neg (by simp)];rfl
 |n :: l,c,m,h=>by
  have h1:n<c.length:=h n (List.mem_cons_self ..);have ih:=Qak v l (c.set n v) m (fun k hk=>by rw[List.length_set];exact h k (List.mem_cons_of_mem _ hk))
  show(setAll (c.set n v) l v).getD m 0=_
  rw[ih,Qj _ _ _ _ h1];by_cases e:m∈l
  ·rw[if_pos e,if_pos (List.mem_cons_of_mem _ e)]
  ·rw[if_neg e];by_cases q:m=n
   ·rw[if_pos q,if_pos (by rw[q];exact List.mem_cons_self ..)]
   ·rw[if_neg q,if_neg (fun z=>(List.mem_cons.1 z).elim q e)]
theorem Qco{size:Int}{K:Nat}{v:Int}(hv:0≤v∧v<65536):∀(l:List Nat) (c:List Int),(∀n∈l,2≤n)→CnOk size K c→CnOk size K (setAll c l v)
 | [],_,_,h=>h
 |n :: l,c,hl,h=>Qco hv l (c.set n v) (fun k hk=>hl k (List.mem_cons_of_mem _ hk)) (h.set n (hl n (List.mem_cons_self ..)) v hv)
def commitC(c:List Int)(old new:List Nat):List Int:=setAll (setAll c new 1) old 0
theorem QcH{c:List Int}{old new:List Nat}(ho:∀n∈old,n<c.length)(hn:∀n∈new,n<c.length)(m:Nat):(commitC c old new).getD m 0=if m∈old then 0 else if m∈new then 1 else c.getD m 0:=by
 unfold commitC;rw[Qak 0 old _ m (fun n h=>by rw[QE];exact ho n h),Qak 1 new c m hn]
theorem GoodC.commit{s t:Dv.St}{pages c:List Int}{own new:List Nat}(h:GoodC s pages c own)(hp:∀p∈pages,2≤p∧p<s.blocks)(hn:∀n∈new,2≤n∧n<s.blocks∧c.getD n 0=0)
  (hs:t.size=s.size) (hb:t.blocks=s.blocks) (hl:∀m,0<dOf pages c m→t.last m=s.last m) :
  GoodC t (new.map fun n:Nat=>(n:Int)) (commitC c (pages.map Int.toNat) new) own:=by
 have hlen:=h.cok.len;have ho1:∀n∈pages.map Int.toNat,2≤n∧n<s.blocks∧(n:Int)∈pages:=fun n hq=>by
  obtain⟨p,hp1,rfl⟩:=List.mem_map.1 hq;have:=hp p hp1;have e:(p.toNat:Int)=p:=Int.toNat_of_nonneg (by omega);exact⟨by omega,by omega,by rw[e];exact hp1⟩
 have hat:=QcH (c:=c) (old:=pages.map Int.toNat) (new:=new) (fun n q=>by rw[hlen];exact(ho1 n q).2.1) (fun n q=>by rw[hlen];exact(hn n q).2.1);have hno:∀n∈new,(n:Int)∉pages:=fun n q z=>by
  have a:=(hn n q).2.2;have b:=h.pg _ z;rw[Int.toNat_natCast]at b;omega
 have hd:dOf (new.map fun n:Nat=>(n:Int)) (commitC c (pages.map Int.toNat) new)=dOf pages c:=by
  funext m
  unfold dOf;by_cases h2:2≤m
  ·by_cases e:m∈new
   ·rw[if_neg (fun q=>q.2 (List.mem_map.2 ⟨m,e,rfl⟩)),if_pos ⟨h2,hno m e⟩,(hn m e).2.2]
    rfl
   ·have e3:(m:Int)∉new.map fun n:Nat=>(n:Int):=fun q=>by
     obtain⟨n,a,b⟩:=List.mem_map.1 q;have e4:n=m:=by omega
     exact e (e4▸a)
    rw[if_pos ⟨h2,e3⟩,hat m];by_cases z:(m:Int)∈pages
    ·rw[if_pos (List.mem_map.2 ⟨(m:Int),z,Int.toNat_natCast m⟩),if_neg (fun q=>q.2 z)]
     rfl
    ·rw[if_neg (fun q=>z (ho1 m q).2.2),if_neg e,if_pos ⟨h2,z⟩]
  ·rw[if_neg (fun q=>h2 q.1),if_neg (fun q=>h2 q.1)]
 refine⟨by rw[hs,hb];exact Qco (by decide) _ _ (fun n q=>(ho1 n q).1) (Qco (by decide) _ _ (fun n q=>(hn n q).1) h.cok),fun p q=>?_,?_,fun m hm=>?_⟩
 ·obtain⟨n,a,rfl⟩:=List.mem_map.1 q;rw[Int.toNat_natCast,hat n,if_neg (fun z=>hno n a (ho1 n z).2.2),if_pos a]
 ·rw[hd,hb];exact h.ref.kept fun m hm=>by unfold kidsOf;rw[hb,hl m hm]
 ·rw[hd]at hm;rw[hb,hl m hm];exact h.has m hm
structure Kept (s:Dv.St) (sup:Sup) (held:List Int) (slot:Nat):Prop where
 yes:supE sup=0
 ok:SupOk sup
 size:sup.size=s.size
 blocks:sup.blocks=s.blocks
 two:slot=0∨slot=1
 head:s.last slot=(putS sup).1
 other:(getS (s.last (1-slot))).2≠0∨(getS (s.last (1-slot))).1.gen<sup.gen
 len:sup.pages.length=(pagesL (eachC sup.size) s.blocks held).length
 pages:∀i,i<sup.pages.length→s.last (sup.pages.getD i 0).toNat=blk s.size 2 sup.gen ((pagesL (eachC sup.size) s.blocks held).getD i [])
theorem Kept.chosen{s:Dv.St}{sup:Sup}{held:List Int}{slot:Nat}(h:Kept s sup held slot):chooseS (s.last 0) (s.last 1)=((slot:Int),sup,0):=by
 have hg:=Su.get_put h.yes h.ok;have hh:=h.head;have ho:=h.other;rcases h.two with rfl|rfl
 ·rw[←hh]at hg;have ho:(getS (s.last 1)).2≠0∨(getS (s.last 1)).1.gen<sup.gen:=ho;refine Su.QfL hg fun q=>?_
  rcases ho with z|z
  ·exact absurd q z
  ·omega
 ·rw[←hh]at hg;have ho:(getS (s.last 0)).2≠0∨(getS (s.last 0)).1.gen<sup.gen:=ho;exact Su.QfA hg ho
theorem Kept.kept{s t:Dv.St}{sup:Sup}{held:List Int}{slot:Nat}(h:Kept s sup held slot)(hs:t.size=s.size)(hb:t.blocks=s.blocks)(h0:t.last 0=s.last 0)(h1:t.last 1=s.last 1)(hp:∀p∈sup.pages,t.last p.toNat=s.last p.toNat):Kept t sup held slot:=by
 refine⟨h.yes,h.ok,by rw[hs];exact h.size,by rw[hb];exact h.blocks,h.two,?_,?_,by rw[hb];exact h.len,fun i hi=>?_⟩
 ·have:=h.head;rcases h.two with rfl|rfl
  ·rw[h0];exact this
  ·rw[h1];exact this
 ·have:=h.other;rcases h.two with rfl|rfl
  ·show(getS (t.last 1)).2≠0∨(getS (t.last 1)).1.gen<sup.gen
   rw[h1];exact this
  ·show(getS (t.last 0)).2≠0∨(getS (t.last 0)).1.gen<sup.gen
   rw[h0];exact this
 ·rw[hs,hb,←h.pages i hi];refine hp _ ?_;rw[List.getD_eq_getElem?_getD,List.getElem?_eq_getElem hi];exact List.getElem_mem hi
end Sp
namespace Sp
open Go.RowKit
open Su (Sup SupOk GeoOk getS putS supE chooseS Valid)
open Cn (CnOk Qj pagesL eachC loadC)
open Fr (blk)
def writesD(d:Dv.St)(l:List (Nat×List Int)):Dv.St:=l.foldl (fun d q=>(d.write (q.1:Int) q.2).2) d
theorem QaC(d:Dv.St)(n:Nat)(l:List Int)(hf:d.fuse=-1)(hn:n<d.blocks)(hl:l.length=d.size):(d.write (n:Int) l)=(0,{ d with ops:=d.ops+1,pend:=d.pend++[(n,l)] }):=by
 rw[(QcS d n l hn hl (by omega)).1];unfold Dv.St.burn;rw[if_pos hf,←hf]
theorem Qds(l:List (Nat×List Int)):∀d:Dv.St,d.fuse=-1→(∀q∈l,q.1<d.blocks∧q.2.length=d.size)→writesD d l={ d with ops:=d.ops+l.length,pend:=d.pend++l }:=by
 induction l with
 |nil=>intro d _ _;show d=_;rw[List.append_nil];rfl
 |cons q l ih=>
  intro d hf hq;have h1:=hq q (List.mem_cons_self ..)
  show writesD (d.write (q.1:Int) q.2).2 l=_
  rw[QaC d q.1 q.2 hf h1.1 h1.2];refine(ih { d with ops:=d.ops+1,pend:=d.pend++[(q.1,q.2)] } hf (fun z hz=>hq z (List.mem_cons_of_mem _ hz))).trans ?_
  show({ d with ops:=d.ops+1+l.length,pend:=d.pend++[(q.1,q.2)]++l }:Dv.St)=_
  rw[List.append_assoc,List.singleton_append,List.length_cons,Nat.add_assoc,Nat.add_comm 1]
theorem QcK(d:Dv.St)(hf:d.fuse=-1):d.flush=(0,{ d with ops:=d.ops+1,dur:=Dv.laid d.dur d.pend,pend:=[] }):=by
 unfold Dv.St.flush Dv.St.burn;rw[if_neg (by omega),if_pos hf,←hf]
theorem QcR(d:List (List Int))(p:List (Nat×List Int))(m:Nat):∀l:List (Nat×List Int),(∀q∈l,q.1≠m)→Dv.lastOf d (p++l) m=Dv.lastOf d p m:=by
 intro l hl;unfold Dv.lastOf;rw[List.reverse_append,List.find?_append,List.find?_eq_none.2 (fun q hq=>by
  have:=hl q (List.mem_reverse.1 hq)
  simpa using this)]
 rfl
theorem Qfj(d:List (List Int))(m:Nat)(v:List Int):∀(l:List (Nat×List Int)) (p:List (Nat×List Int)),(l.map (·.1)).Nodup→(m,v)∈l→Dv.lastOf d (p++l) m=v:=by
 intro l
 induction l with
 |nil=>intro p _ h;cases h
 |cons q l ih=>
  intro p hn hm;rw[List.map_cons,List.nodup_cons]at hn;rcases List.mem_cons.1 hm with h|h
  ·subst h;have e:p++(m,v) :: l=(p++[(m,v)])++l:=by rw[List.append_assoc];rfl
   rw[e,QcR d _ m l (fun q hq z=>hn.1 (List.mem_map.2 ⟨q,hq,z⟩)),Dv.Qct];exact if_pos rfl
  ·have e:p++q :: l=(p++[q])++l:=by rw[List.append_assoc];rfl
   rw[e];exact ih _ hn.2 h
structure SpOk (s:SpS) (own hown mown:List Nat) (T:Nat):Prop where
 dok:s.dv.Ok
 fuse:s.dv.fuse=-1
 kept:Kept s.dv s.sup s.held s.slot
 pend:∀q∈s.dv.pend,2≤q.1∧(q.1:Int)∉s.sup.pages∧s.held.getD q.1 0=0
 now:GoodC s.dv s.sup.pages s.now own
 held:GoodC s.dv s.sup.pages s.held hown
 mark:∀m,s.mark=some m→GoodC s.dv s.sup.pages m mown
 room:s.sup.pages.length≤(frees s).length
 root:s.sup.root=0∨s.sup.root.toNat∈hown
 low:∀n,s.now.getD n 0≤T+1∧s.held.getD n 0≤T+1∧∀m,s.mark=some m→m.getD n 0≤T+1
 gen:s.sup.gen≤T+1
 ops:s.dv.ops≤100*T+100
 few:s.dv.pend.length≤T+1
section
variable {s : SpS} {own own2 hown mown : List Nat} {T : Nat}
theorem SpOk.valid(h:SpOk s own hown mown T):Valid s.sup:=(Su.Qaq h.kept.yes).1
theorem SpOk.page(h:SpOk s own hown mown T){p:Int}(hp:p∈s.sup.pages):2≤p∧p<s.dv.blocks:=by
 have h1:=(h.valid.2.2.2.2.1 p hp).1;have h2:=h.kept.blocks;unfold Su.pageP at h1;omega
theorem SpOk.free(h:SpOk s own hown mown T){n:Nat}(hn:n∈frees s):n<s.dv.blocks∧2≤n∧(n:Int)∉s.sup.pages∧s.now.getD n 0=0∧s.held.getD n 0=0∧∀m,s.mark=some m→m.getD n 0=0:=by
 obtain⟨h1,h2⟩:=QaM.1 hn;obtain⟨a,b,c,d⟩:=(QY s n).1 h2;refine⟨h1,a,fun q=>?_,b,c,d⟩;have:=h.now.pg _ q;rw[Int.toNat_natCast]at this;omega
theorem Qeo{s t:SpS}(hb:t.dv.blocks=s.dv.blocks)(h:∀i,mayP s i=true→mayP t i=true):(frees s).length≤(frees t).length:=by
 unfold frees;rw[hb,←List.countP_eq_length_filter,←List.countP_eq_length_filter];exact List.countP_mono_left fun i _=>h i
theorem QiL{pages c:List Int}{n m:Nat}(h0:c.getD n 0=0)(hm:0<dOf pages c m):m≠n:=fun e=>by
 obtain⟨_,_,a,_⟩:=Qba hm;subst e;omega
def putP(s:SpS)(p:Pg)(n:Nat):SpS:={ s with now:=s.now.set n 1,dv:=(s.dv.write (n:Int) (blk s.dv.size p.tag (s.sup.gen+1) (dataP p))).2 }
theorem SpOk.put{a:List Nat}{p:Pg}{n:Nat}{l:List Nat}(h:SpOk s (a++p.kids.map Int.toNat) hown mown T)(hT:T≤9000)(ho:PgOk p)(h3:3≤p.tag)(hlen:(dataP p).length+16≤s.dv.size)(hf:frees s=n :: l)(hl:s.sup.pages.length≤l.length) :
  SpOk (putP s p n) (a++[n]) hown mown (T+1):=by
 obtain⟨hn,h2,hnp,c0,c1,c2⟩:=h.free (n:=n) (by rw[hf];exact List.mem_cons_self ..);have hfits:Fr.Fits s.dv.size:=by have:=h.dok;exact⟨by have:=this.lo;omega,by have:=this.hi;omega,by have:=this.by64;omega⟩
 have hg0:0≤s.sup.gen:=h.kept.ok.gen.1;have hgen:=h.gen;have hbl:(blk s.dv.size p.tag (s.sup.gen+1) (dataP p)).length=s.dv.size:=Fr.Qo _ _ _ _ hlen;have hbB:=Fr.QaD s.dv.size p.tag (s.sup.gen+1) (dataP p) ho.tag (Qcg p ho.data);have hw:=QaC s.dv n _ h.fuse hn hbl;have hlast:=(QcS s.dv n _ hn hbl (by have:=h.fuse;omega)).2;have hkd:∀k∈p.kids,2≤k∧k<(s.dv.blocks:Int):=fun k hk=>by
  have h1:=h.now.at' (n:=k.toNat) (List.mem_append_right _ (List.mem_map_of_mem hk));have:=ho.kids k hk;omega
 have hpg:=Qgv (K:=s.dv.blocks) (g:=s.sup.gen+1) ho h3 hkd hfits hlen (by omega);have hsz:(putP s p n).dv.size=s.dv.size:=by unfold putP;rw[hw]
 have hbk:(putP s p n).dv.blocks=s.dv.blocks:=by unfold putP;rw[hw]
 have hls:∀m,m≠n→(putP s p n).dv.last m=s.dv.last m:=fun m hm=>by
  unfold putP;rw[hlast m,if_neg hm]
 have hln:(putP s p n).dv.last n=blk s.dv.size p.tag (s.sup.gen+1) (dataP p):=by
  unfold putP;rw[hlast n,if_pos rfl]
 have hop:=h.ops;have hfw:=h.few;refine⟨?_,by unfold putP;rw[hw];exact h.fuse,?_,fun q hq=>?_,?_,?_,fun m hm=>?_,?_,h.root,fun k=>?_,by show s.sup.gen≤_;omega,?_,?_⟩
 ·unfold putP;exact h.dok.write n _ hbB (by omega) (by omega)
 ·refine h.kept.kept hsz hbk (hls 0 (by omega)) (hls 1 (by omega)) fun q hq=>hls _ fun e=>hnp ?_
  have:=h.page hq;have e2:q=(n:Int):=by omega
  exact e2▸hq
 ·have hq:q∈s.dv.pend++[(n,blk s.dv.size p.tag (s.sup.gen+1) (dataP p))]:=by unfold putP at hq;rw[hw]at hq;exact hq
  rcases List.mem_append.1 hq with hq|hq
  ·exact h.pend q hq
  ·rw[List.mem_singleton.1 hq];exact⟨h2,hnp,c1⟩
 ·exact h.now.put hn h2 hnp c0 hsz hbk hls (by rw[hln];exact hpg)
 ·exact h.held.kept hsz hbk fun m hm=>hls m (QiL c1 hm)
 ·exact(h.mark m hm).kept hsz hbk fun k hk=>hls k (QiL (c2 m hm) hk)
 ·have e:=Qep hf (by rw[h.now.cok.len]);have e2:frees (putP s p n)=frees { s with now:=s.now.set n 1 }:=by
   unfold frees;rw[hbk]
   rfl
  rw[e2,e];exact hl
 ·obtain⟨l1,l2,l3⟩:=h.low k;refine⟨?_,by show s.held.getD k 0≤_;omega,fun m hm=>by have:=l3 m hm;omega⟩
  show(s.now.set n 1).getD k 0≤_
  rw[Qj _ _ _ _ (by rw[h.now.cok.len];exact hn)];by_cases e:k=n
  ·rw[if_pos e];omega
  ·rw[if_neg e];omega
 ·have e:(putP s p n).dv.ops=s.dv.ops+1:=by unfold putP;rw[hw]
  rw[e];omega
 ·have e:(putP s p n).dv.pend.length=s.dv.pend.length+1:=by unfold putP;rw[hw];show(s.dv.pend++[_]).length=_;rw[List.length_append];rfl
  rw[e];omega
theorem SpOk.turn{c:List Int}(h:SpOk s own hown mown T)(hg:GoodC s.dv s.sup.pages c own2)(h0:∀n,s.now.getD n 0=0→c.getD n 0=0)(hlow:∀n,c.getD n 0≤T+2):SpOk { s with now:=c } own2 hown mown (T+1):=by
 have hop:=h.ops;have hfw:=h.few;have hgen:=h.gen;refine⟨h.dok,h.fuse,h.kept,h.pend,hg,h.held,h.mark,Nat.le_trans h.room (Qeo rfl fun i hi=>?_),h.root,fun n=>?_,by show s.sup.gen≤_;omega,by show s.dv.ops≤_;omega,by show s.dv.pend.length≤_;omega⟩
 ·obtain⟨a,b,c',d⟩:=(QY s i).1 hi;exact(QY _ i).2 ⟨a,h0 i b,c',d⟩
 ·obtain⟨l1,l2,l3⟩:=h.low n;exact⟨by have:=hlow n;show c.getD n 0≤_;omega,by show s.held.getD n 0≤_;omega,fun m hm=>by have:=l3 m hm;omega⟩
theorem SpOk.share{n:Nat}(h:SpOk s own hown mown T)(hT:T≤9000)(hn:n∈own):SpOk { s with now:=s.now.set n (s.now.getD n 0+1) } (n :: own) hown mown (T+1):=by
 obtain⟨h2,hlt,hp,hpos⟩:=h.now.at' hn;have hl:=h.low n;have hlen:n<s.now.length:=by rw[h.now.cok.len];exact hlt
 refine h.turn (h.now.share hn (by omega)) (fun m hm=>?_) fun m=>?_
 ·rw[Qj _ _ _ _ hlen];by_cases e:m=n
  ·subst e;omega
  ·rw[if_neg e];exact hm
 ·rw[Qj _ _ _ _ hlen];by_cases e:m=n
  ·rw[if_pos e];omega
  ·rw[if_neg e];have:=(h.low m).1;omega
theorem SpOk.perm(h:SpOk s own hown mown T)(hp:∀n,own2.count n=own.count n):SpOk s own2 hown mown T:=⟨h.dok,h.fuse,h.kept,h.pend,h.now.perm hp,h.held,h.mark,h.room,h.root,h.low,h.gen,h.ops,h.few⟩
theorem SpOk.more{T2:Nat}(h:SpOk s own hown mown T)(hT:T≤T2):SpOk s own hown mown T2:=by
 have hop:=h.ops;have hfw:=h.few;have hgen:=h.gen;exact⟨h.dok,h.fuse,h.kept,h.pend,h.now,h.held,h.mark,h.room,h.root,fun n=>by
  obtain⟨l1,l2,l3⟩:=h.low n;exact⟨by omega,by omega,fun m hm=>by have:=l3 m hm;omega⟩,by omega,by omega,by omega⟩
theorem SpOk.abort(h:SpOk s own hown mown T):SpOk { s with now:=s.held,mark:=none } hown hown [] T:=by
 refine⟨h.dok,h.fuse,h.kept,h.pend,h.held,h.held,(fun m hm=>by cases hm),Nat.le_trans h.room (Qeo rfl fun i hi=>?_),h.root,fun n=>⟨(h.low n).2.1,(h.low n).2.1,fun m hm=>by cases hm⟩,h.gen,h.ops,h.few⟩;obtain⟨a,b,c,d⟩:=(QY s i).1 hi;exact(QY _ i).2 ⟨a,c,c,fun m hm=>by cases hm⟩
end
end Sp
namespace Sp
open Go.RowKit
open Su (Sup SupOk GeoOk getS putS supE chooseS Valid pagesF)
open Cn (CnOk Qj pagesL eachC loadC bytesC)
open Fr (blk room)
def commitD(d:Dv.St)(l:List (Nat×List Int))(o:Nat)(sb:List Int):Dv.St:=(((writesD d l).flush.2.write (o:Int) sb).2).flush.2
theorem QcI{d:Dv.St}(hf:d.fuse=-1)(l:List (Nat×List Int))(o:Nat)(sb:List Int)(hq:∀q∈l,q.1<d.blocks∧q.2.length=d.size)(ho:o<d.blocks)(hs:sb.length=d.size) :
  commitD d l o sb={ d with ops:=d.ops+l.length+3,dur:=(Dv.laid d.dur (d.pend++l)).set o sb,pend:=[] }:=by
 unfold commitD;rw[Qds l d hf hq,QcK ({ d with ops:=d.ops+l.length,pend:=d.pend++l }:Dv.St) hf]
 show(((({ d with ops:=d.ops+l.length+1,dur:=Dv.laid d.dur (d.pend++l),pend:=[] }:Dv.St).write (o:Int) sb).2).flush).2=_
 rw[QaC ({ d with ops:=d.ops+l.length+1,dur:=Dv.laid d.dur (d.pend++l),pend:=[] }:Dv.St) o sb hf ho hs]
 show((({ d with ops:=d.ops+l.length+1+1,dur:=Dv.laid d.dur (d.pend++l),pend:=[]++[(o,sb)] }:Dv.St)).flush).2=_
 rw[QcK ({ d with ops:=d.ops+l.length+1+1,dur:=Dv.laid d.dur (d.pend++l),pend:=[]++[(o,sb)] }:Dv.St) hf]
 rfl
theorem Qc6{d:Dv.St}(h:d.Ok)(hf:d.fuse=-1)(l:List (Nat×List Int))(o:Nat)(sb:List Int)(hq:∀q∈l,q.1<d.blocks∧q.2.length=d.size)(ho:o<d.blocks)(hs:sb.length=d.size)(m:Nat)(hm:m<d.blocks) :
  (commitD d l o sb).last m=if m=o then sb else Dv.lastOf d.dur (d.pend++l) m:=by
 rw[QcI hf l o sb hq ho hs]
 show((Dv.laid d.dur (d.pend++l)).set o sb).getD m []=_
 have hlen:(Dv.laid d.dur (d.pend++l)).length=d.blocks:=by rw[Dv.Qgb,h.dlen]
 by_cases e:m=o
 ·subst e;rw[if_pos rfl,List.getD_eq_getElem?_getD,List.getElem?_set_self (by omega)]
  rfl
 ·rw[if_neg e,List.getD_eq_getElem?_getD,List.getElem?_set_ne (fun z=>e z.symm),←List.getD_eq_getElem?_getD];exact Dv.Qi4 d.dur m (by rw[h.dlen];exact hm) _ _ rfl
theorem QaY(K:Nat):∀l:List Nat,l.Nodup→(∀n∈l,n<K)→(List.range K).countP (fun i=>decide (i∈l))=l.length
 | [],_,_=>by simp
 |n :: l,hn,hl=>by
  rw[List.nodup_cons]at hn;rw[List.length_cons,←QaY K l hn.2 (fun k q=>hl k (List.mem_cons_of_mem _ q))];refine(Cn.count_one K n _ _ (hl n (List.mem_cons_self ..)) (by simp) fun j=>?_).symm;rw[←Bool.decide_and];refine decide_eq_decide.2 ⟨fun q=>⟨List.mem_cons_of_mem _ q,fun e=>hn.1 (e▸q)⟩,fun q=>?_⟩;rcases List.mem_cons.1 q.1 with z|z
  ·exact absurd z q.2
  ·exact z
theorem Qeg:∀l:List Int,Bs.IsB (bytesC l)
 | [],x,hx=>by cases hx
 |y :: l,x,hx=>by
  rcases List.mem_append.1 hx with hx|hx
  ·exact Oct.Qx 2 y x hx
  ·exact Qeg l x hx
theorem countPage{size:Int}{K:Nat}(hg:GeoOk size K)(c:List Int)(hc:c.length=K)(i:Nat)(hi:i<(pagesL (eachC size) K c).length):(((pagesL (eachC size) K c).getD i []).length:Int)+16≤size∧Bs.IsB ((pagesL (eachC size) K c).getD i []):=by
 obtain⟨h1,h2⟩:=Cn.QX hg;have h3:=Su.QR hg;have hk:i*eachC size<c.length:=by
  rw[Cn.QbA (eachC size) (by omega) K c (Nat.le_of_eq hc)]at hi;have:=Nat.div_mul_le_self (c.length+eachC size-1) (eachC size);have h4:(i+1)*eachC size≤(c.length+eachC size-1) / eachC size*eachC size:=Nat.mul_le_mul_right _ hi;rw[Nat.add_mul,Nat.one_mul]at h4;omega
 have h4:=Cn.Qcm (eachC size) (by omega) K i c (Nat.le_of_eq hc) hk;rw[List.getD_eq_getElem?_getD,h4];refine⟨?_,Qeg _⟩
 show((bytesC ((c.drop (i*eachC size)).take (eachC size))).length:Int)+16≤size
 rw[Cn.Qa8,List.length_take];omega
def newPages(s:SpS):List Nat:=(frees s).take s.sup.pages.length
def newNow(s:SpS):List Int:=commitC s.now (s.sup.pages.map Int.toNat) (newPages s)
def newSup(s:SpS)(root:Int):Sup:=⟨s.sup.gen+1,s.sup.size,s.sup.blocks,root,(newPages s).map fun n:Nat=>(n:Int)⟩
def newBlk(s:SpS)(i:Nat):List Int:=blk s.dv.size 2 (s.sup.gen+1) ((pagesL (eachC s.sup.size) s.dv.blocks (newNow s)).getD i [])
def newWrites(s:SpS):List (Nat×List Int):=(List.range s.sup.pages.length).map fun i=>((newPages s).getD i 0,newBlk s i)
def commitP(s:SpS)(root:Int):SpS:=⟨commitD s.dv (newWrites s) (1-s.slot) (putS (newSup s root)).1,newSup s root,newNow s,newNow s,none,1-s.slot⟩
section
variable {s : SpS} {own hown mown : List Nat} {T : Nat} {root : Int}
theorem SpOk.QV(h:SpOk s own hown mown T):(newPages s).length=s.sup.pages.length:=by unfold newPages;rw[List.length_take];have:=h.room;omega
theorem SpOk.QaN(h:SpOk s own hown mown T){n:Nat}(hn:n∈newPages s):n<s.dv.blocks∧2≤n∧(n:Int)∉s.sup.pages∧s.now.getD n 0=0∧s.held.getD n 0=0∧∀m,s.mark=some m→m.getD n 0=0:=h.free (List.mem_of_mem_take hn)
theorem Qfm(s:SpS):(newPages s).Nodup:=(QgZ s).sublist (List.take_sublist _ _)
theorem SpOk.Qhq(h:SpOk s own hown mown T):(newWrites s).map (·.1)=newPages s:=by
 unfold newWrites;rw[List.map_map];refine List.ext_getElem? fun i=>?_
 rw[List.getElem?_map];by_cases hi:i<s.sup.pages.length
 ·rw[List.getElem?_range hi];have:i<(newPages s).length:=by rw[h.QV];exact hi
  show some ((newPages s).getD i 0)=_
  rw[List.getD_eq_getElem?_getD,List.getElem?_eq_getElem this]
  rfl
 ·rw[List.getElem?_eq_none (by rw[List.length_range];omega),List.getElem?_eq_none (by rw[h.QV];omega)]
  rfl
theorem SpOk.geo(h:SpOk s own hown mown T):GeoOk s.dv.size s.dv.blocks:=by
 have:=h.valid.1;rw[h.kept.size,h.kept.blocks]at this;exact this
theorem SpOk.newc(h:SpOk s own hown mown T):(newNow s).length=s.dv.blocks:=by unfold newNow commitC;rw[QE,QE];exact h.now.cok.len
theorem SpOk.pageCount(h:SpOk s own hown mown T)(c:List Int)(hc:c.length=s.dv.blocks):(pagesL (eachC s.sup.size) s.dv.blocks c).length=s.sup.pages.length:=by
 have h1:=Cn.Qav h.geo c hc;have h2:=h.valid.2.2.2.1;rw[h.kept.size,h.kept.blocks]at h2;rw[h.kept.size];omega
theorem SpOk.Qcl(h:SpOk s own hown mown T):∀q∈newWrites s,q.1<s.dv.blocks∧q.2.length=s.dv.size∧Bs.IsB q.2:=by
 intro q hq;obtain⟨i,hi,rfl⟩:=List.mem_map.1 hq;have hi:=List.mem_range.1 hi;have hin:i<(newPages s).length:=by rw[h.QV];exact hi
 have hm:(newPages s).getD i 0∈newPages s:=by rw[List.getD_eq_getElem?_getD,List.getElem?_eq_getElem hin];exact List.getElem_mem hin
 have hp:=countPage h.geo (newNow s) h.newc i (by have:=h.pageCount (newNow s) h.newc;rw[h.kept.size]at this;omega);have e:eachC s.sup.size=eachC s.dv.size:=by rw[h.kept.size]
 refine⟨(h.QaN hm).1,?_,?_⟩
 ·show(newBlk s i).length=_
  unfold newBlk;rw[e];exact Fr.Qo _ _ _ _ (by omega)
 ·show Bs.IsB (newBlk s i)
  unfold newBlk;rw[e];exact Fr.QaD _ _ _ _ (by decide) hp.2
theorem SpOk.QeP(h:SpOk s own hown mown T)(hT:T≤9000)(hr:root=0∨(0≤root∧root.toNat∈own)):supE (newSup s root)=0∧SupOk (newSup s root):=by
 obtain⟨v1,v2,v3,v4,v5⟩:=h.valid;have hroom:=(Su.Qaq h.kept.yes).2;have hb:=h.kept.blocks;have hg:=h.gen;have hg0:=h.kept.ok.gen;have hK:=h.dok.bhi;have hroot:root=0∨(2≤root∧root<s.dv.blocks∧0<s.now.getD root.toNat 0):=by
  rcases hr with e|⟨h0,e⟩
  ·exact .inl e
  ·have:=h.now.at' e;exact .inr ⟨by omega,by omega,this.2.2.2⟩
 have hl:((newPages s).map fun n:Nat=>(n:Int)).length=s.sup.pages.length:=by rw[List.length_map,h.QV]
 have hV:Valid (newSup s root):=by
  refine⟨v1,by show s.sup.gen+1≠0;omega,?_,by show(((newPages s).map fun n:Nat=>(n:Int)).length:Int)=_;rw[hl];exact v4,fun p hp=>?_,?_⟩
  ·rcases hroot with e|e
   ·exact .inl e
   ·right;show 2≤root∧root<s.sup.blocks;omega
  ·obtain⟨n,hn,rfl⟩:=List.mem_map.1 hp;obtain⟨a,b,_,c,_⟩:=h.QaN hn;refine⟨by show 2≤(n:Int)∧(n:Int)<s.sup.blocks;omega,fun e=>?_⟩;have e:(n:Int)=root:=e;rcases hroot with z|z
   ·omega
   ·have:root.toNat=n:=by omega
    rw[this]at z;omega
  ·show((newPages s).map fun n:Nat=>(n:Int)).Nodup
   exact List.pairwise_map.2 ((Qfm s).imp fun hne=>by omega)
 refine⟨?_,by show 0≤s.sup.gen+1∧s.sup.gen+1<18446744073709551616;omega,?_,fun p hp=>?_⟩
 ·unfold supE;rw[if_pos hV,if_neg]
  show ¬Fr.room s.sup.size<14+4*(((newPages s).map fun n:Nat=>(n:Int)).length:Int)
  rw[hl];omega
 ·show 0≤root∧root<4294967296
  rcases hroot with z|z <;> omega
 ·obtain⟨n,hn,rfl⟩:=List.mem_map.1 hp;have:=(h.QaN hn).1;omega
end
end Sp
namespace Sp
open Go.RowKit
open Su (Sup SupOk GeoOk getS putS supE chooseS Valid pagesF dataS)
open Cn (CnOk Qj pagesL eachC loadC bytesC)
open Fr (blk)
section
variable {s : SpS} {own hown mown : List Nat} {T : Nat} {root : Int}
theorem SpOk.QeO(h:SpOk s own hown mown T)(hT:T≤9000)(hr:root=0∨(0≤root∧root.toNat∈own)):((putS (newSup s root)).1).length=s.dv.size∧Bs.IsB (putS (newSup s root)).1:=by
 obtain⟨h1,h2⟩:=h.QeP hT hr;have h3:=Su.Qaq h1;have h4:=Su.QR h.geo;have hsz:(newSup s root).size=s.dv.size:=h.kept.size;have hdl:=Su.Qax (newSup s root);rw[hsz]at h3;rw[Su.Qu h1,hsz,Int.toNat_natCast];exact⟨Fr.Qo _ _ _ _ (by rw[hdl];omega),Fr.QaD _ _ _ _ (by decide) (Su.QaZ _)⟩
theorem SpOk.slots(h:SpOk s own hown mown T):(s.slot=0∧1-s.slot=1)∨(s.slot=1∧1-s.slot=0):=by rcases h.kept.two with e|e <;> omega
theorem SpOk.Qaf(h:SpOk s own hown mown T):s.sup.pages.length≤74:=by
 have h1:=(Su.QB h.valid.1).2.1;have h2:=h.valid.2.2.2.1;omega
theorem Qiw(s:SpS):(newWrites s).length=s.sup.pages.length:=by unfold newWrites;rw[List.length_map,List.length_range]
theorem SpOk.QaW(h:SpOk s own hown mown T)(hT:T≤9000)(hr:root=0∨(0≤root∧root.toNat∈own)) :
  (commitP s root).dv.last (1-s.slot)=(putS (newSup s root)).1∧(∀i,i<s.sup.pages.length→(commitP s root).dv.last ((newPages s).getD i 0)=newBlk s i) ∧
  (∀m,m<s.dv.blocks→m≠1-s.slot→m∉newPages s→(commitP s root).dv.last m=s.dv.last m)∧(commitP s root).dv={ s.dv with ops:=s.dv.ops+s.sup.pages.length+3,dur:=(Dv.laid s.dv.dur (s.dv.pend++newWrites s)).set (1-s.slot) (putS (newSup s root)).1,pend:=[] }:=by
 have hp:=h.QeO hT hr;have hw:=h.Qcl;have hb:=h.dok.blo;have hs:=h.slots;have hl:=fun m hm=>Qc6 h.dok h.fuse (newWrites s) (1-s.slot) (putS (newSup s root)).1 (fun q hq=>⟨(hw q hq).1,(hw q hq).2.1⟩) (by omega) hp.1 m hm
 refine⟨?_,fun i hi=>?_,fun m hm h1 h2=>?_,?_⟩
 ·exact(hl (1-s.slot) (by omega)).trans (if_pos rfl)
 ·have hin:i<(newPages s).length:=by rw[h.QV];exact hi
  have hmem:(newPages s).getD i 0∈newPages s:=by rw[List.getD_eq_getElem?_getD,List.getElem?_eq_getElem hin];exact List.getElem_mem hin
  obtain⟨a,b,_⟩:=h.QaN hmem;refine(hl _ a).trans ?_;rw[if_neg (by omega)];refine Qfj _ _ _ _ _ (by rw[h.Qhq];exact Qfm s) ?_;exact List.mem_map.2 ⟨i,List.mem_range.2 hi,rfl⟩
 ·refine(hl m hm).trans ?_;rw[if_neg h1,QcR _ _ _ _ fun q hq e=>h2 ?_]
  ·rfl
  ·rw[←h.Qhq,←e];exact List.mem_map_of_mem hq
 ·show commitD _ _ _ _=_
  rw[QcI h.fuse _ _ _ (fun q hq=>⟨(hw q hq).1,(hw q hq).2.1⟩) (by omega) hp.1,Qiw]
theorem SpOk.commit(h:SpOk s own hown mown T)(hT:T≤9000)(hr:root=0∨(0≤root∧root.toNat∈own)):SpOk (commitP s root) own own [] (T+1):=by
 obtain⟨l1,l2,l3,hdv⟩:=h.QaW hT hr;obtain⟨e1,e2⟩:=h.QeP hT hr;have hp:=h.QeO hT hr;have hw:=h.Qcl;have hblo:=h.dok.blo;have hs:=h.slots;have hop:=h.ops;have h74:=h.Qaf;have hg:=h.gen;have hsz:(commitP s root).dv.size=s.dv.size:=by rw[hdv]
 have hbk:(commitP s root).dv.blocks=s.dv.blocks:=by rw[hdv]
 have hnew:∀n∈newPages s,2≤n∧n<s.dv.blocks∧s.now.getD n 0=0:=fun n q=>by
  obtain⟨a,b,_,c,_⟩:=h.QaN q;exact⟨b,a,c⟩
 have hold:∀p∈s.sup.pages,2≤p∧p<s.dv.blocks:=fun p q=>h.page q
 have hlive:∀m,0<dOf s.sup.pages s.now m→(commitP s root).dv.last m=s.dv.last m:=fun m hm=>by
  obtain⟨a,b,c,_⟩:=Qba hm;have hlt:=h.now.ref.lt hm;exact l3 m hlt (by omega) fun q=>by have:=(hnew m q).2.2;omega
 have hgood:GoodC (commitP s root).dv (newSup s root).pages (newNow s) own:=h.now.commit hold hnew hsz hbk hlive;have hlenn:s.now.length=s.dv.blocks:=h.now.cok.len;have hoN:∀n∈s.sup.pages.map Int.toNat,n<s.now.length:=fun n q=>by
  obtain⟨p,a,rfl⟩:=List.mem_map.1 q;have:=hold p a;omega
 have hnN:∀n∈newPages s,n<s.now.length:=fun n q=>by have:=(hnew n q).2.1;omega
 have hat:=QcH (c:=s.now) hoN hnN;refine⟨?_,by rw[hdv];exact h.fuse,?_,fun q hq=>?_,hgood,hgood,(fun m hm=>by cases hm),?_,?_,fun n=>?_,by show s.sup.gen+1≤_;omega,?_,?_⟩
 ·-- the device
  rw[hdv];have hd:=Dv.QdW (s.dv.pend++newWrites s) s.dv.dur h.dok.dblk fun q hq=>by
   rcases List.mem_append.1 hq with z|z
   ·exact(h.dok.pblk q z).2
   ·exact(hw q z).2
  exact⟨h.dok.lo,h.dok.hi,h.dok.by64,h.dok.blo,h.dok.bhi,by show((Dv.laid _ _).set _ _).length=_;rw[List.length_set,hd.2];exact h.dok.dlen,Dv.Qcx hd.1 _ hp.1 hp.2,(fun q hq=>by cases hq),h.dok.flo,h.dok.fhi,Nat.zero_le _,by show s.dv.ops+s.sup.pages.length+3≤_;omega⟩
 ·-- what was committed
  refine⟨e1,e2,by rw[hsz];exact h.kept.size,by rw[hbk];exact h.kept.blocks,by show 1-s.slot=0∨1-s.slot=1;omega,l1,?_,?_,fun i hi=>?_⟩
  ·right
   have e3:1-(commitP s root).slot=s.slot:=by show 1-(1-s.slot)=s.slot;omega
   rw[e3,l3 s.slot (by omega) (by omega) (fun q=>by have:=(hnew s.slot q).1;omega),h.kept.head,Su.get_put h.kept.yes h.kept.ok]
   show s.sup.gen<s.sup.gen+1
   omega
  ·show((newPages s).map fun n:Nat=>(n:Int)).length=_
   rw[List.length_map,h.QV,hbk];exact(h.pageCount (newNow s) h.newc).symm
  ·have hi2:i<s.sup.pages.length:=by
    have:i<((newPages s).map fun n:Nat=>(n:Int)).length:=hi;rw[List.length_map,h.QV]at this;exact this
   have e4:((newSup s root).pages.getD i 0).toNat=(newPages s).getD i 0:=by
    show(((newPages s).map fun n:Nat=>(n:Int)).getD i 0).toNat=_
    have:i<(newPages s).length:=by rw[h.QV];exact hi2
    rw[List.getD_eq_getElem?_getD,List.getD_eq_getElem?_getD,List.getElem?_map,List.getElem?_eq_getElem this];exact Int.toNat_natCast _
   show(commitP s root).dv.last ((newSup s root).pages.getD i 0).toNat=_
   rw[e4,l2 i hi2,hsz,hbk]
   rfl
 ·rw[hdv]at hq;cases hq
 ·-- there is room
  show((newPages s).map fun n:Nat=>(n:Int)).length≤_
  rw[List.length_map,h.QV];have hnd:(s.sup.pages.map Int.toNat).Nodup:=List.pairwise_map.2 (h.valid.2.2.2.2.2.imp_of_mem fun {a b} ha hb hne=>by
   have:=hold a ha;have:=hold b hb;omega)
  have hc:=QaY s.dv.blocks (s.sup.pages.map Int.toNat) hnd fun n q=>by have:=hoN n q;omega
  rw[List.length_map]at hc;have hmono:(List.range s.dv.blocks).countP (fun i=>decide (i∈s.sup.pages.map Int.toNat))≤(List.range s.dv.blocks).countP (mayP (commitP s root)):=List.countP_mono_left fun i _ hi=>by
   have hi:=of_decide_eq_true hi;have e5:(newNow s).getD i 0=0:=by unfold newNow;rw[hat i,if_pos hi]
   obtain⟨p,a,e⟩:=List.mem_map.1 hi;have:=hold p a;exact(QY _ i).2 ⟨by omega,e5,e5,fun m hm=>by cases hm⟩
  unfold frees;rw[hbk,←List.countP_eq_length_filter];omega
 ·rcases hr with e|e
  ·exact .inl e
  ·exact .inr e.2
 ·have e6:(newNow s).getD n 0≤T+1+1:=by
   unfold newNow;rw[hat n];have:=(h.low n).1;by_cases a:n∈s.sup.pages.map Int.toNat
   ·rw[if_pos a];omega
   ·rw[if_neg a];by_cases b:n∈newPages s
    ·rw[if_pos b];omega
    ·rw[if_neg b];omega
  exact⟨e6,e6,fun m hm=>by cases hm⟩
 ·rw[hdv];show s.dv.ops+s.sup.pages.length+3≤_;omega
 ·rw[hdv];exact Nat.zero_le _
end
end Sp
namespace Hs
open Go.RowKit
open Bs (grownBy_trans QA)
structure Seg (w:World) (a:Option Addr) (n c:Nat) (l:List Int):Prop where
 len:l.length=n
 le:n≤c
 cap:c≤maxLen
 nil_:a=none→n=0∧c=0
 at_:∀ad,a=some ad→∀j u,(l.map (Value.int .u16))[j]?=some u→w.cell? (ad.add j)=some u
theorem Seg.kept{w w':World}{a:Option Addr}{n c:Nat}{l:List Int}(h:Seg w a n c l){row:Option Nat}(hg:w.grownBy w' row)(hne:∀ad,a=some ad→row≠some ad.block):Seg w' a n c l:=by
 refine⟨h.len,h.le,h.cap,h.nil_,fun ad had j u hu=>hg.cell (h.at_ ad had j u hu) ?_⟩;intro e;have:(ad.add j).block=ad.block:=by unfold Addr.add;split <;> rfl
 rw[this]at e;exact hne ad had e.symm
theorem Seg.grown{w w':World}{a:Option Addr}{n c:Nat}{l:List Int}(h:Seg w a n c l)(hg:w.grownBy w' none):Seg w' a n c l:=h.kept hg (fun _ _ e=>by cases e)
theorem Seg.drop{w:World}{g o n c k:Nat}{l:List Int}(h:Seg w (some ⟨g,o,none⟩) n c l)(hk:k≤n):Seg w (some ⟨g,o+k,none⟩) (n-k) (c-k) (l.drop k):=by
 refine⟨by rw[List.length_drop,h.len],by have:=h.le;omega,by have:=h.cap;omega,(fun e=>by cases e),fun ad had j u hu=>?_⟩;cases had
 rw[List.map_drop,List.getElem?_drop]at hu;have h1:=h.at_ _ rfl (k+j) u hu;rw[Addr.add_lit]at h1 ⊢;rw[Nat.add_assoc];exact h1
end Hs
namespace Js
open Go.RowKit
open Bs (grownBy_trans QA)
structure Seg (w:World) (a:Option Addr) (n c:Nat) (l:List Int):Prop where
 len:l.length=n
 le:n≤c
 cap:c≤maxLen
 nil_:a=none→n=0∧c=0
 at_:∀ad,a=some ad→∀j u,(l.map (Value.int .i64))[j]?=some u→w.cell? (ad.add j)=some u
theorem Seg.addr{w:World}{a:Option Addr}{n c:Nat}{l:List Int}(h:Seg w a n c l)(hn:0<n):∃g o,a=some ⟨g,o,none⟩∧∀j,j<n→w.cell? ⟨g,o+j,none⟩=some (.int .i64 (l.getD j 0)):=by
 have hl:=h.len;cases a with
 |none=>have:=h.nil_ rfl;omega
 |some ad=>
  have hc:=h.at_ ad rfl;obtain⟨g,o,spot⟩:=ad;have h0:=hc 0 (.int .i64 (l.getD 0 0)) (by simp[List.getD];rw[List.getElem?_eq_getElem (by omega)];rfl);have hspot:spot=none:=by simpa [Addr.add] using World.cell?_spot h0
  subst hspot;refine⟨g,o,rfl,fun j hj=>?_⟩;have h1:=hc j (.int .i64 (l.getD j 0)) (by simp[List.getD];rw[List.getElem?_eq_getElem (by omega)];rfl);rw[Addr.add_lit]at h1;exact h1
theorem Qkg:(Tryz.prog.info? 3).map (fun i=>(i.zero,i.size,i.bytes))=some (some (.int .i64 0),1,8):=by kernel_rfl
end Js
namespace Dv
open Go.RowKit Bs
theorem QlS{a b:ByteArray}(h:a=b):Ending.returned (.string a)=.returned (.string b):=by rw[h]
def rep(n:Nat)(x:Int):List Int:=List.replicate n x
theorem QlR(a b:Nat)(x:Int):rep a x++rep b x=rep (a+b) x:=by simp[rep,List.replicate_append_replicate]
theorem QbX(n:Nat)(x:Int)(h:0≤x∧x<256):IsB (rep n x):=QeK n x h
theorem Qbu(n:Nat)(x:Int):(rep n x).length=n:=by simp[rep]
def strep(n:Nat)(x:Int):ByteArray:=strOfNums (rep n x)
theorem Qdn(a b:Nat)(x:Int):strep a x++strep b x=strep (a+b) x:=by unfold strep;rw[Qbl,QlR]
theorem QcZ(n:Nat)(x:Int):(strep n x).size=n:=by unfold strep;rw[strOfNums_size,Qbu]
theorem Qin(x:Int):strep 0 x=⟨#[]⟩:=rfl
theorem dbl(m c n N:Nat)(h:m+c*n=N):m+(c+c)*(n / 2)+c*(n % 2)=N:=by
 have h1:c*n=c*(2*(n / 2)+n % 2):=by rw[Nat.div_add_mod]
 rw[Nat.mul_add,←Nat.mul_assoc,Nat.mul_comm c 2]at h1;have h2:(c+c)*(n / 2)=2*c*(n / 2):=by rw[←Nat.two_mul]
 omega
theorem Qfv(x:Int)(N:Nat)(w:World)(hN:N≤100000000) :
  Calls Tryz.prog 15 #[.string (strep 1 x),.int .i64 N] w fun e w'=>e=.returned (.string (strep N x))∧w=w':=by
 have z:=Qin x;have HZ:=hid z;clear z;go_enter Tryz.func15,Tryz.ntmps15
 go_wp2;rw[←HZ.out]
 go_loop [0,1,5] (fun sv nv ov=>∃c n m:Nat,sv=.string (strep c x)∧nv=.int .i64 n∧ov=.string (strep m x)∧n≤N∧Hid (m+c*n=N)) (fun _ nv _=>(intOf nv).toNat)
 case atStart=>exact⟨1,N,0,rfl,rfl,rfl,Nat.le_refl _,hid (by omega)⟩
 case round=>
  obtain⟨c,n,m,rfl,rfl,rfl,hn,HI⟩:=hrel;by_cases h0:0<n
  ·have HD:=hid (dbl m c n N HI.out);have hc:c≤N:=by
    have h1:=HI.out;have h2:c*1≤c*n:=Nat.mul_le_mul_left _ h0;omega
   have hm:m≤N:=by have h1:=HI.out;omega
   have hb1:¬9223372036854775807<(strep m x).size+(strep c x).size:=by rw[QcZ,QcZ];omega
   have hb2:¬9223372036854775807<(strep c x).size+(strep c x).size:=by rw[QcZ];omega
   have E2:=hid (show(n:Int) / 2=((n / 2:Nat):Int) by omega);by_cases h1:n % 2=1
   ·have e1:((n:Int) % 2==1)=true:=beq_iff_eq.2 (by omega);rw[h1]at HD;clear h1;go_wp2
    go_round
    case rel=>exact⟨c+c,n / 2,m+c,by rw[Qdn],by rw[E2.out],by rw[Qdn],by omega,hid (by have:=HD.out;omega)⟩
    case measure=>simp[intOf];omega
   ·have e1:((n:Int) % 2==1)=false:=beq_eq_false_iff_ne.2 (by omega);rw[show n % 2=0 from by omega]at HD;clear h1;go_wp2
    go_round
    case rel=>exact⟨c+c,n / 2,m,by rw[Qdn],by rw[E2.out],rfl,by omega,hid (by have:=HD.out;omega)⟩
    case measure=>simp[intOf];omega
  ·obtain rfl:n=0:=by omega
   have HE:=hid (show m=N by have:=HI.out;omega);clear h0;go_wp2;go_ret
   exact⟨QlS (by rw[HE.out]),rfl⟩
end Dv
namespace Ws
open Go.RowKit
open Bs (grownBy_trans QA)
def IsW(l:List Int):Prop:=∀x∈l,0≤x∧x≤4294967295
structure Seg (w:World) (a:Option Addr) (n c:Nat) (l:List Int):Prop where
 len:l.length=n
 le:n≤c
 cap:c≤maxLen
 nil_:a=none→n=0∧c=0
 at_:∀ad,a=some ad→∀j u,(l.map (Value.int .u32))[j]?=some u→w.cell? (ad.add j)=some u
theorem Seg.nil(w:World):Seg w none 0 0 []:=⟨rfl,Nat.le_refl _,by unfold maxLen;omega,fun _=>⟨rfl,rfl⟩,fun _ h=>by cases h⟩
theorem Seg.own{w:World}{base e g n c:Nat}{l:List Int}(h:w.ownsRow base e 1 (.slice (some ⟨g,0,none⟩) n c) n (l.map (Value.int .u32))):Seg w (some ⟨g,0,none⟩) n c l:=by
 have hl:l.length=n:=by simpa using h.1
 refine⟨hl,?_,?_,fun e=>by(cases e),?_⟩
 ·rcases h.2 with ⟨e,_⟩|⟨g',cap,cur,e,_,_,h1,h2,_⟩
  ·cases e
  ·cases e;exact h1
 ·rcases h.2 with ⟨e,_⟩|⟨g',cap,cur,e,_,_,h1,h2,_⟩
  ·cases e
  ·cases e;exact h2
 ·intro ad had j u hu;cases had
  exact h.cells rfl j u hu
theorem Seg.kept{w w':World}{a:Option Addr}{n c:Nat}{l:List Int}(h:Seg w a n c l){row:Option Nat}(hg:w.grownBy w' row)(hne:∀ad,a=some ad→row≠some ad.block):Seg w' a n c l:=by
 refine⟨h.len,h.le,h.cap,h.nil_,fun ad had j u hu=>hg.cell (h.at_ ad had j u hu) ?_⟩;intro e;have:(ad.add j).block=ad.block:=by unfold Addr.add;split <;> rfl
 rw[this]at e;exact hne ad had e.symm
theorem Seg.grown{w w':World}{a:Option Addr}{n c:Nat}{l:List Int}(h:Seg w a n c l)(hg:w.grownBy w' none):Seg w' a n c l:=h.kept hg (fun _ _ e=>by cases e)
theorem Seg.addr{w:World}{a:Option Addr}{n c:Nat}{l:List Int}(h:Seg w a n c l)(hn:0<n):∃g o,a=some ⟨g,o,none⟩∧∀j,j<n→w.cell? ⟨g,o+j,none⟩=some (.int .u32 (l.getD j 0)):=by
 have hl:=h.len;cases a with
 |none=>have:=h.nil_ rfl;omega
 |some ad=>
  have hc:=h.at_ ad rfl;obtain⟨g,o,spot⟩:=ad;have h0:=hc 0 (.int .u32 (l.getD 0 0)) (by simp[List.getD];rw[List.getElem?_eq_getElem (by omega)];rfl);have hspot:spot=none:=by simpa [Addr.add] using World.cell?_spot h0
  subst hspot;refine⟨g,o,rfl,fun j hj=>?_⟩;have h1:=hc j (.int .u32 (l.getD j 0)) (by simp[List.getD];rw[List.getElem?_eq_getElem (by omega)];rfl);rw[Addr.add_lit]at h1;exact h1
theorem Seg.drop{w:World}{g o n c k:Nat}{l:List Int}(h:Seg w (some ⟨g,o,none⟩) n c l)(hk:k≤n):Seg w (some ⟨g,o+k,none⟩) (n-k) (c-k) (l.drop k):=by
 refine⟨by rw[List.length_drop,h.len],by have:=h.le;omega,by have:=h.cap;omega,(fun e=>by cases e),fun ad had j u hu=>?_⟩;cases had
 rw[List.map_drop,List.getElem?_drop]at hu;have h1:=h.at_ _ rfl (k+j) u hu;rw[Addr.add_lit]at h1 ⊢;rw[Nat.add_assoc];exact h1
theorem Seg.dropAd{w:World}{x:Addr}{n c k:Nat}{l:List Int}(h:Seg w (some x) n c l)(hk:k≤n):Seg w (some (x.add k)) (n-k) (c-k) (l.drop k):=by
 refine⟨by rw[List.length_drop,h.len],by have:=h.le;omega,by have:=h.cap;omega,(fun e=>by cases e),fun ad had j u hu=>?_⟩;cases had
 rw[List.map_drop,List.getElem?_drop]at hu;rw[Go.Deep.add_add];exact h.at_ _ rfl (k+j) u hu
theorem Seg.empty(w:World)(x:Addr)(c:Nat)(hc:c≤maxLen):Seg w (some x) 0 c []:=⟨rfl,Nat.zero_le _,hc,(fun e=>by cases e),fun _ _ j u hu=>by simp at hu⟩
theorem Seg.from_{w:World}{a:Option Addr}{n c k:Nat}{l:List Int}(h:Seg w a n c l)(hk:k≤n):Seg w (if c=k then a else Option.map (fun x=>x.add k) a) (n-k) (c-k) (l.drop k):=by
 have hle:=h.le;have hl:=h.len;cases a with
 |none=>
  obtain⟨rfl,rfl⟩:=h.nil_ rfl;obtain rfl:k=0:=by omega
  obtain rfl:=List.eq_nil_of_length_eq_zero hl;exact Seg.nil w
 |some x=>
  by_cases e:c=k
  ·rw[if_pos e];have hz:l.drop k=[]:=List.drop_eq_nil_of_le (by omega);rw[hz,show n-k=0 from by omega,show c-k=0 from by omega];exact Seg.empty w x 0 (by unfold maxLen;omega)
  ·rw[if_neg e];exact h.dropAd hk
theorem Qbp:(Tryz.prog.info? 30).map (fun i=>(i.zero,i.size,i.bytes))=some (some (.int .u32 0),1,4):=by kernel_rfl
theorem QlC(w:World)(l:List Int)(hl:l.length≤1000):Seg (w.alloc (.cells (l.map (Value.int .u32)).toArray 30)) (some ⟨w.heap.size,0,none⟩) l.length l.length l:=by
 have h:=World.ownsRow_lit (base:=w.heap.size) (e:=30) (size:=1) w (l.map (Value.int .u32)).toArray l.length (Nat.le_refl _) (by unfold maxLen;omega) (by simp);have e:(l.map (Value.int .u32)).toArray.toList=l.map (Value.int .u32):=by simp
 rw[e]at h;exact Seg.own h
end Ws
namespace Bs
open Go.RowKit
theorem QZ{P:Program}{fn:Func}{p u:Tmp}{ty:TypeId}(h:fn.results=#[.cell p ty,.tmp u])(tmps:Array Value)(w:World)(g:Nat)(t:TypeId)(cs:Array Value)(fr:Nat×Nat)(d:TypeDesc)
  (hp:tmps.getD p undef=.pointer (some ⟨g,0,none⟩)) (hg:w.heap[g]?=some (.cells cs t fr))
  (hu:P.underlying ty=some d) (hd:(match d with | .struct _ | .array _ _=>true|_=>false)=true) (hi:(P.info? ty).map (·.size)=some cs.size) :
  (results fn tmps).run P w=.ok (.tuple #[.agg cs,tmps.getD u undef]) w:=by
 rw[results_cell_tmp h,hp];simp[asAddr,Result.andThen,run_loadVar_row w g t ty cs fr d hg hu hd hi]
end Bs
namespace Crc
open Go.RowKit Bs
def tabN(n:Nat)(t:Nat→Nat):Array Value:=((List.range n).map fun i=>Value.int .u32 (t i:Int)).toArray
def tab(t:Nat→Nat):Array Value:=tabN 256 t
theorem Qk0(n:Nat)(t:Nat→Nat)(y:Nat)(h:y<n):(tabN n t)[y]?=some (.int .u32 (t y:Int)):=by
 simp[tabN,h]
theorem QhC(t:Nat→Nat)(y:Nat)(h:y<256):(tab t)[y]?=some (.int .u32 (t y:Int)):=Qk0 256 t y h
theorem QjH(n:Nat)(t:Nat→Nat):(tabN n t).size=n:=by simp[tabN]
theorem Qeb(t:Nat→Nat):(tab t).size=256:=QjH 256 t
theorem xor8(S:Nat)(x:Int)(h0:0≤x)(h1:x<256):bits BinOp.xor IntKind.u8 ((S:Int) % 256) x=((S % 256 ^^^ x.toNat:Nat):Int)∧S % 256 ^^^ x.toNat<256:=by
 refine⟨?_,Nat.xor_lt_two_pow (n:=8) (by omega) (by omega)⟩;rw[u8_xor _ _ (by omega) (by omega) h0 h1,show((S:Int) % 256).toNat=S % 256 from by omega]
theorem xor32(S T:Nat)(h0:S<4294967296)(h1:T<4294967296):bits BinOp.xor IntKind.u32 ((S:Int) / 256) (T:Int)=((S / 256 ^^^ T:Nat):Int):=by
 have h:=u32_xor_nat (S / 256) T (by omega) h1;rw[←h]
 rfl
theorem Qk6(t:Nat→Nat)(s:Nat)(l:List Int)(k:Nat)(h:k<l.length):upd t s (l.take (k+1))=step t (upd t s (l.take k)) (l.getD k 0).toNat:=by
 rw[List.take_add_one,Qiq,List.getElem?_eq_getElem h,List.getD_eq_getElem?_getD,List.getElem?_eq_getElem h]
 rfl
theorem Qki{l:List Int}(h:Bs.IsB l)(k:Nat):0≤l.getD k 0∧l.getD k 0<256:=by
 rw[List.getD_eq_getElem?_getD];by_cases hk:k<l.length
 ·rw[List.getElem?_eq_getElem hk];exact h _ (List.getElem_mem _)
 ·rw[List.getElem?_eq_none (by omega)];decide
theorem Qir(t:Nat→Nat)(s:Nat)(a:Option Addr)(n c:Nat)(l:List Int)(w:World)(hs:Seg w a n c l)(hb:Bs.IsB l)(h0:s<4294967296)(ht:∀i,i<256→t i<4294967296) :
  Calls Tryz.prog 149 #[.agg (tab t),.int .u32 s,.slice a n c] w fun e w'=>e=.returned (.int .u32 (upd t s l))∧w.grownBy w' none:=by
 have hgr:=World.grownBy_alloc w (.cells (tab t) 208) none;by_cases hn:n=0
 ·subst hn;obtain rfl:=List.eq_nil_of_length_eq_zero hs.len;go_enter Tryz.func149,Tryz.ntmps149
  go_wp2;refine wp_loop_rounds 1 ?_;rw[rounds_succ];go_wp2;go_ret
  exact⟨rfl,hgr⟩
 ·obtain⟨g,o,rfl,k0⟩:=hs.addr (by omega);have hm:=hs.cap;have hle:=hs.le;have hl:=hs.len;unfold maxLen at hm;have HG:=hid hgr;have HL:=hid hl;have K0:=hid k0;have HT:=hid ht;have HB:=hid hb;clear k0 hs ht hb hl hgr;go_enter Tryz.func149,Tryz.ntmps149
  go_wp2
  go_loop [1,11] (fun sv i=>∃k:Nat,k≤n∧i=.int .i64 k∧sv=.int .u32 (upd t s (l.take k))) (fun _ i=>n-(intOf i).toNat)
  case atStart=>exact⟨0,Nat.zero_le _,rfl,rfl⟩
  case round=>
   obtain⟨k,hk,rfl,rfl⟩:=hrel;by_cases hlt:k<n
   ·have q1:=HG.out.cell (K0.out k hlt) (by simp);have hx:=Qki HB.out k;have hS:upd t s (l.take k)<4294967296:=QgN t HT.out _ _ (fun x hx=>HB.out x (List.mem_of_mem_take hx)) h0;have HU:=hid (Qk6 t s l k (by rw[HL.out];exact hlt));generalize upd t s (l.take k)=S at hS HU;generalize l.getD k 0=x at q1 hx HU;obtain⟨e1,y1⟩:=xor8 S x hx.1 hx.2;have e2:=xor32 S _ hS (HT.out _ y1);have e3:=QhC t _ y1;unfold step at HU;generalize S % 256 ^^^ x.toNat=y at e1 e2 e3 y1 HU;generalize t y=T at e2 e3 HU;obtain⟨x0,x1⟩:=hx;go_wp2
    go_round
    case rel=>exact⟨k+1,by omega,by go_num,by rw[HU.out]⟩
    case measure=>simp[intOf];omega
   ·obtain rfl:k=n:=by omega
    have HF:=hid (List.take_of_length_le (l:=l) (i:=k) (by rw[HL.out];exact Nat.le_refl _));go_wp2;go_ret
    exact⟨Qq (by rw[HF.out]),HG.out⟩
theorem Qf5(t:Nat→Nat):(Tryz.prog.info? 208).map (·.size)=some (tab t).size:=by
 rw[Qeb]
 kernel_rfl
theorem Qkv(v:Nat)(h:v<4294967296):bits BinOp.xor IntKind.u32 IntKind.u32.max (v:Int)=((ones ^^^ v:Nat):Int):=u32_xor_nat ones v (by decide) h
theorem Ql0(t:Nat→Nat)(a:Option Addr)(n c:Nat)(l:List Int)(w:World)(hs:Seg w a n c l)(hb:Bs.IsB l)(ht:∀i,i<256→t i<4294967296) :
  Calls Tryz.prog 136 #[.agg (tab t),.slice a n c] w fun e w'=>e=.returned (.int .u32 (sum t l))∧w.grownBy w' none:=by
 have hgr:=World.grownBy_alloc w (.cells (tab t) 208) none;have hS:=hid (hs.grown hgr);have HG:=hid hgr;have HT:=hid ht;have hU:upd t ones l<4294967296:=QgN t ht _ _ hb (by decide);have HB:=hid hb;have HI:=hid (Qf5 t);have hcell:(w.alloc (.cells (tab t) 208)).heap[w.heap.size]?=some (.cells (tab t) 208 (0,0)):=heap_alloc_new w _;have HC:=hid hcell;clear hgr ht hb hs hcell;go_enter Tryz.func136,Tryz.ntmps136
 go_wp2_with (first
  |(refine wpList_load_row rfl _ _ rfl w.heap.size rfl _ (tab t) _ _ HC.out Tryz.underlying208 rfl HI.out ?_)
  |fail)
 refine(Qir t ones a n c l _ hS.out HB.out (by decide) HT.out).mono ?_;rintro e w2 ⟨rfl,hg2⟩;have hg3:=grownBy_trans HG.out hg2 (fun _ e=>by cases e);have H3:=hid hg3;have HO:Hid (bits BinOp.xor IntKind.u32 IntKind.u32.max (upd t ones l:Int)=(sum t l:Int)):=Qkv _ hU;clear hg2 hg3;generalize upd t ones l=U at HO hU;go_wp2;go_ret
 exact⟨Qq HO.out,H3.out⟩
end Crc
end Go.Proofs.YtgffbbdcbkikhaaGreatDoor
