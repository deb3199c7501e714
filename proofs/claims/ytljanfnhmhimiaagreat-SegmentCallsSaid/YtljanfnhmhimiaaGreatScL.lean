/- Parts of the proof. -/
import Derived.Test.YtljanfnhmhimiaaGreatScB
import Derived.Test.YtljanfnhmhimiaaGreatScH
set_option maxRecDepth 100000
set_option maxHeartbeats 8000000
namespace Go.Proofs.YtljanfnhmhimiaaGreat
namespace Sg
open Go.RowKit
open Zn (Cel Zon zeroC zeroZ ofZ joinZ oneZ cmpC cellE checkE Le Holds holds_of)
open Nu (cnt encN getN)
open In (num8 sg u bestB getI)
open Tx (strB readS bestT getT)
open Pk (putR getR Fit)
open Is (IsI)
def nm(s:ByteArray):List Int:=s.data.toList.map fun b=>(b.toNat:Int)
theorem Qd1(s:ByteArray):Bs.IsB (nm s):=fun x hx=>by
 obtain⟨b,_,rfl⟩:=List.mem_map.1 hx;have:=b.toNat_lt;omega
theorem Qi8(l:List Int)(h:Bs.IsB l):nm (strOfNums l)=l:=by
 unfold nm strOfNums;simp only[List.map_map]
 conv=>rhs;rw[←List.map_id l]
 refine List.map_congr_left fun x hx=>?_
 have:=h x hx
 show((UInt8.ofNat x.toNat).toNat:Int)=x
 rw[UInt8.toNat_ofNat'];omega
theorem QjA(s:ByteArray):strOfNums (nm s)=s:=by
 obtain⟨l,hl,rfl⟩:=Dv.QpL s;rw[Qi8 l hl]
theorem Qb7(s:ByteArray):(nm s).length=s.size:=by unfold nm;rw[List.length_map,Array.length_toList];rfl
def nullsL(l:List Cel):List Bool:=l.map fun c=>decide (c.k=0)
def someL(l:List Cel):List Cel:=l.filter fun c=>decide (c.k≠0)
def cellB(c:Cel):List Int:=if c.k=1 then num8 c.n else if c.k=2 then [c.n] else strB (nm c.s)
def bodyS(kind:Int)(l:List Cel):List Int:=if kind=1 then bestB (l.map (·.n)) else if kind=2 then(putR (l.map (·.n)) 1).2 else bestT (l.map fun c=>nm c.s)
def tailS(kind:Int)(l:List Cel):List Int:=if someL l=[] then [] else cellB (ofZ l).min++(cellB (ofZ l).max++bodyS kind (someL l))
def encS(kind:Int)(l:List Cel):List Int:=kind :: (encN (nullsL l)++tailS kind l)
def firstE(kind:Int):List Cel→Int
 | []=>0
 |c :: l=>if cellE c≠0 then cellE c else if c.k≠kind∧c.k≠0 then 11 else firstE kind l
def checkS(kind:Int)(l:List Cel):Int:=if kind<1∨3<kind then 2 else if 4096<l.length then 3 else firstE kind l
def putS(kind:Int)(l:List Cel):Int×List Int:=if checkS kind l≠0 then(checkS kind l,[]) else(0,encS kind l)
theorem QaX(l:List Cel):(nullsL l).length=l.length:=by simp[nullsL]
theorem Qf3{l:List Cel}{c:Cel}:c∈someL l↔c∈l∧c.k≠0:=by simp[someL]
theorem Qnm(l m:List Cel):someL (l++m)=someL l++someL m:=by simp[someL]
theorem QmK(l m:List Cel):nullsL (l++m)=nullsL l++nullsL m:=by simp[nullsL]
theorem QeL(c:Cel)(l:List Cel):someL (c :: l)=if c.k=0 then someL l else c :: someL l:=by
 unfold someL;rw[List.filter_cons];by_cases h:c.k=0 <;> simp[h]
theorem Qa8:∀l:List Cel,cnt (nullsL l)+(someL l).length=l.length
 | []=>rfl
 |c :: l=>by
  have ih:=Qa8 l;rw[QeL,show nullsL (c :: l)=[decide (c.k=0)]++nullsL l from rfl,Nu.QbL];by_cases h:c.k=0
  ·rw[if_pos h,decide_eq_true h,show cnt [true]=1 from rfl,List.length_cons];omega
  ·rw[if_neg h,decide_eq_false h,show cnt [false]=0 from rfl,List.length_cons,List.length_cons];omega
theorem Qi6:∀l:List Cel,(ofZ l).nul=(cnt (nullsL l):Nat)
 | []=>rfl
 |c :: l=>by
  rw[Zn.of_cons,Zn.Qa0,Zn.Qg7,Qi6 l,show nullsL (c :: l)=[decide (c.k=0)]++nullsL l from rfl,Nu.QbL];by_cases h:c.k=0
  ·rw[if_pos h,decide_eq_true h,show cnt [true]=1 from rfl];omega
  ·rw[if_neg h,decide_eq_false h,show cnt [false]=0 from rfl];omega
theorem Qhc:∀l:List Cel,(ofZ l).min=(ofZ (someL l)).min∧(ofZ l).max=(ofZ (someL l)).max∧(ofZ (someL l)).cnt=(someL l).length∧(ofZ (someL l)).nul=0
 | []=>⟨rfl,rfl,rfl,rfl⟩
 |c :: l=>by
  obtain⟨i1,i2,i3,i4⟩:=Qhc l;rw[QeL];by_cases h:c.k=0
  ·rw[if_pos h,Zn.of_cons];have e1:oneZ c=⟨1,1,zeroC,zeroC⟩:=by unfold oneZ;rw[if_pos h]
   rw[e1,Zn.QF rfl];exact⟨i1,i2,i3,i4⟩
  ·rw[if_neg h,Zn.of_cons,Zn.of_cons];have e1:oneZ c=⟨1,0,c,c⟩:=by unfold oneZ;rw[if_neg h]
   have hne:(oneZ c).cnt≠(oneZ c).nul:=by rw[e1];simp
   have hn2:(joinZ (oneZ c) (ofZ (someL l))).nul=0:=by rw[Zn.Qa0,i4,e1];rfl
   have hc2:(joinZ (oneZ c) (ofZ (someL l))).cnt=((c :: someL l).length:Nat):=by rw[Zn.Qbg,i3,e1,List.length_cons];simp only;omega
   have hcn:=Qa8 l;have hof:=Zn.QdP l;have hon:=Qi6 l;by_cases hs:someL l=[]
   ·rw[hs]at i1 i2 i3 i4 hcn hn2 hc2;have k1:(ofZ l).cnt=(ofZ l).nul:=by rw[hof,hon];simp at hcn;omega
    have k2:(ofZ ([]:List Cel)).cnt=(ofZ ([]:List Cel)).nul:=rfl;rw[hs];refine⟨?_,?_,hc2,hn2⟩
    ·rw[Zn.QA hne k1,Zn.QA hne k2]
    ·rw[Zn.QA hne k1,Zn.QA hne k2]
   ·have hl:0<(someL l).length:=List.length_pos_iff.2 hs;have k1:(ofZ l).cnt≠(ofZ l).nul:=by rw[hof,hon];omega
    have k2:(ofZ (someL l)).cnt≠(ofZ (someL l)).nul:=by rw[i3,i4];omega
    refine⟨?_,?_,hc2,hn2⟩
    ·rw[Zn.Qs hne k1,Zn.Qs hne k2,i1]
    ·rw[Zn.Qs hne k1,Zn.Qs hne k2,i2]
theorem QiY{kind:Int}:∀{l:List Cel},firstE kind l=0↔∀c∈l,cellE c=0∧(c.k=kind∨c.k=0)
 | []=>by simp[firstE]
 |c :: l=>by
  rw[firstE];by_cases h1:cellE c=0
  ·rw[if_neg (by simp[h1])];by_cases h2:c.k≠kind∧c.k≠0
   ·rw[if_pos h2]
    constructor
    ·intro h;cases h
    ·intro h;have:=(h c (List.mem_cons_self ..)).2;omega
   ·rw[if_neg h2,QiY]
    constructor
    ·intro h x hx;rcases List.mem_cons.1 hx with rfl|hx
     ·exact⟨h1,by omega⟩
     ·exact h x hx
    ·intro h x hx;exact h x (List.mem_cons_of_mem _ hx)
  ·rw[if_pos h1]
   constructor
   ·intro h;exact absurd h h1
   ·intro h;exact absurd (h c (List.mem_cons_self ..)).1 h1
structure Col (kind:Int) (l:List Cel):Prop where
 k1:1≤kind
 k3:kind≤3
 few:l.length≤4096
 ok:∀c∈l,cellE c=0∧(c.k=kind∨c.k=0)
theorem QbW{kind:Int}{l:List Cel}:checkS kind l=0↔Col kind l:=by
 unfold checkS;by_cases h1:kind<1∨3<kind
 ·rw[if_pos h1];exact⟨(fun h=>by cases h),fun h=>by have:=h.k1;have:=h.k3;omega⟩
 ·rw[if_neg h1];by_cases h2:4096<l.length
  ·rw[if_pos h2];exact⟨(fun h=>by cases h),fun h=>by have:=h.few;omega⟩
  ·rw[if_neg h2,QiY];exact⟨fun h=>⟨by omega,by omega,by omega,h⟩,fun h=>h.ok⟩
theorem Qe9{kind:Int}{l:List Cel}(h:Col kind l):putS kind l=(0,encS kind l):=by
 unfold putS;rw[if_neg (by rw[QbW.2 h];simp)]
theorem put_e(kind:Int)(l:List Cel):(putS kind l).1=checkS kind l:=by
 unfold putS;by_cases h0:checkS kind l=0
 ·rw[if_neg (by simp[h0]),h0]
 ·rw[if_pos h0]
structure CelOk (kind:Int) (c:Cel):Prop where
 k:c.k=kind
 ok:cellE c=0
theorem QaM{c:Cel}(h:cellE c=0):c.s.size≤65536:=by
 unfold cellE at h;by_cases h1:65536<c.s.size
 ·rw[if_pos h1]at h;cases h
 ·omega
theorem QcG{c:Cel}(h:cellE c=0):(c.k=0∧c.n=0∧c.s=⟨#[]⟩)∨(c.k=1∧c.s=⟨#[]⟩)∨(c.k=2∧(c.n=0∨c.n=1)∧c.s=⟨#[]⟩)∨(c.k=3∧c.n=0):=by
 unfold cellE at h;by_cases h1:65536<c.s.size
 ·rw[if_pos h1]at h;cases h
 ·rw[if_neg h1]at h;by_cases h2:(c.k=0∧c.n=0∧c.s=⟨#[]⟩)∨(c.k=1∧c.s=⟨#[]⟩)∨(c.k=2∧(c.n=0∨c.n=1)∧c.s=⟨#[]⟩)∨(c.k=3∧c.n=0)
  ·exact h2
  ·rw[if_neg h2]at h;cases h
theorem QfG{c:Cel}(h:c.s.size≤65536)(h2:(c.k=0∧c.n=0∧c.s=⟨#[]⟩)∨(c.k=1∧c.s=⟨#[]⟩)∨(c.k=2∧(c.n=0∨c.n=1)∧c.s=⟨#[]⟩)∨(c.k=3∧c.n=0)):cellE c=0:=by
 unfold cellE;rw[if_neg (by omega),if_pos h2]
def IntOk(l:List Cel):Prop:=∀c∈l,-9223372036854775808≤c.n∧c.n≤9223372036854775807
def readCell(kind:Int)(r:List Int):Option (Cel×List Int):=
 if kind=1 then(if r.length<8 then none else some (⟨1,sg (Oct.ofB (r.take 8)),⟨#[]⟩⟩,r.drop 8))
 else if kind=2 then(match r with
  | []=>none
  |v :: t=>if 1<v then none else some (⟨2,v,⟨#[]⟩⟩,t))
 else(match readS r with
  |none=>none
  |some (s,t)=>some (⟨3,0,strOfNums s⟩,t))
theorem Qdj{kind:Int}(h1:1≤kind)(h3:kind≤3){b:List Int}(hb:Oct.IsB b){c:Cel}{r:List Int}(h:readCell kind b=some (c,r)):CelOk kind c∧b=cellB c++r∧(-9223372036854775808≤c.n∧c.n≤9223372036854775807):=by
 unfold readCell at h;by_cases e1:kind=1
 ·rw[if_pos e1]at h;by_cases hl:b.length<8
  ·rw[if_pos hl]at h;cases h
  ·rw[if_neg hl]at h;obtain⟨rfl,rfl⟩:=Prod.mk.inj (Option.some.inj h);have ht:(b.take 8).length=8:=by rw[List.length_take];omega
   have hb8:Oct.IsB (b.take 8):=fun x hx=>hb x (List.mem_of_mem_take hx)
   have hd:=In.QaG _ hb8 ht;refine⟨⟨e1.symm,QfG (by show(0:Nat)≤65536;omega) (.inr (.inl ⟨rfl,rfl⟩))⟩,?_,In.sg_bd _ hd.1 hd.2⟩
   show b=num8 (sg (Oct.ofB (b.take 8)))++b.drop 8
   rw[In.Qft _ hb8 ht,List.take_append_drop]
 ·rw[if_neg e1]at h;by_cases e2:kind=2
  ·rw[if_pos e2]at h;cases b with
   |nil=>cases h
   |cons v t=>
    dsimp only at h;by_cases hv:1<v
    ·rw[if_pos hv]at h;cases h
    ·rw[if_neg hv]at h;obtain⟨rfl,rfl⟩:=Prod.mk.inj (Option.some.inj h);have h0:=hb v (List.mem_cons_self ..);refine⟨⟨e2.symm,QfG (by show(0:Nat)≤65536;omega) (.inr (.inr (.inl ⟨rfl,(by show v=0∨v=1;omega),rfl⟩)))⟩,rfl,?_⟩
     show -9223372036854775808≤v∧v≤9223372036854775807
     omega
  ·rw[if_neg e2]at h;cases hr:readS b with
   |none=>rw[hr]at h;cases h
   |some p=>
    obtain⟨x,t⟩:=p;rw[hr]at h;obtain⟨rfl,rfl⟩:=Prod.mk.inj (Option.some.inj h);obtain⟨hx,he⟩:=Tx.Qgk hb hr;have hxb:Bs.IsB x:=fun y hy=>hb y (by rw[he];unfold strB;exact List.mem_append_left _ (List.mem_append_right _ hy))
    refine⟨⟨(by show(3:Int)=kind;omega),QfG (by rw[←Qb7,Qi8 x hxb];exact hx) (.inr (.inr (.inr ⟨rfl,rfl⟩)))⟩,?_,(by show -9223372036854775808≤(0:Int)∧(0:Int)≤9223372036854775807;omega)⟩
    show b=strB (nm (strOfNums x))++t
    rw[Qi8 x hxb];exact he
def headS:List Int→Option (Int×List Bool×Zon×List Int)
 | []=>none
 |k :: t=>if k<1∨3<k then none else match getN t with
  |none=>none
  |some (nl,r)=>if cnt nl=nl.length then some (k,nl,⟨(nl.length:Nat),(cnt nl:Nat),zeroC,zeroC⟩,r) else match readCell k r with
   |none=>none
   |some (a,r1)=>match readCell k r1 with
    |none=>none
    |some (b,r2)=>if 0<cmpC a b then none else some (k,nl,⟨(nl.length:Nat),(cnt nl:Nat),a,b⟩,r2)
def zoneS(s:List Int):Int×Zon×Int:=match headS s with
 |none=>(0,zeroZ,4)
 |some (k,_,z,_)=>(k,z,0)
theorem QiK{kind:Int}{l:List Cel}(h:Col kind l)(hs:someL l≠[]):CelOk kind (ofZ l).min∧CelOk kind (ofZ l).max∧(ofZ l).min∈l∧(ofZ l).max∈l∧¬0<cmpC (ofZ l).min (ofZ l).max:=by
 have hh:=holds_of l;have hl:0<(someL l).length:=List.length_pos_iff.2 hs;have hc:=Qa8 l;have hne:(ofZ l).cnt≠(ofZ l).nul:=by rw[Zn.QdP,Qi6];omega
 obtain⟨m1,m2⟩:=hh.mins hne;obtain⟨x1,x2⟩:=hh.maxs hne;have hle:=(hh.has _ m1 m2).2.2;unfold Le at hle;exact⟨⟨(h.ok _ m1).2.resolve_right m2,(h.ok _ m1).1⟩,⟨(h.ok _ x1).2.resolve_right x2,(h.ok _ x1).1⟩,m1,x1,by omega⟩
theorem Qa9{s:List Int}(hb:Oct.IsB s){k:Int}{nl:List Bool}{z:Zon}{r:List Int}(h:headS s=some (k,nl,z,r)) :
  1≤k∧k≤3∧nl.length≤4096∧z.cnt=(nl.length:Nat)∧z.nul=(cnt nl:Nat)∧checkE z k=0 ∧
  ((cnt nl=nl.length∧z.min=zeroC∧z.max=zeroC∧s=k :: (encN nl++r))∨(cnt nl≠nl.length∧CelOk k z.min∧CelOk k z.max∧s=k :: (encN nl++(cellB z.min++(cellB z.max++r))))):=by
 cases s with
 |nil=>cases h
 |cons k0 t=>
  rw[headS]at h;by_cases hk:k0<1∨3<k0
  ·rw[if_pos hk]at h;cases h
  ·rw[if_neg hk]at h;have hbt:Oct.IsB t:=fun x hx=>hb x (List.mem_cons_of_mem _ hx)
   cases hg:getN t with
   |none=>rw[hg]at h;cases h
   |some p=>
    obtain⟨nl0,r0⟩:=p;rw[hg]at h;dsimp only at h;obtain⟨hn,ht⟩:=Nu.Qa4 hbt hg;have hbr:Oct.IsB r0:=fun x hx=>hbt x (by rw[ht];exact List.mem_append_right _ hx)
    have hcl:=Nu.QaK nl0;by_cases hc:cnt nl0=nl0.length
    ·rw[if_pos hc]at h;obtain⟨q1,h2⟩:=Prod.mk.inj (Option.some.inj h);obtain⟨q2,h3⟩:=Prod.mk.inj h2;obtain⟨q3,q4⟩:=Prod.mk.inj h3;subst q1 q2 q3 q4;refine⟨by omega,by omega,hn,rfl,rfl,?_,.inl ⟨hc,rfl,rfl,by rw[ht]⟩⟩;unfold checkE;rw[if_neg (by omega),if_neg (by simp only;omega),if_neg (by rintro⟨_,e|e⟩ <;> rw[Zn.Qf2]at e <;> cases e),if_neg (by rintro⟨e,_⟩;exact e (by simp only;omega))]
    ·rw[if_neg hc]at h;cases ha:readCell k0 r0 with
     |none=>rw[ha]at h;cases h
     |some p=>
      obtain⟨a,r1⟩:=p;rw[ha]at h;dsimp only at h;obtain⟨oa,ea,_⟩:=Qdj (by omega) (by omega) hbr ha;have hbr1:Oct.IsB r1:=fun x hx=>hbr x (by rw[ea];exact List.mem_append_right _ hx)
      cases hb2:readCell k0 r1 with
      |none=>rw[hb2]at h;cases h
      |some p=>
       obtain⟨b,r2⟩:=p;rw[hb2]at h;dsimp only at h;obtain⟨ob,eb,_⟩:=Qdj (by omega) (by omega) hbr1 hb2;by_cases hle:0<cmpC a b
       ·rw[if_pos hle]at h;cases h
       ·rw[if_neg hle]at h;obtain⟨q1,h2⟩:=Prod.mk.inj (Option.some.inj h);obtain⟨q2,h3⟩:=Prod.mk.inj h2;obtain⟨q3,q4⟩:=Prod.mk.inj h3;subst q1 q2 q3 q4;refine⟨by omega,by omega,hn,rfl,rfl,?_,.inr ⟨hc,oa,ob,by rw[ht,ea,eb]⟩⟩;have hbd:Zn.boundB ⟨(nl0.length:Nat),(cnt nl0:Nat),a,b⟩ k0=true:=decide_eq_true ⟨⟨oa.k,oa.ok⟩,⟨ob.k,ob.ok⟩,by simp only;omega⟩;unfold checkE;rw[if_neg (by omega),if_neg (by simp only;omega),if_neg (by rintro⟨e,_⟩;simp only at e;omega),if_neg (by rintro⟨_,e⟩;rw[hbd]at e;cases e)]
end Sg
namespace Sg
open Go.RowKit
open Zn (Cel Zon zeroC zeroZ ofZ joinZ oneZ cmpC cellE checkE Le Holds holds_of)
open Nu (cnt encN getN)
open In (num8 sg u bestB getI)
open Tx (strB readS bestT getT)
open Pk (putR getR Fit)
open Is (IsI)
def cellsS(kind:Int)(n:Nat)(b:List Int):Option (List Cel):=
 if kind=1 then(if (getI b).1≠0∨(getI b).2.length≠n then none else some ((getI b).2.map fun v=>⟨1,v,⟨#[]⟩⟩))
 else if kind=2 then(if (getR b n 1).1≠0∨(getR b n 1).2.length≠n then none else some ((getR b n 1).2.map fun v=>⟨2,v,⟨#[]⟩⟩))
 else(match getT b with
  |none=>none
  |some L=>if L.length≠n then none else some (L.map fun s=>⟨3,0,strOfNums s⟩))
def mergeS:List Bool→List Cel→List Cel
 | [],_=>[]
 |true :: nl,l=>zeroC :: mergeS nl l
 |false :: nl,[]=>zeroC :: mergeS nl []
 |false :: nl,c :: l=>c :: mergeS nl l
def getS(s:List Int):Option (Int×List Cel):=match headS s with
 |none=>none
 |some (k,nl,_,r)=>match (if cnt nl=nl.length then some [] else cellsS k (nl.length-cnt nl) r) with
  |none=>none
  |some cs=>if putS k (mergeS nl cs)=(0,s) then some (k,mergeS nl cs) else none
theorem QpM{l:List Cel}(h:∀c∈l,CelOk 2 c):Fit 1 (l.map (·.n)):=fun x hx=>by
 obtain⟨c,hc,rfl⟩:=List.mem_map.1 hx;have hk:=(h c hc).k;rcases QcG (h c hc).ok with e|e|e|e
 ·omega
 ·omega
 ·have:=e.2.1;omega
 ·omega
theorem Col.some{kind:Int}{l:List Cel}(h:Col kind l):∀c∈someL l,CelOk kind c:=fun c hc=>by
 obtain⟨h1,h2⟩:=Qf3.1 hc;exact⟨(h.ok c h1).2.resolve_right h2,(h.ok c h1).1⟩
theorem QcC:∀(nl:List Bool) (cs:List Cel),∀c∈mergeS nl cs,c=zeroC∨c∈cs
 | [],_,c,h=>by cases h
 |true :: nl,cs,c,h=>by
  rw[mergeS]at h;rcases List.mem_cons.1 h with e|h
  ·exact .inl e
  ·exact QcC nl cs c h
 |false :: nl,[],c,h=>by
  rw[mergeS]at h;rcases List.mem_cons.1 h with e|h
  ·exact .inl e
  ·exact QcC nl [] c h
 |false :: nl,x :: cs,c,h=>by
  rw[mergeS]at h;rcases List.mem_cons.1 h with e|h
  ·exact .inr (e▸List.mem_cons_self ..)
  ·exact(QcC nl cs c h).imp id (List.mem_cons_of_mem _)
end Sg
end Go.Proofs.YtljanfnhmhimiaaGreat
