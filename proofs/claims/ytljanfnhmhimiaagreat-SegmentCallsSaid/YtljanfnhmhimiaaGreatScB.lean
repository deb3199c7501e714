/- Parts of the proof. -/
import Derived.Lib.Bytealg
set_option maxRecDepth 100000
set_option maxHeartbeats 8000000
namespace Go.Proofs.YtljanfnhmhimiaaGreat
namespace Zn
structure Tot {α:Type} (f:α→α→Int):Prop where
 range:∀a b,f a b=-1∨f a b=0∨f a b=1
 anti:∀a b,f a b=- f b a
 zero:∀a b,f a b=0↔a=b
 trans:∀a b c,f a b≤0→f b c≤0→f a c≤0
theorem Tot.lt_le{α:Type}{f:α→α→Int}(h:Tot f){a b c:α}(h1:f a b<0)(h2:f b c≤0):f a c<0:=by
 have h3:=h.trans a b c (by omega) h2;have h4:f a c≠0:=fun e=>by
  have:=(h.zero a c).1 e;subst this;have:=h.anti a b;omega
 omega
theorem Tot.self{α:Type}{f:α→α→Int}(h:Tot f)(a:α):f a a=0:=(h.zero a a).2 rfl
def cmpI(x y:Int):Int:=if x<y then -1 else if y<x then 1 else 0
theorem Qbb:Tot cmpI:=by
 constructor
 ·intro a b;unfold cmpI;split <;> (try split) <;> simp
 ·intro a b;unfold cmpI;split <;> (try split) <;> (try split) <;> omega
 ·intro a b;unfold cmpI;split <;> (try split) <;> omega
 ·intro a b c;unfold cmpI;split <;> (try split) <;> (try split) <;> (try split) <;> (try split) <;> (try split) <;> omega
def lex{α β:Type}(f:α→α→Int)(g:β→β→Int)(a b:α×β):Int:=if f a.1 b.1≠0 then f a.1 b.1 else g a.2 b.2
theorem Qkp{α β:Type}{f:α→α→Int}{g:β→β→Int}(hf:Tot f)(hg:Tot g):Tot (lex f g):=by
 constructor
 ·intro a b;unfold lex;split
  ·exact hf.range _ _
  ·exact hg.range _ _
 ·intro a b;unfold lex;have h1:=hf.anti a.1 b.1;have h2:=hg.anti a.2 b.2;by_cases h:f a.1 b.1=0
  ·rw[if_neg (by simpa using h),if_neg (by omega)];exact h2
  ·rw[if_pos h,if_pos (by omega)];exact h1
 ·intro a b;unfold lex;by_cases h:f a.1 b.1=0
  ·rw[if_neg (by simpa using h),hg.zero];exact⟨fun e=>Prod.ext ((hf.zero _ _).1 h) e,fun e=>by rw[e]⟩
  ·rw[if_pos h];exact⟨fun e=>absurd e h,fun e=>by rw[e];exact hf.self _⟩
 ·intro a b c h1 h2;unfold lex at h1 h2 ⊢;by_cases e1:f a.1 b.1=0
  ·rw[if_neg (by simpa using e1)]at h1;have e:=(hf.zero _ _).1 e1;rw[e];by_cases e2:f b.1 c.1=0
   ·rw[if_neg (by simpa using e2)]at h2 ⊢;exact hg.trans _ _ _ h1 h2
   ·rw[if_pos e2]at h2 ⊢;exact h2
  ·rw[if_pos e1]at h1;by_cases e2:f b.1 c.1=0
   ·have e:=(hf.zero _ _).1 e2;rw[←e,if_pos e1];exact h1
   ·rw[if_pos e2]at h2;have h3:=hf.lt_le (a:=a.1) (b:=b.1) (c:=c.1) (by omega) h2;rw[if_pos (by omega)];omega
theorem u8_lt{a b:UInt8}:a<b↔a.toNat<b.toNat:=UInt8.lt_iff_toNat_lt
theorem u8_eq{a b:UInt8}(h:a.toNat=b.toNat):a=b:=UInt8.toNat_inj.1 h
open Lib (compareBytes)
theorem Qcp(a b:UInt8)(l m:List UInt8):compareBytes (a :: l) (b :: m)=lex cmpI compareBytes ((a.toNat:Int),l) ((b.toNat:Int),m):=by
 rw[compareBytes];unfold lex cmpI;simp only[u8_lt];by_cases h1:a.toNat<b.toNat
 ·have:(a.toNat:Int)<b.toNat:=by omega
  simp[h1,this]
 ·by_cases h2:b.toNat<a.toNat
  ·have h3:(b.toNat:Int)<a.toNat:=by omega
   have h4:¬(a.toNat:Int)<b.toNat:=by omega
   simp[h1,h2,h3,h4]
  ·have h3:¬(b.toNat:Int)<a.toNat:=by omega
   have h4:¬(a.toNat:Int)<b.toNat:=by omega
   simp[h1,h2,h3,h4]
theorem QiZ:∀a b,compareBytes a b=-1∨compareBytes a b=0∨compareBytes a b=1
 | [],[]=>by simp[compareBytes]
 | [],_ :: _=>by simp[compareBytes]
 |_ :: _,[]=>by simp[compareBytes]
 |a :: l,b :: m=>by
  rw[Qcp];unfold lex
  split
  ·exact Qbb.range _ _
  ·exact QiZ l m
theorem QkA:∀a b,compareBytes a b=- compareBytes b a
 | [],[]=>by simp[compareBytes]
 | [],_ :: _=>by simp[compareBytes]
 |_ :: _,[]=>by simp[compareBytes]
 |a :: l,b :: m=>by
  rw[Qcp,Qcp];unfold lex;have h1:=Qbb.anti (a.toNat:Int) b.toNat;have h2:=QkA l m;simp only
  split <;> split <;> omega
theorem Qkm:∀a b,compareBytes a b=0↔a=b
 | [],[]=>by simp[compareBytes]
 | [],_ :: _=>by simp[compareBytes]
 |_ :: _,[]=>by simp[compareBytes]
 |a :: l,b :: m=>by
  rw[Qcp];unfold lex;have h1:=Qbb.zero (a.toNat:Int) b.toNat;have h2:=Qkm l m;simp only;by_cases h:cmpI (a.toNat:Int) b.toNat=0
  ·rw[if_neg (by simpa using h),h2];have e:=u8_eq (show a.toNat=b.toNat by have:=h1.1 h;omega);rw[e];simp
  ·rw[if_pos h];refine⟨fun e=>absurd e h,fun e=>?_⟩
   injection e with e1 e2
   exact h1.2 (by rw[e1])
theorem Qjy:∀a b c,compareBytes a b≤0→compareBytes b c≤0→compareBytes a c≤0
 | [],_,[]=>by simp[compareBytes]
 | [],_,_ :: _=>by simp[compareBytes]
 |_ :: _,[],_=>by simp[compareBytes]
 |_ :: _,_ :: _,[]=>by simp[compareBytes]
 |a :: l,b :: m,c :: n=>by
  have ih:=Qjy l m n;rw[Qcp,Qcp,Qcp];intro h1 h2;unfold lex at h1 h2 ⊢;simp only at h1 h2 ⊢;by_cases e1:cmpI (a.toNat:Int) b.toNat=0
  ·rw[if_neg (by simpa using e1)]at h1;have e:=(Qbb.zero _ _).1 e1;rw[e];by_cases e2:cmpI (b.toNat:Int) c.toNat=0
   ·rw[if_neg (by simpa using e2)]at h2 ⊢;exact ih h1 h2
   ·rw[if_pos e2]at h2 ⊢;exact h2
  ·rw[if_pos e1]at h1;by_cases e2:cmpI (b.toNat:Int) c.toNat=0
   ·have e:=(Qbb.zero _ _).1 e2;rw[←e,if_pos e1];exact h1
   ·rw[if_pos e2]at h2;have h3:=Qbb.lt_le (a:=(a.toNat:Int)) (b:=(b.toNat:Int)) (c:=(c.toNat:Int)) (by omega) h2;rw[if_pos (by omega)];omega
def cmpS(s t:ByteArray):Int:=compareBytes s.data.toList t.data.toList
theorem Qem:Tot cmpS:=by
 refine⟨fun _ _=>QiZ _ _,fun _ _=>QkA _ _,fun s t=>?_,fun _ _ _=>Qjy _ _ _⟩;unfold cmpS;rw[Qkm];refine⟨fun h=>?_,fun h=>by rw[h]⟩;apply ByteArray.ext
 exact Array.ext' h
structure Cel where
 k:Int
 n:Int
 s:ByteArray
theorem Cel.ext'{a b:Cel}(h1:a.k=b.k)(h2:a.n=b.n)(h3:a.s=b.s):a=b:=by
 cases a;cases b;simp only at h1 h2 h3;rw[h1,h2,h3]
def zeroC:Cel:=⟨0,0,⟨#[]⟩⟩
def orI(a b c:Int):Int:=if a≠0 then a else if b≠0 then b else c
def cmpC(a b:Cel):Int:=orI (cmpI a.k b.k) (cmpI a.n b.n) (cmpS a.s b.s)
theorem Qdd(a b:Cel):cmpC a b=lex cmpI (lex cmpI cmpS) (a.k,a.n,a.s) (b.k,b.n,b.s):=rfl
theorem Qav:Tot cmpC:=by
 have h:=Qkp Qbb (Qkp Qbb Qem);refine⟨fun a b=>by rw[Qdd];exact h.range _ _,fun a b=>by rw[Qdd,Qdd];exact h.anti _ _,fun a b=>?_,fun a b c h1 h2=>by rw[Qdd]at h1 h2 ⊢;exact h.trans _ _ _ h1 h2⟩;rw[Qdd,h.zero];refine⟨fun e=>?_,fun e=>by rw[e]⟩
 injection e with e1 e2
 injection e2 with e2 e3
 exact Cel.ext' e1 e2 e3
def eqC(a b:Cel):Bool:=decide (a.k=b.k∧a.n=b.n∧a.s=b.s)
theorem Qc1{a b:Cel}:eqC a b=true↔a=b:=by
 unfold eqC;rw[decide_eq_true_iff];exact⟨fun⟨x,y,z⟩=>Cel.ext' x y z,fun e=>by rw[e];exact⟨rfl,rfl,rfl⟩⟩
theorem Qf2(a:Cel):eqC a a=true:=Qc1.2 rfl
def opB(op o:Int):Bool:=if op=1 then o==0 else if op=2 then o != 0 else if op=3 then decide (o<0) else if op=4 then decide (o≤0) else if op=5 then decide (0<o) else if op=6 then decide (0≤o) else false
def isB(op:Int)(a b:Cel):Bool:=decide (a.k≠0∧a.k=b.k) && opB op (cmpC a b)
structure Zon where
 cnt:Int
 nul:Int
 min:Cel
 max:Cel
def zeroZ:Zon:=⟨0,0,zeroC,zeroC⟩
def oneZ(c:Cel):Zon:=if c.k=0 then⟨1,1,zeroC,zeroC⟩ else⟨1,0,c,c⟩
def joinZ(a b:Zon):Zon:=
 if a.cnt=a.nul then⟨a.cnt+b.cnt,a.nul+b.nul,b.min,b.max⟩
 else⟨a.cnt+b.cnt,a.nul+b.nul,if b.cnt=b.nul∨cmpC a.min b.min<0 then a.min else b.min,if b.cnt=b.nul∨0<cmpC a.max b.max then a.max else b.max⟩
def ofZ(l:List Cel):Zon:=l.foldl (fun z c=>joinZ z (oneZ c)) zeroZ
theorem Qjt(l:List Cel)(c:Cel):ofZ (l++[c])=joinZ (ofZ l) (oneZ c):=by simp[ofZ]
def eqZ(a b:Zon):Bool:=decide (a.cnt=b.cnt∧a.nul=b.nul) && (eqC a.min b.min && eqC a.max b.max)
theorem QoO{a b:Zon}:eqZ a b=true↔a=b:=by
 unfold eqZ;rw[Bool.and_eq_true,Bool.and_eq_true,Qc1,Qc1,decide_eq_true_iff]
 constructor
 ·rintro⟨⟨h1,h2⟩,h3,h4⟩;cases a;cases b;simp only at h1 h2 h3 h4;rw[h1,h2,h3,h4]
 ·rintro rfl;exact⟨⟨rfl,rfl⟩,rfl,rfl⟩
theorem QnJ(a:Zon):eqZ a a=true:=QoO.2 rfl
structure Good (z:Zon):Prop where
 nul:0≤z.nul
 le:z.nul≤z.cnt
 none:z.cnt=z.nul→z.min=zeroC∧z.max=zeroC
theorem QmC:Good zeroZ:=⟨by decide,by decide,fun _=>⟨rfl,rfl⟩⟩
theorem Qdb(c:Cel):Good (oneZ c):=by
 unfold oneZ
 split
 ·exact⟨by decide,by decide,fun _=>⟨rfl,rfl⟩⟩
 ·exact⟨Int.le_refl _,by simp,fun e=>by simp at e⟩
theorem Qbg(a b:Zon):(joinZ a b).cnt=a.cnt+b.cnt:=by unfold joinZ;split <;> rfl
theorem Qa0(a b:Zon):(joinZ a b).nul=a.nul+b.nul:=by unfold joinZ;split <;> rfl
theorem QeR{a b:Zon}(ha:Good a)(hb:Good b):Good (joinZ a b):=by
 have h1:=ha.nul;have h2:=ha.le;have h3:=hb.nul;have h4:=hb.le;refine⟨by rw[Qa0];omega,by rw[Qa0,Qbg];omega,fun e=>?_⟩;rw[Qa0,Qbg]at e;have e1:a.cnt=a.nul:=by omega
 have e2:b.cnt=b.nul:=by omega
 unfold joinZ;rw[if_pos e1];exact hb.none e2
theorem QF{a b:Zon}(h:a.cnt=a.nul):joinZ a b=⟨a.cnt+b.cnt,a.nul+b.nul,b.min,b.max⟩:=by unfold joinZ;rw[if_pos h]
theorem QA{a b:Zon}(h:a.cnt≠a.nul)(k:b.cnt=b.nul):joinZ a b=⟨a.cnt+b.cnt,a.nul+b.nul,a.min,a.max⟩:=by unfold joinZ;rw[if_neg h,if_pos (.inl k),if_pos (.inl k)]
def minC(a b:Cel):Cel:=if cmpC a b<0 then a else b
def maxC(a b:Cel):Cel:=if 0<cmpC a b then a else b
theorem Qs{a b:Zon}(h:a.cnt≠a.nul)(k:b.cnt≠b.nul):joinZ a b=⟨a.cnt+b.cnt,a.nul+b.nul,minC a.min b.min,maxC a.max b.max⟩:=by
 unfold joinZ minC maxC;rw[if_neg h];simp[k]
theorem Qnb(a b:Cel):minC a b=minC b a:=by
 unfold minC;have h1:=Qav.anti a b;by_cases h:cmpC a b<0
 ·rw[if_pos h,if_neg (by omega)]
 ·rw[if_neg h]
  split
  ·rfl
  ·exact((Qav.zero a b).1 (by omega)).symm
theorem QmX(a b:Cel):maxC a b=maxC b a:=by
 unfold maxC;have h1:=Qav.anti a b;by_cases h:0<cmpC a b
 ·rw[if_pos h,if_neg (by omega)]
 ·rw[if_neg h]
  split
  ·rfl
  ·exact((Qav.zero a b).1 (by omega)).symm
def Le(a b:Cel):Prop:=cmpC a b≤0
theorem Le.refl(a:Cel):Le a a:=by unfold Le;rw[Qav.self];exact Int.le_refl _
theorem Le.trans{a b c:Cel}(h:Le a b)(k:Le b c):Le a c:=Qav.trans _ _ _ h k
theorem Le.anti{a b:Cel}(h:Le a b)(k:Le b a):a=b:=by
 unfold Le at h k;have:=Qav.anti a b;exact(Qav.zero a b).1 (by omega)
theorem QbH(a b:Cel):Le (minC a b) a:=by
 unfold minC
 split
 ·exact Le.refl a
 ·unfold Le;have:=Qav.anti a b;omega
theorem QbK(a b:Cel):Le (minC a b) b:=by rw[Qnb];exact QbH b a
theorem Qda(a b:Cel):minC a b=a∨minC a b=b:=by unfold minC;split <;> simp
theorem QbC(a b:Cel):Le a (maxC a b):=by
 unfold maxC
 split
 ·exact Le.refl a
 ·unfold Le;omega
theorem QbI(a b:Cel):Le b (maxC a b):=by rw[QmX];exact QbC b a
theorem Qdc(a b:Cel):maxC a b=a∨maxC a b=b:=by unfold maxC;split <;> simp
theorem QlG{a b m:Cel}(h1:Le m a)(h2:Le m b)(h3:m=a∨m=b):m=minC a b:=by
 refine Le.anti ?_ ?_
 ·rcases Qda a b with e|e <;> rw[e] <;> assumption
 ·rcases h3 with e|e <;> rw[e]
  ·exact QbH a b
  ·exact QbK a b
theorem Qll{a b m:Cel}(h1:Le a m)(h2:Le b m)(h3:m=a∨m=b):m=maxC a b:=by
 refine Le.anti ?_ ?_
 ·rcases h3 with e|e <;> rw[e]
  ·exact QbC a b
  ·exact QbI a b
 ·rcases Qdc a b with e|e <;> rw[e] <;> assumption
theorem QlB(a b c:Cel):minC (minC a b) c=minC a (minC b c):=by
 refine QlG ((QbH _ _).trans (QbH _ _)) ?_ ?_
 ·rcases Qda b c with e|e <;> rw[e]
  ·exact(QbH _ _).trans (QbK _ _)
  ·exact QbK _ _
 ·rcases Qda (minC a b) c with e|e
  ·rcases Qda a b with e2|e2
   ·left;rw[e,e2]
   ·right
    refine Le.anti ?_ ?_
    ·rcases Qda b c with e3|e3 <;> rw[e3]
     ·exact(QbH _ _).trans (QbK _ _)
     ·exact QbK _ _
    ·rw[e,e2];exact QbH _ _
  ·right
   refine Le.anti ?_ ?_
   ·rcases Qda b c with e3|e3 <;> rw[e3]
    ·exact(QbH _ _).trans (QbK _ _)
    ·exact QbK _ _
   ·rw[e];exact QbK _ _
theorem QkT(a b c:Cel):maxC (maxC a b) c=maxC a (maxC b c):=by
 refine Qll ((QbC _ _).trans (QbC _ _)) ?_ ?_
 ·rcases Qdc b c with e|e <;> rw[e]
  ·exact(QbI _ _).trans (QbC _ _)
  ·exact QbI _ _
 ·rcases Qdc (maxC a b) c with e|e
  ·rcases Qdc a b with e2|e2
   ·left;rw[e,e2]
   ·right
    refine Le.anti ?_ ?_
    ·rw[e,e2];exact QbC _ _
    ·rcases Qdc b c with e3|e3 <;> rw[e3]
     ·exact(QbI _ _).trans (QbC _ _)
     ·exact QbI _ _
  ·right
   refine Le.anti ?_ ?_
   ·rw[e];exact QbI _ _
   ·rcases Qdc b c with e3|e3 <;> rw[e3]
    ·exact(QbI _ _).trans (QbC _ _)
    ·exact QbI _ _
theorem Qbz{a b:Zon}(h1:a.cnt=b.cnt)(h2:a.nul=b.nul)(h3:a.min=b.min)(h4:a.max=b.max):a=b:=by
 cases a;cases b;simp only at h1 h2 h3 h4;rw[h1,h2,h3,h4]
theorem Qme{a:Zon}(ha:Good a):joinZ a zeroZ=a:=by
 by_cases h:a.cnt=a.nul
 ·rw[QF h];obtain⟨x1,x2⟩:=ha.none h;exact Qbz (Int.add_zero _) (Int.add_zero _) x1.symm x2.symm
 ·rw[QA h rfl];exact Qbz (Int.add_zero _) (Int.add_zero _) rfl rfl
theorem QhU(a:Zon):joinZ zeroZ a=a:=by
 rw[QF rfl];exact Qbz (Int.zero_add _) (Int.zero_add _) rfl rfl
theorem QkS{a b c:Zon}(ha:Good a)(hb:Good b)(hc:Good c):joinZ (joinZ a b) c=joinZ a (joinZ b c):=by
 have a1:=ha.le;have b1:=hb.le;have c1:=hc.le;have hcnt:=Qbg a b;have hnul:=Qa0 a b;have hcnt2:=Qbg b c;have hnul2:=Qa0 b c;have ecnt:(joinZ (joinZ a b) c).cnt=(joinZ a (joinZ b c)).cnt:=by simp only[Qbg];omega
 have enul:(joinZ (joinZ a b) c).nul=(joinZ a (joinZ b c)).nul:=by simp only[Qa0];omega
 by_cases h:a.cnt=a.nul
 ·by_cases k:b.cnt=b.nul
  ·refine Qbz ecnt enul ?_ ?_
   ·rw[QF (show(joinZ a b).cnt=(joinZ a b).nul by omega),QF h,QF k,QF h]
   ·rw[QF (show(joinZ a b).cnt=(joinZ a b).nul by omega),QF h,QF k,QF h]
  ·have e:joinZ a (joinZ b c)=⟨_,_,(joinZ b c).min,(joinZ b c).max⟩:=QF h;by_cases m:c.cnt=c.nul
   ·refine Qbz ecnt enul ?_ ?_
    ·rw[e,QA (show(joinZ a b).cnt≠(joinZ a b).nul by omega) m,QF h,QA k m]
    ·rw[e,QA (show(joinZ a b).cnt≠(joinZ a b).nul by omega) m,QF h,QA k m]
   ·refine Qbz ecnt enul ?_ ?_
    ·rw[e,Qs (show(joinZ a b).cnt≠(joinZ a b).nul by omega) m,QF h,Qs k m]
    ·rw[e,Qs (show(joinZ a b).cnt≠(joinZ a b).nul by omega) m,QF h,Qs k m]
 ·have hn:(joinZ a b).cnt≠(joinZ a b).nul:=by omega
  by_cases k:b.cnt=b.nul
  ·by_cases m:c.cnt=c.nul
   ·have hm:(joinZ b c).cnt=(joinZ b c).nul:=by omega
    refine Qbz ecnt enul ?_ ?_
    ·rw[QA hn m,QA h k,QA h hm]
    ·rw[QA hn m,QA h k,QA h hm]
   ·have hm:(joinZ b c).cnt≠(joinZ b c).nul:=by omega
    refine Qbz ecnt enul ?_ ?_
    ·rw[Qs hn m,QA h k,Qs h hm,QF k]
    ·rw[Qs hn m,QA h k,Qs h hm,QF k]
  ·have hm:(joinZ b c).cnt≠(joinZ b c).nul:=by omega
   by_cases m:c.cnt=c.nul
   ·refine Qbz ecnt enul ?_ ?_
    ·rw[QA hn m,Qs h k,Qs h hm,QA k m]
    ·rw[QA hn m,Qs h k,Qs h hm,QA k m]
   ·refine Qbz ecnt enul ?_ ?_
    ·rw[Qs hn m,Qs h k,Qs h hm,Qs k m];exact QlB _ _ _
    ·rw[Qs hn m,Qs h k,Qs h hm,Qs k m];exact QkT _ _ _
theorem QhX:∀(l:List Cel) (z:Zon),Good z→Good (l.foldl (fun z c=>joinZ z (oneZ c)) z)
 | [],_,h=>h
 |c :: l,_,h=>QhX l _ (QeR h (Qdb c))
theorem Qd3(l:List Cel):Good (ofZ l):=QhX l _ QmC
theorem Qhl:∀(l:List Cel) (z:Zon),Good z→l.foldl (fun z c=>joinZ z (oneZ c)) z=joinZ z (ofZ l)
 | [],z,h=>(Qme h).symm
 |c :: l,z,h=>by
  rw[List.foldl_cons,Qhl l _ (QeR h (Qdb c))];have e:ofZ (c :: l)=joinZ (oneZ c) (ofZ l):=by
   unfold ofZ;rw[List.foldl_cons,QhU];exact Qhl l _ (Qdb c)
  rw[e,QkS h (Qdb c) (Qd3 l)]
theorem QpD(a b:List Cel):ofZ (a++b)=joinZ (ofZ a) (ofZ b):=by
 unfold ofZ;rw[List.foldl_append];exact Qhl b _ (Qd3 a)
theorem of_cons(c:Cel)(l:List Cel):ofZ (c :: l)=joinZ (oneZ c) (ofZ l):=by
 have h:=QpD [c] l;have e:ofZ [c]=oneZ c:=by unfold ofZ;rw[List.foldl_cons,QhU];rfl
 rw[e]at h;exact h
theorem Qg0(c:Cel):(oneZ c).cnt=1:=by unfold oneZ;split <;> rfl
theorem Qg7(c:Cel):(oneZ c).nul=if c.k=0 then 1 else 0:=by unfold oneZ;split <;> rfl
theorem QdP:∀l:List Cel,(ofZ l).cnt=l.length
 | []=>rfl
 |c :: l=>by rw[of_cons,Qbg,Qg0,QdP l,List.length_cons];omega
structure Holds (l:List Cel) (z:Zon):Prop where
 has:∀x∈l,x.k≠0→z.cnt≠z.nul∧Le z.min x∧Le x z.max
 mins:z.cnt≠z.nul→z.min∈l∧z.min.k≠0
 maxs:z.cnt≠z.nul→z.max∈l∧z.max.k≠0
theorem holds_of:∀l:List Cel,Holds l (ofZ l)
 | []=>⟨(fun _ h=>by cases h),(fun h=>absurd rfl h),(fun h=>absurd rfl h)⟩
 |c :: l=>by
  have ih:=holds_of l;have g:=Qd3 l;have g1:=Qdb c;rw[of_cons];by_cases hc:c.k=0
  ·have e1:oneZ c=⟨1,1,zeroC,zeroC⟩:=by unfold oneZ;rw[if_pos hc]
   have e:joinZ (oneZ c) (ofZ l)=⟨1+(ofZ l).cnt,1+(ofZ l).nul,(ofZ l).min,(ofZ l).max⟩:=by rw[e1,QF rfl]
   rw[e];refine⟨fun x hx hk=>?_,fun h=>?_,fun h=>?_⟩
   ·rcases List.mem_cons.1 hx with rfl|hx
    ·exact absurd hc hk
    ·have:=ih.has x hx hk;exact⟨by simp only;omega,this.2⟩
   ·have:=ih.mins (fun e=>h (by simp only;omega));exact⟨List.mem_cons_of_mem _ this.1,this.2⟩
   ·have:=ih.maxs (fun e=>h (by simp only;omega));exact⟨List.mem_cons_of_mem _ this.1,this.2⟩
  ·have e1:oneZ c=⟨1,0,c,c⟩:=by unfold oneZ;rw[if_neg hc]
   have hne:(oneZ c).cnt≠(oneZ c).nul:=by rw[e1];simp
   have gj:=QeR g1 g;have hjn:(joinZ (oneZ c) (ofZ l)).cnt≠(joinZ (oneZ c) (ofZ l)).nul:=by
    rw[Qbg,Qa0,e1];have:=g.le;simp only;omega
   by_cases hl:(ofZ l).cnt=(ofZ l).nul
   ·have e:joinZ (oneZ c) (ofZ l)=⟨(oneZ c).cnt+(ofZ l).cnt,(oneZ c).nul+(ofZ l).nul,c,c⟩:=by rw[QA hne hl,e1]
    rw[e]at hjn ⊢;refine⟨fun x hx hk=>?_,fun _=>⟨List.mem_cons_self ..,hc⟩,fun _=>⟨List.mem_cons_self ..,hc⟩⟩;rcases List.mem_cons.1 hx with rfl|hx
    ·exact⟨hjn,Le.refl _,Le.refl _⟩
    ·exact absurd hl (ih.has x hx hk).1
   ·have e:joinZ (oneZ c) (ofZ l)=⟨(oneZ c).cnt+(ofZ l).cnt,(oneZ c).nul+(ofZ l).nul,minC c (ofZ l).min,maxC c (ofZ l).max⟩:=by rw[Qs hne hl,e1]
    rw[e]at hjn ⊢;refine⟨fun x hx hk=>⟨hjn,?_⟩,fun _=>?_,fun _=>?_⟩
    ·rcases List.mem_cons.1 hx with rfl|hx
     ·exact⟨QbH _ _,QbC _ _⟩
     ·have:=ih.has x hx hk;exact⟨(QbK _ _).trans this.2.1,this.2.2.trans (QbI _ _)⟩
    ·rcases Qda c (ofZ l).min with e2|e2
     ·simp only[e2];exact⟨List.mem_cons_self ..,hc⟩
     ·simp only[e2];exact⟨List.mem_cons_of_mem _ (ih.mins hl).1,(ih.mins hl).2⟩
    ·rcases Qdc c (ofZ l).max with e2|e2
     ·simp only[e2];exact⟨List.mem_cons_self ..,hc⟩
     ·simp only[e2];exact⟨List.mem_cons_of_mem _ (ih.maxs hl).1,(ih.maxs hl).2⟩
def cellE(c:Cel):Int:=
 if 65536<c.s.size then 3
 else if (c.k=0∧c.n=0∧c.s=⟨#[]⟩)∨(c.k=1∧c.s=⟨#[]⟩)∨(c.k=2∧(c.n=0∨c.n=1)∧c.s=⟨#[]⟩)∨(c.k=3∧c.n=0) then 0 else 2
def boundB(z:Zon)(kind:Int):Bool:=decide ((z.min.k=kind∧cellE z.min=0)∧(z.max.k=kind∧cellE z.max=0)∧cmpC z.min z.max≤0)
def checkE(z:Zon)(kind:Int):Int:=
 if kind≠1∧kind≠2∧kind≠3 then 2
 else if z.nul<0∨z.cnt<z.nul then 2
 else if z.cnt=z.nul∧(eqC z.min zeroC=false∨eqC z.max zeroC=false) then 2
 else if z.cnt≠z.nul∧boundB z kind=false then 2
 else 0
end Zn
end Go.Proofs.YtljanfnhmhimiaaGreat
