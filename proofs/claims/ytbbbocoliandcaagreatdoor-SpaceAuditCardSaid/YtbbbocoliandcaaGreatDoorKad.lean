/- Parts of the proof. -/
import Derived.Test.YtbbbocoliandcaaGreatDoorKaA
import Derived.Test.YtbbbocoliandcaaGreatDoorKac
set_option maxRecDepth 100000
set_option maxHeartbeats 8000000
open Go.Lib (hid)
namespace Go.Proofs.YtbbbocoliandcaaGreatDoor
namespace Sp
open Go.RowKit Go.Shelf Bs Dv Gr
theorem extra:Builder.Extra Tryz.prog LayR.QdI where
 sizeBuilder:=by kernel_rfl
 liesBuilder:=by kernel_rfl
 t5:=LayR.repl.t5
 a5:=LayR.repl.a5
 z5:=LayR.repl.z5
 v5:=LayR.repl.v5
 infoByte:=by kernel_rfl
 cellsByte:=by kernel_rfl
 sizeByte:=by kernel_rfl
 neB5:=by decide
theorem fRepeat:LayR.QdI.f 105=73:=by kernel_rfl
theorem below_grown{w w':World}(h:Below w.heap.size w w'):w.grownBy w' none:=⟨h.os,h.tape,h.output,h.size,fun k hk _=>h.block k hk⟩
theorem Qgr(n:Nat)(hn:n≤1000000)(w:World):Calls Tryz.prog 73 #[.string ⟨#[0]⟩,.int .i64 (n:Int)] w fun e w'=>e=.returned (.string (strOfNums (rep n 0)))∧w.grownBy w' none:=by
 have h:=Any.strings_Repeat LayR.repl extra ⟨#[0]⟩ n w (by omega) (by show 1*n≤_;omega);rw[fRepeat]at h;refine h.mono fun e w' ⟨he,hw⟩=>⟨?_,below_grown hw⟩
 rw[he];have e1:Lib.repeatL (ByteArray.mk #[0]).data.toList n=List.replicate n 0:=by
  have:=Lib.repeatL_replicate 0 1 n;rw[Nat.mul_one]at this;exact this
 rw[e1];unfold strOfNums rep;rw[List.map_replicate]
 rfl
end Sp
namespace Sp
open Go.RowKit Bs Dv Gr
open Cn (CN CC CnOk IsC Qm pagesL eachC newC freeC)
open Su (Sup SupOk GeoOk getS putS supE Valid pagesF)
open Fr (blk)
def firstN(size n:Nat):Nat:=(pagesF size n).toNat
def firstL(size n:Nat):List Nat:=(freeL [] (newC n)).take (firstN size n)
def firstC(size n:Nat):List Int:=setAll (newC n) (firstL size n) 1
def firstS(size n:Nat):Sup:=⟨1,size,n,0,ints (firstL size n)⟩
def blank(size n:Nat):Dv.St:=((St.fresh size n (zeros size n)).write ((1:Nat):Int) (rep size 0)).2
def firstW(size n:Nat):List (Nat×List Int):=cntW (firstS size n) (pagesL (eachC size) n (firstC size n))
def firstR(size n:Nat):Int×Dv.St:=saveR (blank size n) (firstW size n) 0 (putS (firstS size n)).1
def firstP(size n:Nat):SpS:=⟨(firstR size n).2,firstS size n,firstC size n,firstC size n,none,0⟩
section
variable {size n : Nat}
theorem QX(h:GeoOk size n):128≤size∧size≤4096∧size % 64=0∧8≤n∧n≤4096:=by unfold GeoOk at h;omega
theorem Qih(hn:2≤n)(j:Nat):(newC n).getD j 0=if j<2 then 1 else 0:=by rw[Cn.QfK];exact Cn.QkT n 2 j hn
theorem QZ(hn:2≤n):(newC n).length=n:=by rw[Cn.QfK];exact Cn.QdG n 2 hn
theorem Qcp(hn:2≤n){i:Nat}:i∈freeL [] (newC n)↔2≤i∧i<n:=by
 rw[Qbz];unfold freeC;rw[QZ hn,Qih hn]
 constructor
 ·intro h;exact⟨h.1,h.2.1⟩
 ·intro h;rw[if_neg (by omega)];exact⟨h.1,h.2,rfl,rfl⟩
theorem QbY(hn:2≤n):(freeL [] (newC n)).length=n-2:=by
 have hnd:(freeL [] (newC n)).Nodup:=(QaK _ _).imp (fun h=>Nat.ne_of_lt h);have h1:=QaT n (freeL [] (newC n)) hnd (fun i hi=>((Qcp hn).1 hi).2);have h2:=QaT n [0,1] (by simp) (fun i hi=>by simp at hi;omega);have h3:(List.range n).countP (fun i=>decide (i∈freeL [] (newC n)))+(List.range n).countP (fun i=>decide (i∈[0,1]))=n:=by
  have h4:=List.length_eq_countP_add_countP (fun i=>decide (i∈freeL [] (newC n))) (l:=List.range n);rw[List.length_range]at h4;have h5:(List.range n).countP (fun i=>decide (i∈[0,1]))=(List.range n).countP (fun i=>decide ¬(decide (i∈freeL [] (newC n)))=true):=by
   refine List.countP_congr fun i hi=>?_
   have hi:=List.mem_range.1 hi;rw[decide_eq_true_iff,decide_eq_true_iff,decide_eq_true_iff,Qcp hn];simp;omega
  rw[h5];exact h4.symm
 have h6:[0,1].length=2:=rfl;omega
theorem Qa9(h:GeoOk size n):1≤firstN size n∧firstN size n≤74∧2*firstN size n+2≤n∧(firstN size n:Int)=pagesF size n:=by
 have h1:=Su.Qz h;have h2:=Su.QdJ h;have h3:=QX h;have h4:(firstN size n:Int)=pagesF size n:=by unfold firstN;omega
 have h5:(pagesF size n-1)*112≤(pagesF size n-1)*Fr.room size:=Int.mul_le_mul_of_nonneg_left h2 (by omega);omega
theorem QaI(h:GeoOk size n):(firstL size n).length=firstN size n:=by
 unfold firstL;rw[List.length_take,QbY (by have:=QX h;omega)];have:=Qa9 h;omega
theorem Qbb(h:GeoOk size n){i:Nat}(hi:i∈firstL size n):2≤i∧i<n:=(Qcp (by have:=QX h;omega)).1 (List.mem_of_mem_take hi)
theorem Qdn:(firstL size n).Nodup:=((QaK _ _).imp (fun h=>Nat.ne_of_lt h)).sublist (List.take_sublist _ _)
theorem Qcz(h:GeoOk size n)(j:Nat):(firstC size n).getD j 0=if j∈firstL size n then 1 else if j<2 then 1 else 0:=by
 have h3:=QX h;unfold firstC;rw[Qam 1 (firstL size n) (newC n) j (fun i hi=>by rw[QZ (by omega)];exact(Qbb h hi).2),Qih (by omega)]
theorem QaX(h:GeoOk size n):CnOk size n (firstC size n):=Qcg (by omega) (firstL size n) (newC n) (fun i hi=>(Qbb h hi).1) (Cn.QfJ h)
theorem QcK{l:List Nat}{p:Int}(hp:p∈ints l):∃i∈l,p=(i:Int):=by
 obtain⟨i,hi,e⟩:=List.mem_map.1 hp;exact⟨i,hi,e.symm⟩
theorem Qjk{l:List Nat}{m:Nat}(h:m∈l):(m:Int)∈ints l:=List.mem_map.2 ⟨m,h,rfl⟩
theorem Qfv(kids:Nat→List Nat)(k:Nat):∀K,inS kids (fun _=>0) k K=0
 |0=>rfl
 |K+1=>by rw[inS,Qfv kids k K,if_neg (by omega)]
theorem QdV(h:GeoOk size n)(d:Dv.St)(hs:d.size=size)(hb:d.blocks=n):GoodC d (firstS size n).pages (firstC size n) []:=by
 have hz:dOf (ints (firstL size n)) (firstC size n)=fun _=>0:=by
  funext m
  unfold dOf;by_cases e:2≤m∧(m:Int)∉ints (firstL size n)
  ·rw[if_pos e,Qcz h,if_neg (fun q=>e.2 (Qjk q)),if_neg (by omega)]
   rfl
  ·rw[if_neg e]
 refine⟨by rw[hs,hb];exact QaX h,fun p hp=>?_,?_,fun m hm=>?_⟩
 ·obtain⟨i,hi,rfl⟩:=QcK hp;rw[Int.toNat_natCast,Qcz h,if_pos hi]
 ·show RefOk d.blocks (kidsOf d) [] (dOf (ints (firstL size n)) (firstC size n))
  rw[hz];exact⟨fun _ _=>rfl,fun k=>by rw[Qfv];rfl,⟨fun _=>0,fun m hm=>absurd hm (Nat.lt_irrefl 0)⟩⟩
 ·have hm:0<dOf (ints (firstL size n)) (firstC size n) m:=hm;rw[hz]at hm;exact absurd hm (Nat.lt_irrefl 0)
theorem Qka(k:Nat)(hk:0<k):(getS (rep k 0)).2≠0:=fun e=>by
 have h1:=Su.Qfs e;have h2:supE (getS (rep k 0)).1=0:=by rw[←Su.put_e,h1]
 rw[Su.Qr h2]at h1;have h3:=congrArg (fun q=>q.1.getD 0 5) h1;have h3:(blk (getS (rep k 0)).1.size.toNat 1 (getS (rep k 0)).1.gen (Su.dataS (getS (rep k 0)).1)).getD 0 5=(rep k 0).getD 0 5:=h3;rw[Fr.Qb6]at h3;obtain⟨j,rfl⟩:∃j,k=j+1:=⟨k-1,by omega⟩;have h4:(1:Int)=0:=h3;cases h4
theorem Qgi(h:GeoOk size n):Valid (firstS size n):=by
 have h1:=Qa9 h;refine⟨h,by show(1:Int)≠0;omega,.inl rfl,?_,fun p hp=>?_,?_⟩
 ·show((ints (firstL size n)).length:Int)=pagesF size n
  unfold ints;rw[List.length_map,QaI h];exact h1.2.2.2
 ·obtain⟨i,hi,rfl⟩:=QcK hp;have:=Qbb h hi;exact⟨by show 2≤(i:Int)∧(i:Int)<(n:Int);omega,by show(i:Int)≠0;omega⟩
 ·show(ints (firstL size n)).Nodup
  exact List.pairwise_map.2 (Qdn.imp fun hne=>by omega)
theorem Qbs(h:GeoOk size n):SupOk (firstS size n):=by
 have h3:=QX h;refine⟨by show 0≤(1:Int)∧(1:Int)<18446744073709551616;omega,by show 0≤(0:Int)∧(0:Int)<4294967296;omega,fun p hp=>?_⟩;obtain⟨i,hi,rfl⟩:=QcK hp;have:=Qbb h hi;omega
theorem QhF(h:GeoOk size n):(St.fresh size n (zeros size n)).Ok:=by
 have:=QX h;exact Qfq (by omega) (by omega) (by omega) (by omega) (by omega) (QeZ size n) (by unfold zeros;rw[List.length_replicate])
theorem Qaf(h:GeoOk size n):blank size n={ St.fresh size n (zeros size n) with ops:=1,pend:=[(1,rep size 0)] }:=by
 have:=QX h;unfold blank;rw[Qay (St.fresh size n (zeros size n)) 1 (rep size 0) rfl (by show 1<n;omega) (by unfold rep;rw[List.length_replicate];rfl)]
 rfl
theorem QgR(h:GeoOk size n):Dv.lastOf (blank size n).dur (blank size n).pend 1=rep size 0:=by
 rw[Qaf h];exact(Dv.Qck (zeros size n) [] (1,rep size 0) 1).trans (if_pos rfl)
theorem Qfd(h:GeoOk size n):(blank size n).Ok:=by
 have h1:=QhF h;rw[Qaf h];have:=QX h;refine⟨h1.lo,h1.hi,h1.by64,h1.blo,h1.bhi,h1.dlen,h1.dblk,fun p hp=>?_,h1.flo,h1.fhi,?_,?_⟩
 ·have hp:p=(1,rep size 0):=List.mem_singleton.1 hp;subst hp;exact⟨by show 1<n;omega,by show(rep size 0).length=size;unfold rep;exact List.length_replicate,Qec size 0 (by omega)⟩
 ·show 1≤1000000;omega
 ·show 1≤1000000;omega
theorem Qat(h:GeoOk size n):∀q∈firstW size n,2≤q.1∧q.1<n∧q.2.length=size∧Bs.IsB q.2:=by
 intro q hq;unfold firstW cntW at hq;obtain⟨i,hi,rfl⟩:=List.mem_map.1 hq;have hi:=List.mem_range.1 hi;have hpg:=Cn.Qai h (firstC size n) (QaX h).len;have h2:=Qa9 h;have hil:i<(firstL size n).length:=by rw[QaI h];omega
 have e1:(((firstS size n).pages.getD i 0)).toNat=(firstL size n).getD i 0:=by
  show((ints (firstL size n)).getD i 0).toNat=_
  unfold ints;rw[List.getD_eq_getElem?_getD,List.getD_eq_getElem?_getD,List.getElem?_map,List.getElem?_eq_getElem hil];exact Int.toNat_natCast _
 have hm:(firstL size n).getD i 0∈firstL size n:=by rw[List.getD_eq_getElem?_getD,List.getElem?_eq_getElem hil];exact List.getElem_mem hil
 have h3:=Qbb h hm;have hp:=countPage h (firstC size n) (QaX h).len i hi;have e2:(firstS size n).size.toNat=size:=Int.toNat_natCast _;refine⟨by show 2≤_;rw[e1];exact h3.1,by show _<n;rw[e1];exact h3.2,?_,?_⟩
 ·show(blk (firstS size n).size.toNat 2 _ _).length=size
  rw[e2];exact Fr.Qt _ _ _ _ (by omega)
 ·exact Fr.QaA _ _ _ _ (by decide) hp.2
theorem Qb9(h:GeoOk size n)(hE:supE (firstS size n)=0):((putS (firstS size n)).1).length=size∧Bs.IsB (putS (firstS size n)).1:=by
 have h3:=Su.Qar hE;have h4:=Su.QT h;have hdl:=Su.Qav (firstS size n);have hr:Fr.room (firstS size n).size=Fr.room (size:Int):=rfl;rw[Su.Qr hE];have e2:(firstS size n).size.toNat=size:=Int.toNat_natCast _;rw[e2];exact⟨Fr.Qt _ _ _ _ (by rw[hdl];omega),Fr.QaA _ _ _ _ (by decide) (Su.QaW _)⟩
theorem Qci(h:GeoOk size n)(hE:supE (firstS size n)=0):firstR size n=(0,commitD (blank size n) (firstW size n) 0 (putS (firstS size n)).1):=by
 have h1:=QX h;have hb:=Qaf h;exact Qd4 (by rw[hb];rfl) _ _ _ (fun q hq=>⟨by rw[hb];exact(Qat h q hq).2.1,by rw[hb];exact(Qat h q hq).2.2.1⟩) (by rw[hb];show 0<n;omega) (by rw[hb];exact(Qb9 h hE).1)
theorem QcZ(h:GeoOk size n)(hE:supE (firstS size n)=0):(firstR size n).2={ blank size n with ops:=(blank size n).ops+(firstW size n).length+3,dur:=(Dv.laid (blank size n).dur ((blank size n).pend++firstW size n)).set 0 (putS (firstS size n)).1,pend:=[] }:=by
 rw[Qci h hE];have h1:=QX h;have hb:=Qaf h;exact Qcy (by rw[hb];rfl) _ _ _ (fun q hq=>⟨by rw[hb];exact(Qat h q hq).2.1,by rw[hb];exact(Qat h q hq).2.2.1⟩) (by rw[hb];show 0<n;omega) (by rw[hb];exact(Qb9 h hE).1)
theorem Qgg(h:GeoOk size n)(hE:supE (firstS size n)=0)(m:Nat)(hm:m<n):(firstR size n).2.last m=if m=0 then(putS (firstS size n)).1 else Dv.lastOf (blank size n).dur ((blank size n).pend++firstW size n) m:=by
 rw[Qci h hE];have h1:=QX h;have hb:=Qaf h;exact QcY (Qfd h) (by rw[hb];rfl) _ _ _ (fun q hq=>⟨by rw[hb];exact(Qat h q hq).2.1,by rw[hb];exact(Qat h q hq).2.2.1⟩) (by rw[hb];show 0<n;omega) (by rw[hb];exact(Qb9 h hE).1) m (by rw[hb];exact hm)
theorem Qb8(h:GeoOk size n)(hE:supE (firstS size n)=0):(firstR size n).2.size=size∧(firstR size n).2.blocks=n∧(firstR size n).2.fuse=-1∧(firstR size n).2.pend=[]:=by
 rw[QcZ h hE,Qaf h];exact⟨rfl,rfl,rfl,rfl⟩
theorem QdU(h:GeoOk size n):(firstW size n).length=firstN size n:=by
 unfold firstW cntW;rw[List.length_map,List.length_range];have hpg:=Cn.Qai h (firstC size n) (QaX h).len;have h2:=Qa9 h;omega
theorem Qg1(h:GeoOk size n):(firstW size n).map (·.1)=firstL size n:=by
 have hw:=QdU h;unfold firstW cntW at hw ⊢;rw[List.map_map];rw[List.length_map,List.length_range]at hw;rw[hw];refine List.ext_getElem? fun i=>?_
 rw[List.getElem?_map];by_cases hi:i<firstN size n
 ·rw[List.getElem?_range hi];have hil:i<(firstL size n).length:=by rw[QaI h];exact hi
  show some ((ints (firstL size n)).getD i 0).toNat=_
  unfold ints;rw[List.getD_eq_getElem?_getD,List.getElem?_map,List.getElem?_eq_getElem hil];exact congrArg some (Int.toNat_natCast _)
 ·rw[List.getElem?_eq_none (by rw[List.length_range];omega),List.getElem?_eq_none (by rw[QaI h];omega)]
  rfl
theorem Qfn(h:GeoOk size n)(hE:supE (firstS size n)=0):SpOk (firstP size n) [] [] [] 0:=by
 have h1:=QX h;have h2:=Qa9 h;obtain⟨g1,g2,g3,g4⟩:=Qb8 h hE;have hlast:=Qgg h hE;have hpl:(firstS size n).pages.length=firstN size n:=by show(ints (firstL size n)).length=_;unfold ints;rw[List.length_map,QaI h]
 have hwn:=QdU h;have hpg:=Cn.Qai h (firstC size n) (QaX h).len;have hbi:=Qaf h;refine⟨?_,g3,⟨hE,Qbs h,by rw[show(firstP size n).dv=(firstR size n).2 from rfl,g1];rfl,by rw[show(firstP size n).dv=(firstR size n).2 from rfl,g2];rfl,.inl rfl,?_,?_,?_,fun i hi=>?_⟩,fun q hq=>?_,QdV h _ g1 g2,QdV h _ g1 g2,(fun m hm=>by cases hm),?_,.inl rfl,fun j=>?_,by show(1:Int)≤0+1;omega,?_,?_⟩
 ·show(firstR size n).2.Ok
  rw[QcZ h hE];have hb:=Qfd h;have hd:=Dv.QdD ((blank size n).pend++firstW size n) (blank size n).dur hb.dblk fun q hq=>by
   rcases List.mem_append.1 hq with z|z
   ·exact(hb.pblk q z).2
   ·have:=Qat h q z;rw[hbi];exact⟨this.2.2.1,this.2.2.2⟩
  refine⟨hb.lo,hb.hi,hb.by64,hb.blo,hb.bhi,by show((Dv.laid _ _).set _ _).length=_;rw[List.length_set,hd.2];exact hb.dlen,?_,(fun q hq=>by cases hq),hb.flo,hb.fhi,Nat.zero_le _,?_⟩
  ·have hp:=Qb9 h hE;refine Dv.Qco hd.1 _ ?_ hp.2;rw[hp.1,hbi]
   rfl
  ·show(blank size n).ops+(firstW size n).length+3≤_
   rw[hbi]
   show 1+(firstW size n).length+3≤_
   omega
 ·show(firstR size n).2.last 0=_
  rw[hlast 0 (by omega),if_pos rfl]
  rfl
 ·left
  show(getS ((firstR size n).2.last (1-0))).2≠0
  rw[hlast 1 (by omega),if_neg (by omega),QcG _ _ _ _ (fun q hq e=>by have:=Qat h q hq;omega),QgR h];exact Qka size (by omega)
 ·show(firstS size n).pages.length=(pagesL (eachC (firstS size n).size) (firstR size n).2.blocks (firstC size n)).length
  rw[hpl,g2]
  show firstN size n=(pagesL (eachC (size:Int)) n (firstC size n)).length
  omega
 ·have hi:i<firstN size n:=by have hi:i<(firstS size n).pages.length:=hi;omega
  have hil:i<(firstL size n).length:=by rw[QaI h];exact hi
  have e1:((firstS size n).pages.getD i 0).toNat=(firstL size n).getD i 0:=by
   show((ints (firstL size n)).getD i 0).toNat=_
   unfold ints;rw[List.getD_eq_getElem?_getD,List.getD_eq_getElem?_getD,List.getElem?_map,List.getElem?_eq_getElem hil];exact Int.toNat_natCast _
  have hm:(firstL size n).getD i 0∈firstL size n:=by rw[List.getD_eq_getElem?_getD,List.getElem?_eq_getElem hil];exact List.getElem_mem hil
  have h3:=Qbb h hm
  show(firstR size n).2.last ((firstS size n).pages.getD i 0).toNat=blk (firstR size n).2.size 2 1 ((pagesL (eachC (firstS size n).size) (firstR size n).2.blocks (firstC size n)).getD i [])
  rw[e1,hlast _ h3.2,if_neg (by omega),g1,g2];refine QeO _ _ _ _ _ (by rw[Qg1 h];exact Qdn) ?_;refine List.mem_map.2 ⟨i,List.mem_range.2 (by omega),?_⟩;rw[e1]
  rfl
 ·have hq:q∈(firstR size n).2.pend:=hq;rw[g4]at hq;cases hq
 ·show(firstS size n).pages.length≤_
  rw[hpl];have hnd:((freeL [] (newC n)).drop (firstN size n)).Nodup:=((QaK _ _).imp (fun h=>Nat.ne_of_lt h)).sublist (List.drop_sublist _ _);have hall:(firstL size n++(freeL [] (newC n)).drop (firstN size n)).Nodup:=by
   unfold firstL;rw[List.take_append_drop];exact(QaK _ _).imp (fun h=>Nat.ne_of_lt h)
  have hc:=QaT n _ hnd (fun i hi=>((Qcp (by omega)).1 (List.mem_of_mem_drop hi)).2);rw[List.length_drop,QbY (by omega)]at hc;have hmono:(List.range n).countP (fun i=>decide (i∈(freeL [] (newC n)).drop (firstN size n)))≤(List.range n).countP (mayP (firstP size n)):=List.countP_mono_left fun i _ hi=>by
   have hi:=of_decide_eq_true hi;have h5:=(Qcp (by omega)).1 (List.mem_of_mem_drop hi);have h6:i∉firstL size n:=fun q=>(List.nodup_append.1 hall).2.2 i q i hi rfl
   have e5:(firstC size n).getD i 0=0:=by rw[Qcz h,if_neg h6,if_neg (by omega)]
   exact(Qx _ i).2 ⟨by omega,e5,e5,fun m hm=>by cases hm⟩
  have e6:(firstP size n).dv.blocks=n:=g2;unfold frees;rw[e6,←List.countP_eq_length_filter];omega
 ·have e6:(firstC size n).getD j 0≤0+1:=by
   rw[Qcz h];by_cases a:j∈firstL size n
   ·rw[if_pos a];omega
   ·rw[if_neg a];by_cases b:j<2
    ·rw[if_pos b];omega
    ·rw[if_neg b];omega
  exact⟨e6,e6,fun m hm=>by cases hm⟩
 ·show(firstR size n).2.ops≤_
  rw[QcZ h hE]
  show(blank size n).ops+(firstW size n).length+3≤_
  rw[hbi]
  show 1+(firstW size n).length+3≤_
  omega
 ·show(firstR size n).2.pend.length≤_
  rw[g4];exact Nat.zero_le _
theorem Qbr(h:GeoOk size n)(hn:n≤40):supE (firstS size n)=0:=by
 have h1:=Su.Qz h;have h2:=Su.QdJ h;have h3:=Qgi h;have h4:=h3.2.2.2.1;have h5:pagesF (firstS size n).size (firstS size n).blocks=pagesF size n:=rfl;rw[h5]at h4;have h6:pagesF size n=1:=by
  have h7:(pagesF size n-1)*112≤(pagesF size n-1)*Fr.room size:=Int.mul_le_mul_of_nonneg_left h2 (by omega);omega
 unfold supE;rw[if_pos h3,if_neg];have h8:Fr.room (firstS size n).size=Fr.room (size:Int):=rfl;rw[h8,h4,h6];omega
end
end Sp
namespace Sp
open Go.RowKit Bs Dv Gr
open Cn (CN CC CnOk IsC Qm pagesL eachC newC freeC TookC)
open Su (Sup SupOk SB GeoOk putS supE T4 pagesF)
open Fr (blk)
def FmtX(w0 w:World)(g b:Nat)(P:Value)(size n:Nat)(e:Ending)(w':World):Prop:=
 (supE (firstS size n)=0∧∃x:Nm,e=.returned (.tuple #[.pointer (some ⟨x.sg,0,none⟩),.int .i64 0])∧x.g=g∧SpM w0 w' x (firstP size n)∧Turn w w' (Dv.fp g b P)∧∀k,x.fp k→Dv.fp g b P k∨w.heap.size≤k) ∨
  (supE (firstS size n)≠0∧e=.returned (.tuple #[.pointer none,.int .i64 (supE (firstS size n))])∧w.grownBy w' none)
theorem Qg4(w0 w:World)(g b:Nat)(P:Value)(size n:Nat)(hd:Held w0 w g b P (St.fresh size n (zeros size n)))(hg:GeoOk size n)(hT4:T4 w0) :
  Calls Tryz.prog 13 #[.pointer (some ⟨g,0,none⟩)] w (FmtX w0 w g b P size n):=by
 have HG:Hid (Calls Tryz.prog 66 #[.pointer (some ⟨g,0,none⟩)] w fun e w'=>e=.returned (.agg #[.int .i64 (size:Int),.int .i64 (n:Int)])∧Turn w w' nowhere):=hid (Qgz g b P (St.fresh size n (zeros size n)) w hd.dev);have hE:geoE size n=0:=(Su.QaB size n).2 hg;have HCK:Hid (∀W,Calls Tryz.prog 67 #[.agg #[.int .i64 (size:Int),.int .i64 (n:Int)]] W fun e w'=>e=.returned (.int .i64 0)∧W.grownBy w' none):=hid (fun W=>(Dv.QW size n W).mono fun e w' ⟨h1,h2⟩=>⟨by rw[h1,hE],by rw[h2];exact Qb _ _⟩);have h2:=Qa9 hg;have HPG:Hid (∀W,Calls Tryz.prog 70 #[.agg #[.int .i64 (size:Int),.int .i64 (n:Int)]] W fun e w'=>e=.returned (.int .i64 (firstN size n:Int))∧W.grownBy w' none):=hid (fun W=>by rw[h2.2.2.2];exact Su.Qah size n W);have HD:=hid hd;have HGE:=hid hg;have HN:=hid (QX hg);have HF:=hid h2;have HT4:=hid hT4;have hfr:(freeL [] (newC n)).length=n-2:=QbY (by have:=QX hg;omega);have HFR:=hid hfr;have HS0:Hid (w0.heap.size≤w.heap.size∧w0.grownBy w none):=hid ⟨hd.turn.size,hd.turn.grown⟩;have HFPL:Hid (∀k,Dv.fp g b P k→k<w.heap.size):=hid (fun k q=>hd.dev.lt k q);have HT4N:Hid (¬Dv.fp g b P 2):=hid (fun q=>by
  have h1:=hd.new _ q;have h2:=World.block_lt_of_cell? w0 _ (hT4 0 (by decide));have h2:2<w0.heap.size:=h2;omega)
 clear hd hg hT4 hE h2 hfr;go_enter Tryz.func13,Tryz.ntmps13
 go_upto_region 2 with (first|(go_at_call 66;refine HG.out.mono ?_;rintro e w1 ⟨rfl,ht1⟩)|fail)
 have hb1:=heap_alloc_new w1 (.cells #[.int .i64 (size:Int),.int .i64 (n:Int)] 28);have hg1:=Qa ht1.grown (Qb w1 (.cells #[.int .i64 (size:Int),.int .i64 (n:Int)] 28));have hs1:=ht1.size;obtain⟨W1,hW1⟩:∃X,w1.alloc (.cells #[.int .i64 (size:Int),.int .i64 (n:Int)] 28)=X:=⟨_,rfl⟩;rw[hW1]at hb1 hg1 ⊢;obtain⟨q,hq⟩:∃q,w1.heap.size=q:=⟨_,rfl⟩;rw[hq]at hb1 hs1 ⊢;have HB1:=hid hb1;have HG1:=hid hg1;have HQ:Hid (w.heap.size≤q):=hid hs1;have c0:W1.cell? ⟨q,0,none⟩=some (.int .i64 (size:Int)):=by rw[cell_of_row _ _ _ _ _ _ hb1];rfl
 have c1:W1.cell? ⟨q,1,none⟩=some (.int .i64 (n:Int)):=by rw[cell_of_row _ _ _ _ _ _ hb1];rfl
 clear ht1 hb1 hg1 hs1 hW1 hq HG;go_upto_region 4 with (first|(go_at_call 67;refine(HCK.out _).mono ?_;rintro e w2 ⟨rfl,hg2⟩)|fail)
 have HB2:=hid (Qi HB1.out hg2);have HG2:=hid (Qa HG1.out hg2);have d0:w2.cell? ⟨q,0,none⟩=some (.int .i64 (size:Int)):=by rw[cell_of_row _ _ _ _ _ _ HB2.out];rfl
 have d1:w2.cell? ⟨q,1,none⟩=some (.int .i64 (n:Int)):=by rw[cell_of_row _ _ _ _ _ _ HB2.out];rfl
 have HNEW:=hid (Cn.Qdh (size:Int) n w0 w2 (Qa HS0.out.2 HG2.out) HGE.out);clear c0 c1 hg2 HCK HB1 HG1;go_wp2_with fail
 refine HNEW.out.mono ?_;rintro e w3 ⟨gc,hc,cc,rfl,hc3,hg3,hl1,hl2⟩;have HB3:=hid (Qi HB2.out hg3);have HG3:=hid (Qa HG2.out hg3);have HC3:=hid hc3;have HL3:Hid (w.heap.size≤gc∧w.heap.size≤hc∧q<gc∧q<hc):=hid (by have:=HG2.out.size;have h9:=block_lt HB2.out;exact⟨by omega,by omega,by omega,by omega⟩);have e0:w3.cell? ⟨q,0,none⟩=some (.int .i64 (size:Int)):=by rw[cell_of_row _ _ _ _ _ _ HB3.out];rfl
 have e1:w3.cell? ⟨q,1,none⟩=some (.int .i64 (n:Int)):=by rw[cell_of_row _ _ _ _ _ _ HB3.out];rfl
 clear d0 d1 hc3 hg3 hl1 hl2 HB2 HG2 HNEW;dsimp only;go_upto_region 7 with fail
 go_wp2_with fail
 refine(HPG.out _).mono ?_;rintro e w4 ⟨rfl,hg4⟩;have HB4:=hid (Qi HB3.out hg4);have HG4:=hid (Qa HG3.out hg4);have HC4:=hid (HC3.out.old hg4);have HTK:=hid (Qbo w0 w4 gc hc cc size n (newC n) [] none (firstN size n) HC4.out (by rw[HFR.out];have:=HF.out;have:=HN.out;omega) (fun W N' _ c=>c.take));clear e0 e1 hg4 HB3 HG3 HC3;dsimp only;go_wp2_with fail
 refine HTK.out.mono ?_;rintro e w5 ⟨ap,cp,rfl,hs5,hn5,hc5,ht5⟩;obtain⟨LL,hLL⟩:∃L,(freeL [] (newC n)).take (firstN size n)=L:=⟨_,rfl⟩;have hLF:firstL size n=LL:=hLL;rw[hLL]at hs5 hc5 ⊢;have HLF:=hid hLF;have HSF:Hid (firstS size n=⟨1,size,n,0,ints LL⟩):=hid (by unfold firstS;rw[hLF]);have hC5:setAll (newC n) LL 1=firstC size n:=by unfold firstC;rw[hLF]
 rw[hC5]at hc5;obtain⟨ln,hln⟩:∃q,LL.length=q:=⟨_,rfl⟩;have HLN:Hid (ln=firstN size n∧(ints LL).length=ln):=hid ⟨by rw[←hln,←hLF];exact QaI HGE.out,by unfold ints;rw[List.length_map,hln]⟩;rw[hln]at hs5 ⊢;have HB5:=hid (Fr.Qh HB4.out ht5 (fun e=>by have e2:q=hc:=e;have:=HL3.out;omega));have HG5:=hid (Ql HG4.out ht5 HL3.out.2.1);have HC5:=hid hc5;have HS5:=hid hs5;have HN5:Hid (∀ad,ap=some ad→w.heap.size≤ad.block∧q<ad.block):=hid (fun ad had=>by have:=hn5 ad had;have:=HG4.out.size;have h9:=block_lt HB4.out;exact⟨by omega,by omega⟩);have f0:w5.cell? ⟨q,0,none⟩=some (.int .i64 (size:Int)):=by rw[cell_of_row _ _ _ _ _ _ HB5.out];rfl
 have f1:w5.cell? ⟨q,1,none⟩=some (.int .i64 (n:Int)):=by rw[cell_of_row _ _ _ _ _ _ HB5.out];rfl
 clear hLL hLF hC5 hln hs5 hn5 hc5 ht5 HTK HPG HB4 HG4 HC4 HFR;dsimp only;go_upto_region 11 with fail
 have hb6:=heap_alloc_new w5 (.cells #[.int .u64 1,.int .i64 (size:Int),.int .i64 (n:Int),.int .u32 0,.slice ap ln cp] 111);have hg6:=Qb w5 (.cells #[.int .u64 1,.int .i64 (size:Int),.int .i64 (n:Int),.int .u32 0,.slice ap ln cp] 111);obtain⟨W6,hW6⟩:∃X,w5.alloc (.cells #[.int .u64 1,.int .i64 (size:Int),.int .i64 (n:Int),.int .u32 0,.slice ap ln cp] 111)=X:=⟨_,rfl⟩;rw[hW6]at hb6 hg6 ⊢;obtain⟨r,hr⟩:∃q,w5.heap.size=q:=⟨_,rfl⟩;rw[hr]at hb6 ⊢;have HB6q:=hid (Qi HB5.out hg6);have HB6:=hid hb6;have HG6:=hid (Qa HG5.out hg6);have HC6:=hid (HC5.out.old hg6);have HS6:=hid (HS5.out.grown hg6);have HR:Hid (q<r):=hid (by have:=block_lt HB5.out;omega);have HADL:Hid (∀ad,ap=some ad→ad.block<r):=hid (fun ad had=>by
  have h5:0<ln:=by have:=HLN.out.1;have:=HF.out.1;omega
  obtain⟨gq,oq,e5,hcq⟩:=HS5.out.addr h5;rw[had]at e5;cases e5
  have h9:=World.block_lt_of_cell? w5 _ (hcq 0 h5);have h9:gq<w5.heap.size:=h9
  show gq<r
  omega)
 have HPE:Hid ((firstS size n).pages=ints LL):=hid (by show ints (firstL size n)=_;rw[HLF.out]);have HCS:=hid (Su.QcW (firstS size n) ap ln cp W6 (by rw[HPE.out];exact HS6.out) (Qbs HGE.out));have HCS2:Hid (Calls Tryz.prog 71 #[.agg #[.int .u64 1,.int .i64 (size:Int),.int .i64 (n:Int),.int .u32 0,.slice ap ln cp]] W6 fun e w'=>e=.returned (.int .i64 (supE (firstS size n)))∧W6.grownBy w' none):=hid HCS.out;obtain⟨E,hE⟩:∃E,supE (firstS size n)=E:=⟨_,rfl⟩;have HE:=hid hE;rw[hE]at HCS2;have r0:W6.cell? ⟨r,0,none⟩=some (.int .u64 1):=by rw[cell_of_row _ _ _ _ _ _ hb6];rfl
 have r1:W6.cell? ⟨r,1,none⟩=some (.int .i64 (size:Int)):=by rw[cell_of_row _ _ _ _ _ _ hb6];rfl
 have r2:W6.cell? ⟨r,2,none⟩=some (.int .i64 (n:Int)):=by rw[cell_of_row _ _ _ _ _ _ hb6];rfl
 have r3:W6.cell? ⟨r,3,none⟩=some (.int .u32 0):=by rw[cell_of_row _ _ _ _ _ _ hb6];rfl
 have r4:W6.cell? ⟨r,4,none⟩=some (.slice ap ln cp):=by rw[cell_of_row _ _ _ _ _ _ hb6];rfl
 clear hb6 hg6 hW6 hr f0 f1 HCS hE HB5 HG5 HC5 HS5;by_cases h0:E=0
 ·have HE0:=hid h0;subst h0;go_upto_region 14 with (first|(go_at_call 71;refine HCS2.out.mono ?_;rintro e w7 ⟨rfl,hg7⟩)|fail)
  have HB7q:=hid (Qi HB6q.out hg7);have HB7:=hid (Qi HB6.out hg7);have HG7:=hid (Qa HG6.out hg7);have HC7:=hid (HC6.out.old hg7);have HS7:=hid (HS6.out.grown hg7);have q0:w7.cell? ⟨q,0,none⟩=some (.int .i64 (size:Int)):=by rw[cell_of_row _ _ _ _ _ _ HB7q.out];rfl
  have HRZ:=hid (Qgr size (by have:=HN.out;omega) w7);clear r0 r1 r2 r3 r4 hg7 HCS2 HB6q HB6 HG6 HC6 HS6;go_wp2_with fail
  refine HRZ.out.mono ?_;rintro e w8 ⟨rfl,hg8⟩;have HB8:=hid (Qi HB7.out hg8);have HG8:=hid (Qa HG7.out hg8);have HC8:=hid (HC7.out.old hg8);have HS8:=hid (HS7.out.grown hg8);have HD8:=hid (HD.out.go (Qc HG8.out));have HWR:Hid (Calls Tryz.prog 72 #[.pointer (some ⟨g,0,none⟩),.int .i64 1,.string (strOfNums (rep size 0))] w8 (Wrote g b P (0,blank size n) w8)):=hid (by
   have h1:=write_any g b P (St.fresh size n (zeros size n)) 1 (rep size 0) w8 HD8.out.dev (Qec size 0 (by omega)) (by unfold rep;rw[List.length_replicate];have:=HN.out;omega) (by show 0<1000000;omega) (by show 0<1000000;omega);have h2:(St.fresh size n (zeros size n)).write 1 (rep size 0)=(0,blank size n):=by
    rw[Qaf HGE.out];exact Qay (St.fresh size n (zeros size n)) 1 (rep size 0) rfl (by have:=HN.out;show 1<n;omega) (by unfold rep;rw[List.length_replicate];rfl)
   rw[h2]at h1;exact h1)
  have HLT8:Hid (r<w8.heap.size∧gc<w8.heap.size∧hc<w8.heap.size∧gc≠hc):=hid ⟨block_lt HB8.out,HC8.out.cc.glt,HC8.out.cc.lt,HC8.out.cc.ne⟩;clear q0 hg8 HRZ HB7q HB7 HG7 HC7 HS7;dsimp only;go_wp2_with fail
  refine HWR.out.mono ?_;rintro e w9 ⟨P9,rfl,hd9,ht9,hf9⟩;have HD9:Hid (Held w0 w9 g b P9 (blank size n)):=hid ⟨hd9,fun k hk=>(hf9 k hk).elim (HD8.out.new k) (fun z=>by have:=HS0.out.1;have:=HG8.out.size;omega),Qc (QU HD8.out.turn.grown ht9 (fun k q=>HD8.out.new k q))⟩;have HN9:Hid (∀k,w.heap.size≤k→k<w8.heap.size→¬Dv.fp g b P k∧¬Dv.fp g b P9 k):=hid (fun k h1 h2=>⟨fun q=>by have:=HFPL.out k q;omega,fun q=>(hf9 k q).elim (fun z=>by have:=HFPL.out k z;omega) (fun z=>by omega)⟩);have HF9:=hid hf9;have HRW:Hid (w.heap.size≤r):=hid (by have:=HR.out;have:=HQ.out;omega);have HB9:=hid (Fr.Qh HB8.out ht9 (HN9.out r HRW.out HLT8.out.1).1);have HC9:Hid (CN w0 w9 gc hc cc (blank size n).size n (firstC size n)):=hid (by
   have h1:=Qs HC8.out ht9 HD9.out.turn.grown (HN9.out gc HL3.out.1 HLT8.out.2.1).1 (HN9.out hc HL3.out.2.1 HLT8.out.2.2.1).1;rw[Qaf HGE.out];exact h1)
  have HAD8:Hid (∀ad,ap=some ad→w.heap.size≤ad.block∧ad.block<w8.heap.size):=hid (fun ad had=>⟨(HN5.out ad had).1,by have:=HADL.out ad had;have:=HLT8.out.1;omega⟩);have HS9:=hid (Qn HS8.out ht9 (fun ad had=>(HN9.out _ (HAD8.out ad had).1 (HAD8.out ad had).2).1));have HT9:=hid (Turn.trans (S:=Dv.fp g b P) ((Qc HG8.out).mono (fun _ _ e=>e.elim)) ht9 (fun _ _ e=>e));have HZ9:Hid (w8.heap.size≤w9.heap.size):=hid ht9.size;have r0:w9.cell? ⟨r,0,none⟩=some (.int .u64 1):=by rw[cell_of_row _ _ _ _ _ _ HB9.out];rfl
  have r1:w9.cell? ⟨r,1,none⟩=some (.int .i64 (size:Int)):=by rw[cell_of_row _ _ _ _ _ _ HB9.out];rfl
  have r2:w9.cell? ⟨r,2,none⟩=some (.int .i64 (n:Int)):=by rw[cell_of_row _ _ _ _ _ _ HB9.out];rfl
  have r3:w9.cell? ⟨r,3,none⟩=some (.int .u32 0):=by rw[cell_of_row _ _ _ _ _ _ HB9.out];rfl
  have r4:w9.cell? ⟨r,4,none⟩=some (.slice ap ln cp):=by rw[cell_of_row _ _ _ _ _ _ HB9.out];rfl
  have HSV:Hid (Calls Tryz.prog 74 #[.pointer (some ⟨g,0,none⟩),.int .i64 0,.agg #[.int .u64 1,.int .i64 (size:Int),.int .i64 (n:Int),.int .u32 0,.slice ap ln cp],.pointer (some ⟨gc,0,none⟩)] w9 (SaveX w0 w9 g b P9 (firstR size n))):=hid (by
   have hbi:=Qaf HGE.out;have hsz:(blank size n).size=size:=by rw[hbi];rfl
   have hln:(firstS size n).pages.length=ln:=by rw[HPE.out];exact HLN.out.2
   have hpg:=Cn.Qai HGE.out (firstC size n) (QaX HGE.out).len;have hnn:=HF.out;have hl1:=HLN.out.1;have h1:=Qf0 w0 w9 g b P9 (blank size n) gc hc cc n (firstC size n) (firstS size n) ap cp 0 HD9.out HC9.out (by rw[hln,HPE.out];exact HS9.out)
    (fun ad had=>⟨by have:=HAD8.out ad had;have:=HZ9.out;omega,(HN9.out _ (HAD8.out ad had).1 (HAD8.out ad had).2).2⟩) (Qbs HGE.out) (HT4.out.grown HD9.out.turn.grown) (by rw[hsz];rfl) HE.out
    (by rw[hsz,hln];omega) (fun i hi=>by rw[hsz];rw[hln]at hi;exact countPage HGE.out (firstC size n) (QaX HGE.out).len i (by omega))
    (by rw[hln,hbi];show 1+ln+10≤_;omega) (by rw[hln,hbi];show 1+ln+10≤_;omega)
    (fun q=>(HF9.out _ q).elim HT4N.out (fun z=>by
     have h2:=World.block_lt_of_cell? w0 _ (HT4.out 0 (by decide));have h2:2<w0.heap.size:=h2;have:=HS0.out.1;have:=HG8.out.size;omega)) (by rw[hln];omega)
   rw[hsz,hln]at h1;exact h1)
  have HR0:Hid ((firstR size n).1=0):=hid (by rw[Qci HGE.out HE.out]);obtain⟨R,hRR⟩:∃R,firstR size n=R:=⟨_,rfl⟩;rw[hRR]at HSV HR0;have HRR:=hid hRR;clear hd9 ht9 hf9 hRR HWR HB8 HC8 HS8;dsimp only;go_upto_region 17 with fail
  go_wp2_with fail
  refine HSV.out.mono ?_;rintro e w10 ⟨P10,rfl,hd10,ht10,hf10⟩;have HN10:Hid (∀k,w.heap.size≤k→k<w8.heap.size→¬Dv.fp g b P10 k):=hid (fun k h1 h2 q=>(hf10 k q).elim (HN9.out k h1 h2).2 (fun z=>by have:=HZ9.out;omega));have HD10:=hid hd10;have HF10:=hid hf10;have HB10:=hid (Fr.Qh HB9.out ht10 (HN9.out r HRW.out HLT8.out.1).2);have HC10:Hid (CN w0 w10 gc hc cc (blank size n).size n (firstC size n)):=hid (Qs HC9.out ht10 hd10.turn.grown (HN9.out gc HL3.out.1 HLT8.out.2.1).2 (HN9.out hc HL3.out.2.1 HLT8.out.2.2.1).2);have HS10:=hid (Qn HS9.out ht10 (fun ad had=>(HN9.out _ (HAD8.out ad had).1 (HAD8.out ad had).2).2));have HT10:Hid (Turn w w10 (Dv.fp g b P)):=hid (HT9.out.trans ht10 (fun k hk q=>(HF9.out k q).elim id (fun z=>by have:=HG8.out.size;omega)));have HZ10:Hid (w9.heap.size≤w10.heap.size):=hid ht10.size;have s0:w10.cell? ⟨r,0,none⟩=some (.int .u64 1):=by rw[cell_of_row _ _ _ _ _ _ HB10.out];rfl
  have s1:w10.cell? ⟨r,1,none⟩=some (.int .i64 (size:Int)):=by rw[cell_of_row _ _ _ _ _ _ HB10.out];rfl
  have s2:w10.cell? ⟨r,2,none⟩=some (.int .i64 (n:Int)):=by rw[cell_of_row _ _ _ _ _ _ HB10.out];rfl
  have s3:w10.cell? ⟨r,3,none⟩=some (.int .u32 0):=by rw[cell_of_row _ _ _ _ _ _ HB10.out];rfl
  have s4:w10.cell? ⟨r,4,none⟩=some (.slice ap ln cp):=by rw[cell_of_row _ _ _ _ _ _ HB10.out];rfl
  have HWI:=hid (Qa7 (w:=w10) w0 (some ⟨g,0,none⟩) (firstS size n) ap ln cp 0 gc hc cc (blank size n).size n (firstC size n) HC10.out);have HWI2:Hid (Calls Tryz.prog 75 #[.pointer (some ⟨g,0,none⟩),.int .i64 0,.agg #[.int .u64 1,.int .i64 (size:Int),.int .i64 (n:Int),.int .u32 0,.slice ap ln cp],.pointer (some ⟨gc,0,none⟩)] w10 fun e w'=>∃sg gn hn cn,e=.returned (.pointer (some ⟨sg,0,none⟩)) ∧
   Bx w' sg (.pointer (some ⟨g,0,none⟩)) (.int .u64 (firstS size n).gen) (.int .i64 (firstS size n).size) (.int .i64 (firstS size n).blocks) (.int .u32 (firstS size n).root) (.slice ap ln cp) (.int .i64 0) (.pointer (some ⟨gc,0,none⟩)) (.pointer (some ⟨gn,0,none⟩)) (.pointer none) (.pointer (some ⟨gc,0,none⟩)) (.pointer (some ⟨sg,0,none⟩)) ∧
   CN w0 w' gn hn cn (blank size n).size n (firstC size n)∧w10.heap.size≤sg∧sg<gn∧sg<hn∧w10.grownBy w' none):=HWI
  rw[HR0.out];clear r0 r1 r2 r3 r4 hd10 ht10 hf10 HSV HWI HB9 HC9 HS9;dsimp only;go_upto_region 20 with fail
  go_wp2_with fail
  refine HWI2.out.mono ?_;rintro e w11 ⟨sg,gn,hn,cn,rfl,hb11,hc11,hl1,hl2,hl3,hg11⟩;have HX:Hid (FmtX w0 w g b P size n (.returned (.tuple #[.pointer (some ⟨sg,0,none⟩),.int .i64 0])) w11):=hid (by
   refine .inl ⟨HE.out,⟨sg,g,b,P10,gc,hc,cc,gn,hn,cn,none,gc,hc,cc,ap,ln,cp⟩,rfl,rfl,?_,HT10.out.trans (Qc hg11) (fun _ _ e=>e.elim),fun k hk=>?_⟩
   ·have hbi:=Qaf HGE.out;have hsz:(blank size n).size=size:=by rw[hbi];rfl
    obtain⟨g1,g2,-,-⟩:=Qb8 HGE.out HE.out;rw[HRR.out]at g1 g2;have hc10:=HC10.out.old hg11;rw[hsz]at hc10 hc11;have z10:=HZ10.out;have z9:=HZ9.out;have z8:=HG8.out.size;have z0:=HS0.out.1;have hfl:∀k,Dv.fp g b P10 k→k<w10.heap.size:=fun k q=>HD10.out.dev.lt k q
    have l1:=HL3.out;have l8:=HLT8.out;have lg:=hc11.cc.glt;have lh:=hc11.cc.lt;have ln2:=hc11.cc.ne;have z11:=hg11.size;have hmk:=SpM.make (slot:=0) (sup:=firstS size n) (N:=firstC size n) (HD10.out.go (Qc hg11)) hb11 (by rw[HPE.out];exact HS10.out.grown hg11) (by rw[g1,g2];exact hc10) (by rw[g1,g2];exact hc11) ⟨by rw[g1];rfl,by rw[g2];rfl⟩ (Qbs HGE.out) (.inl rfl)
     (fun k hk=>by
      rcases hk with e|e|e|⟨ad,had,e⟩
      ·subst e;exact⟨by omega,by omega,by omega,by omega,HN10.out _ l1.1 l8.2.1⟩
      ·subst e;exact⟨by omega,by omega,by omega,by omega,HN10.out _ l1.2.1 l8.2.2.1⟩
      ·subst e;exact⟨lg,by omega,by omega,ln2,fun q=>by have:=hfl _ q;omega⟩
      ·subst e;have h1:=HAD8.out ad had;exact⟨by omega,by omega,by omega,by omega,HN10.out _ h1.1 h1.2⟩)
     ⟨fun q=>by have:=hfl _ q;omega,fun q=>by have:=hfl _ q;omega,by omega⟩ (by omega)
    have e9:(⟨R.2,firstS size n,firstC size n,firstC size n,none,0⟩:SpS)=firstP size n:=by unfold firstP;rw[HRR.out]
    rw[e9]at hmk;exact hmk
   ·have z10:=HZ10.out;have z9:=HZ9.out;have z8:=HG8.out.size;have l1:=HL3.out;rcases hk with (q|q|q)|q
    ·exact .inr (by have q:k=sg:=q;omega)
    ·exact .inr (by have q:k=hn:=q;omega)
    ·exact(HF10.out k q).elim (fun z=>(HF9.out k z).imp id (fun z=>by omega)) (fun z=>.inr (by omega))
    ·refine .inr ?_;rcases q with q|q|q|q|q|⟨z,q,_⟩|⟨ad,had,q⟩
     ·have q:k=gc:=q;omega
     ·have q:k=hc:=q;omega
     ·have q:k=gn:=q;omega
     ·have q:k=gc:=q;omega
     ·have q:k=hc:=q;omega
     ·cases q
     ·have:=(HAD8.out ad had).1;omega)
  clear hb11 hc11 hl1 hl2 hl3 hg11 s0 s1 s2 s3 s4;dsimp only;go_wp2;go_ret2
  exact HX.out
 ·have q0:(E != 0)=true:=bne_iff_ne.2 h0;have HX:Hid (∀w',W6.grownBy w' none→FmtX w0 w g b P size n (.returned (.tuple #[.pointer none,.int .i64 E])) w'):=hid (fun w' k=>.inr ⟨by rw[HE.out];exact h0,by rw[HE.out],Qa HG6.out k⟩);clear h0;go_wp2_with (first|(go_at_call 71;refine HCS2.out.mono ?_;rintro e w7 ⟨rfl,hg7⟩)|fail)
  go_ret2
  exact HX.out _ hg7
end Sp
namespace Sp
open Go.RowKit Bs Dv Gr
open Cn (CN CC CnOk IsC Qm pagesL eachC LoadX loadC)
open Su (Sup SupOk SB GeoOk putS supE T4 pagesF QP Qan QQ QaL)
open Fr (blk fmE fmV kindF)
theorem QcF(n:Nat)(t g:Int)(d:List Int)(hn:Fr.Fits n)(hf:Fr.FmOk (t,g,d))(h:d.length+16≤n):kindF (blk n t g d) t=((t,g,d),0):=by
 rw[Fr.Qjo (blk n t g d) t (t,g,d) (Fr.QbM n (t,g,d) hn hf h),if_pos rfl]
theorem QcI(w0 w:World)(g b:Nat)(P:Value)(d:Dv.St)(hd:Held w0 w g b P d)(sup:Sup)(a:Option Addr)(n c:Nat)(hs:Ws.Seg w a n c sup.pages)(hg0:0≤sup.gen∧sup.gen<18446744073709551616)(hgeo:sup.size=d.size∧sup.blocks=d.blocks)
  (hp:∀p∈sup.pages,2≤p∧p<(d.blocks:Int)) (held:List Int) (hok:CnOk d.size d.blocks held) (hlen:sup.pages.length=(pagesL (eachC d.size) d.blocks held).length)
  (hpg:∀i,i<sup.pages.length→d.last (sup.pages.getD i 0).toNat=blk d.size 2 sup.gen ((pagesL (eachC d.size) d.blocks held).getD i [])) :
  Calls Tryz.prog 78 #[.pointer (some ⟨g,0,none⟩),.agg #[.int .u64 sup.gen,.int .i64 sup.size,.int .i64 sup.blocks,.int .u32 sup.root,.slice a n c]] w fun e w'=>∃gk hk ck,e=.returned (.tuple #[.pointer (some ⟨gk,0,none⟩),.int .i64 0])∧CN w0 w' gk hk ck d.size d.blocks held∧w.heap.size≤gk∧w.heap.size≤hk∧w.grownBy w' none:=by
 obtain⟨i0,hi,hz0,hz1,hz2⟩:=info_parts Ss.QdB;have hdm:=hd.dev.ok;have HFT:Hid (Fr.Fits d.size):=hid ⟨by have:=hdm.lo;omega,by have:=hdm.hi;omega,by have:=hdm.by64;omega⟩;have HBL:Hid (d.size≤4096∧d.blocks≤4096):=hid ⟨by have:=hdm.hi;omega,by have:=hdm.bhi;omega⟩;have hn:n=sup.pages.length:=hs.len.symm;have hpn:=Cn.Qai hok.geo held hok.len;have hpb:=(Su.Qz hok.geo).2.1;have hpb1:=(Su.Qz hok.geo).1;have hn74:n≤74:=by omega
 have hn1:0<n:=by omega
 obtain⟨ga,oa,ea,hca⟩:=hs.addr hn1;subst ea;have HAL:Hid (ga<w.heap.size):=hid (World.block_lt_of_cell? w _ (hca 0 hn1));clear hca hpb1;have HFIT:Hid (∀i,i<n→(((pagesL (eachC d.size) d.blocks held).getD i []).length:Int)+16≤d.size∧IsB ((pagesL (eachC d.size) d.blocks held).getD i [])):=hid (fun i hi=>countPage hok.geo held hok.len i (by omega));have HLDD:=hid hok.load;have HOKD:=hid hok;have HPA:Hid (∀i,i<n→0≤sup.pages.getD i 0∧sup.pages.getD i 0<4294967296∧(sup.pages.getD i 0).toNat<d.blocks):=hid (fun i hi=>by
  have hm:sup.pages.getD i 0∈sup.pages:=by rw[List.getD_eq_getElem?_getD,List.getElem?_eq_getElem (show i<sup.pages.length by omega)];exact List.getElem_mem _
  have:=hp _ hm;have:=HBL.out;omega)
 have HPG:Hid (∀i,i<n→d.last (sup.pages.getD i 0).toNat=blk d.size 2 sup.gen ((pagesL (eachC d.size) d.blocks held).getD i [])):=hid (fun i hi=>hpg i (by omega));have HLEN:Hid ((pagesL (eachC d.size) d.blocks held).length=n):=hid (by omega);have HG0:=hid hg0;have HD:=hid hd;have HB0:=hid (SB.new w sup (some ⟨ga,oa,none⟩) n c);have hg1:=Qb w (.cells #[.int .u64 sup.gen,.int .i64 sup.size,.int .i64 sup.blocks,.int .u32 sup.root,.slice (some ⟨ga,oa,none⟩) n c] 111);have HS1:=hid (hs.grown hg1);obtain⟨W0,hW0⟩:∃X,w.alloc (.cells #[.int .u64 sup.gen,.int .i64 sup.size,.int .i64 sup.blocks,.int .u32 sup.root,.slice (some ⟨ga,oa,none⟩) n c] 111)=X:=⟨_,rfl⟩;have hsz0:W0.heap.size=w.heap.size+1:=by rw[←hW0];simp
 rw[hW0]at HB0 hg1 HS1;have HW0:=hid hW0;have HG1:=hid hg1;obtain⟨-,-,-,-,c4⟩:=HB0.out.cells;have hmk:=Cn.Qd0 n (by omega);have HO0:=hid (Cn.QeP W0 n (by omega));have hg2:=Qb W0 (.cells (Cn.roomS n) 9);have HB1:=hid (HB0.out.old hg2);have HS2:=hid (HS1.out.grown hg2);have HG2:=hid (Qa hg1 hg2);obtain⟨W1,hW1⟩:∃X,W0.alloc (.cells (Cn.roomS n) 9)=X:=⟨_,rfl⟩;rw[hW1]at HO0 HB1 HS2 HG2;have HW1:=hid hW1;obtain⟨PL,hPL⟩:∃q,pagesL (eachC d.size) d.blocks held=q:=⟨_,rfl⟩;rw[hPL]at HFIT HLDD HPG HLEN;obtain⟨pgs,hpgs⟩:∃q,sup.pages=q:=⟨_,rfl⟩;rw[hpgs]at HPA HPG HS2;obtain⟨sgen,hsgen⟩:∃q,sup.gen=q:=⟨_,rfl⟩;have HGE:=hid hgeo;have HSGN:=hid hsgen;rw[hsgen]at HPG HG0;have d4:W1.cell? ⟨w.heap.size,4,none⟩=some (.slice (some ⟨ga,oa,none⟩) n c):=HB1.out.cells.2.2.2.2;rw[hsz0]at HO0;have HT1:Hid (Turn w W1 (fun k=>w.heap.size+1≤k)):=hid ((Qc HG2.out).mono (fun _ _ e=>e.elim));clear hd hs hg0 hgeo hp hok hlen hpg hdm hn hpn hpb hg1 hg2 hW0 hW1 hPL hpgs HS1 hsgen;go_enter Tryz.func78,Tryz.ntmps78
 go_upto_region 1 with fail
 rw[HW0.out];go_upto_region 2 with fail
 rw[HW1.out];clear c4 hmk HB0 HG1 HG2;go_wp2
 go_loopw [6,19] (fun s6 si wr=>∃(i gq cq:Nat),i≤n∧s6=.slice (some ⟨gq,0,none⟩) i cq∧si=.int .i64 i∧Hid (wr.ownsRow (w.heap.size+1) 9 1 (.slice (some ⟨gq,0,none⟩) i cq) i ((PL.take i).map Ss.encW))∧Hid (Turn w wr (fun k=>w.heap.size+1≤k))∧Hid (SB wr w.heap.size sup (some ⟨ga,oa,none⟩) n c)∧Hid (Ws.Seg wr (some ⟨ga,oa,none⟩) n c pgs)) (fun _ si _=>n-(intOf si).toNat)
 case atStart=>exact⟨0,w.heap.size+1,n,Nat.zero_le _,rfl,rfl,HO0,HT1,HB1,HS2⟩
 case round=>
  clear HO0 HT1 HB1 HS2 d4 hsz0;obtain⟨i,gq,cq,hin,rfl,rfl,HO,HT,HB,HS⟩:=hrel;have HGR:Hid (w.grownBy wr none):=hid (QU (Qaa w) HT.out (fun k q=>by have q:w.heap.size+1≤k:=q;omega));by_cases hlt:i<n
  ·have hq:decide (i<n)=true:=decide_eq_true hlt;obtain⟨k,hk⟩:∃k:Nat,pgs.getD i 0=(k:Int):=⟨(pgs.getD i 0).toNat,by have:=HPA.out i hlt;omega⟩;have hcell:wr.cell? ⟨ga,oa+i,none⟩=some (.int .u32 (k:Int)):=by
    obtain⟨g9,o9,e9,h9⟩:=HS.out.addr (by omega:0<n);cases e9
    rw[←hk];exact h9 i hlt
   have hpa:=HPA.out i hlt;have hpg:=HPG.out i hlt;rw[hk,Int.toNat_natCast]at hpa hpg;have w1:IntKind.i64.wrap (k:Int)=(k:Int):=IntWalk.i64_in _ (by omega);have HRD:=hid (Dv.QcP g b P d k wr (HD.out.dev.turn HT.out (fun j hj q=>by have q:w.heap.size+1≤j:=q;have:=HD.out.dev.lt j hj;omega)) hpa.2.2);rw[hpg]at HRD;have hft:=HFIT.out i hlt;have hblen:=Fr.Qt d.size 2 sgen (PL.getD i []) (by have:=hft.1;omega);have HKD:Hid (∀W,Calls Tryz.prog 153 #[.string (strOfNums (blk d.size 2 sgen (PL.getD i []))),.int .u8 2] W fun e w'=>e=.returned (.tuple #[.agg #[.int .u8 2,.int .u64 sgen,.string (strOfNums (PL.getD i []))],.int .i64 0])∧W.grownBy w' none):=hid (fun W=>by
    have h1:=Fr.Qfz (blk d.size 2 sgen (PL.getD i [])) 2 W (Fr.QaA _ _ _ _ (by decide) hft.2) (by rw[hblen];have:=HBL.out;omega);rw[QcF d.size 2 sgen (PL.getD i []) HFT.out ⟨(by decide:(0:Int)≤2∧(2:Int)<256),HG0.out,hft.2⟩ (by have:=hft.1;omega)]at h1;exact h1)
   have HTK:Hid (PL.take (i+1)=PL.take i++[PL.getD i []]):=hid (by
    have hil:i<PL.length:=by rw[HLEN.out];exact hlt
    rw[List.take_succ_eq_append_getElem hil,List.getD_eq_getElem?_getD,List.getElem?_eq_getElem hil]
    rfl)
   obtain⟨S0,hS0⟩:∃S,strOfNums (blk d.size 2 sgen (PL.getD i []))=S:=⟨_,rfl⟩;obtain⟨S1,hS1⟩:∃S,strOfNums (PL.getD i [])=S:=⟨_,rfl⟩;rw[hS0]at HRD HKD;rw[hS1]at HKD;have HSS:=hid hS1;have h0:=(HB.out.cells).1;rw[HSGN.out]at h0;clear hk hpa hpg hft hblen hS0 hS1;go_wp2_with fail
   refine HRD.out.mono ?_;rintro e w3 ⟨rfl,ht3⟩;have HG3:=hid ht3.grown;clear ht3 HRD hcell w1;dsimp only;go_upto_region 8 with fail
   go_wp2_with fail
   refine(HKD.out _).mono ?_;rintro e w4 ⟨rfl,hg4⟩;have HG4:=hid (Qa HG3.out hg4);clear hg4 HG3 HKD;dsimp only;go_upto_region 9 with fail
   have hb5:=heap_alloc_new w4 (.cells #[.int .u8 2,.int .u64 sgen,.string S1] 146);have hg5:=Qa HG4.out (Qb w4 (.cells #[.int .u8 2,.int .u64 sgen,.string S1] 146));obtain⟨W5,hW5⟩:∃X,w4.alloc (.cells #[.int .u8 2,.int .u64 sgen,.string S1] 146)=X:=⟨_,rfl⟩;rw[hW5]at hb5 hg5 ⊢;obtain⟨r,hr⟩:∃q,w4.heap.size=q:=⟨_,rfl⟩;rw[hr]at hb5 ⊢;have HB5:=hid (HB.out.old hg5);have r1:W5.cell? ⟨r,1,none⟩=some (.int .u64 sgen):=by rw[cell_of_row _ _ _ _ _ _ hb5];rfl
   have r2:W5.cell? ⟨r,2,none⟩=some (.string S1):=by rw[cell_of_row _ _ _ _ _ _ hb5];rfl
   have h5:=(HB5.out.cells).1;rw[HSGN.out]at h5;have HO1:=hid (HO.out.kept hg5 (.inr (fun e=>by cases e)));have HT5:=hid (HT.out.trans (Qc hg5) (fun _ _ e=>e.elim));have HS5:=hid (HS.out.grown hg5);have hsz5:w.heap.size≤W5.heap.size:=HT5.out.size;have q7:(sgen != sgen)=false:=bne_self_eq_false _;clear hb5 hg5 hW5 hr h0 HO HT HB HS;go_wp2_with (first
    |(at_builtin;refine wpList_append_own _ rfl (.tmp 48) (.tmp 51) 78 rfl (w.heap.size+1) 9 i0 (.string ⟨#[]⟩) 1 16 Tryz.underlying78 hi hz0 hz1 hz2 rfl (by decide) (.slice (some ⟨gq,0,none⟩) i cq) i _ rfl (HO1.out.alloc _) ⟨W5.heap.size,0,none⟩ 1 1 [.string S1] rfl rfl (by intro t u ht;match t,ht with|0,ht=>simp at ht;subst ht;exact Qan W5 _ _) (by intro u hu;simp at hu;subst hu;rfl) (by unfold maxLen;omega) (by omega) (by simp only[World.size_alloc];omega) ?_;intro v' w6' hown hgr _;obtain⟨g3,c3,rfl⟩:=QP hown (by omega);have HTA:=hid ((Turn.alloc W5 (.cells #[.string S1] 9) (fun i=>w.heap.size+1≤i)).trans (Turn.Qk hgr (fun i e _=>((HO1.out.alloc (.cells #[.string S1] 9)).lt i (by first|exact e|(rw[←e]))).1)) (fun _ _ h=>h));have HOW:=hid hown;clear hown hgr)
    |fail)
   have HO3:Hid (w6'.ownsRow (w.heap.size+1) 9 1 (.slice (some ⟨g3,0,none⟩) (i+1) c3) (i+1) ((PL.take (i+1)).map Ss.encW)):=hid (by
    rw[HTK.out,List.map_append];have e:Ss.encW (PL.getD i [])=.string S1:=by rw[←HSS.out];rfl
    rw[List.map_cons,List.map_nil,e];exact HOW.out)
   have HT6:Hid (Turn w w6' (fun k=>w.heap.size+1≤k)):=hid (HT5.out.trans HTA.out (fun _ _ e=>e));have HB6:Hid (SB w6' w.heap.size sup (some ⟨ga,oa,none⟩) n c):=hid (Fr.Qh HB5.out HTA.out (by show ¬w.heap.size+1≤w.heap.size;omega));have HS6:=hid (Qn HS5.out HTA.out (fun ad had=>by cases had;have:=HAL.out;show ¬w.heap.size+1≤ga;omega));go_roundw
   case rel=>exact⟨i+1,g3,c3,by omega,rfl,by go_num,HO3,HT6,HB6,HS6⟩
   case measure=>simp[intOf];omega
  ·have hq:decide (i<n)=false:=decide_eq_false hlt;obtain rfl:i=n:=by omega
   obtain⟨-,h1,h2,-,-⟩:=HB.out.cells;rw[HGE.out.1]at h1;rw[HGE.out.2]at h2;have HLC:=hid (Cn.QcI (d.size:Int) (d.blocks:Int) (some ⟨gq,0,none⟩) i cq PL wr (by
    have h9:=HO.out;rw[List.take_of_length_le (by rw[HLEN.out];exact Nat.le_refl _)]at h9;exact Ss.Seg.own h9) (fun p hp=>by
    obtain⟨j,hj,rfl⟩:=List.getElem_of_mem hp;have h9:=HFIT.out j (by rw[←HLEN.out];exact hj);rw[List.getD_eq_getElem?_getD,List.getElem?_eq_getElem hj]at h9;have h9:((PL[j].length:Nat):Int)+16≤d.size∧IsB PL[j]:=h9;have:=HBL.out;exact⟨h9.2,by omega⟩))
   go_wp2_with fail
   refine HLC.out.mono ?_;rintro e w4 ⟨hg4,hx⟩;rcases hx with ⟨hno,_⟩|⟨nn,hnn,hgg,hx⟩
   ·exact absurd HOKD.out.geo hno
   ·have hnn2:nn=d.blocks:=by omega
    subst hnn2;rcases hx with ⟨h4,_⟩|⟨_,gk,hk,ck,rfl,hcc,hl1,hl2⟩
    ·rw[HLDD.out]at h4;cases h4
    ·have HX:Hid (CN w0 w4 gk hk ck d.size d.blocks held∧w.heap.size≤gk∧w.heap.size≤hk∧w.grownBy w4 none):=hid (by
      rw[HLDD.out]at hcc;have hz:=HGR.out.size;have h00:=HD.out.turn.size;exact⟨⟨hcc,HOKD.out,by omega,by omega,Qa HD.out.turn.grown (Qa HGR.out hg4)⟩,by omega,by omega,Qa HGR.out hg4⟩)
     clear hg4 hnn hgg hcc hl1 hl2;dsimp only;go_wp2;go_ret2
     exact⟨gk,hk,ck,rfl,HX.out⟩
end Sp
namespace Sp
open Go.RowKit Bs Dv Gr
open Cn (CN CC CnOk IsC Qm pagesL eachC LoadX loadC)
open Su (Sup SupOk SB GeoOk putS getS supE chooseS T4 pagesF QP Qan QQ QaL ChoseX)
open Fr (blk fmE fmV kindF)
theorem Qfl(x y:Int)(w:World):(binOp .eql 28 (.agg #[.int .i64 x,.int .i64 y]) (.agg #[.int .i64 x,.int .i64 y])).run Tryz.prog w=.ok (.bool true) w:=by
 have hF:(Tryz.prog.fieldsOf 28).toList.map (fun f=>(f.type,f.offset,decide (f.name≠"_")))=[(3,0,true),(3,1,true)]:=by kernel_rfl
 obtain⟨f1,f2,hf,e1,e2,e3,e4,e5,e6⟩:∃f1 f2:Field,(Tryz.prog.fieldsOf 28).toList=[f1,f2]∧f1.type=3∧f1.offset=0∧f1.name≠"_"∧f2.type=3∧f2.offset=1∧f2.name≠"_":=by
  revert hF
  generalize (Tryz.prog.fieldsOf 28).toList=l;intro hF;rcases l with _|⟨f1,_|⟨f2,_|⟨f3,r⟩⟩⟩
  ·cases hF
  ·simp only[List.map_cons,List.map_nil,List.cons.injEq]at hF;exact absurd hF.2 (by simp)
  ·simp only[List.map_cons,List.map_nil,List.cons.injEq,Prod.mk.injEq,decide_eq_true_eq,and_true]at hF;exact⟨f1,f2,rfl,hF.1.1,hF.1.2.1,hF.1.2.2,hF.2.1,hF.2.2.1,hF.2.2.2⟩
  ·simp only[List.map_cons,List.cons.injEq]at hF;exact absurd hF.2.2 (by simp)
 have hu:Tryz.prog.underlying 28=some (.struct (Tryz.prog.fieldsOf 28)):=by kernel_rfl
 rw[run_eql_struct,run_equalIn_struct w 9999 _ _ _ hu (by kernel_rfl),hf];simp[Op.eqFields,e1,e2,e3,e4,e5,e6,part,run_equalIn_int _ _ _ _ _ _ _ Tryz.underlying3,go_sem]
theorem QfH(x y:Int)(w:World):(binOp .neq 28 (.agg #[.int .i64 x,.int .i64 y]) (.agg #[.int .i64 x,.int .i64 y])).run Tryz.prog w=.ok (.bool false) w:=by
 have e:=Qfl x y w;simp[binOp]at e ⊢;cases h:Sem.run Tryz.prog (Op.equal 28 (.agg #[.int .i64 x,.int .i64 y]) (.agg #[.int .i64 x,.int .i64 y])) w <;> rw[h]at e <;> simp at e ⊢
 exact e
def OpX(w0 w:World)(g b:Nat)(P:Value)(s:SpS)(e:Ending)(w':World):Prop:=
 ∃x:Nm,e=.returned (.tuple #[.pointer (some ⟨x.sg,0,none⟩),.int .i64 0])∧x.g=g∧x.b=b∧x.P=P∧SpM w0 w' x s∧w.grownBy w' none∧w.heap.size≤x.sg∧∀k,x.fp k→Dv.fp g b P k∨w.heap.size≤k
theorem open_yes (w0 w:World) (g b:Nat) (P:Value) (d:Dv.St) (hd:Held w0 w g b P d) (sup:Sup) (held:List Int) (slot:Nat) (hk:Kept d sup held slot) (hok:CnOk d.size d.blocks held) (hT4:T4 w0) :
    Calls Tryz.prog 15 #[.pointer (some ⟨g,0,none⟩)] w (OpX w0 w g b P ⟨d,sup,held,held,none,slot⟩):=by
  have hdm:=hd.dev.ok
  have hb8:8≤d.blocks:=by have:=hdm.blo;omega
  have HR0:Hid (∀W,Turn w W nowhere→Calls Tryz.prog 59 #[.pointer (some ⟨g,0,none⟩),.int .i64 0] W fun e w'=>e=.returned (.tuple #[.string (strOfNums (d.last 0)),.int .i64 0])∧Turn W w' nowhere):=hid (fun W hW=>Dv.QcP g b P d 0 W (hd.go hW).dev (by omega))
  have HR1:Hid (∀W,Turn w W nowhere→Calls Tryz.prog 59 #[.pointer (some ⟨g,0,none⟩),.int .i64 1] W fun e w'=>e=.returned (.tuple #[.string (strOfNums (d.last 1)),.int .i64 0])∧Turn W w' nowhere):=hid (fun W hW=>Dv.QcP g b P d 1 W (hd.go hW).dev (by omega))
  have l0:=hdm.last (b:=0) (by omega)
  have l1:=hdm.last (b:=1) (by omega)
  have hhi:=hdm.hi
  have HCH:Hid (∀W,T4 W→Calls Tryz.prog 77 #[.string (strOfNums (d.last 0)),.string (strOfNums (d.last 1))] W (ChoseX W ((slot:Int),sup,0))):=hid (fun W hW=>by
    have h1:=Su.QgT (d.last 0) (d.last 1) W l0.2 l1.2 (by omega) (by omega) hW
    rw[hk.chosen]at h1
    exact h1)
  have HT4:Hid (∀W,Turn w W nowhere→T4 W):=hid (fun W hW=>(hT4.grown hd.turn.grown).grown hW.grown)
  have HGE:Hid (∀W,Turn w W nowhere→Calls Tryz.prog 66 #[.pointer (some ⟨g,0,none⟩)] W fun e w'=>e=.returned (.agg #[.int .i64 (d.size:Int),.int .i64 (d.blocks:Int)])∧Turn W w' nowhere):=hid (fun W hW=>Qgz g b P d W (hd.go hW).dev)
  have HKP:=hid hk
  have HOK:=hid hok
  have HD:=hid hd
  have HGEO:Hid (sup.size=d.size∧sup.blocks=d.blocks):=hid ⟨hk.size,hk.blocks⟩
  have heq:=QfH (d.size:Int) (d.blocks:Int)
  obtain⟨S0,hS0⟩:∃S,strOfNums (d.last 0)=S:=⟨_,rfl⟩
  obtain⟨S1,hS1⟩:∃S,strOfNums (d.last 1)=S:=⟨_,rfl⟩
  rw[hS0]at HR0 HCH
  rw[hS1]at HR1 HCH
  have HPG:Hid ((∀p∈sup.pages,2≤p∧p<(d.blocks:Int))∧0<sup.pages.length∧sup.pages.length=(pagesL (eachC d.size) d.blocks held).length∧∀i,i<sup.pages.length→d.last (sup.pages.getD i 0).toNat=blk d.size 2 sup.gen ((pagesL (eachC d.size) d.blocks held).getD i [])):=hid (by
    have hv:=(Su.Qar hk.yes).1
    have hp1:=(Su.Qz hv.1).1
    have hl:=hk.len
    have hpp:=hk.pages
    rw[hk.size]at hl hpp
    refine⟨fun p hp=>?_,by have:=hv.2.2.2.1;omega,hl,hpp⟩
    have h1:=(hv.2.2.2.2.1 p hp).1
    unfold Su.pageP at h1
    rw[hk.blocks]at h1
    exact h1)
  clear hd hk hok hT4 hdm hb8 l0 l1 hhi hS0 hS1
  go_enter Tryz.func15,Tryz.ntmps15
  go_wp2_with fail
  refine(HR0.out w (Turn.refl _ _)).mono ?_
  rintro e w1 ⟨rfl,ht1⟩
  have HT1:=hid ht1
  clear ht1
  dsimp only
  go_upto_region 4 with fail
  go_wp2_with fail
  refine(HR1.out w1 HT1.out).mono ?_
  rintro e w2 ⟨rfl,ht2⟩
  have HT2:=hid (HT1.out.trans ht2 (fun _ _ e=>e))
  clear ht2 HT1
  dsimp only
  go_upto_region 7 with fail
  go_wp2_with fail
  refine(HCH.out w2 (HT4.out w2 HT2.out)).mono ?_
  rintro e w3 ⟨hg3,a,n,c,rfl,hs3,hn3⟩
  have HT3:=hid (HT2.out.trans (Qc hg3) (fun _ _ e=>e))
  have HS3:Hid (Ws.Seg w3 a n c sup.pages):=hid hs3
  have HN3:Hid (∀ad,a=some ad→w.heap.size≤ad.block):=hid (fun ad had=>by have:=hn3 ad had;have:=HT2.out.size;omega)
  clear hg3 hs3 hn3 HT2 HCH HR0 HR1 HT4
  dsimp only
  go_upto_region 8 with fail
  have hb4:=SB.new w3 sup a n c
  have hg4:=Qb w3 (.cells #[.int .u64 sup.gen,.int .i64 sup.size,.int .i64 sup.blocks,.int .u32 sup.root,.slice a n c] 111)
  obtain⟨W4,hW4⟩:∃X,w3.alloc (.cells #[.int .u64 sup.gen,.int .i64 sup.size,.int .i64 sup.blocks,.int .u32 sup.root,.slice a n c] 111)=X:=⟨_,rfl⟩
  rw[hW4]at hb4 hg4 ⊢
  obtain⟨r,hr⟩:∃q,w3.heap.size=q:=⟨_,rfl⟩
  rw[hr]at hb4 ⊢
  have HB4:=hid hb4
  have HT4b:=hid (HT3.out.trans (Qc hg4) (fun _ _ e=>e))
  have HS4:=hid (HS3.out.grown hg4)
  have HRW:Hid (w.heap.size≤r):=hid (by have:=HT3.out.size;omega)
  obtain⟨-,r1,r2,-,-⟩:=hb4.cells
  rw[HGEO.out.1]at r1
  rw[HGEO.out.2]at r2
  clear hb4 hg4 hW4 hr HT3 HS3
  go_region_held3 (fun w'=>w'.cell? ⟨r,1,none⟩=some (.int .i64 (d.size:Int))∧w'.cell? ⟨r,2,none⟩=some (.int .i64 (d.blocks:Int))) (go_keep)
    (first
      | (go_at_call 66
         (with_reducible refine(HGE.out _ (HT4b.out.trans (Turn.drew W4 _) (fun _ _ e=>e))).mono ?_)
         rintro e w5 ⟨rfl,ht5⟩
         have k1:=((Turn.drew W4 nowhere).trans ht5 (fun _ _ e=>e)).cell r1 id
         have k2:=((Turn.drew W4 nowhere).trans ht5 (fun _ _ e=>e)).cell r2 id
         have HT5:=hid ((Turn.drew W4 nowhere).trans ht5 (fun _ _ e=>e))
         clear ht5)
      |fail)
  have HT5b:=hid (HT4b.out.trans HT5.out (fun _ _ e=>e))
  have HB5:=hid (HB4.out.old HT5.out.grown)
  have HS5:=hid (HS4.out.grown HT5.out.grown)
  have HRL:Hid (r<w5.heap.size):=hid HB5.out.lt
  obtain⟨b0,b1,b2,b3,b4⟩:=HB5.out.cells
  have HLD:=hid (QcI w0 w5 g b P d (HD.out.go HT5b.out) sup a n c HS5.out ⟨HKP.out.ok.gen.1,HKP.out.ok.gen.2⟩ HGEO.out HPG.out.1 held HOK.out HPG.out.2.2.1 HPG.out.2.2.2)
  rw[HGEO.out.1,HGEO.out.2]at HLD
  rw[HGEO.out.1]at b1
  rw[HGEO.out.2]at b2
  clear r1 r2 k1 k2 HT5 HT4b HB4 HS4 HGE heq
  go_upto_region 10 with fail
  go_wp2_with fail
  refine HLD.out.mono ?_
  rintro e w6 ⟨gk,hk,ck,rfl,hc6,hl1,hl2,hg6⟩
  have HT6:=hid (HT5b.out.trans (Qc hg6) (fun _ _ e=>e))
  have HB6:=hid (HB5.out.old hg6)
  have HS6:=hid (HS5.out.grown hg6)
  have HC6:=hid hc6
  have HL6:Hid (w.heap.size≤gk∧w.heap.size≤hk):=hid (by have:=HT5b.out.size;exact⟨by omega,by omega⟩)
  obtain⟨d0,d1,d2,d3,d4⟩:=HB6.out.cells
  have HWI:=hid (Qa7 (w:=w6) w0 (some ⟨g,0,none⟩) sup a n c (slot:Int) gk hk ck d.size d.blocks held hc6)
  rw[HGEO.out.1,HGEO.out.2]at HWI
  rw[HGEO.out.1]at d1
  rw[HGEO.out.2]at d2
  have HAD:Hid (∀ad,a=some ad→ad.block<w6.heap.size):=hid (fun ad had=>by
    have hnn:0<n:=by have:=HS6.out.len;have:=HPG.out.2.1;omega
    obtain⟨gq,oq,e5,hcq⟩:=HS6.out.addr hnn
    rw[had]at e5
    cases e5
    have h9:=World.block_lt_of_cell? w6 _ (hcq 0 hnn)
    have h9:gq<w6.heap.size:=h9
    show gq<w6.heap.size
    exact h9)
  clear hc6 hl1 hl2 hg6 HLD b0 b1 b2 b3 b4 HB5 HS5
  dsimp only
  go_upto_region 13 with fail
  go_wp2_with fail
  refine HWI.out.mono ?_
  rintro e w7 ⟨sg,gn,hn,cn,rfl,hb7,hc7,hl1,hl2,hl3,hg7⟩
  have HX : Hid (OpX w0 w g b P ⟨d,sup,held,held,none,slot⟩ (.returned (.tuple #[.pointer (some ⟨sg,0,none⟩),.int .i64 0])) w7):=hid (by
    have z6:=HT6.out.size
    have z7:=hg7.size
    have z0:=HD.out.turn.size
    have lg:=hc7.cc.glt
    have lh:=hc7.cc.lt
    have ln2:=hc7.cc.ne
    have l6:=HL6.out
    have m1:=HC6.out.cc.glt
    have m2:=HC6.out.cc.lt
    have hfl:∀k,Dv.fp g b P k→k<w.heap.size:=fun k q=>HD.out.dev.lt k q
    refine⟨⟨sg,g,b,P,gk,hk,ck,gn,hn,cn,none,gk,hk,ck,a,n,c⟩,rfl,rfl,rfl,rfl,?_,Qa HT6.out.grown hg7,by show w.heap.size≤sg;omega,fun k hk2=>?_⟩
    · exact SpM.make (HD.out.go (HT6.out.trans (Qc         hg7) (fun _ _ e=>e))) (by rw[HGEO.out.1,HGEO.out.2];exact hb7) (HS6.out.grown hg7) (HC6.out.old hg7) hc7 HGEO.out HKP.out.ok HKP.out.two
        (fun k hk2=>by
          rcases hk2 with e|e|e|⟨ad,had,e⟩
          · subst e;exact⟨by omega,by omega,by omega,by omega,fun q=>by have:=hfl _ q;omega⟩
          · subst e;exact⟨by omega,by omega,by omega,by omega,fun q=>by have:=hfl _ q;omega⟩
          · subst e;exact⟨lg,by omega,by omega,ln2,fun q=>by have:=hfl _ q;omega⟩
          · subst e
            have h1:=HAD.out ad had
            have h2:=HN3.out ad had
            exact⟨by omega,by omega,by omega,by omega,fun q=>by have:=hfl _ q;omega⟩)
        ⟨fun q=>by have:=hfl _ q;omega,fun q=>by have:=hfl _ q;omega,by omega⟩ (by omega)
    · rcases hk2 with (q|q|q)|q
      · exact .inr (by have q:k=sg:=q;omega)
      · exact .inr (by have q:k=hn:=q;omega)
      · exact .inl q
      · refine .inr ?_
        rcases q with q|q|q|q|q|⟨z,q,_⟩|⟨ad,had,q⟩
        · have q:k=gk:=q;omega
        · have q:k=hk:=q;omega
        · have q:k=gn:=q;omega
        · have q:k=gk:=q;omega
        · have q:k=hk:=q;omega
        · cases q
        · have:=HN3.out ad had;omega)
  clear hb7 hc7 hl1 hl2 hl3 hg7 d0 d1 d2 d3 d4
  dsimp only
  go_wp2
  go_ret2
  exact HX.out
end Sp
namespace Sp
open Go.RowKit Bs Dv Gr Ws
theorem Qe8{w:World}{base e n:Nat}{v:Value}{xs:List Value}(h:w.ownsRow base e 1 v n xs)(hv:¬v=.slice none 0 0):∃g c,v=.slice (some ⟨g,0,none⟩) n c:=by
 rcases h.2 with ⟨e,_⟩|⟨g,c,cur,e,_⟩
 ·exact absurd e hv
 ·exact⟨g,c,e⟩
def NewC(w:World)(n:Nat)(l:List Int)(e:Ending)(w':World):Prop:=
 ∃g c,e=.returned (.slice (some ⟨g,0,none⟩) n c)∧w'.ownsRow w.heap.size 35 1 (.slice (some ⟨g,0,none⟩) n c) n (l.map (Value.int .u32))∧w.grownBy w' none
theorem QO(a0:Option Addr)(n c0:Nat)(l:List Int)(w:World)(h0:Ws.Seg w a0 n c0 l)(hn:n*4≤140737488355328) :
  Calls Tryz.prog 36 #[.slice a0 n c0] w (NewC w n l):=by
 obtain⟨i0,hi,hz0,hz1,hz2⟩:=info_parts Ws.Qa0;have hown:=World.ownsRow_made (base:=w.heap.size) (e:=35) (size:=1) w #[] 0 (Nat.le_refl _) (by unfold maxLen;omega) rfl;have hl0:(l.map (Value.int .u32)).length=n*1:=by simp[h0.len]
 have HL0:=hid hl0;cases a0 with
 |none=>
  obtain⟨rfl,rfl⟩:=h0.nil_ rfl;have hl:l=[]:=List.eq_nil_of_length_eq_zero h0.len;have HE:Hid (NewC w 0 l (.returned (.slice (some ⟨w.heap.size,0,none⟩) 0 0)) (w.alloc (.cells #[] 35))):=hid ⟨_,_,rfl,by rw[hl];exact hown,World.grownBy_alloc w _ none⟩;clear hl hl0 h0;go_enter Tryz.func36,Tryz.ntmps36
  go_wp2_with (at_builtin;refine wpList_append_own_none rfl (.tmp 3) (.tmp 4) 38 rfl w.heap.size 35 i0 1 Tryz.underlying38 hi (.slice (some ⟨w.heap.size,0,none⟩) 0 0) 0 [] rfl hown rfl ?_)
  go_ret
  exact HE.out
 |some ad=>
  have s0:∀j u,(l.map (Value.int .u32))[j]?=some u→(w.alloc (.cells #[] 35)).cell? (ad.add j)=some u:=fun j u hu=>(World.grownBy_alloc w _ none).cell (h0.at_ ad rfl j u hu) (by simp)
  have S0:=hid s0;clear hl0 h0 s0;go_enter Tryz.func36,Tryz.ntmps36
  go_wp2_with (at_builtin;refine wpList_append_own _ rfl (.tmp 3) (.tmp 4) 38 rfl w.heap.size 35 i0 (.int .u32 0) 1 4 Tryz.underlying38 hi hz0 hz1 hz2 rfl (by decide) (.slice (some ⟨w.heap.size,0,none⟩) 0 0) 0 [] rfl hown ad n c0 (l.map (Value.int .u32)) rfl HL0.out S0.out (ints_oneCell _ _) (by unfold maxLen;omega) (by omega) (by simp) ?_;intro v' w1 hown1 hgrow1 hnil)
  obtain⟨g,c,rfl⟩:=Qe8 hown1 (by rw[hnil];simp);rw[Nat.zero_add,List.nil_append]at hown1;have hfin:NewC w n l (.returned (.slice (some ⟨g,0,none⟩) n c)) w1:=⟨g,c,rfl,hown1,Bs.grownBy_trans (World.grownBy_alloc w _ none) hgrow1 (fun i e=>by cases e;exact Nat.le_refl _)⟩;have HE:=hid hfin;clear hfin hown1 hgrow1 hnil;go_wp2;go_ret
  first|exact HE.out|(rw[Nat.zero_add];exact HE.out)
end Sp
namespace Sp
open Go.RowKit Bs Dv Gr
open Cn (CN CC CnOk IsC)
open Su (Sup SupOk)
structure Rv where
 rg:Nat
 x:Nm
 oa:Option Addr
 oc:Nat
 ha:Option Addr
 hc:Nat
 ma:Option Addr
 mc:Nat
structure Rn where
 s:SpS
 own:List Nat
 hown:List Nat
 mown:List Nat
 marked:Bool
 root:Nat
def Rv.row(v:Rv)(k:Nat):Prop:=(∃a,v.oa=some a∧k=a.block)∨(∃a,v.ha=some a∧k=a.block)∨∃a,v.ma=some a∧k=a.block
def Rv.fp(v:Rv)(k:Nat):Prop:=v.x.fp k∨k=v.rg∨v.row k
def Rx(w:World)(rg:Nat)(v0 v1 v2 v3 v4 v5 v6:Value):Prop:=w.heap[rg]?=some (.cells #[v0,v1,v2,v3,v4,v5,v6] 67 (0,0))
section
variable {w w' : World} {rg : Nat} {v0 v1 v2 v3 v4 v5 v6 : Value}
theorem Rx.cells(h:Rx w rg v0 v1 v2 v3 v4 v5 v6):w.cell? ⟨rg,0,none⟩=some v0∧w.cell? ⟨rg,1,none⟩=some v1∧w.cell? ⟨rg,2,none⟩=some v2∧w.cell? ⟨rg,3,none⟩=some v3∧w.cell? ⟨rg,4,none⟩=some v4∧w.cell? ⟨rg,5,none⟩=some v5∧w.cell? ⟨rg,6,none⟩=some v6:=by
 refine⟨?_,?_,?_,?_,?_,?_,?_⟩ <;> rw[cell_of_row _ _ _ _ _ _ h] <;> rfl
theorem Rx.froz(h:Rx w rg v0 v1 v2 v3 v4 v5 v6)(j:Nat):w.frozen? ⟨rg,j,none⟩=false:=by
 unfold Rx at h;simp[World.frozen?,h]
theorem Rx.old{S:Nat→Prop}(h:Rx w rg v0 v1 v2 v3 v4 v5 v6)(t:Turn w w' S)(hS:¬S rg):Rx w' rg v0 v1 v2 v3 v4 v5 v6:=Fr.Qh h t hS
theorem Rx.s1(h:Rx w rg v0 v1 v2 v3 v4 v5 v6)(u:Value):Rx (w.setCell ⟨rg,1,none⟩ u) rg v0 u v2 v3 v4 v5 v6:=heap_setCell_same w rg 1 _ _ u h
theorem Rx.s2(h:Rx w rg v0 v1 v2 v3 v4 v5 v6)(u:Value):Rx (w.setCell ⟨rg,2,none⟩ u) rg v0 v1 u v3 v4 v5 v6:=heap_setCell_same w rg 2 _ _ u h
theorem Rx.s3(h:Rx w rg v0 v1 v2 v3 v4 v5 v6)(u:Value):Rx (w.setCell ⟨rg,3,none⟩ u) rg v0 v1 v2 u v4 v5 v6:=heap_setCell_same w rg 3 _ _ u h
theorem Rx.s4(h:Rx w rg v0 v1 v2 v3 v4 v5 v6)(u:Value):Rx (w.setCell ⟨rg,4,none⟩ u) rg v0 v1 v2 v3 u v5 v6:=heap_setCell_same w rg 4 _ _ u h
theorem Rx.s5(h:Rx w rg v0 v1 v2 v3 v4 v5 v6)(u:Value):Rx (w.setCell ⟨rg,5,none⟩ u) rg v0 v1 v2 v3 v4 u v6:=heap_setCell_same w rg 5 _ _ u h
theorem Rx.s6(h:Rx w rg v0 v1 v2 v3 v4 v5 v6)(u:Value):Rx (w.setCell ⟨rg,6,none⟩ u) rg v0 v1 v2 v3 v4 v5 u:=heap_setCell_same w rg 6 _ _ u h
end
structure RnM (w0 w:World) (v:Rv) (r:Rn):Prop where
 sp:SpM w0 w v.x r.s
 box:Rx w v.rg (.pointer (some ⟨v.x.g,0,none⟩)) (.pointer (some ⟨v.x.sg,0,none⟩)) (.slice v.oa r.own.length v.oc) (.slice v.ha r.hown.length v.hc) (.slice v.ma r.mown.length v.mc) (.bool r.marked) (.int .u32 (r.root:Int))
 o:Ws.Seg w v.oa r.own.length v.oc (ints r.own)
 h:Ws.Seg w v.ha r.hown.length v.hc (ints r.hown)
 m:Ws.Seg w v.ma r.mown.length v.mc (ints r.mown)
 ap:∀k,v.row k→k<w.heap.size∧w0.heap.size≤k∧¬v.x.fp k∧k≠v.rg
 new:w0.heap.size≤v.rg
 rgn:¬v.x.fp v.rg
section
variable {w0 w w' : World} {v : Rv} {r : Rn}
theorem RnM.lt(h:RnM w0 w v r){k:Nat}(hk:v.fp k):k<w.heap.size:=by
 rcases hk with q|rfl|q
 ·exact h.sp.lt q
 ·exact block_lt h.box
 ·exact(h.ap k q).1
theorem RnM.gr(h:RnM w0 w v r):w0.grownBy w none:=h.sp.gr
theorem RnM.turn{S:Nat→Prop}(h:RnM w0 w v r)(t:Turn w w' S)(hS:∀k,v.fp k→¬S k)(gr:w0.grownBy w' none):RnM w0 w' v r:=
 ⟨h.sp.turn t (fun k q=>hS k (.inl q)) gr,h.box.old t (hS _ (.inr (.inl rfl))),Qn h.o t (fun ad had=>hS _ (.inr (.inr (.inl ⟨ad,had,rfl⟩)))),Qn h.h t (fun ad had=>hS _ (.inr (.inr (.inr (.inl ⟨ad,had,rfl⟩))))),Qn h.m t (fun ad had=>hS _ (.inr (.inr (.inr (.inr ⟨ad,had,rfl⟩))))),
  fun k q=>⟨Nat.lt_of_lt_of_le (h.ap k q).1 t.size,(h.ap k q).2⟩,h.new,h.rgn⟩
theorem RnM.go(h:RnM w0 w v r)(k:w.grownBy w' none):RnM w0 w' v r:=h.turn (Qc k) (fun _ _ e=>e) (Qa h.gr k)
def RnOp(w0 w:World)(v:Rv)(r':Rn)(w':World):Prop:=∃v':Rv,v'.rg=v.rg∧v'.x.g=v.x.g∧RnM w0 w' v' r'∧Turn w w' v.fp∧∀k,v'.fp k→v.fp k∨w.heap.size≤k
theorem RnOp.same(h:RnM w0 w v r)(k:w.grownBy w' none):RnOp w0 w v r w':=⟨v,rfl,rfl,h.go k,(Qc k).mono (fun _ _ e=>e.elim),fun _ q=>.inl q⟩
theorem RnOp.trans{w1:World}{v1:Rv}{r':Rn}(t:Turn w w1 v.fp)(hs:v1.rg=v.rg)(hg:v1.x.g=v.x.g)(hf:∀k,v1.fp k→v.fp k∨w.heap.size≤k)(k:RnOp w0 w1 v1 r' w'):RnOp w0 w v r' w':=by
 obtain⟨v',a,b,c,d,e⟩:=k;refine⟨v',a.trans hs,b.trans hg,c,t.trans d (fun i hi q=>(hf i q).elim id fun z=>by omega),fun k q=>?_⟩;rcases e k q with z|z
 ·exact hf k z
 ·exact .inr (Nat.le_trans t.size z)
theorem RnM.step(h:RnM w0 w v r){s':SpS}(k:Op w0 w v.x s' w'):RnOp w0 w v { r with s:=s' } w':=by
 obtain⟨x',a,b,c,d,e⟩:=k;have hno:∀k,k<w.heap.size→x'.fp k→v.x.fp k:=fun k hk q=>(e k q).elim id fun z=>by omega
 refine⟨{ v with x:=x' },rfl,b,⟨c,?_,Qn h.o d (fun ad had=>(h.ap _ (.inl ⟨ad,had,rfl⟩)).2.2.1),Qn h.h d (fun ad had=>(h.ap _ (.inr (.inl ⟨ad,had,rfl⟩))).2.2.1),Qn h.m d (fun ad had=>(h.ap _ (.inr (.inr ⟨ad,had,rfl⟩))).2.2.1),
  fun k q=>⟨Nat.lt_of_lt_of_le (h.ap k q).1 d.size,(h.ap k q).2.1,fun z=>(h.ap k q).2.2.1 (hno k (h.ap k q).1 z),(h.ap k q).2.2.2⟩,h.new,fun z=>h.rgn (hno _ (block_lt h.box) z)⟩,d.mono (fun _ _ q=>.inl q),fun k q=>?_⟩
 ·have h1:=h.box.old d h.rgn;rw[←a,←b]at h1;exact h1
 ·rcases q with q|q|q
  ·exact(e k q).imp .inl id
  ·exact .inl (.inr (.inl q))
  ·exact .inl (.inr (.inr q))
theorem RnM.reset(h:RnM w0 w v r)(t:Turn w w' (·=v.rg))(oa:Option Addr)(oc:Nat)(ha:Option Addr)(hc:Nat)(ma:Option Addr)(mc:Nat)(own hown mown:List Nat)(marked:Bool)(root:Nat)
  (hb:Rx w' v.rg (.pointer (some ⟨v.x.g,0,none⟩)) (.pointer (some ⟨v.x.sg,0,none⟩)) (.slice oa own.length oc) (.slice ha hown.length hc) (.slice ma mown.length mc) (.bool marked) (.int .u32 (root:Int)))
  (ho:Ws.Seg w' oa own.length oc (ints own)) (hh:Ws.Seg w' ha hown.length hc (ints hown)) (hm:Ws.Seg w' ma mown.length mc (ints mown))
  (hrow:∀ad,(oa=some ad∨ha=some ad∨ma=some ad)→v.row ad.block∨(w.heap.size≤ad.block∧ad.block<w'.heap.size)) :
  RnOp w0 w v ⟨r.s,own,hown,mown,marked,root⟩ w':=by
 have gr:w0.grownBy w' none:=QU h.gr t (fun k e=>by have e2:k=v.rg:=e;rw[e2];exact h.new);have h0:w0.heap.size≤w.heap.size:=h.gr.size;refine⟨⟨v.rg,v.x,oa,oc,ha,hc,ma,mc⟩,rfl,rfl,⟨h.sp.turn t (fun k q e=>h.rgn (by have e2:k=v.rg:=e;rw[←e2];exact q)) gr,hb,ho,hh,hm,fun k q=>?_,h.new,h.rgn⟩,t.mono (fun k _ e=>.inr (.inl e)),fun k q=>?_⟩
 ·obtain⟨ad,h1,rfl⟩:∃ad,(oa=some ad∨ha=some ad∨ma=some ad)∧k=ad.block:=by
   rcases q with ⟨ad,a,b⟩|⟨ad,a,b⟩|⟨ad,a,b⟩
   ·exact⟨ad,.inl a,b⟩
   ·exact⟨ad,.inr (.inl a),b⟩
   ·exact⟨ad,.inr (.inr a),b⟩
  rcases hrow ad h1 with z|z
  ·exact⟨Nat.lt_of_lt_of_le (h.ap _ z).1 t.size,(h.ap _ z).2⟩
  ·exact⟨z.2,by omega,fun y=>by have:=h.sp.lt y;omega,fun e=>by have:=block_lt h.box;show False;have e2:ad.block=v.rg:=e;omega⟩
 ·rcases q with q|q|q
  ·exact .inl (.inl q)
  ·exact .inl (.inr (.inl q))
  ·obtain⟨ad,h1,rfl⟩:∃ad,(oa=some ad∨ha=some ad∨ma=some ad)∧k=ad.block:=by
    rcases q with ⟨ad,a,b⟩|⟨ad,a,b⟩|⟨ad,a,b⟩
    ·exact⟨ad,.inl a,b⟩
    ·exact⟨ad,.inr (.inl a),b⟩
    ·exact⟨ad,.inr (.inr a),b⟩
   exact(hrow ad h1).imp (fun z=>.inr (.inr z)) (fun z=>z.1)
end
end Sp
namespace Sp
open Go.RowKit
open Bs (pick Qaj)
open Su (Sup SupOk)
open Cn (CnOk Qm)
structure AcT where
 kind:Int
 tag:Int
 kids:Int
 n:Int
 data:List Int
structure AcOk (a:AcT):Prop where
 kind:-9223372036854775808≤a.kind∧a.kind≤9223372036854775807
 tag:0≤a.tag∧a.tag<256
 kids:-9223372036854775808≤a.kids∧a.kids≤9223372036854775807
 n:-9223372036854775808≤a.n∧a.n≤9223372036854775807
 data:Bs.IsB a.data
 len:a.data.length≤600
def actK(a:AcT)(own:List Nat):Nat:=(pick a.kids (min 4 ((own.length:Int)+1))).toNat
def actCut(a:AcT)(own:List Nat):Nat:=own.length-actK a own
def actPg(a:AcT)(own:List Nat):Pg:=⟨3+a.tag % 200,ints (own.drop (actCut a own)),a.data⟩
def actI(n:Int)(own:List Nat):Nat:=(pick n (own.length:Int)).toNat
def actRoot(a:AcT)(own:List Nat):Nat:=if own≠[]∧0≤a.n then own.getD (actI a.n own) 0 else 0
def actM(a:AcT)(own:List Nat):Nat:=own.getD (actI a.n own) 0
inductive DoR (a:AcT) (r:Rn):Int→Int→Rn→Prop
 |Qal (hk:pick a.kind 10<3) (he:putErr r.s (actPg a r.own)≠0):DoR a r 0 (putErr r.s (actPg a r.own)) r
 |Qr (n:Nat) (l:List Nat) (hk:pick a.kind 10<3) (he:putErr r.s (actPg a r.own)=0) (hf:frees r.s=n :: l) (hl:r.s.sup.pages.length≤l.length):DoR a r n 0 { r with s:=putP r.s (actPg a r.own) n,own:=r.own.take (actCut a r.own)++[n] }
 |get (hk:pick a.kind 10=3):DoR a r 0 0 r
 |idle (hk:pick a.kind 10=4∨pick a.kind 10=5) (hn:r.own=[]):DoR a r 0 0 r
 |share (hk:pick a.kind 10=4) (hn:r.own≠[]):DoR a r 0 0 { r with s:={ r.s with now:=r.s.now.set (actM a r.own) (r.s.now.getD (actM a r.own) 0+1) },own:=r.own++[actM a r.own] }
 |drop (c:List Int) (hk:pick a.kind 10=5) (hn:r.own≠[]) (hg:GoodC r.s.dv r.s.sup.pages c (r.own.eraseIdx (actI a.n r.own))) (hc:∀j,c.getD j 0≤r.s.now.getD j 0):DoR a r 0 0 { r with s:={ r.s with now:=c },own:=r.own.eraseIdx (actI a.n r.own) }
 |commit (hk:pick a.kind 10=6):DoR a r (actRoot a r.own) 0 { r with s:=commitP r.s (actRoot a r.own),hown:=r.own,marked:=false,root:=actRoot a r.own }
 |abort (hk:pick a.kind 10=7∨pick a.kind 10=9):DoR a r 0 0 { r with s:={ r.s with now:=r.s.held,mark:=none },own:=r.hown,marked:=false }
 |mark (hk:pick a.kind 10=8) (hm:r.marked=false):DoR a r 0 0 { r with s:={ r.s with mark:=some r.s.now },mown:=r.own,marked:=true }
 |back (m:List Int) (hk:pick a.kind 10=8) (hm:r.marked=true) (hs:r.s.mark=some m) (he:a.n.tmod 2=0):DoR a r 0 0 { r with s:={ r.s with now:=m,mark:=none },own:=r.mown,marked:=false }
 |done (hk:pick a.kind 10=8) (hm:r.marked=true) (he:a.n.tmod 2≠0):DoR a r 0 0 { r with s:={ r.s with mark:=none },marked:=false }
structure RnOk (r:Rn) (T:Nat):Prop where
 sp:SpOk r.s r.own r.hown r.mown T
 mkd:r.marked=r.s.mark.isSome
 rt:(r.root:Int)=r.s.sup.root
 len:r.own.length≤T∧r.hown.length≤T∧r.mown.length≤T
section
variable {r : Rn} {T : Nat} {a : AcT}
theorem Qcn{n:Int}{own:List Nat}(h:own≠[]):actI n own<own.length:=by
 have h0:0<own.length:=List.length_pos_iff.2 h;have h1:=Qaj n (own.length:Int) (by omega);unfold actI;omega
theorem QaG{own:List Nat}(h:own≠[]):actM a own∈own:=by
 unfold actM;rw[List.getD_eq_getElem?_getD,List.getElem?_eq_getElem (Qcn h)];exact List.getElem_mem _
theorem QbL(own:List Nat):actK a own≤own.length∧actK a own≤3:=by
 have h1:=Qaj a.kids (min 4 ((own.length:Int)+1)) (by omega);unfold actK;omega
theorem Qe9(own:List Nat):(actPg a own).kids.map Int.toNat=own.drop (actCut a own):=by
 show(ints _).map Int.toNat=_
 unfold ints;rw[List.map_map];exact(List.map_congr_left fun x _=>Int.toNat_natCast x).trans (List.map_id _)
theorem Qdd(own:List Nat):(actPg a own).kids.length=actK a own:=by
 show(ints _).length=_
 unfold ints;have:=QbL (a:=a) own;unfold actCut;rw[List.length_map,List.length_drop];omega
theorem RnOk.lt(h:RnOk r T){n:Nat}(hn:n∈r.own):2≤n∧n<4096:=by
 have h1:=h.sp.now.at' hn;have:=h.sp.dok.bhi;omega
theorem RnOk.pg(h:RnOk r T)(ha:AcOk a):PgOk (actPg a r.own)∧3≤(actPg a r.own).tag:=by
 have ht:=ha.tag;refine⟨⟨by show 0≤3+a.tag % 200∧3+a.tag % 200<256;omega,fun k hk=>?_,ha.data⟩,by show 3≤3+a.tag % 200;omega⟩;obtain⟨i,hi,rfl⟩:=QcK hk;have:=h.lt (List.mem_of_mem_drop hi);omega
theorem SpOk.Qcb{s:SpS}{own hown mown:List Nat}(h:SpOk s own hown mown T)(hm:s.mark=none)(m2:List Nat):SpOk s own hown m2 T:=
 ⟨h.dok,h.fuse,h.kept,h.pend,h.now,h.held,(fun m e=>by rw[hm]at e;cases e),h.room,h.root,h.low,h.gen,h.ops,h.few⟩
theorem DoR.ok{n e:Int}{r':Rn}(d:DoR a r n e r')(h:RnOk r T)(hT:T≤1000)(ha:AcOk a):RnOk r' (T+1):=by
 have hlen:=h.len;have keep:RnOk r (T+1):=⟨h.sp.more (by omega),h.mkd,h.rt,by omega⟩;cases d with
 |Qal=>exact keep
 |get=>exact keep
 |idle=>exact keep
 |Qr n l hk he hf hl=>
  obtain⟨h1,h2⟩:=h.pg ha;have hpf:(Fr.putF r.s.dv.size ((actPg a r.own).tag,r.s.sup.gen+1,dataP (actPg a r.own))).2=0:=by
   unfold putErr at he;by_cases q:checkE r.s (actPg a r.own)≠0
   ·rw[if_pos q]at he;exact absurd he q
   ·rw[if_neg q]at he;by_cases q2:(Fr.putF r.s.dv.size ((actPg a r.own).tag,r.s.sup.gen+1,dataP (actPg a r.own))).2≠0
    ·rw[if_pos q2]at he;exact absurd he q2
    ·exact Decidable.not_not.1 q2
  have h3:=(Qek hpf).2;have h4:SpOk r.s (r.own.take (actCut a r.own)++(actPg a r.own).kids.map Int.toNat) r.hown r.mown T:=by rw[Qe9,List.take_append_drop];exact h.sp
  refine⟨h4.put hT h1 h2 h3 hf hl,h.mkd,h.rt,?_⟩
  show(r.own.take (actCut a r.own)++[n]).length≤T+1∧_∧_
  rw[List.length_append,List.length_take];have:[n].length=1:=rfl;exact⟨by omega,by show r.hown.length≤_;omega,by show r.mown.length≤_;omega⟩
 |share hk hn=>
  have h1:=h.sp.share hT (QaG (a:=a) hn);refine⟨h1.perm fun m=>?_,h.mkd,h.rt,?_⟩
  ·rw[List.count_append,List.count_cons,List.count_cons,List.count_nil];omega
  ·show(r.own++[actM a r.own]).length≤T+1∧_∧_
   rw[List.length_append];have:[actM a r.own].length=1:=rfl;exact⟨by omega,by show r.hown.length≤_;omega,by show r.mown.length≤_;omega⟩
 |drop c hk hn hg hc=>
  refine⟨h.sp.turn hg (fun m h0=>?_) (fun m=>?_),h.mkd,h.rt,?_⟩
  ·have h1:=hc m;have h2:=(hg.cok).at' m;omega
  ·have:=hc m;have:=(h.sp.low m).1;omega
  ·show(r.own.eraseIdx (actI a.n r.own)).length≤T+1∧_∧_
   have:=List.length_eraseIdx_le r.own (actI a.n r.own);exact⟨by omega,by show r.hown.length≤_;omega,by show r.mown.length≤_;omega⟩
 |commit hk=>
  have hr:((actRoot a r.own:Nat):Int)=0∨(0≤((actRoot a r.own:Nat):Int)∧((actRoot a r.own:Nat):Int).toNat∈r.own):=by
   unfold actRoot;by_cases q:r.own≠[]∧0≤a.n
   ·rw[if_pos q];exact .inr ⟨by omega,by rw[Int.toNat_natCast];exact QaG (a:=a) q.1⟩
   ·rw[if_neg q];exact .inl rfl
  exact⟨(h.sp.commit hT hr).Qcb rfl r.mown,rfl,rfl,by show r.own.length≤_∧r.own.length≤_∧r.mown.length≤_;omega⟩
 |abort hk=>exact⟨(h.sp.abort.Qcb rfl r.mown).more (by omega),rfl,h.rt,by show r.hown.length≤_∧r.hown.length≤_∧r.mown.length≤_;omega⟩
 |mark hk hm=>
  have h0:r.s.mark=none:=by
   have:=h.mkd;rw[hm]at this;cases q:r.s.mark with
   |none=>rfl
   |some m=>rw[q]at this;cases this
  exact⟨(h.sp.mark' h0).more (by omega),rfl,h.rt,by show r.own.length≤_∧r.hown.length≤_∧r.own.length≤_;omega⟩
 |back m hk hm hs he=>exact⟨((h.sp.back hs).Qcb rfl r.mown).more (by omega),rfl,h.rt,by show r.mown.length≤_∧r.hown.length≤_∧r.mown.length≤_;omega⟩
 |done hk hm he=>exact⟨(h.sp.done.Qcb rfl r.mown).more (by omega),rfl,h.rt,by show r.own.length≤_∧r.hown.length≤_∧r.mown.length≤_;omega⟩
end
end Sp
end Go.Proofs.YtbbbocoliandcaaGreatDoor
