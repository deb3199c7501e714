/- Parts of the proof. -/
import Derived.Test.YtgffbbdcbkikhaaGreatDoorKbB
import Derived.Test.YtgffbbdcbkikhaaGreatDoorKbb
set_option maxRecDepth 100000
set_option maxHeartbeats 8000000
open Go.Lib (hid)
namespace Go.Proofs.YtgffbbdcbkikhaaGreatDoor
namespace Sp
open Go.RowKit Go.Shelf Bs Dv Gr
theorem extra:Builder.Extra Tryz.prog LayR.Qd8 where
 sizeBuilder:=by kernel_rfl
 liesBuilder:=by kernel_rfl
 t5:=LayR.repl.t5
 a5:=LayR.repl.a5
 z5:=LayR.repl.z5
 v5:=LayR.repl.v5
 infoByte:=by kernel_rfl
 cellsByte:=by kernel_rfl
 sizeByte:=by kernel_rfl
 neB5:=by decide
theorem fRepeat:LayR.Qd8.f 105=73:=by kernel_rfl
theorem below_grown{w w':World}(h:Below w.heap.size w w'):w.grownBy w' none:=⟨h.os,h.tape,h.output,h.size,fun k hk _=>h.block k hk⟩
theorem Qg8(n:Nat)(hn:n≤1000000)(w:World):Calls Tryz.prog 73 #[.string ⟨#[0]⟩,.int .i64 (n:Int)] w fun e w'=>e=.returned (.string (strOfNums (rep n 0)))∧w.grownBy w' none:=by
 have h:=Any.strings_Repeat LayR.repl extra ⟨#[0]⟩ n w (by omega) (by show 1*n≤_;omega);rw[fRepeat]at h;refine h.mono fun e w' ⟨he,hw⟩=>⟨?_,below_grown hw⟩
 rw[he];have e1:Lib.repeatL (ByteArray.mk #[0]).data.toList n=List.replicate n 0:=by
  have:=Lib.repeatL_replicate 0 1 n;rw[Nat.mul_one]at this;exact this
 rw[e1];unfold strOfNums rep;rw[List.map_replicate]
 rfl
end Sp
namespace Sp
open Go.RowKit Bs Dv Gr
open Cn (CN CC CnOk IsC Qj pagesL eachC newC freeC)
open Su (Sup SupOk GeoOk getS putS supE Valid pagesF)
open Fr (blk)
def firstN(size n:Nat):Nat:=(pagesF size n).toNat
def firstL(size n:Nat):List Nat:=(freeL [] (newC n)).take (firstN size n)
def firstC(size n:Nat):List Int:=setAll (newC n) (firstL size n) 1
def firstS(size n:Nat):Sup:=⟨1,size,n,0,ints (firstL size n)⟩
def blank(size n:Nat):Dv.St:=((St.fresh size n (zeros size n)).write ((1:Nat):Int) (rep size 0)).2
def firstW(size n:Nat):List (Nat×List Int):=cntW (firstS size n) (pagesL (eachC size) n (firstC size n))
def firstR(size n:Nat):Int×Dv.St:=saveR (blank size n) (firstW size n) 0 (putS (firstS size n)).1
def firstP(size n:Nat):SpS:=⟨(firstR size n).2,firstS size n,firstC size n,firstC size n,none,0⟩
section
variable {size n : Nat}
theorem QK(h:GeoOk size n):128≤size∧size≤4096∧size % 64=0∧8≤n∧n≤4096:=by unfold GeoOk at h;omega
theorem Qjg(hn:2≤n)(j:Nat):(newC n).getD j 0=if j<2 then 1 else 0:=by rw[Cn.Qgo];exact Cn.QlK n 2 j hn
theorem QV(hn:2≤n):(newC n).length=n:=by rw[Cn.Qgo];exact Cn.Qd2 n 2 hn
theorem Qcy(hn:2≤n){i:Nat}:i∈freeL [] (newC n)↔2≤i∧i<n:=by
 rw[QbE];unfold freeC;rw[QV hn,Qjg hn]
 constructor
 ·intro h;exact⟨h.1,h.2.1⟩
 ·intro h;rw[if_neg (by omega)];exact⟨h.1,h.2,rfl,rfl⟩
theorem Qb5(hn:2≤n):(freeL [] (newC n)).length=n-2:=by
 have hnd:(freeL [] (newC n)).Nodup:=(QaK _ _).imp (fun h=>Nat.ne_of_lt h);have h1:=QaY n (freeL [] (newC n)) hnd (fun i hi=>((Qcy hn).1 hi).2);have h2:=QaY n [0,1] (by simp) (fun i hi=>by simp at hi;omega);have h3:(List.range n).countP (fun i=>decide (i∈freeL [] (newC n)))+(List.range n).countP (fun i=>decide (i∈[0,1]))=n:=by
  have h4:=List.length_eq_countP_add_countP (fun i=>decide (i∈freeL [] (newC n))) (l:=List.range n);rw[List.length_range]at h4;have h5:(List.range n).countP (fun i=>decide (i∈[0,1]))=(List.range n).countP (fun i=>decide ¬(decide (i∈freeL [] (newC n)))=true):=by
   refine List.countP_congr fun i hi=>?_
   have hi:=List.mem_range.1 hi;rw[decide_eq_true_iff,decide_eq_true_iff,decide_eq_true_iff,Qcy hn];simp;omega
  rw[h5];exact h4.symm
 have h6:[0,1].length=2:=rfl;omega
theorem Qbb(h:GeoOk size n):1≤firstN size n∧firstN size n≤74∧2*firstN size n+2≤n∧(firstN size n:Int)=pagesF size n:=by
 have h1:=Su.QB h;have h2:=Su.Qd9 h;have h3:=QK h;have h4:(firstN size n:Int)=pagesF size n:=by unfold firstN;omega
 have h5:(pagesF size n-1)*112≤(pagesF size n-1)*Fr.room size:=Int.mul_le_mul_of_nonneg_left h2 (by omega);omega
theorem QaI(h:GeoOk size n):(firstL size n).length=firstN size n:=by
 unfold firstL;rw[List.length_take,Qb5 (by have:=QK h;omega)];have:=Qbb h;omega
theorem Qbe(h:GeoOk size n){i:Nat}(hi:i∈firstL size n):2≤i∧i<n:=(Qcy (by have:=QK h;omega)).1 (List.mem_of_mem_take hi)
theorem QdG:(firstL size n).Nodup:=((QaK _ _).imp (fun h=>Nat.ne_of_lt h)).sublist (List.take_sublist _ _)
theorem QcJ(h:GeoOk size n)(j:Nat):(firstC size n).getD j 0=if j∈firstL size n then 1 else if j<2 then 1 else 0:=by
 have h3:=QK h;unfold firstC;rw[Qak 1 (firstL size n) (newC n) j (fun i hi=>by rw[QV (by omega)];exact(Qbe h hi).2),Qjg (by omega)]
theorem Qa0(h:GeoOk size n):CnOk size n (firstC size n):=Qco (by omega) (firstL size n) (newC n) (fun i hi=>(Qbe h hi).1) (Cn.Qgn h)
theorem QdY{l:List Nat}{p:Int}(hp:p∈ints l):∃i∈l,p=(i:Int):=by
 obtain⟨i,hi,e⟩:=List.mem_map.1 hp;exact⟨i,hi,e.symm⟩
theorem Qkh{l:List Nat}{m:Nat}(h:m∈l):(m:Int)∈ints l:=List.mem_map.2 ⟨m,h,rfl⟩
theorem Qf4(kids:Nat→List Nat)(k:Nat):∀K,inS kids (fun _=>0) k K=0
 |0=>rfl
 |K+1=>by rw[inS,Qf4 kids k K,if_neg (by omega)]
theorem Qen(h:GeoOk size n)(d:Dv.St)(hs:d.size=size)(hb:d.blocks=n):GoodC d (firstS size n).pages (firstC size n) []:=by
 have hz:dOf (ints (firstL size n)) (firstC size n)=fun _=>0:=by
  funext m
  unfold dOf;by_cases e:2≤m∧(m:Int)∉ints (firstL size n)
  ·rw[if_pos e,QcJ h,if_neg (fun q=>e.2 (Qkh q)),if_neg (by omega)]
   rfl
  ·rw[if_neg e]
 refine⟨by rw[hs,hb];exact Qa0 h,fun p hp=>?_,?_,fun m hm=>?_⟩
 ·obtain⟨i,hi,rfl⟩:=QdY hp;rw[Int.toNat_natCast,QcJ h,if_pos hi]
 ·show RefOk d.blocks (kidsOf d) [] (dOf (ints (firstL size n)) (firstC size n))
  rw[hz];exact⟨fun _ _=>rfl,fun k=>by rw[Qf4];rfl,⟨fun _=>0,fun m hm=>absurd hm (Nat.lt_irrefl 0)⟩⟩
 ·have hm:0<dOf (ints (firstL size n)) (firstC size n) m:=hm;rw[hz]at hm;exact absurd hm (Nat.lt_irrefl 0)
theorem Qla(k:Nat)(hk:0<k):(getS (rep k 0)).2≠0:=fun e=>by
 have h1:=Su.Qf0 e;have h2:supE (getS (rep k 0)).1=0:=by rw[←Su.put_e,h1]
 rw[Su.Qu h2]at h1;have h3:=congrArg (fun q=>q.1.getD 0 5) h1;have h3:(blk (getS (rep k 0)).1.size.toNat 1 (getS (rep k 0)).1.gen (Su.dataS (getS (rep k 0)).1)).getD 0 5=(rep k 0).getD 0 5:=h3;rw[Fr.Qcf]at h3;obtain⟨j,rfl⟩:∃j,k=j+1:=⟨k-1,by omega⟩;have h4:(1:Int)=0:=h3;cases h4
theorem QgY(h:GeoOk size n):Valid (firstS size n):=by
 have h1:=Qbb h;refine⟨h,by show(1:Int)≠0;omega,.inl rfl,?_,fun p hp=>?_,?_⟩
 ·show((ints (firstL size n)).length:Int)=pagesF size n
  unfold ints;rw[List.length_map,QaI h];exact h1.2.2.2
 ·obtain⟨i,hi,rfl⟩:=QdY hp;have:=Qbe h hi;exact⟨by show 2≤(i:Int)∧(i:Int)<(n:Int);omega,by show(i:Int)≠0;omega⟩
 ·show(ints (firstL size n)).Nodup
  exact List.pairwise_map.2 (QdG.imp fun hne=>by omega)
theorem Qby(h:GeoOk size n):SupOk (firstS size n):=by
 have h3:=QK h;refine⟨by show 0≤(1:Int)∧(1:Int)<18446744073709551616;omega,by show 0≤(0:Int)∧(0:Int)<4294967296;omega,fun p hp=>?_⟩;obtain⟨i,hi,rfl⟩:=QdY hp;have:=Qbe h hi;omega
theorem Qiz(h:GeoOk size n):(St.fresh size n (zeros size n)).Ok:=by
 have:=QK h;exact QfY (by omega) (by omega) (by omega) (by omega) (by omega) (Qfy size n) (by unfold zeros;rw[List.length_replicate])
theorem Qab(h:GeoOk size n):blank size n={ St.fresh size n (zeros size n) with ops:=1,pend:=[(1,rep size 0)] }:=by
 have:=QK h;unfold blank;rw[QaC (St.fresh size n (zeros size n)) 1 (rep size 0) rfl (by show 1<n;omega) (by unfold rep;rw[List.length_replicate];rfl)]
 rfl
theorem QhI(h:GeoOk size n):Dv.lastOf (blank size n).dur (blank size n).pend 1=rep size 0:=by
 rw[Qab h];exact(Dv.Qct (zeros size n) [] (1,rep size 0) 1).trans (if_pos rfl)
theorem QfJ(h:GeoOk size n):(blank size n).Ok:=by
 have h1:=Qiz h;rw[Qab h];have:=QK h;refine⟨h1.lo,h1.hi,h1.by64,h1.blo,h1.bhi,h1.dlen,h1.dblk,fun p hp=>?_,h1.flo,h1.fhi,?_,?_⟩
 ·have hp:p=(1,rep size 0):=List.mem_singleton.1 hp;subst hp;exact⟨by show 1<n;omega,by show(rep size 0).length=size;unfold rep;exact List.length_replicate,QeK size 0 (by omega)⟩
 ·show 1≤1000000;omega
 ·show 1≤1000000;omega
theorem Qat(h:GeoOk size n):∀q∈firstW size n,2≤q.1∧q.1<n∧q.2.length=size∧Bs.IsB q.2:=by
 intro q hq;unfold firstW cntW at hq;obtain⟨i,hi,rfl⟩:=List.mem_map.1 hq;have hi:=List.mem_range.1 hi;have hpg:=Cn.Qav h (firstC size n) (Qa0 h).len;have h2:=Qbb h;have hil:i<(firstL size n).length:=by rw[QaI h];omega
 have e1:(((firstS size n).pages.getD i 0)).toNat=(firstL size n).getD i 0:=by
  show((ints (firstL size n)).getD i 0).toNat=_
  unfold ints;rw[List.getD_eq_getElem?_getD,List.getD_eq_getElem?_getD,List.getElem?_map,List.getElem?_eq_getElem hil];exact Int.toNat_natCast _
 have hm:(firstL size n).getD i 0∈firstL size n:=by rw[List.getD_eq_getElem?_getD,List.getElem?_eq_getElem hil];exact List.getElem_mem hil
 have h3:=Qbe h hm;have hp:=countPage h (firstC size n) (Qa0 h).len i hi;have e2:(firstS size n).size.toNat=size:=Int.toNat_natCast _;refine⟨by show 2≤_;rw[e1];exact h3.1,by show _<n;rw[e1];exact h3.2,?_,?_⟩
 ·show(blk (firstS size n).size.toNat 2 _ _).length=size
  rw[e2];exact Fr.Qo _ _ _ _ (by omega)
 ·exact Fr.QaD _ _ _ _ (by decide) hp.2
theorem Qch(h:GeoOk size n)(hE:supE (firstS size n)=0):((putS (firstS size n)).1).length=size∧Bs.IsB (putS (firstS size n)).1:=by
 have h3:=Su.Qaq hE;have h4:=Su.QR h;have hdl:=Su.Qax (firstS size n);have hr:Fr.room (firstS size n).size=Fr.room (size:Int):=rfl;rw[Su.Qu hE];have e2:(firstS size n).size.toNat=size:=Int.toNat_natCast _;rw[e2];exact⟨Fr.Qo _ _ _ _ (by rw[hdl];omega),Fr.QaD _ _ _ _ (by decide) (Su.QaZ _)⟩
theorem Qcr(h:GeoOk size n)(hE:supE (firstS size n)=0):firstR size n=(0,commitD (blank size n) (firstW size n) 0 (putS (firstS size n)).1):=by
 have h1:=QK h;have hb:=Qab h;exact QeA (by rw[hb];rfl) _ _ _ (fun q hq=>⟨by rw[hb];exact(Qat h q hq).2.1,by rw[hb];exact(Qat h q hq).2.2.1⟩) (by rw[hb];show 0<n;omega) (by rw[hb];exact(Qch h hE).1)
theorem Qc9(h:GeoOk size n)(hE:supE (firstS size n)=0):(firstR size n).2={ blank size n with ops:=(blank size n).ops+(firstW size n).length+3,dur:=(Dv.laid (blank size n).dur ((blank size n).pend++firstW size n)).set 0 (putS (firstS size n)).1,pend:=[] }:=by
 rw[Qcr h hE];have h1:=QK h;have hb:=Qab h;exact QcI (by rw[hb];rfl) _ _ _ (fun q hq=>⟨by rw[hb];exact(Qat h q hq).2.1,by rw[hb];exact(Qat h q hq).2.2.1⟩) (by rw[hb];show 0<n;omega) (by rw[hb];exact(Qch h hE).1)
theorem QgW(h:GeoOk size n)(hE:supE (firstS size n)=0)(m:Nat)(hm:m<n):(firstR size n).2.last m=if m=0 then(putS (firstS size n)).1 else Dv.lastOf (blank size n).dur ((blank size n).pend++firstW size n) m:=by
 rw[Qcr h hE];have h1:=QK h;have hb:=Qab h;exact Qc6 (QfJ h) (by rw[hb];rfl) _ _ _ (fun q hq=>⟨by rw[hb];exact(Qat h q hq).2.1,by rw[hb];exact(Qat h q hq).2.2.1⟩) (by rw[hb];show 0<n;omega) (by rw[hb];exact(Qch h hE).1) m (by rw[hb];exact hm)
theorem Qda(h:GeoOk size n)(hE:supE (firstS size n)=0):(firstR size n).2.size=size∧(firstR size n).2.blocks=n∧(firstR size n).2.fuse=-1∧(firstR size n).2.pend=[]:=by
 rw[Qc9 h hE,Qab h];exact⟨rfl,rfl,rfl,rfl⟩
theorem Qem(h:GeoOk size n):(firstW size n).length=firstN size n:=by
 unfold firstW cntW;rw[List.length_map,List.length_range];have hpg:=Cn.Qav h (firstC size n) (Qa0 h).len;have h2:=Qbb h;omega
theorem QhW(h:GeoOk size n):(firstW size n).map (·.1)=firstL size n:=by
 have hw:=Qem h;unfold firstW cntW at hw ⊢;rw[List.map_map];rw[List.length_map,List.length_range]at hw;rw[hw];refine List.ext_getElem? fun i=>?_
 rw[List.getElem?_map];by_cases hi:i<firstN size n
 ·rw[List.getElem?_range hi];have hil:i<(firstL size n).length:=by rw[QaI h];exact hi
  show some ((ints (firstL size n)).getD i 0).toNat=_
  unfold ints;rw[List.getD_eq_getElem?_getD,List.getElem?_map,List.getElem?_eq_getElem hil];exact congrArg some (Int.toNat_natCast _)
 ·rw[List.getElem?_eq_none (by rw[List.length_range];omega),List.getElem?_eq_none (by rw[QaI h];omega)]
  rfl
theorem QfV(h:GeoOk size n)(hE:supE (firstS size n)=0):SpOk (firstP size n) [] [] [] 0:=by
 have h1:=QK h;have h2:=Qbb h;obtain⟨g1,g2,g3,g4⟩:=Qda h hE;have hlast:=QgW h hE;have hpl:(firstS size n).pages.length=firstN size n:=by show(ints (firstL size n)).length=_;unfold ints;rw[List.length_map,QaI h]
 have hwn:=Qem h;have hpg:=Cn.Qav h (firstC size n) (Qa0 h).len;have hbi:=Qab h;refine⟨?_,g3,⟨hE,Qby h,by rw[show(firstP size n).dv=(firstR size n).2 from rfl,g1];rfl,by rw[show(firstP size n).dv=(firstR size n).2 from rfl,g2];rfl,.inl rfl,?_,?_,?_,fun i hi=>?_⟩,fun q hq=>?_,Qen h _ g1 g2,Qen h _ g1 g2,(fun m hm=>by cases hm),?_,.inl rfl,fun j=>?_,by show(1:Int)≤0+1;omega,?_,?_⟩
 ·show(firstR size n).2.Ok
  rw[Qc9 h hE];have hb:=QfJ h;have hd:=Dv.QdW ((blank size n).pend++firstW size n) (blank size n).dur hb.dblk fun q hq=>by
   rcases List.mem_append.1 hq with z|z
   ·exact(hb.pblk q z).2
   ·have:=Qat h q z;rw[hbi];exact⟨this.2.2.1,this.2.2.2⟩
  refine⟨hb.lo,hb.hi,hb.by64,hb.blo,hb.bhi,by show((Dv.laid _ _).set _ _).length=_;rw[List.length_set,hd.2];exact hb.dlen,?_,(fun q hq=>by cases hq),hb.flo,hb.fhi,Nat.zero_le _,?_⟩
  ·have hp:=Qch h hE;refine Dv.Qcx hd.1 _ ?_ hp.2;rw[hp.1,hbi]
   rfl
  ·show(blank size n).ops+(firstW size n).length+3≤_
   rw[hbi]
   show 1+(firstW size n).length+3≤_
   omega
 ·show(firstR size n).2.last 0=_
  rw[hlast 0 (by omega),if_pos rfl]
  rfl
 ·left
  show(getS ((firstR size n).2.last (1-0))).2≠0
  rw[hlast 1 (by omega),if_neg (by omega),QcR _ _ _ _ (fun q hq e=>by have:=Qat h q hq;omega),QhI h];exact Qla size (by omega)
 ·show(firstS size n).pages.length=(pagesL (eachC (firstS size n).size) (firstR size n).2.blocks (firstC size n)).length
  rw[hpl,g2]
  show firstN size n=(pagesL (eachC (size:Int)) n (firstC size n)).length
  omega
 ·have hi:i<firstN size n:=by have hi:i<(firstS size n).pages.length:=hi;omega
  have hil:i<(firstL size n).length:=by rw[QaI h];exact hi
  have e1:((firstS size n).pages.getD i 0).toNat=(firstL size n).getD i 0:=by
   show((ints (firstL size n)).getD i 0).toNat=_
   unfold ints;rw[List.getD_eq_getElem?_getD,List.getD_eq_getElem?_getD,List.getElem?_map,List.getElem?_eq_getElem hil];exact Int.toNat_natCast _
  have hm:(firstL size n).getD i 0∈firstL size n:=by rw[List.getD_eq_getElem?_getD,List.getElem?_eq_getElem hil];exact List.getElem_mem hil
  have h3:=Qbe h hm
  show(firstR size n).2.last ((firstS size n).pages.getD i 0).toNat=blk (firstR size n).2.size 2 1 ((pagesL (eachC (firstS size n).size) (firstR size n).2.blocks (firstC size n)).getD i [])
  rw[e1,hlast _ h3.2,if_neg (by omega),g1,g2];refine Qfj _ _ _ _ _ (by rw[QhW h];exact QdG) ?_;refine List.mem_map.2 ⟨i,List.mem_range.2 (by omega),?_⟩;rw[e1]
  rfl
 ·have hq:q∈(firstR size n).2.pend:=hq;rw[g4]at hq;cases hq
 ·show(firstS size n).pages.length≤_
  rw[hpl];have hnd:((freeL [] (newC n)).drop (firstN size n)).Nodup:=((QaK _ _).imp (fun h=>Nat.ne_of_lt h)).sublist (List.drop_sublist _ _);have hall:(firstL size n++(freeL [] (newC n)).drop (firstN size n)).Nodup:=by
   unfold firstL;rw[List.take_append_drop];exact(QaK _ _).imp (fun h=>Nat.ne_of_lt h)
  have hc:=QaY n _ hnd (fun i hi=>((Qcy (by omega)).1 (List.mem_of_mem_drop hi)).2);rw[List.length_drop,Qb5 (by omega)]at hc;have hmono:(List.range n).countP (fun i=>decide (i∈(freeL [] (newC n)).drop (firstN size n)))≤(List.range n).countP (mayP (firstP size n)):=List.countP_mono_left fun i _ hi=>by
   have hi:=of_decide_eq_true hi;have h5:=(Qcy (by omega)).1 (List.mem_of_mem_drop hi);have h6:i∉firstL size n:=fun q=>(List.nodup_append.1 hall).2.2 i q i hi rfl
   have e5:(firstC size n).getD i 0=0:=by rw[QcJ h,if_neg h6,if_neg (by omega)]
   exact(QY _ i).2 ⟨by omega,e5,e5,fun m hm=>by cases hm⟩
  have e6:(firstP size n).dv.blocks=n:=g2;unfold frees;rw[e6,←List.countP_eq_length_filter];omega
 ·have e6:(firstC size n).getD j 0≤0+1:=by
   rw[QcJ h];by_cases a:j∈firstL size n
   ·rw[if_pos a];omega
   ·rw[if_neg a];by_cases b:j<2
    ·rw[if_pos b];omega
    ·rw[if_neg b];omega
  exact⟨e6,e6,fun m hm=>by cases hm⟩
 ·show(firstR size n).2.ops≤_
  rw[Qc9 h hE]
  show(blank size n).ops+(firstW size n).length+3≤_
  rw[hbi]
  show 1+(firstW size n).length+3≤_
  omega
 ·show(firstR size n).2.pend.length≤_
  rw[g4];exact Nat.zero_le _
theorem QgX(h:GeoOk size n)(hn:n≤40):supE (firstS size n)=0:=by
 have h1:=Su.QB h;have h2:=Su.Qd9 h;have h3:=QgY h;have h4:=h3.2.2.2.1;have h5:pagesF (firstS size n).size (firstS size n).blocks=pagesF size n:=rfl;rw[h5]at h4;have h6:pagesF size n=1:=by
  have h7:(pagesF size n-1)*112≤(pagesF size n-1)*Fr.room size:=Int.mul_le_mul_of_nonneg_left h2 (by omega);omega
 unfold supE;rw[if_pos h3,if_neg];have h8:Fr.room (firstS size n).size=Fr.room (size:Int):=rfl;rw[h8,h4,h6];omega
end
end Sp
namespace Sp
open Go.RowKit Bs Dv Gr
open Cn (CN CC CnOk IsC Qj pagesL eachC newC freeC TookC)
open Su (Sup SupOk SB GeoOk putS supE T4 pagesF)
open Fr (blk)
def FmtX(w0 w:World)(g b:Nat)(P:Value)(size n:Nat)(e:Ending)(w':World):Prop:=
 (supE (firstS size n)=0∧∃x:Nm,e=.returned (.tuple #[.pointer (some ⟨x.sg,0,none⟩),.int .i64 0])∧x.g=g∧SpM w0 w' x (firstP size n)∧Turn w w' (Dv.fp g b P)∧∀k,x.fp k→Dv.fp g b P k∨w.heap.size≤k) ∨
  (supE (firstS size n)≠0∧e=.returned (.tuple #[.pointer none,.int .i64 (supE (firstS size n))])∧w.grownBy w' none)
theorem Qh0(w0 w:World)(g b:Nat)(P:Value)(size n:Nat)(hd:Held w0 w g b P (St.fresh size n (zeros size n)))(hg:GeoOk size n)(hT4:T4 w0) :
  Calls Tryz.prog 31 #[.pointer (some ⟨g,0,none⟩)] w (FmtX w0 w g b P size n):=by
 have HG:Hid (Calls Tryz.prog 60 #[.pointer (some ⟨g,0,none⟩)] w fun e w'=>e=.returned (.agg #[.int .i64 (size:Int),.int .i64 (n:Int)])∧Turn w w' nowhere):=hid (Qhi g b P (St.fresh size n (zeros size n)) w hd.dev);have hE:geoE size n=0:=(Su.QaE size n).2 hg;have HCK:Hid (∀W,Calls Tryz.prog 68 #[.agg #[.int .i64 (size:Int),.int .i64 (n:Int)]] W fun e w'=>e=.returned (.int .i64 0)∧W.grownBy w' none):=hid (fun W=>(Dv.QT size n W).mono fun e w' ⟨h1,h2⟩=>⟨by rw[h1,hE],by rw[h2];exact Qb _ _⟩);have h2:=Qbb hg;have HPG:Hid (∀W,Calls Tryz.prog 71 #[.agg #[.int .i64 (size:Int),.int .i64 (n:Int)]] W fun e w'=>e=.returned (.int .i64 (firstN size n:Int))∧W.grownBy w' none):=hid (fun W=>by rw[h2.2.2.2];exact Su.Qah size n W);have HD:=hid hd;have HGE:=hid hg;have HN:=hid (QK hg);have HF:=hid h2;have HT4:=hid hT4;have hfr:(freeL [] (newC n)).length=n-2:=Qb5 (by have:=QK hg;omega);have HFR:=hid hfr;have HS0:Hid (w0.heap.size≤w.heap.size∧w0.grownBy w none):=hid ⟨hd.turn.size,hd.turn.grown⟩;have HFPL:Hid (∀k,Dv.fp g b P k→k<w.heap.size):=hid (fun k q=>hd.dev.lt k q);have HT4N:Hid (¬Dv.fp g b P 0):=hid (fun q=>by
  have h1:=hd.new _ q;have h2:=World.block_lt_of_cell? w0 _ (hT4 0 (by decide));have h2:0<w0.heap.size:=h2;omega)
 clear hd hg hT4 hE h2 hfr;go_enter Tryz.func31,Tryz.ntmps31
 go_upto_region 2 with (first|(go_at_call 60;refine HG.out.mono ?_;rintro e w1 ⟨rfl,ht1⟩)|fail)
 have hb1:=heap_alloc_new w1 (.cells #[.int .i64 (size:Int),.int .i64 (n:Int)] 28);have hg1:=Qa ht1.grown (Qb w1 (.cells #[.int .i64 (size:Int),.int .i64 (n:Int)] 28));have hs1:=ht1.size;obtain⟨W1,hW1⟩:∃X,w1.alloc (.cells #[.int .i64 (size:Int),.int .i64 (n:Int)] 28)=X:=⟨_,rfl⟩;rw[hW1]at hb1 hg1 ⊢;obtain⟨q,hq⟩:∃q,w1.heap.size=q:=⟨_,rfl⟩;rw[hq]at hb1 hs1 ⊢;have HB1:=hid hb1;have HG1:=hid hg1;have HQ:Hid (w.heap.size≤q):=hid hs1;have c0:W1.cell? ⟨q,0,none⟩=some (.int .i64 (size:Int)):=by rw[cell_of_row _ _ _ _ _ _ hb1];rfl
 have c1:W1.cell? ⟨q,1,none⟩=some (.int .i64 (n:Int)):=by rw[cell_of_row _ _ _ _ _ _ hb1];rfl
 clear ht1 hb1 hg1 hs1 hW1 hq HG;go_upto_region 4 with (first|(go_at_call 68;refine(HCK.out _).mono ?_;rintro e w2 ⟨rfl,hg2⟩)|fail)
 have HB2:=hid (Qd HB1.out hg2);have HG2:=hid (Qa HG1.out hg2);have d0:w2.cell? ⟨q,0,none⟩=some (.int .i64 (size:Int)):=by rw[cell_of_row _ _ _ _ _ _ HB2.out];rfl
 have d1:w2.cell? ⟨q,1,none⟩=some (.int .i64 (n:Int)):=by rw[cell_of_row _ _ _ _ _ _ HB2.out];rfl
 have HNEW:=hid (Cn.Qdy (size:Int) n w0 w2 (Qa HS0.out.2 HG2.out) HGE.out);clear c0 c1 hg2 HCK HB1 HG1;go_wp2_with fail
 refine HNEW.out.mono ?_;rintro e w3 ⟨gc,hc,cc,rfl,hc3,hg3,hl1,hl2⟩;have HB3:=hid (Qd HB2.out hg3);have HG3:=hid (Qa HG2.out hg3);have HC3:=hid hc3;have HL3:Hid (w.heap.size≤gc∧w.heap.size≤hc∧q<gc∧q<hc):=hid (by have:=HG2.out.size;have h9:=block_lt HB2.out;exact⟨by omega,by omega,by omega,by omega⟩);have e0:w3.cell? ⟨q,0,none⟩=some (.int .i64 (size:Int)):=by rw[cell_of_row _ _ _ _ _ _ HB3.out];rfl
 have e1:w3.cell? ⟨q,1,none⟩=some (.int .i64 (n:Int)):=by rw[cell_of_row _ _ _ _ _ _ HB3.out];rfl
 clear d0 d1 hc3 hg3 hl1 hl2 HB2 HG2 HNEW;dsimp only;go_upto_region 7 with fail
 go_wp2_with fail
 refine(HPG.out _).mono ?_;rintro e w4 ⟨rfl,hg4⟩;have HB4:=hid (Qd HB3.out hg4);have HG4:=hid (Qa HG3.out hg4);have HC4:=hid (HC3.out.old hg4);have HTK:=hid (Qbv w0 w4 gc hc cc size n (newC n) [] none (firstN size n) HC4.out (by rw[HFR.out];have:=HF.out;have:=HN.out;omega) (fun W N' _ c=>c.take));clear e0 e1 hg4 HB3 HG3 HC3;dsimp only;go_wp2_with fail
 refine HTK.out.mono ?_;rintro e w5 ⟨ap,cp,rfl,hs5,hn5,hc5,ht5⟩;obtain⟨LL,hLL⟩:∃L,(freeL [] (newC n)).take (firstN size n)=L:=⟨_,rfl⟩;have hLF:firstL size n=LL:=hLL;rw[hLL]at hs5 hc5 ⊢;have HLF:=hid hLF;have HSF:Hid (firstS size n=⟨1,size,n,0,ints LL⟩):=hid (by unfold firstS;rw[hLF]);have hC5:setAll (newC n) LL 1=firstC size n:=by unfold firstC;rw[hLF]
 rw[hC5]at hc5;obtain⟨ln,hln⟩:∃q,LL.length=q:=⟨_,rfl⟩;have HLN:Hid (ln=firstN size n∧(ints LL).length=ln):=hid ⟨by rw[←hln,←hLF];exact QaI HGE.out,by unfold ints;rw[List.length_map,hln]⟩;rw[hln]at hs5 ⊢;have HB5:=hid (Fr.Qg HB4.out ht5 (fun e=>by have e2:q=hc:=e;have:=HL3.out;omega));have HG5:=hid (Qh HG4.out ht5 HL3.out.2.1);have HC5:=hid hc5;have HS5:=hid hs5;have HN5:Hid (∀ad,ap=some ad→w.heap.size≤ad.block∧q<ad.block):=hid (fun ad had=>by have:=hn5 ad had;have:=HG4.out.size;have h9:=block_lt HB4.out;exact⟨by omega,by omega⟩);have f0:w5.cell? ⟨q,0,none⟩=some (.int .i64 (size:Int)):=by rw[cell_of_row _ _ _ _ _ _ HB5.out];rfl
 have f1:w5.cell? ⟨q,1,none⟩=some (.int .i64 (n:Int)):=by rw[cell_of_row _ _ _ _ _ _ HB5.out];rfl
 clear hLL hLF hC5 hln hs5 hn5 hc5 ht5 HTK HPG HB4 HG4 HC4 HFR;dsimp only;go_upto_region 11 with fail
 have hb6:=heap_alloc_new w5 (.cells #[.int .u64 1,.int .i64 (size:Int),.int .i64 (n:Int),.int .u32 0,.slice ap ln cp] 92);have hg6:=Qb w5 (.cells #[.int .u64 1,.int .i64 (size:Int),.int .i64 (n:Int),.int .u32 0,.slice ap ln cp] 92);obtain⟨W6,hW6⟩:∃X,w5.alloc (.cells #[.int .u64 1,.int .i64 (size:Int),.int .i64 (n:Int),.int .u32 0,.slice ap ln cp] 92)=X:=⟨_,rfl⟩;rw[hW6]at hb6 hg6 ⊢;obtain⟨r,hr⟩:∃q,w5.heap.size=q:=⟨_,rfl⟩;rw[hr]at hb6 ⊢;have HB6q:=hid (Qd HB5.out hg6);have HB6:=hid hb6;have HG6:=hid (Qa HG5.out hg6);have HC6:=hid (HC5.out.old hg6);have HS6:=hid (HS5.out.grown hg6);have HR:Hid (q<r):=hid (by have:=block_lt HB5.out;omega);have HADL:Hid (∀ad,ap=some ad→ad.block<r):=hid (fun ad had=>by
  have h5:0<ln:=by have:=HLN.out.1;have:=HF.out.1;omega
  obtain⟨gq,oq,e5,hcq⟩:=HS5.out.addr h5;rw[had]at e5;cases e5
  have h9:=World.block_lt_of_cell? w5 _ (hcq 0 h5);have h9:gq<w5.heap.size:=h9
  show gq<r
  omega)
 have HPE:Hid ((firstS size n).pages=ints LL):=hid (by show ints (firstL size n)=_;rw[HLF.out]);have HCS:=hid (Su.Qc4 (firstS size n) ap ln cp W6 (by rw[HPE.out];exact HS6.out) (Qby HGE.out));have HCS2:Hid (Calls Tryz.prog 72 #[.agg #[.int .u64 1,.int .i64 (size:Int),.int .i64 (n:Int),.int .u32 0,.slice ap ln cp]] W6 fun e w'=>e=.returned (.int .i64 (supE (firstS size n)))∧W6.grownBy w' none):=hid HCS.out;obtain⟨E,hE⟩:∃E,supE (firstS size n)=E:=⟨_,rfl⟩;have HE:=hid hE;rw[hE]at HCS2;have r0:W6.cell? ⟨r,0,none⟩=some (.int .u64 1):=by rw[cell_of_row _ _ _ _ _ _ hb6];rfl
 have r1:W6.cell? ⟨r,1,none⟩=some (.int .i64 (size:Int)):=by rw[cell_of_row _ _ _ _ _ _ hb6];rfl
 have r2:W6.cell? ⟨r,2,none⟩=some (.int .i64 (n:Int)):=by rw[cell_of_row _ _ _ _ _ _ hb6];rfl
 have r3:W6.cell? ⟨r,3,none⟩=some (.int .u32 0):=by rw[cell_of_row _ _ _ _ _ _ hb6];rfl
 have r4:W6.cell? ⟨r,4,none⟩=some (.slice ap ln cp):=by rw[cell_of_row _ _ _ _ _ _ hb6];rfl
 clear hb6 hg6 hW6 hr f0 f1 HCS hE HB5 HG5 HC5 HS5;by_cases h0:E=0
 ·have HE0:=hid h0;subst h0;go_upto_region 14 with (first|(go_at_call 72;refine HCS2.out.mono ?_;rintro e w7 ⟨rfl,hg7⟩)|fail)
  have HB7q:=hid (Qd HB6q.out hg7);have HB7:=hid (Qd HB6.out hg7);have HG7:=hid (Qa HG6.out hg7);have HC7:=hid (HC6.out.old hg7);have HS7:=hid (HS6.out.grown hg7);have q0:w7.cell? ⟨q,0,none⟩=some (.int .i64 (size:Int)):=by rw[cell_of_row _ _ _ _ _ _ HB7q.out];rfl
  have HRZ:=hid (Qg8 size (by have:=HN.out;omega) w7);clear r0 r1 r2 r3 r4 hg7 HCS2 HB6q HB6 HG6 HC6 HS6;go_wp2_with fail
  refine HRZ.out.mono ?_;rintro e w8 ⟨rfl,hg8⟩;have HB8:=hid (Qd HB7.out hg8);have HG8:=hid (Qa HG7.out hg8);have HC8:=hid (HC7.out.old hg8);have HS8:=hid (HS7.out.grown hg8);have HD8:=hid (HD.out.go (Qc HG8.out));have HWR:Hid (Calls Tryz.prog 44 #[.pointer (some ⟨g,0,none⟩),.int .i64 1,.string (strOfNums (rep size 0))] w8 (Wrote g b P (0,blank size n) w8)):=hid (by
   have h1:=write_any g b P (St.fresh size n (zeros size n)) 1 (rep size 0) w8 HD8.out.dev (QeK size 0 (by omega)) (by unfold rep;rw[List.length_replicate];have:=HN.out;omega) (by show 0<1000000;omega) (by show 0<1000000;omega);have h2:(St.fresh size n (zeros size n)).write 1 (rep size 0)=(0,blank size n):=by
    rw[Qab HGE.out];exact QaC (St.fresh size n (zeros size n)) 1 (rep size 0) rfl (by have:=HN.out;show 1<n;omega) (by unfold rep;rw[List.length_replicate];rfl)
   rw[h2]at h1;exact h1)
  have HLT8:Hid (r<w8.heap.size∧gc<w8.heap.size∧hc<w8.heap.size∧gc≠hc):=hid ⟨block_lt HB8.out,HC8.out.cc.glt,HC8.out.cc.lt,HC8.out.cc.ne⟩;clear q0 hg8 HRZ HB7q HB7 HG7 HC7 HS7;dsimp only;go_wp2_with fail
  refine HWR.out.mono ?_;rintro e w9 ⟨P9,rfl,hd9,ht9,hf9⟩;have HD9:Hid (Held w0 w9 g b P9 (blank size n)):=hid ⟨hd9,fun k hk=>(hf9 k hk).elim (HD8.out.new k) (fun z=>by have:=HS0.out.1;have:=HG8.out.size;omega),Qc (Qao HD8.out.turn.grown ht9 (fun k q=>HD8.out.new k q))⟩;have HN9:Hid (∀k,w.heap.size≤k→k<w8.heap.size→¬Dv.fp g b P k∧¬Dv.fp g b P9 k):=hid (fun k h1 h2=>⟨fun q=>by have:=HFPL.out k q;omega,fun q=>(hf9 k q).elim (fun z=>by have:=HFPL.out k z;omega) (fun z=>by omega)⟩);have HF9:=hid hf9;have HRW:Hid (w.heap.size≤r):=hid (by have:=HR.out;have:=HQ.out;omega);have HB9:=hid (Fr.Qg HB8.out ht9 (HN9.out r HRW.out HLT8.out.1).1);have HC9:Hid (CN w0 w9 gc hc cc (blank size n).size n (firstC size n)):=hid (by
   have h1:=QJ HC8.out ht9 HD9.out.turn.grown (HN9.out gc HL3.out.1 HLT8.out.2.1).1 (HN9.out hc HL3.out.2.1 HLT8.out.2.2.1).1;rw[Qab HGE.out];exact h1)
  have HAD8:Hid (∀ad,ap=some ad→w.heap.size≤ad.block∧ad.block<w8.heap.size):=hid (fun ad had=>⟨(HN5.out ad had).1,by have:=HADL.out ad had;have:=HLT8.out.1;omega⟩);have HS9:=hid (Qp HS8.out ht9 (fun ad had=>(HN9.out _ (HAD8.out ad had).1 (HAD8.out ad had).2).1));have HT9:=hid (Turn.trans (S:=Dv.fp g b P) ((Qc HG8.out).mono (fun _ _ e=>e.elim)) ht9 (fun _ _ e=>e));have HZ9:Hid (w8.heap.size≤w9.heap.size):=hid ht9.size;have r0:w9.cell? ⟨r,0,none⟩=some (.int .u64 1):=by rw[cell_of_row _ _ _ _ _ _ HB9.out];rfl
  have r1:w9.cell? ⟨r,1,none⟩=some (.int .i64 (size:Int)):=by rw[cell_of_row _ _ _ _ _ _ HB9.out];rfl
  have r2:w9.cell? ⟨r,2,none⟩=some (.int .i64 (n:Int)):=by rw[cell_of_row _ _ _ _ _ _ HB9.out];rfl
  have r3:w9.cell? ⟨r,3,none⟩=some (.int .u32 0):=by rw[cell_of_row _ _ _ _ _ _ HB9.out];rfl
  have r4:w9.cell? ⟨r,4,none⟩=some (.slice ap ln cp):=by rw[cell_of_row _ _ _ _ _ _ HB9.out];rfl
  have HSV:Hid (Calls Tryz.prog 56 #[.pointer (some ⟨g,0,none⟩),.int .i64 0,.agg #[.int .u64 1,.int .i64 (size:Int),.int .i64 (n:Int),.int .u32 0,.slice ap ln cp],.pointer (some ⟨gc,0,none⟩)] w9 (SaveX w0 w9 g b P9 (firstR size n))):=hid (by
   have hbi:=Qab HGE.out;have hsz:(blank size n).size=size:=by rw[hbi];rfl
   have hln:(firstS size n).pages.length=ln:=by rw[HPE.out];exact HLN.out.2
   have hpg:=Cn.Qav HGE.out (firstC size n) (Qa0 HGE.out).len;have hnn:=HF.out;have hl1:=HLN.out.1;have h1:=QgE w0 w9 g b P9 (blank size n) gc hc cc n (firstC size n) (firstS size n) ap cp 0 HD9.out HC9.out (by rw[hln,HPE.out];exact HS9.out)
    (fun ad had=>⟨by have:=HAD8.out ad had;have:=HZ9.out;omega,(HN9.out _ (HAD8.out ad had).1 (HAD8.out ad had).2).2⟩) (Qby HGE.out) (HT4.out.grown HD9.out.turn.grown) (by rw[hsz];rfl) HE.out
    (by rw[hsz,hln];omega) (fun i hi=>by rw[hsz];rw[hln]at hi;exact countPage HGE.out (firstC size n) (Qa0 HGE.out).len i (by omega))
    (by rw[hln,hbi];show 1+ln+10≤_;omega) (by rw[hln,hbi];show 1+ln+10≤_;omega)
    (fun q=>(HF9.out _ q).elim HT4N.out (fun z=>by
     have h2:=World.block_lt_of_cell? w0 _ (HT4.out 0 (by decide));have h2:0<w0.heap.size:=h2;have:=HS0.out.1;have:=HG8.out.size;omega)) (by rw[hln];omega)
   rw[hsz,hln]at h1;exact h1)
  have HR0:Hid ((firstR size n).1=0):=hid (by rw[Qcr HGE.out HE.out]);obtain⟨R,hRR⟩:∃R,firstR size n=R:=⟨_,rfl⟩;rw[hRR]at HSV HR0;have HRR:=hid hRR;clear hd9 ht9 hf9 hRR HWR HB8 HC8 HS8;dsimp only;go_upto_region 17 with fail
  go_wp2_with fail
  refine HSV.out.mono ?_;rintro e w10 ⟨P10,rfl,hd10,ht10,hf10⟩;have HN10:Hid (∀k,w.heap.size≤k→k<w8.heap.size→¬Dv.fp g b P10 k):=hid (fun k h1 h2 q=>(hf10 k q).elim (HN9.out k h1 h2).2 (fun z=>by have:=HZ9.out;omega));have HD10:=hid hd10;have HF10:=hid hf10;have HB10:=hid (Fr.Qg HB9.out ht10 (HN9.out r HRW.out HLT8.out.1).2);have HC10:Hid (CN w0 w10 gc hc cc (blank size n).size n (firstC size n)):=hid (QJ HC9.out ht10 hd10.turn.grown (HN9.out gc HL3.out.1 HLT8.out.2.1).2 (HN9.out hc HL3.out.2.1 HLT8.out.2.2.1).2);have HS10:=hid (Qp HS9.out ht10 (fun ad had=>(HN9.out _ (HAD8.out ad had).1 (HAD8.out ad had).2).2));have HT10:Hid (Turn w w10 (Dv.fp g b P)):=hid (HT9.out.trans ht10 (fun k hk q=>(HF9.out k q).elim id (fun z=>by have:=HG8.out.size;omega)));have HZ10:Hid (w9.heap.size≤w10.heap.size):=hid ht10.size;have s0:w10.cell? ⟨r,0,none⟩=some (.int .u64 1):=by rw[cell_of_row _ _ _ _ _ _ HB10.out];rfl
  have s1:w10.cell? ⟨r,1,none⟩=some (.int .i64 (size:Int)):=by rw[cell_of_row _ _ _ _ _ _ HB10.out];rfl
  have s2:w10.cell? ⟨r,2,none⟩=some (.int .i64 (n:Int)):=by rw[cell_of_row _ _ _ _ _ _ HB10.out];rfl
  have s3:w10.cell? ⟨r,3,none⟩=some (.int .u32 0):=by rw[cell_of_row _ _ _ _ _ _ HB10.out];rfl
  have s4:w10.cell? ⟨r,4,none⟩=some (.slice ap ln cp):=by rw[cell_of_row _ _ _ _ _ _ HB10.out];rfl
  have HWI:=hid (Qa6 (w:=w10) w0 (some ⟨g,0,none⟩) (firstS size n) ap ln cp 0 gc hc cc (blank size n).size n (firstC size n) HC10.out);have HWI2:Hid (Calls Tryz.prog 62 #[.pointer (some ⟨g,0,none⟩),.int .i64 0,.agg #[.int .u64 1,.int .i64 (size:Int),.int .i64 (n:Int),.int .u32 0,.slice ap ln cp],.pointer (some ⟨gc,0,none⟩)] w10 fun e w'=>∃sg gn hn cn,e=.returned (.pointer (some ⟨sg,0,none⟩)) ∧
   Bx w' sg (.pointer (some ⟨g,0,none⟩)) (.int .u64 (firstS size n).gen) (.int .i64 (firstS size n).size) (.int .i64 (firstS size n).blocks) (.int .u32 (firstS size n).root) (.slice ap ln cp) (.int .i64 0) (.pointer (some ⟨gc,0,none⟩)) (.pointer (some ⟨gn,0,none⟩)) (.pointer none) (.pointer (some ⟨gc,0,none⟩)) (.pointer (some ⟨sg,0,none⟩)) ∧
   CN w0 w' gn hn cn (blank size n).size n (firstC size n)∧w10.heap.size≤sg∧sg<gn∧sg<hn∧w10.grownBy w' none):=HWI
  rw[HR0.out];clear r0 r1 r2 r3 r4 hd10 ht10 hf10 HSV HWI HB9 HC9 HS9;dsimp only;go_upto_region 20 with fail
  go_wp2_with fail
  refine HWI2.out.mono ?_;rintro e w11 ⟨sg,gn,hn,cn,rfl,hb11,hc11,hl1,hl2,hl3,hg11⟩;have HX:Hid (FmtX w0 w g b P size n (.returned (.tuple #[.pointer (some ⟨sg,0,none⟩),.int .i64 0])) w11):=hid (by
   refine .inl ⟨HE.out,⟨sg,g,b,P10,gc,hc,cc,gn,hn,cn,none,gc,hc,cc,ap,ln,cp⟩,rfl,rfl,?_,HT10.out.trans (Qc hg11) (fun _ _ e=>e.elim),fun k hk=>?_⟩
   ·have hbi:=Qab HGE.out;have hsz:(blank size n).size=size:=by rw[hbi];rfl
    obtain⟨g1,g2,-,-⟩:=Qda HGE.out HE.out;rw[HRR.out]at g1 g2;have hc10:=HC10.out.old hg11;rw[hsz]at hc10 hc11;have z10:=HZ10.out;have z9:=HZ9.out;have z8:=HG8.out.size;have z0:=HS0.out.1;have hfl:∀k,Dv.fp g b P10 k→k<w10.heap.size:=fun k q=>HD10.out.dev.lt k q
    have l1:=HL3.out;have l8:=HLT8.out;have lg:=hc11.cc.glt;have lh:=hc11.cc.lt;have ln2:=hc11.cc.ne;have z11:=hg11.size;have hmk:=SpM.make (slot:=0) (sup:=firstS size n) (N:=firstC size n) (HD10.out.go (Qc hg11)) hb11 (by rw[HPE.out];exact HS10.out.grown hg11) (by rw[g1,g2];exact hc10) (by rw[g1,g2];exact hc11) ⟨by rw[g1];rfl,by rw[g2];rfl⟩ (Qby HGE.out) (.inl rfl)
     (fun k hk=>by
      rcases hk with e|e|e|⟨ad,had,e⟩
      ·subst e;exact⟨by omega,by omega,by omega,by omega,HN10.out _ l1.1 l8.2.1⟩
      ·subst e;exact⟨by omega,by omega,by omega,by omega,HN10.out _ l1.2.1 l8.2.2.1⟩
      ·subst e;exact⟨lg,by omega,by omega,ln2,fun q=>by have:=hfl _ q;omega⟩
      ·subst e;have h1:=HAD8.out ad had;exact⟨by omega,by omega,by omega,by omega,HN10.out _ h1.1 h1.2⟩)
     ⟨fun q=>by have:=hfl _ q;omega,fun q=>by have:=hfl _ q;omega,by omega⟩ (by omega)
    have e9:(⟨R.2,firstS size n,firstC size n,firstC size n,none,0⟩:SpS)=firstP size n:=by unfold firstP;rw[HRR.out]
    rw[e9]at hmk;exact hmk
   ·have z10:=HZ10.out;have z9:=HZ9.out;have z8:=HG8.out.size;have l1:=HL3.out;rcases hk with (q|q|q)|q
    ·exact .inr (by have q:k=sg:=q;omega)
    ·exact .inr (by have q:k=hn:=q;omega)
    ·exact(HF10.out k q).elim (fun z=>(HF9.out k z).imp id (fun z=>by omega)) (fun z=>.inr (by omega))
    ·refine .inr ?_;rcases q with q|q|q|q|q|⟨z,q,_⟩|⟨ad,had,q⟩
     ·have q:k=gc:=q;omega
     ·have q:k=hc:=q;omega
     ·have q:k=gn:=q;omega
     ·have q:k=gc:=q;omega
     ·have q:k=hc:=q;omega
     ·cases q
     ·have:=(HAD8.out ad had).1;omega)
  clear hb11 hc11 hl1 hl2 hl3 hg11 s0 s1 s2 s3 s4;dsimp only;go_wp2;go_ret2
  exact HX.out
 ·have q0:(E != 0)=true:=bne_iff_ne.2 h0;have HX:Hid (∀w',W6.grownBy w' none→FmtX w0 w g b P size n (.returned (.tuple #[.pointer none,.int .i64 E])) w'):=hid (fun w' k=>.inr ⟨by rw[HE.out];exact h0,by rw[HE.out],Qa HG6.out k⟩);clear h0;go_wp2_with (first|(go_at_call 72;refine HCS2.out.mono ?_;rintro e w7 ⟨rfl,hg7⟩)|fail)
  go_ret2
  exact HX.out _ hg7
end Sp
namespace Sp
open Go.RowKit Bs Dv Gr
open Cn (CN CC CnOk IsC Qj pagesL eachC LoadX loadC)
open Su (Sup SupOk SB GeoOk putS supE T4 pagesF QL Qac QM QaP)
open Fr (blk fmE fmV kindF)
theorem QcQ(n:Nat)(t g:Int)(d:List Int)(hn:Fr.Fits n)(hf:Fr.FmOk (t,g,d))(h:d.length+16≤n):kindF (blk n t g d) t=((t,g,d),0):=by
 rw[Fr.Qkl (blk n t g d) t (t,g,d) (Fr.QbS n (t,g,d) hn hf h),if_pos rfl]
theorem QdX(w0 w:World)(g b:Nat)(P:Value)(d:Dv.St)(hd:Held w0 w g b P d)(sup:Sup)(a:Option Addr)(n c:Nat)(hs:Ws.Seg w a n c sup.pages)(hg0:0≤sup.gen∧sup.gen<18446744073709551616)(hgeo:sup.size=d.size∧sup.blocks=d.blocks)
  (hp:∀p∈sup.pages,2≤p∧p<(d.blocks:Int)) (held:List Int) (hok:CnOk d.size d.blocks held) (hlen:sup.pages.length=(pagesL (eachC d.size) d.blocks held).length)
  (hpg:∀i,i<sup.pages.length→d.last (sup.pages.getD i 0).toNat=blk d.size 2 sup.gen ((pagesL (eachC d.size) d.blocks held).getD i [])) :
  Calls Tryz.prog 61 #[.pointer (some ⟨g,0,none⟩),.agg #[.int .u64 sup.gen,.int .i64 sup.size,.int .i64 sup.blocks,.int .u32 sup.root,.slice a n c]] w fun e w'=>∃gk hk ck,e=.returned (.tuple #[.pointer (some ⟨gk,0,none⟩),.int .i64 0])∧CN w0 w' gk hk ck d.size d.blocks held∧w.heap.size≤gk∧w.heap.size≤hk∧w.grownBy w' none:=by
 obtain⟨i0,hi,hz0,hz1,hz2⟩:=info_parts Ss.QcN;have hdm:=hd.dev.ok;have HFT:Hid (Fr.Fits d.size):=hid ⟨by have:=hdm.lo;omega,by have:=hdm.hi;omega,by have:=hdm.by64;omega⟩;have HBL:Hid (d.size≤4096∧d.blocks≤4096):=hid ⟨by have:=hdm.hi;omega,by have:=hdm.bhi;omega⟩;have hn:n=sup.pages.length:=hs.len.symm;have hpn:=Cn.Qav hok.geo held hok.len;have hpb:=(Su.QB hok.geo).2.1;have hpb1:=(Su.QB hok.geo).1;have hn74:n≤74:=by omega
 have hn1:0<n:=by omega
 obtain⟨ga,oa,ea,hca⟩:=hs.addr hn1;subst ea;have HAL:Hid (ga<w.heap.size):=hid (World.block_lt_of_cell? w _ (hca 0 hn1));clear hca hpb1;have HFIT:Hid (∀i,i<n→(((pagesL (eachC d.size) d.blocks held).getD i []).length:Int)+16≤d.size∧IsB ((pagesL (eachC d.size) d.blocks held).getD i [])):=hid (fun i hi=>countPage hok.geo held hok.len i (by omega));have HLDD:=hid hok.load;have HOKD:=hid hok;have HPA:Hid (∀i,i<n→0≤sup.pages.getD i 0∧sup.pages.getD i 0<4294967296∧(sup.pages.getD i 0).toNat<d.blocks):=hid (fun i hi=>by
  have hm:sup.pages.getD i 0∈sup.pages:=by rw[List.getD_eq_getElem?_getD,List.getElem?_eq_getElem (show i<sup.pages.length by omega)];exact List.getElem_mem _
  have:=hp _ hm;have:=HBL.out;omega)
 have HPG:Hid (∀i,i<n→d.last (sup.pages.getD i 0).toNat=blk d.size 2 sup.gen ((pagesL (eachC d.size) d.blocks held).getD i [])):=hid (fun i hi=>hpg i (by omega));have HLEN:Hid ((pagesL (eachC d.size) d.blocks held).length=n):=hid (by omega);have HG0:=hid hg0;have HD:=hid hd;have HB0:=hid (SB.new w sup (some ⟨ga,oa,none⟩) n c);have hg1:=Qb w (.cells #[.int .u64 sup.gen,.int .i64 sup.size,.int .i64 sup.blocks,.int .u32 sup.root,.slice (some ⟨ga,oa,none⟩) n c] 92);have HS1:=hid (hs.grown hg1);obtain⟨W0,hW0⟩:∃X,w.alloc (.cells #[.int .u64 sup.gen,.int .i64 sup.size,.int .i64 sup.blocks,.int .u32 sup.root,.slice (some ⟨ga,oa,none⟩) n c] 92)=X:=⟨_,rfl⟩;have hsz0:W0.heap.size=w.heap.size+1:=by rw[←hW0];simp
 rw[hW0]at HB0 hg1 HS1;have HW0:=hid hW0;have HG1:=hid hg1;obtain⟨-,-,-,-,c4⟩:=HB0.out.cells;have hmk:=Cn.Qeu n (by omega);have HO0:=hid (Cn.Qfk W0 n (by omega));have hg2:=Qb W0 (.cells (Cn.roomS n) 9);have HB1:=hid (HB0.out.old hg2);have HS2:=hid (HS1.out.grown hg2);have HG2:=hid (Qa hg1 hg2);obtain⟨W1,hW1⟩:∃X,W0.alloc (.cells (Cn.roomS n) 9)=X:=⟨_,rfl⟩;rw[hW1]at HO0 HB1 HS2 HG2;have HW1:=hid hW1;obtain⟨PL,hPL⟩:∃q,pagesL (eachC d.size) d.blocks held=q:=⟨_,rfl⟩;rw[hPL]at HFIT HLDD HPG HLEN;obtain⟨pgs,hpgs⟩:∃q,sup.pages=q:=⟨_,rfl⟩;rw[hpgs]at HPA HPG HS2;obtain⟨sgen,hsgen⟩:∃q,sup.gen=q:=⟨_,rfl⟩;have HGE:=hid hgeo;have HSGN:=hid hsgen;rw[hsgen]at HPG HG0;have d4:W1.cell? ⟨w.heap.size,4,none⟩=some (.slice (some ⟨ga,oa,none⟩) n c):=HB1.out.cells.2.2.2.2;rw[hsz0]at HO0;have HT1:Hid (Turn w W1 (fun k=>w.heap.size+1≤k)):=hid ((Qc HG2.out).mono (fun _ _ e=>e.elim));clear hd hs hg0 hgeo hp hok hlen hpg hdm hn hpn hpb hg1 hg2 hW0 hW1 hPL hpgs HS1 hsgen;go_enter Tryz.func61,Tryz.ntmps61
 go_upto_region 1 with fail
 rw[HW0.out];go_upto_region 2 with fail
 rw[HW1.out];clear c4 hmk HB0 HG1 HG2;go_wp2
 go_loopw [6,19] (fun s6 si wr=>∃(i gq cq:Nat),i≤n∧s6=.slice (some ⟨gq,0,none⟩) i cq∧si=.int .i64 i∧Hid (wr.ownsRow (w.heap.size+1) 9 1 (.slice (some ⟨gq,0,none⟩) i cq) i ((PL.take i).map Ss.encW))∧Hid (Turn w wr (fun k=>w.heap.size+1≤k))∧Hid (SB wr w.heap.size sup (some ⟨ga,oa,none⟩) n c)∧Hid (Ws.Seg wr (some ⟨ga,oa,none⟩) n c pgs)) (fun _ si _=>n-(intOf si).toNat)
 case atStart=>exact⟨0,w.heap.size+1,n,Nat.zero_le _,rfl,rfl,HO0,HT1,HB1,HS2⟩
 case round=>
  clear HO0 HT1 HB1 HS2 d4 hsz0;obtain⟨i,gq,cq,hin,rfl,rfl,HO,HT,HB,HS⟩:=hrel;have HGR:Hid (w.grownBy wr none):=hid (Qao (QaR w) HT.out (fun k q=>by have q:w.heap.size+1≤k:=q;omega));by_cases hlt:i<n
  ·have hq:decide (i<n)=true:=decide_eq_true hlt;obtain⟨k,hk⟩:∃k:Nat,pgs.getD i 0=(k:Int):=⟨(pgs.getD i 0).toNat,by have:=HPA.out i hlt;omega⟩;have hcell:wr.cell? ⟨ga,oa+i,none⟩=some (.int .u32 (k:Int)):=by
    obtain⟨g9,o9,e9,h9⟩:=HS.out.addr (by omega:0<n);cases e9
    rw[←hk];exact h9 i hlt
   have hpa:=HPA.out i hlt;have hpg:=HPG.out i hlt;rw[hk,Int.toNat_natCast]at hpa hpg;have w1:IntKind.i64.wrap (k:Int)=(k:Int):=IntWalk.i64_in _ (by omega);have HRD:=hid (Dv.QcY g b P d k wr (HD.out.dev.turn HT.out (fun j hj q=>by have q:w.heap.size+1≤j:=q;have:=HD.out.dev.lt j hj;omega)) hpa.2.2);rw[hpg]at HRD;have hft:=HFIT.out i hlt;have hblen:=Fr.Qo d.size 2 sgen (PL.getD i []) (by have:=hft.1;omega);have HKD:Hid (∀W,Calls Tryz.prog 101 #[.string (strOfNums (blk d.size 2 sgen (PL.getD i []))),.int .u8 2] W fun e w'=>e=.returned (.tuple #[.agg #[.int .u8 2,.int .u64 sgen,.string (strOfNums (PL.getD i []))],.int .i64 0])∧W.grownBy w' none):=hid (fun W=>by
    have h1:=Fr.Qf9 (blk d.size 2 sgen (PL.getD i [])) 2 W (Fr.QaD _ _ _ _ (by decide) hft.2) (by rw[hblen];have:=HBL.out;omega);rw[QcQ d.size 2 sgen (PL.getD i []) HFT.out ⟨(by decide:(0:Int)≤2∧(2:Int)<256),HG0.out,hft.2⟩ (by have:=hft.1;omega)]at h1;exact h1)
   have HTK:Hid (PL.take (i+1)=PL.take i++[PL.getD i []]):=hid (by
    have hil:i<PL.length:=by rw[HLEN.out];exact hlt
    rw[List.take_succ_eq_append_getElem hil,List.getD_eq_getElem?_getD,List.getElem?_eq_getElem hil]
    rfl)
   obtain⟨S0,hS0⟩:∃S,strOfNums (blk d.size 2 sgen (PL.getD i []))=S:=⟨_,rfl⟩;obtain⟨S1,hS1⟩:∃S,strOfNums (PL.getD i [])=S:=⟨_,rfl⟩;rw[hS0]at HRD HKD;rw[hS1]at HKD;have HSS:=hid hS1;have h0:=(HB.out.cells).1;rw[HSGN.out]at h0;clear hk hpa hpg hft hblen hS0 hS1;go_wp2_with fail
   refine HRD.out.mono ?_;rintro e w3 ⟨rfl,ht3⟩;have HG3:=hid ht3.grown;clear ht3 HRD hcell w1;dsimp only;go_upto_region 8 with fail
   go_wp2_with fail
   refine(HKD.out _).mono ?_;rintro e w4 ⟨rfl,hg4⟩;have HG4:=hid (Qa HG3.out hg4);clear hg4 HG3 HKD;dsimp only;go_upto_region 9 with fail
   have hb5:=heap_alloc_new w4 (.cells #[.int .u8 2,.int .u64 sgen,.string S1] 132);have hg5:=Qa HG4.out (Qb w4 (.cells #[.int .u8 2,.int .u64 sgen,.string S1] 132));obtain⟨W5,hW5⟩:∃X,w4.alloc (.cells #[.int .u8 2,.int .u64 sgen,.string S1] 132)=X:=⟨_,rfl⟩;rw[hW5]at hb5 hg5 ⊢;obtain⟨r,hr⟩:∃q,w4.heap.size=q:=⟨_,rfl⟩;rw[hr]at hb5 ⊢;have HB5:=hid (HB.out.old hg5);have r1:W5.cell? ⟨r,1,none⟩=some (.int .u64 sgen):=by rw[cell_of_row _ _ _ _ _ _ hb5];rfl
   have r2:W5.cell? ⟨r,2,none⟩=some (.string S1):=by rw[cell_of_row _ _ _ _ _ _ hb5];rfl
   have h5:=(HB5.out.cells).1;rw[HSGN.out]at h5;have HO1:=hid (HO.out.kept hg5 (.inr (fun e=>by cases e)));have HT5:=hid (HT.out.trans (Qc hg5) (fun _ _ e=>e.elim));have HS5:=hid (HS.out.grown hg5);have hsz5:w.heap.size≤W5.heap.size:=HT5.out.size;have q7:(sgen != sgen)=false:=bne_self_eq_false _;clear hb5 hg5 hW5 hr h0 HO HT HB HS;go_wp2_with (first
    |(at_builtin;refine wpList_append_own _ rfl (.tmp 48) (.tmp 51) 49 rfl (w.heap.size+1) 9 i0 (.string ⟨#[]⟩) 1 16 Tryz.underlying49 hi hz0 hz1 hz2 rfl (by decide) (.slice (some ⟨gq,0,none⟩) i cq) i _ rfl (HO1.out.alloc _) ⟨W5.heap.size,0,none⟩ 1 1 [.string S1] rfl rfl (by intro t u ht;match t,ht with|0,ht=>simp at ht;subst ht;exact Qac W5 _ _) (by intro u hu;simp at hu;subst hu;rfl) (by unfold maxLen;omega) (by omega) (by simp only[World.size_alloc];omega) ?_;intro v' w6' hown hgr _;obtain⟨g3,c3,rfl⟩:=QL hown (by omega);have HTA:=hid ((Turn.alloc W5 (.cells #[.string S1] 9) (fun i=>w.heap.size+1≤i)).trans (Turn.Qf hgr (fun i e _=>((HO1.out.alloc (.cells #[.string S1] 9)).lt i (by first|exact e|(rw[←e]))).1)) (fun _ _ h=>h));have HOW:=hid hown;clear hown hgr)
    |fail)
   have HO3:Hid (w6'.ownsRow (w.heap.size+1) 9 1 (.slice (some ⟨g3,0,none⟩) (i+1) c3) (i+1) ((PL.take (i+1)).map Ss.encW)):=hid (by
    rw[HTK.out,List.map_append];have e:Ss.encW (PL.getD i [])=.string S1:=by rw[←HSS.out];rfl
    rw[List.map_cons,List.map_nil,e];exact HOW.out)
   have HT6:Hid (Turn w w6' (fun k=>w.heap.size+1≤k)):=hid (HT5.out.trans HTA.out (fun _ _ e=>e));have HB6:Hid (SB w6' w.heap.size sup (some ⟨ga,oa,none⟩) n c):=hid (Fr.Qg HB5.out HTA.out (by show ¬w.heap.size+1≤w.heap.size;omega));have HS6:=hid (Qp HS5.out HTA.out (fun ad had=>by cases had;have:=HAL.out;show ¬w.heap.size+1≤ga;omega));go_roundw
   case rel=>exact⟨i+1,g3,c3,by omega,rfl,by go_num,HO3,HT6,HB6,HS6⟩
   case measure=>simp[intOf];omega
  ·have hq:decide (i<n)=false:=decide_eq_false hlt;obtain rfl:i=n:=by omega
   obtain⟨-,h1,h2,-,-⟩:=HB.out.cells;rw[HGE.out.1]at h1;rw[HGE.out.2]at h2;have HLC:=hid (Cn.QdX (d.size:Int) (d.blocks:Int) (some ⟨gq,0,none⟩) i cq PL wr (by
    have h9:=HO.out;rw[List.take_of_length_le (by rw[HLEN.out];exact Nat.le_refl _)]at h9;exact Ss.Seg.own h9) (fun p hp=>by
    obtain⟨j,hj,rfl⟩:=List.getElem_of_mem hp;have h9:=HFIT.out j (by rw[←HLEN.out];exact hj);rw[List.getD_eq_getElem?_getD,List.getElem?_eq_getElem hj]at h9;have h9:((PL[j].length:Nat):Int)+16≤d.size∧IsB PL[j]:=h9;have:=HBL.out;exact⟨h9.2,by omega⟩))
   go_wp2_with fail
   refine HLC.out.mono ?_;rintro e w4 ⟨hg4,hx⟩;rcases hx with ⟨hno,_⟩|⟨nn,hnn,hgg,hx⟩
   ·exact absurd HOKD.out.geo hno
   ·have hnn2:nn=d.blocks:=by omega
    subst hnn2;rcases hx with ⟨h4,_⟩|⟨_,gk,hk,ck,rfl,hcc,hl1,hl2⟩
    ·rw[HLDD.out]at h4;cases h4
    ·have HX:Hid (CN w0 w4 gk hk ck d.size d.blocks held∧w.heap.size≤gk∧w.heap.size≤hk∧w.grownBy w4 none):=hid (by
      rw[HLDD.out]at hcc;have hz:=HGR.out.size;have h00:=HD.out.turn.size;exact⟨⟨hcc,HOKD.out,by omega,by omega,Qa HD.out.turn.grown (Qa HGR.out hg4)⟩,by omega,by omega,Qa HGR.out hg4⟩)
     clear hg4 hnn hgg hcc hl1 hl2;dsimp only;go_wp2;go_ret2
     exact⟨gk,hk,ck,rfl,HX.out⟩
end Sp
namespace Sp
open Go.RowKit Bs Dv Gr
open Cn (CN CC CnOk IsC Qj pagesL eachC LoadX loadC)
open Su (Sup SupOk SB GeoOk putS getS supE chooseS T4 pagesF QL Qac QM QaP ChoseX)
open Fr (blk fmE fmV kindF)
theorem QfT(x y:Int)(w:World):(binOp .eql 28 (.agg #[.int .i64 x,.int .i64 y]) (.agg #[.int .i64 x,.int .i64 y])).run Tryz.prog w=.ok (.bool true) w:=by
 have hF:(Tryz.prog.fieldsOf 28).toList.map (fun f=>(f.type,f.offset,decide (f.name≠"_")))=[(3,0,true),(3,1,true)]:=by kernel_rfl
 obtain⟨f1,f2,hf,e1,e2,e3,e4,e5,e6⟩:∃f1 f2:Field,(Tryz.prog.fieldsOf 28).toList=[f1,f2]∧f1.type=3∧f1.offset=0∧f1.name≠"_"∧f2.type=3∧f2.offset=1∧f2.name≠"_":=by
  revert hF
  generalize (Tryz.prog.fieldsOf 28).toList=l;intro hF;rcases l with _|⟨f1,_|⟨f2,_|⟨f3,r⟩⟩⟩
  ·cases hF
  ·simp only[List.map_cons,List.map_nil,List.cons.injEq]at hF;exact absurd hF.2 (by simp)
  ·simp only[List.map_cons,List.map_nil,List.cons.injEq,Prod.mk.injEq,decide_eq_true_eq,and_true]at hF;exact⟨f1,f2,rfl,hF.1.1,hF.1.2.1,hF.1.2.2,hF.2.1,hF.2.2.1,hF.2.2.2⟩
  ·simp only[List.map_cons,List.cons.injEq]at hF;exact absurd hF.2.2 (by simp)
 have hu:Tryz.prog.underlying 28=some (.struct (Tryz.prog.fieldsOf 28)):=by kernel_rfl
 rw[run_eql_struct,run_equalIn_struct w 9999 _ _ _ hu (by kernel_rfl),hf];simp[Op.eqFields,e1,e2,e3,e4,e5,e6,part,run_equalIn_int _ _ _ _ _ _ _ Tryz.underlying3,go_sem]
theorem Qgl(x y:Int)(w:World):(binOp .neq 28 (.agg #[.int .i64 x,.int .i64 y]) (.agg #[.int .i64 x,.int .i64 y])).run Tryz.prog w=.ok (.bool false) w:=by
 have e:=QfT x y w;simp[binOp]at e ⊢;cases h:Sem.run Tryz.prog (Op.equal 28 (.agg #[.int .i64 x,.int .i64 y]) (.agg #[.int .i64 x,.int .i64 y])) w <;> rw[h]at e <;> simp at e ⊢
 exact e
def OpX(w0 w:World)(g b:Nat)(P:Value)(s:SpS)(e:Ending)(w':World):Prop:=
 ∃x:Nm,e=.returned (.tuple #[.pointer (some ⟨x.sg,0,none⟩),.int .i64 0])∧x.g=g∧x.b=b∧x.P=P∧SpM w0 w' x s∧w.grownBy w' none∧w.heap.size≤x.sg∧∀k,x.fp k→Dv.fp g b P k∨w.heap.size≤k
theorem open_yes (w0 w:World) (g b:Nat) (P:Value) (d:Dv.St) (hd:Held w0 w g b P d) (sup:Sup) (held:List Int) (slot:Nat) (hk:Kept d sup held slot) (hok:CnOk d.size d.blocks held) (hT4:T4 w0) :
    Calls Tryz.prog 23 #[.pointer (some ⟨g,0,none⟩)] w (OpX w0 w g b P ⟨d,sup,held,held,none,slot⟩):=by
  have hdm:=hd.dev.ok
  have hb8:8≤d.blocks:=by have:=hdm.blo;omega
  have HR0:Hid (∀W,Turn w W nowhere→Calls Tryz.prog 58 #[.pointer (some ⟨g,0,none⟩),.int .i64 0] W fun e w'=>e=.returned (.tuple #[.string (strOfNums (d.last 0)),.int .i64 0])∧Turn W w' nowhere):=hid (fun W hW=>Dv.QcY g b P d 0 W (hd.go hW).dev (by omega))
  have HR1:Hid (∀W,Turn w W nowhere→Calls Tryz.prog 58 #[.pointer (some ⟨g,0,none⟩),.int .i64 1] W fun e w'=>e=.returned (.tuple #[.string (strOfNums (d.last 1)),.int .i64 0])∧Turn W w' nowhere):=hid (fun W hW=>Dv.QcY g b P d 1 W (hd.go hW).dev (by omega))
  have l0:=hdm.last (b:=0) (by omega)
  have l1:=hdm.last (b:=1) (by omega)
  have hhi:=hdm.hi
  have HCH:Hid (∀W,T4 W→Calls Tryz.prog 59 #[.string (strOfNums (d.last 0)),.string (strOfNums (d.last 1))] W (ChoseX W ((slot:Int),sup,0))):=hid (fun W hW=>by
    have h1:=Su.QhO (d.last 0) (d.last 1) W l0.2 l1.2 (by omega) (by omega) hW
    rw[hk.chosen]at h1
    exact h1)
  have HT4:Hid (∀W,Turn w W nowhere→T4 W):=hid (fun W hW=>(hT4.grown hd.turn.grown).grown hW.grown)
  have HGE:Hid (∀W,Turn w W nowhere→Calls Tryz.prog 60 #[.pointer (some ⟨g,0,none⟩)] W fun e w'=>e=.returned (.agg #[.int .i64 (d.size:Int),.int .i64 (d.blocks:Int)])∧Turn W w' nowhere):=hid (fun W hW=>Qhi g b P d W (hd.go hW).dev)
  have HKP:=hid hk
  have HOK:=hid hok
  have HD:=hid hd
  have HGEO:Hid (sup.size=d.size∧sup.blocks=d.blocks):=hid ⟨hk.size,hk.blocks⟩
  have heq:=Qgl (d.size:Int) (d.blocks:Int)
  obtain⟨S0,hS0⟩:∃S,strOfNums (d.last 0)=S:=⟨_,rfl⟩
  obtain⟨S1,hS1⟩:∃S,strOfNums (d.last 1)=S:=⟨_,rfl⟩
  rw[hS0]at HR0 HCH
  rw[hS1]at HR1 HCH
  have HPG:Hid ((∀p∈sup.pages,2≤p∧p<(d.blocks:Int))∧0<sup.pages.length∧sup.pages.length=(pagesL (eachC d.size) d.blocks held).length∧∀i,i<sup.pages.length→d.last (sup.pages.getD i 0).toNat=blk d.size 2 sup.gen ((pagesL (eachC d.size) d.blocks held).getD i [])):=hid (by
    have hv:=(Su.Qaq hk.yes).1
    have hp1:=(Su.QB hv.1).1
    have hl:=hk.len
    have hpp:=hk.pages
    rw[hk.size]at hl hpp
    refine⟨fun p hp=>?_,by have:=hv.2.2.2.1;omega,hl,hpp⟩
    have h1:=(hv.2.2.2.2.1 p hp).1
    unfold Su.pageP at h1
    rw[hk.blocks]at h1
    exact h1)
  clear hd hk hok hT4 hdm hb8 l0 l1 hhi hS0 hS1
  go_enter Tryz.func23,Tryz.ntmps23
  go_wp2_with fail
  refine(HR0.out w (Turn.refl _ _)).mono ?_
  rintro e w1 ⟨rfl,ht1⟩
  have HT1:=hid ht1
  clear ht1
  dsimp only
  go_upto_region 4 with fail
  go_wp2_with fail
  refine(HR1.out w1 HT1.out).mono ?_
  rintro e w2 ⟨rfl,ht2⟩
  have HT2:=hid (HT1.out.trans ht2 (fun _ _ e=>e))
  clear ht2 HT1
  dsimp only
  go_upto_region 7 with fail
  go_wp2_with fail
  refine(HCH.out w2 (HT4.out w2 HT2.out)).mono ?_
  rintro e w3 ⟨hg3,a,n,c,rfl,hs3,hn3⟩
  have HT3:=hid (HT2.out.trans (Qc hg3) (fun _ _ e=>e))
  have HS3:Hid (Ws.Seg w3 a n c sup.pages):=hid hs3
  have HN3:Hid (∀ad,a=some ad→w.heap.size≤ad.block):=hid (fun ad had=>by have:=hn3 ad had;have:=HT2.out.size;omega)
  clear hg3 hs3 hn3 HT2 HCH HR0 HR1 HT4
  dsimp only
  go_upto_region 8 with fail
  have hb4:=SB.new w3 sup a n c
  have hg4:=Qb w3 (.cells #[.int .u64 sup.gen,.int .i64 sup.size,.int .i64 sup.blocks,.int .u32 sup.root,.slice a n c] 92)
  obtain⟨W4,hW4⟩:∃X,w3.alloc (.cells #[.int .u64 sup.gen,.int .i64 sup.size,.int .i64 sup.blocks,.int .u32 sup.root,.slice a n c] 92)=X:=⟨_,rfl⟩
  rw[hW4]at hb4 hg4 ⊢
  obtain⟨r,hr⟩:∃q,w3.heap.size=q:=⟨_,rfl⟩
  rw[hr]at hb4 ⊢
  have HB4:=hid hb4
  have HT4b:=hid (HT3.out.trans (Qc hg4) (fun _ _ e=>e))
  have HS4:=hid (HS3.out.grown hg4)
  have HRW:Hid (w.heap.size≤r):=hid (by have:=HT3.out.size;omega)
  obtain⟨-,r1,r2,-,-⟩:=hb4.cells
  rw[HGEO.out.1]at r1
  rw[HGEO.out.2]at r2
  clear hb4 hg4 hW4 hr HT3 HS3
  go_region_held3 (fun w'=>w'.cell? ⟨r,1,none⟩=some (.int .i64 (d.size:Int))∧w'.cell? ⟨r,2,none⟩=some (.int .i64 (d.blocks:Int))) (go_keep)
    (first
      | (go_at_call 60
         (with_reducible refine(HGE.out _ (HT4b.out.trans (Turn.drew W4 _) (fun _ _ e=>e))).mono ?_)
         rintro e w5 ⟨rfl,ht5⟩
         have k1:=((Turn.drew W4 nowhere).trans ht5 (fun _ _ e=>e)).cell r1 id
         have k2:=((Turn.drew W4 nowhere).trans ht5 (fun _ _ e=>e)).cell r2 id
         have HT5:=hid ((Turn.drew W4 nowhere).trans ht5 (fun _ _ e=>e))
         clear ht5)
      |fail)
  have HT5b:=hid (HT4b.out.trans HT5.out (fun _ _ e=>e))
  have HB5:=hid (HB4.out.old HT5.out.grown)
  have HS5:=hid (HS4.out.grown HT5.out.grown)
  have HRL:Hid (r<w5.heap.size):=hid HB5.out.lt
  obtain⟨b0,b1,b2,b3,b4⟩:=HB5.out.cells
  have HLD:=hid (QdX w0 w5 g b P d (HD.out.go HT5b.out) sup a n c HS5.out ⟨HKP.out.ok.gen.1,HKP.out.ok.gen.2⟩ HGEO.out HPG.out.1 held HOK.out HPG.out.2.2.1 HPG.out.2.2.2)
  rw[HGEO.out.1,HGEO.out.2]at HLD
  rw[HGEO.out.1]at b1
  rw[HGEO.out.2]at b2
  clear r1 r2 k1 k2 HT5 HT4b HB4 HS4 HGE heq
  go_upto_region 10 with fail
  go_wp2_with fail
  refine HLD.out.mono ?_
  rintro e w6 ⟨gk,hk,ck,rfl,hc6,hl1,hl2,hg6⟩
  have HT6:=hid (HT5b.out.trans (Qc hg6) (fun _ _ e=>e))
  have HB6:=hid (HB5.out.old hg6)
  have HS6:=hid (HS5.out.grown hg6)
  have HC6:=hid hc6
  have HL6:Hid (w.heap.size≤gk∧w.heap.size≤hk):=hid (by have:=HT5b.out.size;exact⟨by omega,by omega⟩)
  obtain⟨d0,d1,d2,d3,d4⟩:=HB6.out.cells
  have HWI:=hid (Qa6 (w:=w6) w0 (some ⟨g,0,none⟩) sup a n c (slot:Int) gk hk ck d.size d.blocks held hc6)
  rw[HGEO.out.1,HGEO.out.2]at HWI
  rw[HGEO.out.1]at d1
  rw[HGEO.out.2]at d2
  have HAD:Hid (∀ad,a=some ad→ad.block<w6.heap.size):=hid (fun ad had=>by
    have hnn:0<n:=by have:=HS6.out.len;have:=HPG.out.2.1;omega
    obtain⟨gq,oq,e5,hcq⟩:=HS6.out.addr hnn
    rw[had]at e5
    cases e5
    have h9:=World.block_lt_of_cell? w6 _ (hcq 0 hnn)
    have h9:gq<w6.heap.size:=h9
    show gq<w6.heap.size
    exact h9)
  clear hc6 hl1 hl2 hg6 HLD b0 b1 b2 b3 b4 HB5 HS5
  dsimp only
  go_upto_region 13 with fail
  go_wp2_with fail
  refine HWI.out.mono ?_
  rintro e w7 ⟨sg,gn,hn,cn,rfl,hb7,hc7,hl1,hl2,hl3,hg7⟩
  have HX : Hid (OpX w0 w g b P ⟨d,sup,held,held,none,slot⟩ (.returned (.tuple #[.pointer (some ⟨sg,0,none⟩),.int .i64 0])) w7):=hid (by
    have z6:=HT6.out.size
    have z7:=hg7.size
    have z0:=HD.out.turn.size
    have lg:=hc7.cc.glt
    have lh:=hc7.cc.lt
    have ln2:=hc7.cc.ne
    have l6:=HL6.out
    have m1:=HC6.out.cc.glt
    have m2:=HC6.out.cc.lt
    have hfl:∀k,Dv.fp g b P k→k<w.heap.size:=fun k q=>HD.out.dev.lt k q
    refine⟨⟨sg,g,b,P,gk,hk,ck,gn,hn,cn,none,gk,hk,ck,a,n,c⟩,rfl,rfl,rfl,rfl,?_,Qa HT6.out.grown hg7,by show w.heap.size≤sg;omega,fun k hk2=>?_⟩
    · exact SpM.make (HD.out.go (HT6.out.trans (Qc         hg7) (fun _ _ e=>e))) (by rw[HGEO.out.1,HGEO.out.2];exact hb7) (HS6.out.grown hg7) (HC6.out.old hg7) hc7 HGEO.out HKP.out.ok HKP.out.two
        (fun k hk2=>by
          rcases hk2 with e|e|e|⟨ad,had,e⟩
          · subst e;exact⟨by omega,by omega,by omega,by omega,fun q=>by have:=hfl _ q;omega⟩
          · subst e;exact⟨by omega,by omega,by omega,by omega,fun q=>by have:=hfl _ q;omega⟩
          · subst e;exact⟨lg,by omega,by omega,ln2,fun q=>by have:=hfl _ q;omega⟩
          · subst e
            have h1:=HAD.out ad had
            have h2:=HN3.out ad had
            exact⟨by omega,by omega,by omega,by omega,fun q=>by have:=hfl _ q;omega⟩)
        ⟨fun q=>by have:=hfl _ q;omega,fun q=>by have:=hfl _ q;omega,by omega⟩ (by omega)
    · rcases hk2 with (q|q|q)|q
      · exact .inr (by have q:k=sg:=q;omega)
      · exact .inr (by have q:k=hn:=q;omega)
      · exact .inl q
      · refine .inr ?_
        rcases q with q|q|q|q|q|⟨z,q,_⟩|⟨ad,had,q⟩
        · have q:k=gk:=q;omega
        · have q:k=hk:=q;omega
        · have q:k=gn:=q;omega
        · have q:k=gk:=q;omega
        · have q:k=hk:=q;omega
        · cases q
        · have:=HN3.out ad had;omega)
  clear hb7 hc7 hl1 hl2 hl3 hg7 d0 d1 d2 d3 d4
  dsimp only
  go_wp2
  go_ret2
  exact HX.out
end Sp
namespace Sp
open Go.RowKit Bs Dv Gr
open Cn (CN CC CnOk IsC)
open Su (Sup SupOk)
section
variable {w0 w w2 : World}
theorem lit32(w2:World)(m:Nat):Ws.Seg (w2.alloc (.cells #[.int .u32 (m:Int)] 30)) (some ⟨w2.heap.size,0,none⟩) 1 1 [(m:Int)]:=
 ⟨rfl,Nat.le_refl _,by unfold maxLen;omega,(fun e=>by cases e),fun ad had j u hu=>by
  cases had
  match j,hu with
  |0,hu=>
   have hu:some (Value.int .u32 (m:Int))=some u:=hu;rw[←hu];exact Su.Qac w2 _ _
  |j+1,hu=>exact absurd hu (by simp)⟩
end
end Sp
namespace Sp
open Go.RowKit Bs Dv Gr
open Cn (CN CC CnOk IsC)
open Su (Sup SupOk T4)
section
variable {w0 w : World} {T : Nat}
theorem QhP{x:Nm}{s:SpS}{own hown mown:List Nat}(h:SpM w0 w x s)(hok:SpOk s own hown mown T)(hT:T≤9000)(root:Nat)(hn:root<4294967296)(hr:root=0∨root∈own)(hT4:T4 w0) :
  Calls Tryz.prog 22 #[.pointer (some ⟨x.sg,0,none⟩),.int .u32 (root:Int)] w fun e w'=>e=.returned (.int .i64 0)∧Op w0 w x (commitP s root) w':=by
 have hrr:(root:Int)=0∨(0≤(root:Int)∧(root:Int).toNat∈own):=hr.imp (fun e=>by omega) (fun e=>⟨by omega,by rw[Int.toNat_natCast];exact e⟩);obtain⟨z1,z2⟩:=QjZ hok hT hrr;have hE:comE s root=0:=by
  unfold comE;by_cases e:(root:Int)=0
  ·rw[if_pos e]
  ·rw[if_neg e,Int.toNat_natCast];rcases hr with q|q
   ·omega
   ·have h2:GoodC s.dv s.sup.pages s.now (root :: own.erase root):=hok.now.perm fun n=>by rw[(List.perm_cons_erase q).count_eq]
    exact(QbW h2).1
 refine(commit_yes h (by rw[Qlm hok.fuse];exact hok) hT root hn hr hT4).mono ?_;rintro e w' (⟨q,_⟩|⟨_,rfl,q,_⟩)
 ·exact absurd hE q
 ·refine⟨by rw[z1],?_⟩;rw[←z2];exact q z1
end
end Sp
namespace Sp
open Go.RowKit Bs Dv Gr
open Su (GeoOk)
theorem Qlu(w:World):Calls Tryz.prog 60 #[.pointer none] w fun e w'=>e=.returned (.agg #[.int .i64 0,.int .i64 0])∧w.grownBy w' none:=by
 have hg0:=Qb w (.cells #[.int .i64 0,.int .i64 0] 28);have hb0:=heap_alloc_new w (.cells #[.int .i64 0,.int .i64 0] 28);obtain⟨W0,hW0⟩:∃X,w.alloc (.cells #[.int .i64 0,.int .i64 0] 28)=X:=⟨_,rfl⟩;rw[hW0]at hg0 hb0;have HW0:=hid hW0;have HV:=hid (Dv.Qdq W0);have c0:W0.cell? ⟨w.heap.size,0,none⟩=some (.int .i64 0):=by rw[cell_of_row _ _ _ _ _ _ hb0];rfl
 have c1:W0.cell? ⟨w.heap.size,1,none⟩=some (.int .i64 0):=by rw[cell_of_row _ _ _ _ _ _ hb0];rfl
 have f0:∀j,W0.frozen? ⟨w.heap.size,j,none⟩=false:=fun j=>by simp[World.frozen?,hb0]
 have HX:Hid (w.grownBy ((W0.setCell ⟨w.heap.size,0,none⟩ (.int .i64 0)).setCell ⟨w.heap.size,1,none⟩ (.int .i64 0)) none):=hid (Qh hg0 (QaB (QaB (Turn.refl W0 (·=w.heap.size)) 0 (.int .i64 0)) 1 (.int .i64 0)) (Nat.le_refl _));have HQ:Hid (((W0.setCell ⟨w.heap.size,0,none⟩ (.int .i64 0)).setCell ⟨w.heap.size,1,none⟩ (.int .i64 0)).heap[w.heap.size]?=some (.cells #[.int .i64 0,.int .i64 0] 28 (0,0))):=hid (heap_setCell_same _ _ 1 _ _ _ (heap_setCell_same W0 _ 0 _ _ _ hb0));clear hg0 hb0 hW0;go_enter Tryz.func60,Tryz.ntmps60
 go_upto_region 1 with fail
 rw[HW0.out];go_wp2_with (first|(go_at_call 100;refine HV.out.mono ?_;rintro e w' ⟨rfl,rfl⟩)|fail)
 refine bodyPost_ret (v:=.agg #[.int .i64 0,.int .i64 0]) ?_ rfl ⟨rfl,HX.out⟩;exact Su.Qcn rfl _ _ w.heap.size _ _ _ _ rfl HQ.out Tryz.underlying28 rfl (by kernel_rfl)
theorem Qlt:geoE 0 0=2:=by decide
theorem Qh1(w:World):Calls Tryz.prog 31 #[.pointer none] w fun e w'=>e=.returned (.tuple #[.pointer none,.int .i64 1])∧w.grownBy w' none:=by
 have HG:=hid (Qlu w);have HCK:Hid (∀W,Calls Tryz.prog 68 #[.agg #[.int .i64 0,.int .i64 0]] W fun e w'=>e=.returned (.int .i64 2)∧W.grownBy w' none):=hid (fun W=>(Dv.QT 0 0 W).mono fun e w' ⟨h1,h2⟩=>⟨by rw[h1,Qlt],by rw[h2];exact Qb _ _⟩);go_enter Tryz.func31,Tryz.ntmps31
 go_upto_region 2 with (first|(go_at_call 60;refine HG.out.mono ?_;rintro e w1 ⟨rfl,hg1⟩)|fail)
 have hb1:=heap_alloc_new w1 (.cells #[.int .i64 0,.int .i64 0] 28);have hg2:=Qa hg1 (Qb w1 (.cells #[.int .i64 0,.int .i64 0] 28));obtain⟨W1,hW1⟩:∃X,w1.alloc (.cells #[.int .i64 0,.int .i64 0] 28)=X:=⟨_,rfl⟩;rw[hW1]at hb1 hg2 ⊢;have c0:W1.cell? ⟨w1.heap.size,0,none⟩=some (.int .i64 0):=by rw[cell_of_row _ _ _ _ _ _ hb1];rfl
 have c1:W1.cell? ⟨w1.heap.size,1,none⟩=some (.int .i64 0):=by rw[cell_of_row _ _ _ _ _ _ hb1];rfl
 have HG2:=hid hg2;clear hb1 hg2 hg1 hW1 HG;go_wp2_with (first|(go_at_call 68;refine(HCK.out _).mono ?_;rintro e w2 ⟨rfl,hg3⟩)|fail)
 go_ret2
 exact⟨rfl,Qa HG2.out hg3⟩
end Sp
namespace Sp
open Go.ChangeShapes Go.WideShapes Go.ChangeAt Go.RowKit Bs Dv Gr
end Sp
end Go.Proofs.YtgffbbdcbkikhaaGreatDoor
