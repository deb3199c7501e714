/- Parts of the proof. -/
import Derived.Test.YtbbbocoliandcaaGreatDoorKab
set_option maxRecDepth 100000
set_option maxHeartbeats 8000000
open Go.Lib (hid)
namespace Go.Proofs.YtbbbocoliandcaaGreatDoor
namespace Sp
open Go.RowKit Bs Dv Gr
open Cn (CN CC CnOk IsC pagesL eachC bytesC)
open Oct (putB ofB)
def orI(x y:Int):Int:=((x.toNat ||| y.toNat:Nat):Int)
def orL(a b:List Int):List Int:=List.zipWith orI a b
theorem Qbd(a b:List Int)(h:a.length=b.length):(orL a b).length=a.length:=by unfold orL;rw[List.length_zipWith,h,Nat.min_self]
theorem QfO(a b:List Int)(h:a.length=b.length)(i:Nat)(hi:i<a.length):(orL a b).getD i 0=orI (a.getD i 0) (b.getD i 0):=by
 unfold orL;rw[List.getD_eq_getElem?_getD,List.getElem?_zipWith,List.getElem?_eq_getElem hi,List.getElem?_eq_getElem (show i<b.length by omega),List.getD_eq_getElem?_getD,List.getD_eq_getElem?_getD,List.getElem?_eq_getElem hi,List.getElem?_eq_getElem (show i<b.length by omega)]
 rfl
theorem orI_bound {x y : Int} {k : Nat} (hx:0≤x∧x<2 ^ k) (hy:0≤y∧y<2 ^ k):0≤orI x y∧orI x y<2 ^ k:=by
  have h1 : x.toNat < 2 ^ k := by have:((2 ^ k:Nat):Int)=2 ^ k:=by rw[Int.natCast_pow];rfl
                                  omega
  have h2 : y.toNat < 2 ^ k := by have:((2 ^ k:Nat):Int)=2 ^ k:=by rw[Int.natCast_pow];rfl
                                  omega
  have h3:=Nat.or_lt_two_pow h1 h2
  have h4:((2 ^ k:Nat):Int)=2 ^ k:=by rw[Int.natCast_pow];rfl
  unfold orI
  constructor <;> omega
theorem Qjy{x y:Int}(hx:0≤x)(hy:0≤y):orI x y=0↔x=0∧y=0:=by
 unfold orI
 constructor
 ·intro h;have h1:x.toNat ||| y.toNat=0:=by omega
  have h2:=Nat.or_eq_zero_iff.1 h1;omega
 ·rintro⟨rfl,rfl⟩
  rfl
theorem QkX(x y:Int)(hx:0≤x)(hy:0≤y):putB 2 (orI x y)=orL (putB 2 x) (putB 2 y):=by
 obtain⟨a,rfl⟩:∃a:Nat,x=a:=⟨x.toNat,by omega⟩;obtain⟨b,rfl⟩:∃b:Nat,y=b:=⟨y.toNat,by omega⟩;have h1:=Nat.or_mod_two_pow (a:=a) (b:=b) (n:=8);have h2:=Nat.or_div_two_pow (a:=a) (b:=b) (n:=8);have h3:=Nat.or_mod_two_pow (a:=a / 2 ^ 8) (b:=b / 2 ^ 8) (n:=8);rw[←h2]at h3;have e1:(2:Nat) ^ 8=256:=rfl;rw[e1]at h1 h3;have c1:((a ||| b:Nat):Int) % 256=orI ((a:Int) % 256) ((b:Int) % 256):=by
  unfold orI;rw[show((a:Int) % 256).toNat=a % 256 by omega,show((b:Int) % 256).toNat=b % 256 by omega,←h1];omega
 have c2:((a ||| b:Nat):Int) / 256 % 256=orI ((a:Int) / 256 % 256) ((b:Int) / 256 % 256):=by
  unfold orI;rw[show((a:Int) / 256 % 256).toNat=a / 256 % 256 by omega,show((b:Int) / 256 % 256).toNat=b / 256 % 256 by omega,←h3];omega
 show [((a ||| b:Nat):Int) % 256,((a ||| b:Nat):Int) / 256 % 256]=[orI ((a:Int) % 256) ((b:Int) % 256),orI ((a:Int) / 256 % 256) ((b:Int) / 256 % 256)]
 rw[c1,c2]
theorem QkU(a b c d:List Int)(h:a.length=b.length):orL (a++c) (b++d)=orL a b++orL c d:=by unfold orL;exact List.zipWith_append h
theorem Qff:∀a b:List Int,a.length=b.length→(∀x∈a,0≤x)→(∀x∈b,0≤x)→bytesC (orL a b)=orL (bytesC a) (bytesC b)
 | [],[],_,_,_=>rfl
 | [],_ :: _,h,_,_=>by cases h
 |_ :: _,[],h,_,_=>by cases h
 |x :: a,y :: b,h,ha,hb=>by
  show putB 2 (orI x y)++bytesC (orL a b)=orL (putB 2 x++bytesC a) (putB 2 y++bytesC b)
  rw[QkU _ _ _ _ (by rw[Oct.Qg,Oct.Qg]),QkX x y (ha x (List.mem_cons_self ..)) (hb y (List.mem_cons_self ..)),Qff a b (by simpa using h) (fun z q=>ha z (List.mem_cons_of_mem _ q)) (fun z q=>hb z (List.mem_cons_of_mem _ q))]
theorem QfT(each:Nat):∀(f:Nat) (a b:List Int),a.length=b.length→(∀x∈a,0≤x)→(∀x∈b,0≤x)→pagesL each f (orL a b)=List.zipWith orL (pagesL each f a) (pagesL each f b)
 |0,_,_,_,_,_=>rfl
 |f+1,a,b,h,ha,hb=>by
  rw[pagesL,pagesL,pagesL,Qbd a b h];by_cases h0:a.length=0
  ·rw[if_pos h0,if_pos h0,if_pos (by omega)]
   rfl
  ·rw[if_neg h0,if_neg h0,if_neg (by omega),List.zipWith_cons_cons];have e1:(orL a b).take each=orL (a.take each) (b.take each):=by unfold orL;rw[List.take_zipWith]
   have e2:(orL a b).drop each=orL (a.drop each) (b.drop each):=by unfold orL;rw[List.drop_zipWith]
   rw[e1,e2,Qff _ _ (by rw[List.length_take,List.length_take,h]) (fun x q=>ha x (List.mem_of_mem_take q)) (fun x q=>hb x (List.mem_of_mem_take q)),QfT each f _ _ (by rw[List.length_drop,List.length_drop,h]) (fun x q=>ha x (List.mem_of_mem_drop q)) (fun x q=>hb x (List.mem_of_mem_drop q))]
theorem or_ok{size:Int}{n:Nat}{a b:List Int}(ha:CnOk size n a)(hb:CnOk size n b):CnOk size n (orL a b):=by
 have hl:a.length=b.length:=by rw[ha.len,hb.len]
 have hat:=fun i hi=>QfO a b hl i hi
 have h0:8≤a.length:=by have:=ha.geo;unfold Su.GeoOk at this;have:=ha.len;omega
 refine⟨ha.geo,by rw[Qbd a b hl];exact ha.len,fun x hx=>?_,?_,?_⟩
 ·obtain⟨i,hi,rfl⟩:=List.getElem_of_mem hx;rw[Qbd a b hl]at hi;have h1:=hat i hi;rw[List.getD_eq_getElem?_getD,List.getElem?_eq_getElem (by rw[Qbd a b hl];exact hi)]at h1;have h1:(orL a b)[i]'(by rw[Qbd a b hl];exact hi)=_:=h1;rw[h1];have e16:(2:Int) ^ 16=65536:=by decide
  have hx1:=ha.cnt (a.getD i 0) (by rw[List.getD_eq_getElem?_getD,List.getElem?_eq_getElem hi];exact List.getElem_mem hi);have hx2:=hb.cnt (b.getD i 0) (by rw[List.getD_eq_getElem?_getD,List.getElem?_eq_getElem (show i<b.length by omega)];exact List.getElem_mem _);have:=orI_bound (k:=16) (x:=a.getD i 0) (y:=b.getD i 0) (by rw[e16];exact hx1) (by rw[e16];exact hx2);rw[e16]at this;exact this
 ·rw[hat 0 (by omega),ha.at0,hb.at0];rfl
 ·rw[hat 1 (by omega),ha.at1,hb.at1];rfl
theorem or_u8(x y:Int)(hx:0≤x∧x<256)(hy:0≤y∧y<256):bits .or .u8 x y=orI x y:=by
 obtain⟨a,rfl⟩:∃a:Nat,x=a:=⟨x.toNat,by omega⟩;obtain⟨b,rfl⟩:∃b:Nat,y=b:=⟨y.toNat,by omega⟩;have hx:a ||| b<2 ^ 8:=Nat.or_lt_two_pow (by omega) (by omega)
 have h1:(BitVec.ofInt 8 (a:Int)).toNat=a:=by
  rw[BitVec.ofInt_natCast,BitVec.toNat_ofNat];exact Nat.mod_eq_of_lt (by omega)
 have h2:(BitVec.ofInt 8 (b:Int)).toNat=b:=by
  rw[BitVec.ofInt_natCast,BitVec.toNat_ofNat];exact Nat.mod_eq_of_lt (by omega)
 show IntKind.u8.wrap ((BitVec.ofInt 8 (a:Int) ||| BitVec.ofInt 8 (b:Int)).toNat:Int)=_
 rw[BitVec.toNat_or,h1,h2,IntKind.wrap_u8];unfold orI;rw[Int.toNat_natCast,Int.toNat_natCast];omega
def orT(a b:List Int)(i:Nat):List Int:=orL (a.take i) (b.take i)++a.drop i
theorem QbO(a b:List Int)(h:a.length=b.length)(i:Nat):(orT a b i).length=a.length:=by
 unfold orT;rw[List.length_append,Qbd _ _ (by rw[List.length_take,List.length_take,h]),List.length_take,List.length_drop];omega
theorem QfP(a b:List Int)(h:a.length=b.length)(i j:Nat)(hj:j<a.length):(orT a b i).getD j 0=if j<i then orI (a.getD j 0) (b.getD j 0) else a.getD j 0:=by
 have hl:(orL (a.take i) (b.take i)).length=min i a.length:=by rw[Qbd _ _ (by rw[List.length_take,List.length_take,h]),List.length_take]
 unfold orT;by_cases q:j<i
 ·rw[if_pos q,List.getD_eq_getElem?_getD,List.getElem?_append_left (by omega),←List.getD_eq_getElem?_getD,QfO _ _ (by rw[List.length_take,List.length_take,h]) j (by rw[List.length_take];omega)];rw[List.getD_eq_getElem?_getD,List.getElem?_take_of_lt q,←List.getD_eq_getElem?_getD,List.getD_eq_getElem?_getD (l:=b.take i),List.getElem?_take_of_lt q,←List.getD_eq_getElem?_getD]
 ·rw[if_neg q,List.getD_eq_getElem?_getD,List.getElem?_append_right (by omega),hl,List.getElem?_drop,Nat.min_eq_left (by omega),show i+(j-i)=j by omega,←List.getD_eq_getElem?_getD]
theorem QfQ(a b:List Int):orT a b 0=a:=by unfold orT;rfl
theorem QkV(a b:List Int)(h:a.length=b.length):orT a b a.length=orL a b:=by
 unfold orT;rw[List.take_of_length_le (Nat.le_refl _),List.take_of_length_le (by omega),List.drop_eq_nil_of_le (Nat.le_refl _),List.append_nil]
theorem Qjz(a b:List Int)(h:a.length=b.length)(i:Nat)(hi:i<a.length):(orT a b i).set i (orI (a.getD i 0) (b.getD i 0))=orT a b (i+1):=by
 refine Qfr (by rw[List.length_set,QbO _ _ h,QbO _ _ h]) fun j=>?_
 by_cases hj:j<a.length
 ·rw[Cn.Qm _ _ _ _ (by rw[QbO _ _ h];exact hi),QfP _ _ h _ _ hj,QfP _ _ h _ _ hj];by_cases e:j=i
  ·subst e;rw[if_pos rfl,if_pos (by omega)]
  ·rw[if_neg e];by_cases q:j<i
   ·rw[if_pos q,if_pos (by omega)]
   ·rw[if_neg q,if_neg (by omega)]
 ·have e1:((orT a b i).set i (orI (a.getD i 0) (b.getD i 0)))[j]?=none:=List.getElem?_eq_none (by rw[List.length_set,QbO _ _ h];omega);have e2:(orT a b (i+1))[j]?=none:=List.getElem?_eq_none (by rw[QbO _ _ h];omega);generalize orI (a.getD i 0) (b.getD i 0)=z at e1 ⊢;rw[List.getD_eq_getElem?_getD,List.getD_eq_getElem?_getD,e1,e2]
theorem QiA(b:List Int)(hb:IsB b)(i:Nat)(h:i<(strOfNums b).size):(((strOfNums b)[i]'h).toNat:Int)=b.getD i 0:=by
 have hi:i<b.length:=by rw[←strOfNums_size b];exact h
 have hx:=hb (b[i]) (List.getElem_mem hi);have e:(strOfNums b)[i]'h=UInt8.ofNat (b[i]).toNat:=by
  show(strOfNums b).data[i]'h=_
  unfold strOfNums
  show(List.map (fun n:Int=>UInt8.ofNat n.toNat) b).toArray[i]'(by simpa using hi)=_
  rw[List.getElem_toArray,List.getElem_map]
 rw[e,List.getD_eq_getElem?_getD,List.getElem?_eq_getElem hi]
 show((UInt8.ofNat (b[i]).toNat).toNat:Int)=b[i]
 rw[UInt8.toNat_ofNat'];omega
theorem QgW(a b:List Int)(w:World)(ha:IsB a)(hb:IsB b)(hl:a.length=b.length)(hn:a.length≤1000000) :
  Calls Tryz.prog 157 #[.string (strOfNums a),.string (strOfNums b)] w fun e w'=>e=.returned (.string (strOfNums (orL a b)))∧w.grownBy w' none:=by
 obtain⟨cap,W1,hcv,hreg,htn,hlc,hcm⟩:=Qbg a ha (by omega) w;have HTN:=hid htn;have HZ:=hid (QfQ a b);have HAL:=hid (QkV a b hl);have HNX:=hid (fun i hi=>Qjz a b hl i hi);have HAT:=hid (fun i j hj=>QfP a b hl i j hj);have HLN:=hid (QbO a b hl);have HR0:Hid (Reg W1 w.heap.size 0 (orT a b 0)):=hid (by rw[QfQ];exact hreg);have HA:=hid ha;have HB:=hid hb;have HIX:Hid (∀(i:Nat) (h:i<(strOfNums b).size),(((strOfNums b)[i]'h).toNat:Int)=b.getD i 0):=hid (QiA b hb);obtain⟨A,hA⟩:∃A,strOfNums a=A:=⟨_,rfl⟩;rw[hA]at hcv ⊢;obtain⟨n,hnn⟩:∃n,a.length=n:=⟨_,rfl⟩;have HNN:=hid (⟨hnn,hl▸hnn⟩:a.length=n∧b.length=n);have hsz:(strOfNums b).size=n:=by rw[strOfNums_size,←hl];exact hnn
 have HSZ:=hid hsz;rw[hnn]at hcv hlc hn;clear hreg htn ha hb hA hnn hl;go_enter Tryz.func157,Tryz.ntmps157
 go_wp2
 go_loopw [11] (fun si wr=>∃i:Nat,i≤n∧si=.int .i64 i∧Hid (Reg wr w.heap.size 0 (orT a b i))∧Hid (Turn w wr nowhere)) (fun si _=>n-(intOf si).toNat)
 case atStart=>exact⟨0,Nat.zero_le _,rfl,HR0,HTN⟩
 case round=>
  clear HR0;obtain⟨i,hi,rfl,HR,HT⟩:=hrel;by_cases hlt:i<n
  ·have hq:decide (i<n)=true:=decide_eq_true hlt;have hc:=HR.out.at_ i (by rw[HLN.out,HNN.out.1];exact hlt);rw[HAT.out i i (by rw[HNN.out.1];exact hlt),if_neg (by omega),Nat.zero_add]at hc;obtain⟨hc1,hf1⟩:=hc;obtain⟨x,hx⟩:∃x,a.getD i 0=x:=⟨_,rfl⟩;rw[hx]at hc1;obtain⟨S,hS⟩:∃S,strOfNums b=S:=⟨_,rfl⟩;rw[hS]at hsz ⊢;go_upto_region 5 with fail
   go_region
   have hb1:=HA.out x (by rw[←hx,List.getD_eq_getElem?_getD,List.getElem?_eq_getElem (show i<a.length by rw[HNN.out.1];exact hlt)];exact List.getElem_mem _);have hb2:=HB.out (b.getD i 0) (by rw[List.getD_eq_getElem?_getD,List.getElem?_eq_getElem (show i<b.length by rw[HNN.out.2];exact hlt)];exact List.getElem_mem _);have hlS:i<S.size:=by omega
   have e1:bits .or .u8 x ((S[i]'hlS).toNat:Int)=orI x (b.getD i 0):=by
    subst hS;rw[HIX.out i hlS];exact or_u8 _ _ hb1 hb2
   rw[e1];have hst:=HR.out.setCell i (orI x (b.getD i 0)) (by rw[HLN.out,HNN.out.1];exact hlt);rw[←hx,HNX.out i (by rw[HNN.out.1];exact hlt),Nat.zero_add,hx]at hst;have HR2:Hid (Reg (wr.setCell ⟨w.heap.size,i,none⟩ (.int .u8 (orI x (b.getD i 0)))).drew w.heap.size 0 (orT a b (i+1))):=hid hst;have HT2:Hid (Turn w (wr.setCell ⟨w.heap.size,i,none⟩ (.int .u8 (orI x (b.getD i 0)))).drew nowhere):=hid (by
    have h1:=Turn.setCell wr ⟨w.heap.size,i,none⟩ (.int .u8 (orI x (b.getD i 0))) (S:=(·=w.heap.size)) rfl;have h2:Turn w (wr.setCell ⟨w.heap.size,i,none⟩ (.int .u8 (orI x (b.getD i 0)))) nowhere:=HT.out.trans h1 (fun k hk e=>by have e2:k=w.heap.size:=e;omega);exact h2.trans (Turn.drew _ _) (fun _ _ e=>e))
   obtain⟨W2,hW2⟩:∃X,(wr.setCell ⟨w.heap.size,i,none⟩ (.int .u8 (orI x (b.getD i 0)))).drew=X:=⟨_,rfl⟩;rw[hW2]at HR2 HT2 ⊢;clear hst e1 hb1 hb2 hlS hW2 hc1 hf1 HR HT hx hS;go_wp2;go_roundw
   case rel=>exact⟨i+1,by omega,by go_num,HR2,HT2⟩
   case measure=>simp[intOf];omega
  ·have hq:decide (i<n)=false:=decide_eq_false hlt;obtain rfl:i=n:=by omega
   have hcw:=QaH w.heap.size 0 i cap (orT a b i) wr HR.out (by rw[HLN.out,HNN.out.1]);have HEE:Hid (orT a b i=orL a b):=hid (by rw[←HNN.out.1];exact HAL.out);rw[HEE.out]at hcw;obtain⟨S,hS⟩:∃S,strOfNums (orL a b)=S:=⟨_,rfl⟩;rw[hS]at hcw;have HS:=hid hS;clear hS hsz;go_wp2;go_ret
   exact⟨by rw[HS.out];rfl,HT.out.grown⟩
end Sp
namespace Sp
open Go.RowKit Bs Dv Gr
open Cn (CN CC CnOk IsC pagesL eachC bytesC PagesO PagesX LoadX loadC)
open Su (Sup SupOk)
section
variable {w0 w : World} {x : Nm} {s : SpS}
def zipT(A B:List (List Int))(i:Nat):List (List Int):=List.zipWith orL (A.take i) (B.take i)++A.drop i
theorem Qkd(A B:List (List Int))(h:A.length=B.length)(i:Nat)(hi:i<A.length):(zipT A B i).set i (orL (A.getD i []) (B.getD i []))=zipT A B (i+1):=by
 unfold zipT;have hl:(List.zipWith orL (A.take i) (B.take i)).length=i:=by rw[List.length_zipWith,List.length_take,List.length_take];omega
 rw[List.take_succ_eq_append_getElem hi,List.take_succ_eq_append_getElem (show i<B.length by omega),List.zipWith_append (by rw[List.length_take,List.length_take,h]),List.set_append_right _ _ (by omega),hl,Nat.sub_self];rw[List.drop_eq_getElem_cons hi,List.set_cons_zero,List.append_assoc]
 congr 1
 rw[List.getD_eq_getElem?_getD,List.getD_eq_getElem?_getD,List.getElem?_eq_getElem hi,List.getElem?_eq_getElem (show i<B.length by omega)]
 rfl
theorem Qlh(A B:List (List Int))(h:A.length=B.length)(i:Nat)(hi:i<A.length):(zipT A B i).getD i []=A.getD i []:=by
 unfold zipT;have hl:(List.zipWith orL (A.take i) (B.take i)).length=i:=by rw[List.length_zipWith,List.length_take,List.length_take];omega
 rw[List.getD_eq_getElem?_getD,List.getElem?_append_right (by omega),hl,Nat.sub_self,List.getElem?_drop,Nat.add_zero,List.getD_eq_getElem?_getD]
theorem QdM(A B:List (List Int))(h:A.length=B.length)(i:Nat)(hi:i≤A.length):(zipT A B i).length=A.length:=by
 unfold zipT;rw[List.length_append,List.length_zipWith,List.length_take,List.length_take,List.length_drop];omega
theorem Qkc(A B:List (List Int))(h:A.length=B.length):zipT A B A.length=List.zipWith orL A B:=by
 unfold zipT;rw[List.take_of_length_le (Nat.le_refl _),List.take_of_length_le (by omega),List.drop_eq_nil_of_le (Nat.le_refl _),List.append_nil]
theorem QiJ(h:SpM w0 w x s)(ga ha ca gb hb cb:Nat)(A B:List Int)(c1:CN w0 w ga ha ca s.dv.size s.dv.blocks A)(c2:CN w0 w gb hb cb s.dv.size s.dv.blocks B) :
  Calls Tryz.prog 84 #[.pointer (some ⟨x.sg,0,none⟩),.pointer (some ⟨ga,0,none⟩),.pointer (some ⟨gb,0,none⟩)] w fun e w'=>∃gk hk ck,e=.returned (.tuple #[.pointer (some ⟨gk,0,none⟩),.int .i64 0])∧CN w0 w' gk hk ck s.dv.size s.dv.blocks (orL A B)∧w.heap.size≤gk∧w.heap.size≤hk∧w.grownBy w' none:=by
 have HP1:=hid (Cn.pages_own ga ha ca s.dv.size s.dv.blocks A w c1.cc c1.ok);have HP2:=hid (fun W (k:w.grownBy W none)=>Cn.Qah gb hb cb s.dv.size s.dv.blocks B W (c2.old k).cc c2.ok);have hAB:A.length=B.length:=by rw[c1.ok.len,c2.ok.len]
 have HOR:Hid (List.zipWith orL (pagesL (eachC s.dv.size) s.dv.blocks A) (pagesL (eachC s.dv.size) s.dv.blocks B)=pagesL (eachC s.dv.size) s.dv.blocks (orL A B)):=hid (QfT _ _ A B hAB (fun z q=>(c1.ok.cnt z q).1) (fun z q=>(c2.ok.cnt z q).1)).symm;have hmap:=Cn.QcM (eachC s.dv.size) s.dv.blocks A B hAB;have HOK:=hid (or_ok c1.ok c2.ok);have HLD:Hid (loadC s.dv.size s.dv.blocks (pagesL (eachC s.dv.size) s.dv.blocks (orL A B))=(orL A B,0)):=hid (or_ok c1.ok c2.ok).load;have hgeo:=c1.ok.geo;have hfit:∀(C:List Int),C.length=s.dv.blocks→∀i,i<(pagesL (eachC s.dv.size) s.dv.blocks C).length→(((pagesL (eachC s.dv.size) s.dv.blocks C).getD i []).length:Int)+16≤s.dv.size∧IsB ((pagesL (eachC s.dv.size) s.dv.blocks C).getD i []):=fun C hC i hi=>countPage hgeo C hC i hi
 have HF1:=hid (hfit A c1.ok.len);have HF2:=hid (hfit B c2.ok.len);have HF3:=hid (hfit (orL A B) (or_ok c1.ok c2.ok).len);have HSZ:Hid (s.dv.size≤4096):=hid h.dims.2.1;have hpl:=Cn.Qai hgeo A c1.ok.len;have hpb:=(Su.Qz hgeo).2.1;obtain⟨PA,hPA⟩:∃q,pagesL (eachC s.dv.size) s.dv.blocks A=q:=⟨_,rfl⟩;obtain⟨PB,hPB⟩:∃q,pagesL (eachC s.dv.size) s.dv.blocks B=q:=⟨_,rfl⟩;rw[hPA]at HP1 HOR HF1 hmap hpl;rw[hPB]at HP2 HOR HF2 hmap;have hlen:PA.length=PB.length:=by have:=congrArg List.length hmap;rwa [List.length_map,List.length_map]at this
 have HLEN:=hid hlen;have HEL:Hid (∀i,i<PA.length→(PA.getD i []).length=(PB.getD i []).length):=hid (fun i hi=>by
  have h1:(PA.map List.length)[i]?=(PB.map List.length)[i]?:=by rw[hmap]
  rw[List.getElem?_map,List.getElem?_map,List.getElem?_eq_getElem hi,List.getElem?_eq_getElem (show i<PB.length by omega)]at h1;rw[List.getD_eq_getElem?_getD,List.getD_eq_getElem?_getD,List.getElem?_eq_getElem hi,List.getElem?_eq_getElem (show i<PB.length by omega)];exact Option.some.inj h1)
 have HN74:Hid (PA.length≤74):=hid (by omega);have HM:=hid h;have HGE:=hid hgeo;obtain⟨sg,e1⟩:∃q,x.sg=q:=⟨_,rfl⟩;have HSG:=hid e1;rw[e1];clear hPA hPB hmap hlen hpl hpb hgeo hfit hAB c1 c2 h e1;go_enter Tryz.func84,Tryz.ntmps84
 go_wp2_with fail
 refine HP1.out.mono ?_;rintro e w1 ⟨hg1,a1,cp1,rfl,hrow1,ha1⟩;have HG1:=hid hg1;have HR1:=hid hrow1;clear hg1 hrow1 HP1;dsimp only;go_wp2_with fail
 refine(HP2.out w1 HG1.out).mono ?_;rintro e w2 ⟨hg2,a2,cp2,rfl,hseg2,ha2⟩;have HG2:=hid (Qa HG1.out hg2);have HR2:Hid (w2.ownsRow w.heap.size 9 1 (.slice (some ⟨a1,0,none⟩) PA.length cp1) PA.length ((zipT PA PB 0).map Ss.encW)):=hid (by
  have e:zipT PA PB 0=PA:=by unfold zipT;rfl
  rw[e];exact HR1.out.kept hg2 (.inr (fun e=>by cases e)))
 have HS2:=hid hseg2;have HA2:Hid (w1.heap.size≤a2∧a1<w1.heap.size∧w.heap.size≤a1):=hid ⟨ha2,(HR1.out.lt a1 rfl).2,ha1⟩;obtain⟨n,hn⟩:∃n,PA.length=n:=⟨_,rfl⟩;have HN:=hid hn;have HNB:Hid (PB.length=n):=hid (by rw[←HLEN.out];exact hn);rw[hn]at HR2 ⊢;have hnb:PB.length=n:=HNB.out;rw[hnb];rw[hnb]at HS2;have hn74:n≤74:=by rw[←hn];exact HN74.out
 clear hg2 hseg2 ha2 hn hnb HP2 HR1 ha1;dsimp only;go_wp2
 go_loopw [16] (fun si wr=>∃i:Nat,i≤n∧si=.int .i64 i∧Hid (wr.ownsRow w.heap.size 9 1 (.slice (some ⟨a1,0,none⟩) n cp1) n ((zipT PA PB i).map Ss.encW))∧Hid (Turn w2 wr (·=a1))) (fun si _=>n-(intOf si).toNat)
 case atStart=>exact⟨0,Nat.zero_le _,rfl,HR2,hid (Turn.refl _ _)⟩
 case round=>
  clear HR2;obtain⟨i,hi,rfl,HR,HT⟩:=hrel;have HGW:Hid (w.grownBy wr none):=hid (Ql HG2.out HT.out HA2.out.2.2);by_cases hlt:i<n
  ·have hq:decide (i<n)=true:=decide_eq_true hlt;have hiA:i<PA.length:=by rw[HN.out];exact hlt
   have hcb:wr.cell? ⟨a2,i,none⟩=some (.string (strOfNums (PB.getD i []))):=by
    obtain⟨gq,oq,eq,hcq⟩:=HS2.out.addr (by omega);cases eq
    have h1:=hcq i hlt;rw[Nat.zero_add]at h1;exact HT.out.cell h1 (fun e=>by have e2:a2=a1:=e;have:=HA2.out;omega)
   have hca:wr.cell? ⟨a1,i,none⟩=some (.string (strOfNums (PA.getD i []))):=by
    rw[HR.out.cellAt i (by omega),List.getElem?_map,List.getElem?_eq_getElem (by rw[QdM _ _ HLEN.out i (by omega)];exact hiA)];have h1:=Qlh PA PB HLEN.out i hiA;rw[List.getD_eq_getElem?_getD,List.getElem?_eq_getElem (by rw[QdM _ _ HLEN.out i (by omega)];exact hiA)]at h1;have h1:(zipT PA PB i)[i]'(by rw[QdM _ _ HLEN.out i (by omega)];exact hiA)=PA.getD i []:=h1;rw[h1]
    rfl
   obtain⟨_,_,efz,hle1,_,_,hfz⟩:=QcL HR.out (by omega);cases efz
   have hfz1:=hfz i;obtain⟨f1,f1b⟩:=HF1.out i hiA;obtain⟨f2,f2b⟩:=HF2.out i (by rw[HNB.out];exact hlt);have HEI:=hid (fun W=>QgW (PA.getD i []) (PB.getD i []) W f1b f2b (HEL.out i hiA) (by have:=HSZ.out;omega));have HZS:=hid (Qkd PA PB HLEN.out i hiA);obtain⟨S1,hS1⟩:∃q,strOfNums (PA.getD i [])=q:=⟨_,rfl⟩;obtain⟨S2,hS2⟩:∃q,strOfNums (PB.getD i [])=q:=⟨_,rfl⟩;rw[hS1]at hca HEI;rw[hS2]at hcb HEI;have hlcb:n≤cp2:=HS2.out.le;clear hS1 hS2 f1 f2 f1b f2b hfz;go_wp2_with fail
   refine(HEI.out wr).mono ?_;rintro e w3 ⟨rfl,hg3⟩;have hf3:w3.frozen? ⟨a1,i,none⟩=false:=((Qc hg3).frozen (p:=⟨a1,i,none⟩) (World.block_lt_of_cell? wr _ hca) id).trans hfz1;have hc3:=(Qc hg3).cell hca id;have hst:=(HR.out.kept hg3 (.inr (fun e=>by cases e))).stored i (.string (strOfNums (orL (PA.getD i []) (PB.getD i []))));have HR4:Hid ((w3.setCell ⟨a1,i,none⟩ (.string (strOfNums (orL (PA.getD i []) (PB.getD i []))))).ownsRow w.heap.size 9 1 (.slice (some ⟨a1,0,none⟩) n cp1) n ((zipT PA PB (i+1)).map Ss.encW)):=hid (by
    rw[←HZS.out,List.map_set];exact hst.1)
   have HT4:Hid (Turn w2 (w3.setCell ⟨a1,i,none⟩ (.string (strOfNums (orL (PA.getD i []) (PB.getD i []))))) (·=a1)):=hid ((HT.out.trans (Qc hg3) (fun _ _ e=>e.elim)).trans (Turn.setCell w3 ⟨a1,i,none⟩ _ (S:=(·=a1)) rfl) (fun _ _ e=>e));obtain⟨S3,hS3⟩:∃q,strOfNums (orL (PA.getD i []) (PB.getD i []))=q:=⟨_,rfl⟩;rw[hS3]at HR4 HT4 ⊢;clear hg3 hca hcb hst hfz1 hS3 HR HT HEI HZS;dsimp only;go_wp2;go_roundw
   case rel=>exact⟨i+1,by omega,by go_num,HR4,HT4⟩
   case measure=>simp[intOf];omega
  ·have hq:decide (i<n)=false:=decide_eq_false hlt;obtain rfl:i=n:=by omega
   have HMW:=hid (HM.out.go HGW.out);obtain⟨-,-,d2,d3,-,-,-,-,-,-,-,-⟩:=HMW.out.cells;rw[HSG.out]at d2 d3;have HLDC:Hid (Calls Tryz.prog 154 #[.agg #[.int .i64 (s.dv.size:Int),.int .i64 (s.dv.blocks:Int)],.slice (some ⟨a1,0,none⟩) i cp1] wr (LoadX wr s.dv.size s.dv.blocks (pagesL (eachC s.dv.size) s.dv.blocks (orL A B)))):=hid (by
    have h1:=HR.out;have e:zipT PA PB i=pagesL (eachC s.dv.size) s.dv.blocks (orL A B):=by rw[←HN.out,Qkc _ _ HLEN.out,HOR.out]
    rw[e]at h1;refine Cn.QcI s.dv.size s.dv.blocks (some ⟨a1,0,none⟩) i cp1 _ wr (Ss.Seg.own h1) fun p hp=>?_
    obtain⟨j,hj,rfl⟩:=List.getElem_of_mem hp;have h2:=HF3.out j hj;rw[List.getD_eq_getElem?_getD,List.getElem?_eq_getElem hj]at h2;have h2:((pagesL (eachC s.dv.size) s.dv.blocks (orL A B))[j].length:Int)+16≤s.dv.size∧IsB (pagesL (eachC s.dv.size) s.dv.blocks (orL A B))[j]:=h2;have:=HSZ.out;exact⟨h2.2,by omega⟩)
   go_wp2_with fail
   refine HLDC.out.mono ?_;rintro e w4 ⟨hg4,hx⟩;rcases hx with ⟨hno,_⟩|⟨nn,hnn,hgg,hx⟩
   ·exact absurd HGE.out hno
   ·have hnn2:nn=s.dv.blocks:=by omega
    subst hnn2;rcases hx with ⟨h4,_⟩|⟨_,gk,hk,ck,rfl,hcc,hl1,hl2⟩
    ·rw[HLD.out]at h4;cases h4
    ·have HX:Hid (CN w0 w4 gk hk ck s.dv.size s.dv.blocks (orL A B)∧w.heap.size≤gk∧w.heap.size≤hk∧w.grownBy w4 none):=hid (by
      rw[HLD.out]at hcc;have hz:=HGW.out.size;have h0:=HM.out.size0;exact⟨⟨hcc,HOK.out,by omega,by omega,Qa HM.out.gr (Qa HGW.out hg4)⟩,by omega,by omega,Qa HGW.out hg4⟩)
     clear hg4 hnn hgg hcc hl1 hl2;dsimp only;go_wp2;go_ret2
     exact⟨gk,hk,ck,rfl,HX.out⟩
end
end Sp
namespace Sp
open Go.RowKit Bs Dv Gr
open Cn (CN CC CnOk IsC pagesL eachC bytesC)
open Su (Sup SupOk)
section
variable {w0 w w' : World} {x : Nm} {s : SpS}
theorem SpM.bx(h:SpM w0 w x s):Bx w x.sg (.pointer (some ⟨x.g,0,none⟩)) (.int .u64 s.sup.gen) (.int .i64 (s.dv.size:Int)) (.int .i64 (s.dv.blocks:Int)) (.int .u32 s.sup.root) (.slice x.ap x.np x.cp) (.int .i64 (s.slot:Int)) (.pointer (some ⟨x.gh,0,none⟩)) (.pointer (some ⟨x.gn,0,none⟩)) (.pointer x.pm) (.pointer (some ⟨x.gk,0,none⟩)) (.pointer (some ⟨x.sg,0,none⟩)):=h.box
theorem SpM.reset(h:SpM w0 w x s)(t:Turn w w' (·=x.sg))(gn hn cn:Nat)(mq:Option (Nat×Nat×Nat))(gk hk ck:Nat)(N:List Int)(M:Option (List Int))
  (hb:Bx w' x.sg (.pointer (some ⟨x.g,0,none⟩)) (.int .u64 s.sup.gen) (.int .i64 (s.dv.size:Int)) (.int .i64 (s.dv.blocks:Int)) (.int .u32 s.sup.root) (.slice x.ap x.np x.cp) (.int .i64 (s.slot:Int)) (.pointer (some ⟨x.gh,0,none⟩)) (.pointer (some ⟨gn,0,none⟩)) (.pointer (mq.map fun q=>⟨q.1,0,none⟩)) (.pointer (some ⟨gk,0,none⟩)) (.pointer (some ⟨x.sg,0,none⟩)))
  (hc:CN w0 w' gn hn cn s.dv.size s.dv.blocks N) (hm:MkM w0 w' s.dv.size s.dv.blocks mq M)
  (hK:∃K,CN w0 w' gk hk ck s.dv.size s.dv.blocks K∧∀i,K.getD i 0=0↔s.held.getD i 0=0∧∀m,M=some m→m.getD i 0=0)
  (h0:M=none→gk=x.gh∧hk=x.hh∧ck=x.ch)
  (hfix:∀k,(k=gn∨k=gk∨k=hk∨∃q,mq=some q∧(k=q.1∨k=q.2.1))→k<w'.heap.size∧w0.heap.size≤k∧k≠x.sg∧k≠hn∧¬Dv.fp x.g x.b x.P k)
  (hhn:hn≠x.gh∧hn≠x.hh∧(∀ad,x.ap=some ad→hn≠ad.block)∧¬Dv.fp x.g x.b x.P hn∧hn≠x.sg)
  (hmk:∀q,mq=some q→q.2.1≠x.gh∧q.2.1≠x.hh∧q.2.1≠q.1∧∀a,x.ap=some a→q.2.1≠a.block)
  (hnew:∀k,(k=gn∨k=hn∨k=gk∨k=hk∨∃q,mq=some q∧(k=q.1∨k=q.2.1))→x.fp k∨w.heap.size≤k) :
  Op w0 w x { s with now:=N,mark:=M } w':=by
 have gr:=hc.gr;have nsg:∀k,x.fix k→k≠x.sg:=fun k hk e=>(h.apart k hk).2.2 (.inl e)
 have ndv:∀k,Dv.fp x.g x.b x.P k→k≠x.sg:=fun k hk e=>h.own.2.1 (e▸hk)
 have fgh:x.fix x.gh:=.inl rfl;have fhh:x.fix x.hh:=.inr (.inl rfl);have fap:∀ad,x.ap=some ad→x.fix ad.block:=fun ad had=>.inr (.inr (.inr (.inr (.inr (.inr ⟨ad,had,rfl⟩)))))
 refine⟨{ x with gn:=gn,hn:=hn,cn:=cn,mq:=mq,gk:=gk,hk:=hk,ck:=ck },rfl,rfl,⟨⟨h.dev.dev.turn t (fun i hi e=>ndv i hi e),h.dev.new,Qc gr⟩,hb,Qn h.pages t (fun ad had=>nsg _ (fap ad had)),
  Qs h.held t gr (nsg _ fgh) (nsg _ fhh),hc,hm,hK,h0,fun k hkk=>?_,⟨hhn.2.2.2.1,h.own.2.1,hhn.2.2.2.2⟩,hmk,h.new,h.geo,h.sok,h.slot⟩,t.mono (fun k _ e=>.inl (.inl e)),fun k hkk=>?_⟩
 ·have hold:∀k,x.fix k→k≠hn→k<w'.heap.size∧w0.heap.size≤k∧¬Nm.mut { x with gn:=gn,hn:=hn,cn:=cn,mq:=mq,gk:=gk,hk:=hk,ck:=ck } k:=fun k hkk hne=>
   ⟨Nat.lt_of_lt_of_le (h.apart k hkk).1 t.size,(h.apart k hkk).2.1,fun q=>q.elim (nsg k hkk) fun z=>z.elim hne fun z=>(h.apart k hkk).2.2 (.inr (.inr z))⟩
  have hfx:∀k,(k=gn∨k=gk∨k=hk∨∃q,mq=some q∧(k=q.1∨k=q.2.1))→k<w'.heap.size∧w0.heap.size≤k∧¬Nm.mut { x with gn:=gn,hn:=hn,cn:=cn,mq:=mq,gk:=gk,hk:=hk,ck:=ck } k:=fun k hkk=>by
   obtain⟨a1,a2,a3,a4,a5⟩:=hfix k hkk;exact⟨a1,a2,fun q=>q.elim a3 fun z=>z.elim a4 a5⟩
  rcases hkk with e|e|e|e|e|e|⟨ad,had,e⟩
  ·have e:k=x.gh:=e;subst e;exact hold _ fgh (fun e=>hhn.1 e.symm)
  ·have e:k=x.hh:=e;subst e;exact hold _ fhh (fun e=>hhn.2.1 e.symm)
  ·exact hfx k (.inl e)
  ·exact hfx k (.inr (.inl e))
  ·exact hfx k (.inr (.inr (.inl e)))
  ·exact hfx k (.inr (.inr (.inr e)))
  ·have e:k=ad.block:=e;subst e;exact hold _ (fap ad had) (fun e=>hhn.2.2.1 ad had e.symm)
 ·rcases hkk with (e|e|e)|(e|e|e|e|e|e|e)
  ·exact .inl (.inl (.inl e))
  ·exact hnew k (.inr (.inl e))
  ·exact .inl (.inl (.inr (.inr e)))
  ·exact .inl (.inr (.inl e))
  ·exact .inl (.inr (.inr (.inl e)))
  ·exact hnew k (.inl e)
  ·exact hnew k (.inr (.inr (.inl e)))
  ·exact hnew k (.inr (.inr (.inr (.inl e))))
  ·exact hnew k (.inr (.inr (.inr (.inr e))))
  ·exact .inl (.inr (.inr (.inr (.inr (.inr (.inr (.inr e)))))))
theorem SpM.nfix(h:SpM w0 w x s){k:Nat}(hk:x.fix k):k<w.heap.size∧w0.heap.size≤k∧k≠x.sg∧k≠x.hn∧¬Dv.fp x.g x.b x.P k:=
 ⟨(h.apart k hk).1,(h.apart k hk).2.1,fun e=>(h.apart k hk).2.2 (.inl e),fun e=>(h.apart k hk).2.2 (.inr (.inl e)),fun e=>(h.apart k hk).2.2 (.inr (.inr e))⟩
theorem Qd1(h:SpM w0 w x s):Calls Tryz.prog 88 #[.pointer (some ⟨x.sg,0,none⟩)] w fun e w'=>e=.returned (.int .i64 (if s.mark=none then 8 else 0))∧w=w':=by
 obtain⟨-,-,-,-,-,-,-,-,-,c9,-,c11⟩:=h.cells;have HV:=hid (Qo x.sg w c11);have hmk:=h.mark;obtain⟨sg,e1⟩:∃q,x.sg=q:=⟨_,rfl⟩;rw[e1]at c9 HV ⊢;unfold Nm.pm at c9;obtain⟨mq,e2⟩:∃q,x.mq=q:=⟨_,rfl⟩;obtain⟨m,e3⟩:∃q,s.mark=q:=⟨_,rfl⟩;rw[e2]at c9 hmk;rw[e3]at hmk ⊢;clear h e1 e2 e3 c11;rcases mq with _|q
 ·rcases m with _|m
  ·rw[if_pos rfl];have c9:w.cell? ⟨sg,9,none⟩=some (.pointer none):=c9;clear hmk;go_enter Tryz.func88,Tryz.ntmps88
   go_wp2_with (first|(go_at_call 83;refine HV.out.mono ?_;rintro e w' ⟨rfl,rfl⟩)|fail)
   go_ret
   exact⟨rfl,rfl⟩
  ·exact hmk.elim
 ·rcases m with _|m
  ·exact hmk.elim
  ·rw[if_neg (by intro e;cases e)];have c9:w.cell? ⟨sg,9,none⟩=some (.pointer (some ⟨q.1,0,none⟩)):=c9;clear hmk;go_enter Tryz.func88,Tryz.ntmps88
   go_wp2_with (first|(go_at_call 83;refine HV.out.mono ?_;rintro e w' ⟨rfl,rfl⟩)|fail)
   go_ret
   exact⟨rfl,rfl⟩
theorem Qi5(h:SpM w0 w x s)(hm:s.mark≠none) :
  Calls Tryz.prog 22 #[.pointer (some ⟨x.sg,0,none⟩)] w fun e w'=>e=.returned (.int .i64 0)∧Op w0 w x { s with mark:=none } w':=by
 have HM:=hid (Qd1 h);rw[if_neg hm]at HM;have HU:=hid (QcR (v7':=some ⟨x.gh,0,none⟩) h.bx);have HH:=hid h;obtain⟨sg,e1⟩:∃q,x.sg=q:=⟨_,rfl⟩;have HSG:=hid e1;rw[e1]at HM ⊢;rw[e1]at HU;clear h e1 hm;go_enter Tryz.func22,Tryz.ntmps22
 go_wp2_with (first|(go_at_call 88;refine HM.out.mono ?_;rintro e w' ⟨rfl,rfl⟩)|fail)
 refine HU.out.mono ?_;rintro e w1 ⟨rfl,hb,ht⟩;have HX:Hid (Op w0 w x { s with mark:=none } w1):=hid (by
  rw[←HSG.out]at hb ht;have h:=HH.out;have gr:w0.grownBy w1 none:=QU h.gr ht (fun k e=>by have e2:k=x.sg:=e;rw[e2];exact h.new);have f1:=h.nfix (k:=x.gh) (.inl rfl);have f2:=h.nfix (k:=x.hh) (.inr (.inl rfl));have f3:=h.nfix (k:=x.gn) (.inr (.inr (.inl rfl)));refine h.reset ht x.gn x.hn x.cn none x.gh x.hh x.ch s.now none hb (Qs h.now ht gr f3.2.2.1 h.own.2.2) trivial ⟨s.held,Qs h.held ht gr f1.2.2.1 f2.2.2.1,fun i=>⟨fun q=>⟨q,fun m e=>by cases e⟩,fun q=>q.1⟩⟩ (fun _=>⟨rfl,rfl,rfl⟩) ?_ ⟨fun e=>f1.2.2.2.1 e.symm,fun e=>f2.2.2.2.1 e.symm,fun ad had e=>(h.nfix (k:=ad.block) (.inr (.inr (.inr (.inr (.inr (.inr ⟨ad,had,rfl⟩))))))).2.2.2.1 e.symm,h.own.1,h.own.2.2⟩ (fun q e=>by cases e) ?_
  ·rintro k (rfl|rfl|rfl|⟨q,e,_⟩)
   ·exact⟨Nat.lt_of_lt_of_le f3.1 ht.size,f3.2⟩
   ·exact⟨Nat.lt_of_lt_of_le f1.1 ht.size,f1.2⟩
   ·exact⟨Nat.lt_of_lt_of_le f2.1 ht.size,f2.2⟩
   ·cases e
  ·rintro k (rfl|rfl|rfl|rfl|⟨q,e,_⟩)
   ·exact .inl (.inr (.inr (.inr (.inl rfl))))
   ·exact .inl (.inl (.inr (.inl rfl)))
   ·exact .inl (.inr (.inl rfl))
   ·exact .inl (.inr (.inr (.inl rfl)))
   ·cases e)
 clear hb ht;dsimp only;go_wp2;go_ret
 exact⟨rfl,HX.out⟩
theorem QiR(h:SpM w0 w x s){m:List Int}(hm:s.mark=some m) :
  Calls Tryz.prog 21 #[.pointer (some ⟨x.sg,0,none⟩)] w fun e w'=>e=.returned (.int .i64 0)∧Op w0 w x { s with now:=m,mark:=none } w':=by
 have HM:=hid (Qd1 h);rw[if_neg (by rw[hm];intro e;cases e)]at HM;have hmk:=h.mark;obtain⟨mq,e2⟩:∃q,x.mq=q:=⟨_,rfl⟩;rw[e2,hm]at hmk;rcases mq with _|⟨gm,hhm,cm⟩
 ·exact hmk.elim
 ·have hmc:CN w0 w gm hhm cm s.dv.size s.dv.blocks m:=hmk;have hbx:=h.bx;have epm:x.pm=some ⟨gm,0,none⟩:=by unfold Nm.pm;rw[e2];rfl
  rw[epm]at hbx;have hb1:=hbx.s8 (.pointer (some ⟨gm,0,none⟩));have HT1:=hid (Qp (Turn.refl w (·=x.sg)) 8 (.pointer (some ⟨gm,0,none⟩)));have c9:=hbx.cells.2.2.2.2.2.2.2.2.2.1;have f8:=hbx.froz 8;have HH:=hid h;have HMC:=hid hmc;have HE2:=hid e2;have c8:=hbx.cells.2.2.2.2.2.2.2.2.1;obtain⟨sg,e1⟩:∃q,x.sg=q:=⟨_,rfl⟩;have HSG:=hid e1;rw[e1]at HM hb1 HT1 c9 f8 c8 ⊢;obtain⟨w1,hw1⟩:∃X,w.setCell ⟨sg,8,none⟩ (.pointer (some ⟨gm,0,none⟩))=X:=⟨_,rfl⟩;rw[hw1]at hb1 HT1;have HW1:=hid hw1;have HU:=hid (QcR (v7':=some ⟨x.gh,0,none⟩) hb1);clear h e1 hm hmk hmc hbx e2 epm hb1 hw1;go_enter Tryz.func21,Tryz.ntmps21
  go_wp2_with (first|(go_at_call 88;refine HM.out.mono ?_;rintro e w' ⟨rfl,rfl⟩)|fail)
  rw[HW1.out];refine HU.out.mono ?_;rintro e w2 ⟨rfl,hb,ht2⟩;have HX:Hid (Op w0 w x { s with now:=m,mark:=none } w2):=hid (by
   have ht:=HT1.out.trans ht2 (fun _ _ e=>e);rw[←HSG.out]at hb ht;have h:=HH.out;have gr:w0.grownBy w2 none:=QU h.gr ht (fun k e=>by have e2:k=x.sg:=e;rw[e2];exact h.new);have f1:=h.nfix (k:=x.gh) (.inl rfl);have f2:=h.nfix (k:=x.hh) (.inr (.inl rfl));have xm1:x.fix gm:=.inr (.inr (.inr (.inr (.inr (.inl ⟨_,HE2.out,.inl rfl⟩)))));have xm2:x.fix hhm:=.inr (.inr (.inr (.inr (.inr (.inl ⟨_,HE2.out,.inr rfl⟩)))));have f3:=h.nfix xm1;have f4:=h.nfix xm2;obtain⟨m1,m2,m3,m4⟩:=h.marks _ HE2.out;have m1:hhm≠x.gh:=m1;have m2:hhm≠x.hh:=m2;have m3:hhm≠gm:=m3;refine h.reset ht gm hhm cm none x.gh x.hh x.ch m none hb (Qs HMC.out ht gr f3.2.2.1 f4.2.2.1) trivial ⟨s.held,Qs h.held ht gr f1.2.2.1 f2.2.2.1,fun i=>⟨fun q=>⟨q,fun m e=>by cases e⟩,fun q=>q.1⟩⟩ (fun _=>⟨rfl,rfl,rfl⟩) ?_ ⟨m1,m2,m4,f4.2.2.2.2,f4.2.2.1⟩ (fun q e=>by cases e) ?_
   ·rintro k (rfl|rfl|rfl|⟨q,e,_⟩)
    ·exact⟨Nat.lt_of_lt_of_le f3.1 ht.size,f3.2.1,f3.2.2.1,fun e=>m3 e.symm,f3.2.2.2.2⟩
    ·exact⟨Nat.lt_of_lt_of_le f1.1 ht.size,f1.2.1,f1.2.2.1,fun e=>m1 e.symm,f1.2.2.2.2⟩
    ·exact⟨Nat.lt_of_lt_of_le f2.1 ht.size,f2.2.1,f2.2.2.1,fun e=>m2 e.symm,f2.2.2.2.2⟩
    ·cases e
   ·rintro k (rfl|rfl|rfl|rfl|⟨q,e,_⟩)
    ·exact .inl (.inr xm1)
    ·exact .inl (.inr xm2)
    ·exact .inl (.inr (.inl rfl))
    ·exact .inl (.inr (.inr (.inl rfl)))
    ·cases e)
  clear hb ht2;dsimp only;go_wp2;go_ret
  exact⟨rfl,HX.out⟩
end
section
variable {w0 w w' : World} {x : Nm} {s : SpS}
theorem abort_yes (h:SpM w0 w x s) :
    Calls Tryz.prog 24 #[.pointer (some ⟨x.sg,0,none⟩)] w fun e w'=>e=.returned (.int .i64 0)∧Op w0 w x { s with now:=s.held,mark:=none } w':=by
  obtain⟨-,c1,c2,c3,c4,c5,c6,c7,-,-,-,c11⟩:=h.cells
  have HV:=hid (Qo x.sg w c11)
  have f1:=h.nfix (k:=x.gh) (.inl rfl)
  have f2:=h.nfix (k:=x.hh) (.inr (.inl rfl))
  have HD0:=hid (fun W (hW:Turn w W nowhere)=>by
    have h2:=(h.go hW.grown)
    have h3:=QdA w0 s.sup x.ap x.np x.cp (s.slot:Int) x.gh x.hh x.ch s.dv.size s.dv.blocks s.held h2.bx h2.held f1.2.2.1 f2.2.2.1 h.new
    rw[h.geo.1,h.geo.2]at h3
    exact h3)
  have HH:=hid h
  obtain⟨sg,e1⟩:∃q,x.sg=q:=⟨_,rfl⟩
  have HSG:=hid e1
  rw[e1]at c1 c2 c3 c4 c5 c6 c7 HV HD0 ⊢
  clear h e1 c11 f1 f2
  go_enter Tryz.func24,Tryz.ntmps24
  go_wp2_with (first|(go_at_call 83;refine HV.out.mono ?_;rintro e w' ⟨rfl,rfl⟩)|fail)
  go_region_held3 (fun w'=>w'.cell? ⟨sg,1,none⟩=some (.int .u64 s.sup.gen)∧w'.cell? ⟨sg,2,none⟩=some (.int .i64 (s.dv.size:Int))∧w'.cell? ⟨sg,3,none⟩=some (.int .i64 (s.dv.blocks:Int))∧w'.cell? ⟨sg,4,none⟩=some (.int .u32 s.sup.root)∧w'.cell? ⟨sg,5,none⟩=some (.slice x.ap x.np x.cp)∧w'.cell? ⟨sg,6,none⟩=some (.int .i64 (s.slot:Int))∧w'.cell? ⟨sg,7,none⟩=some (.pointer (some ⟨x.gh,0,none⟩))) (go_keep)
    (first
      | (go_at_call 90
         (with_reducible refine(HD0.out _ (Turn.drew w _)).mono ?_)
         rintro e w3 ⟨gn,hn,cn,rfl,hb3,hc3,hl1,hl2,ht3⟩
         obtain⟨-,k1,k2,k3,k4,k5,k6,k7,-,-,-,-⟩:=hb3.cells
         have HX:Hid (Op w0 w x { s with now:=s.held,mark:=none } w3):=hid (by
           rw[←HSG.out]at hb3 ht3
           have h:=HH.out
           have ht:=(Turn.drew w (·=x.sg)).trans ht3 (fun _ _ e=>e)
           have gr:w0.grownBy w3 none:=hc3.gr
           have f1:=h.nfix (k:=x.gh) (.inl rfl)
           have f2:=h.nfix (k:=x.hh) (.inr (.inl rfl))
           have hd:(w.drew).heap.size=w.heap.size:=rfl
           have l1:=hc3.cc.glt
           have l2:=hc3.cc.lt
           have l3:=hc3.cc.ne
           have l4:=h.lt (k:=x.sg) (.inl (.inl rfl))
           have l5:=h.size0
           refine h.reset ht gn hn cn none x.gh x.hh x.ch s.held none hb3 hc3 trivial ⟨s.held,Qs h.held ht gr f1.2.2.1 f2.2.2.1,fun i=>⟨fun q=>⟨q,fun m e=>by cases e⟩,fun q=>q.1⟩⟩ (fun _=>⟨rfl,rfl,rfl⟩) ?_ ⟨by omega,by omega,fun ad had=>?_,fun q=>?_,by omega⟩ (fun q e=>by cases e) ?_
           · rintro k (rfl|rfl|rfl|⟨q,e,_⟩)
             · exact⟨l1,by omega,by omega,by omega,fun q=>by have:=h.dev.dev.lt _ q;omega⟩
             · exact⟨Nat.lt_of_lt_of_le f1.1 ht.size,f1.2.1,f1.2.2.1,by omega,f1.2.2.2.2⟩
             · exact⟨Nat.lt_of_lt_of_le f2.1 ht.size,f2.2.1,f2.2.2.1,by omega,f2.2.2.2.2⟩
             · cases e
           · have:=(h.nfix (k:=ad.block) (.inr (.inr (.inr (.inr (.inr (.inr ⟨ad,had,rfl⟩))))))).1
             omega
           · have:=h.dev.dev.lt _ q
             omega
           · rintro k (rfl|rfl|rfl|rfl|⟨q,e,_⟩)
             · exact .inr (by omega)
             · exact .inr (by omega)
             · exact .inl (.inr (.inl rfl))
             · exact .inl (.inr (.inr (.inl rfl)))
             · cases e)
         clear hb3 hc3 hl1 hl2 ht3)
      |fail)
  clear c1 c2 c3 c4 c5 c6 c7 k1 k2 k3 k4 k5 k6 k7 HD0
  go_wp2
  go_ret
  exact⟨rfl,HX.out⟩
theorem mark_yes (h:SpM w0 w x s) (hm:s.mark=none) :
    Calls Tryz.prog 18 #[.pointer (some ⟨x.sg,0,none⟩)] w fun e w'=>e=.returned (.int .i64 0)∧Op w0 w x { s with mark:=some s.now } w':=by
  obtain⟨-,-,-,-,-,-,-,c7,c8,c9,-,c11⟩:=h.cells
  have HV:=hid (Qo x.sg w c11)
  have hmk:=h.mark
  obtain⟨mq,e2⟩:∃q,x.mq=q:=⟨_,rfl⟩
  rw[e2,hm]at hmk
  rcases mq with _|q
  rotate_left
  · exact hmk.elim
  have epm:x.pm=none:=by unfold Nm.pm;rw[e2];rfl
  rw[epm]at c9
  have HU:=hid (fun W (hW:Turn w W nowhere)=>QiJ (h.go hW.grown) x.gh x.hh x.ch x.gn x.hn x.cn s.held s.now (h.go hW.grown).held (h.go hW.grown).now)
  have HH:=hid h
  have HB:=hid h.bx
  obtain⟨sg,e1⟩:∃q,x.sg=q:=⟨_,rfl⟩
  have HSG:=hid e1
  rw[e1]at c7 c8 c9 HV HU ⊢
  rw[epm,e1]at HB
  clear h e1 c11 hmk e2 epm hm
  go_enter Tryz.func18,Tryz.ntmps18
  go_wp2_with (first|(go_at_call 83;refine HV.out.mono ?_;rintro e w' ⟨rfl,rfl⟩)|fail)
  go_region_held3 (fun w'=>w'.cell? ⟨sg,7,none⟩=some (.pointer (some ⟨x.gh,0,none⟩))∧w'.cell? ⟨sg,8,none⟩=some (.pointer (some ⟨x.gn,0,none⟩))) (go_keep)
    (first
      | (go_at_call 84
         (with_reducible refine(HU.out _ (Turn.drew w _)).mono ?_)
         rintro e w3 ⟨gk,hk,ck,rfl,hc3,hl1,hl2,hg3⟩
         have k7:=(Qc (Qa (Qj w) hg3)).cell c7 id
         have k8:=(Qc (Qa (Qj w) hg3)).cell c8 id
         have HC3:=hid hc3
         have HL3:Hid (w.heap.size≤gk∧w.heap.size≤hk):=hid ⟨hl1,hl2⟩
         have HG3:=hid (Qa (Qj w) hg3)
         clear hc3 hl1 hl2 hg3)
      |fail)
  have HM3:=hid (HH.out.go HG3.out)
  have HCL:=hid HM3.out.now.clone
  have d8:=HM3.out.cells.2.2.2.2.2.2.2.2.1
  rw[HSG.out]at d8
  have HB3:=hid (HB.out.old (Qc HG3.out) id)
  clear c7 c8 c9 k7 k8 HU HB
  go_wp2_with fail
  refine HCL.out.mono ?_
  rintro e w4 ⟨gm,hhm,cm,rfl,hc4,hg4,hl1,hl2⟩
  have hb4:=HB3.out.old (Qc hg4) id
  have f9:=hb4.froz 9
  have f10:=hb4.froz 10
  have c9:=hb4.cells.2.2.2.2.2.2.2.2.2.1
  have c10:=hb4.cells.2.2.2.2.2.2.2.2.2.2.1
  have HX : Hid (Op w0 w x { s with mark:=some s.now } ((w4.setCell ⟨sg,9,none⟩ (.pointer (some ⟨gm,0,none⟩))).setCell ⟨sg,10,none⟩ (.pointer (some ⟨gk,0,none⟩)))):=hid (by
    have hb5:=(hb4.s9 (.pointer (some ⟨gm,0,none⟩))).s10 (.pointer (some ⟨gk,0,none⟩))
    have ht5:=Qp (Qp (Turn.refl w4 (·=sg)) 9 (.pointer (some ⟨gm,0,none⟩))) 10 (.pointer (some ⟨gk,0,none⟩))
    obtain⟨w5,hw5⟩:∃X,(w4.setCell ⟨sg,9,none⟩ (.pointer (some ⟨gm,0,none⟩))).setCell ⟨sg,10,none⟩ (.pointer (some ⟨gk,0,none⟩))=X:=⟨_,rfl⟩
    rw[hw5]at hb5 ht5 ⊢
    rw[←HSG.out]at hb5 ht5
    have h:=HH.out
    have ht:=((Qc (Qa HG3.out hg4)).mono (fun _ _ e=>e.elim)).trans ht5 (fun _ _ e=>e)
    have gr:w0.grownBy w5 none:=QU h.gr ht (fun k e=>by have e2:k=x.sg:=e;rw[e2];exact h.new)
    have hL:=HL3.out
    have l1:=hc4.cc.glt
    have l2:=hc4.cc.lt
    have l3:=hc4.cc.ne
    have l4:=h.lt (k:=x.sg) (.inl (.inl rfl))
    have l5:=h.size0
    have l6:=HG3.out.size
    have l7:=HC3.out.cc.glt
    have l8:=HC3.out.cc.lt
    have l9:=ht5.size
    have l10:=hg4.size
    have l11:=h.lt (k:=x.hn) (.inl (.inr (.inl rfl)))
    have f1:=h.nfix (k:=x.gh) (.inl rfl)
    have f2:=h.nfix (k:=x.hh) (.inr (.inl rfl))
    have f3:=h.nfix (k:=x.gn) (.inr (.inr (.inl rfl)))
    have hdv:∀k,w.heap.size≤k→¬Dv.fp x.g x.b x.P k:=fun k hk q=>by have:=h.dev.dev.lt _ q;omega
    refine h.reset ht x.gn x.hn x.cn (some (gm,hhm,cm)) gk hk ck s.now (some s.now) hb5 (Qs      h.now ht gr f3.2.2.1 h.own.2.2) (Qs      hc4 ht5 gr (show gm≠x.sg by omega) (show hhm≠x.sg by omega))
      ⟨orL s.held s.now,Qs (HC3.out.old hg4) ht5 gr (show gk≠x.sg by omega) (show hk≠x.sg by omega),fun i=>?_⟩ (fun e=>by cases e) ?_ ⟨fun e=>f1.2.2.2.1 e.symm,fun e=>f2.2.2.2.1 e.symm,fun ad had e=>(h.nfix (k:=ad.block) (.inr (.inr (.inr (.inr (.inr (.inr ⟨ad,had,rfl⟩))))))).2.2.2.1 e.symm,h.own.1,h.own.2.2⟩ ?_ ?_
    · have hA:=h.held.ok.len
      have hB:=h.now.ok.len
      by_cases hi:i<s.held.length
      · rw [QfO    s.held s.now (by rw[hA,hB]) i hi,Qjy     ]
        · exact⟨fun q=>⟨q.1,fun m e=>by cases e;exact q.2⟩,fun q=>⟨q.1,q.2 _ rfl⟩⟩
        · rw[List.getD_eq_getElem?_getD,List.getElem?_eq_getElem hi]
          exact(h.held.ok.cnt _ (List.getElem_mem hi)).1
        · have hi2:i<s.now.length:=by omega
          rw[List.getD_eq_getElem?_getD,List.getElem?_eq_getElem hi2]
          exact(h.now.ok.cnt _ (List.getElem_mem hi2)).1
      · have z1:s.held.getD i 0=0:=by rw[List.getD_eq_getElem?_getD,List.getElem?_eq_none (by omega)];rfl
        have z2:s.now.getD i 0=0:=by rw[List.getD_eq_getElem?_getD,List.getElem?_eq_none (by omega)];rfl
        have z3:(orL s.held s.now).getD i 0=0:=by rw[List.getD_eq_getElem?_getD,List.getElem?_eq_none (by rw[Qbd _ _ (by omega)];omega)];rfl
        exact⟨fun _=>⟨z1,fun m e=>by cases e;exact z2⟩,fun _=>z3⟩
    · rintro k (e|e|e|⟨q,e,e2⟩)
      · subst e;exact⟨Nat.lt_of_lt_of_le f3.1 ht.size,f3.2⟩
      · subst e;exact⟨by omega,by omega,by omega,by omega,hdv _ (by omega)⟩
      · subst e;exact⟨by omega,by omega,by omega,by omega,hdv _ (by omega)⟩
      · cases e
        have e2:k=gm∨k=hhm:=e2
        rcases e2 with e|e
        · subst e;exact⟨by omega,by omega,by omega,by omega,hdv _ (by omega)⟩
        · subst e;exact⟨by omega,by omega,by omega,by omega,hdv _ (by omega)⟩
    · intro q e
      cases e
      exact⟨show hhm≠x.gh by omega,show hhm≠x.hh by omega,show hhm≠gm by omega,fun a ha=>show hhm≠a.block by have:=(h.nfix (k:=a.block) (.inr (.inr (.inr (.inr (.inr (.inr ⟨a,ha,rfl⟩))))))).1;omega⟩
    · rintro k (e|e|e|e|⟨q,e,e2⟩)
      · subst e;exact .inl (.inr (.inr (.inr (.inl rfl))))
      · subst e;exact .inl (.inl (.inr (.inl rfl)))
      · exact .inr (by omega)
      · exact .inr (by omega)
      · cases e
        have e2:k=gm∨k=hhm:=e2
        exact .inr (by omega))
  clear hb4 hc4 hg4 hl1 hl2 d8
  dsimp only
  go_wp2
  go_ret
  exact⟨rfl,HX.out⟩
end
end Sp
end Go.Proofs.YtbbbocoliandcaaGreatDoor
