/- Parts of the proof. -/
import Derived.Test.YtljanfnhmhimiaaGreatScP
import Derived.Test.YtljanfnhmhimiaaGreatSca
set_option maxRecDepth 100000
set_option maxHeartbeats 8000000
open Go.Lib (hid)
namespace Go.Proofs.YtljanfnhmhimiaaGreat
namespace Tx
open Go.RowKit Go.Joins
open Ss (IsS encW Q4)
open Bs (Qj)
open Ref1 (GrowB)
open Oct (varB)
open In (Qd Qf)
open Dv (Turn nowhere)
theorem Qob{l:List (List Int)}{k:Nat}(hk:k<l.length)(h:65536<(l.getD k []).length):okB l=false:=
 Bool.eq_false_iff.2 fun ho=>by have:=((QaJ l).1 ho).2 _ (take_at hk);omega
def errN(l:List (List Int)):Int:=if okB l=true then 0 else 3
theorem QfM{l:List (List Int)}(h:okB l=true):errN l=0:=if_pos h
theorem Qfu{l:List (List Int)}(h:okB l=false):errN l=3:=by unfold errN;rw[h];rfl
theorem Qcb(a:Option Addr)(n c:Nat)(l:List (List Int))(w:World)(hs:Ss.Seg w a n c l) :
  Calls Tryz.prog 153 #[.slice a n c] w fun e w'=>e=.returned (.int .i64 (errN l))∧w=w':=by
 have hm:=hs.cap;have hle:=hs.le;unfold maxLen at hm;have HL:=hid hs.len;have HSeg:=hid hs;clear hs;by_cases hn:4096<n
 ·have HF:Hid (errN l=3):=hid (Qfu (Bool.eq_false_iff.2 fun h=>by have:=((QaJ l).1 h).1;rw[HL.out]at this;omega));have hn':(4096:Int)<(n:Int):=by omega
  clear hn;go_enter Tryz.func153,Tryz.ntmps153
  go_wp2;go_ret
  exact⟨Bs.Qq HF.out.symm,rfl⟩
 ·have hn':¬(4096:Int)<(n:Int):=by omega
  go_enter Tryz.func153,Tryz.ntmps153
  go_wp2
  go_loopw [3] (fun si wr=>∃k:Nat,k≤n∧si=.int .i64 k∧w=wr∧Hid (∀s∈l.take k,s.length≤65536)) (fun si _=>n-(intOf si).toNat)
  case atStart=>exact⟨0,Nat.zero_le _,rfl,rfl,hid fun s hs=>by simp at hs⟩
  case round=>
   obtain⟨k,hk,rfl,rfl,HK⟩:=hrel;by_cases hlt:k<n
   ·obtain⟨g,o,rfl,hc⟩:=HSeg.out.addr (by omega);have g1:=hc k hlt;have hkl:k<l.length:=by rw[HL.out];exact hlt
    have hno:=fun h=>Qob hkl h
    have htk:=fun h=>QeD hkl HK.out h
    obtain⟨x,hx⟩:∃x,l.getD k []=x:=⟨_,rfl⟩;rw[hx]at g1 hno htk;have hss:=strOfNums_size x;obtain⟨q,hq⟩:∃q,x.length=q:=⟨_,rfl⟩;rw[hq]at hss hno htk;clear hc hx hq hn;by_cases hov:65536<q
    ·have HF:Hid (errN l=3):=hid (Qfu (hno hov));have hov':(65536:Int)<(q:Int):=by omega
     clear hov hno htk;go_wp2;go_ret
     exact⟨Bs.Qq HF.out.symm,rfl⟩
    ·have HK2:Hid (∀s∈l.take (k+1),s.length≤65536):=hid (htk (by omega));have hov':¬(65536:Int)<(q:Int):=by omega
     clear hov hno htk;go_wp2;go_roundw
     case rel=>exact⟨k+1,by omega,by go_num,trivial,HK2⟩
     case measure=>simp[intOf];omega
   ·obtain rfl:k=n:=by omega
    have HF:Hid (errN l=0):=hid (QfM ((QaJ l).2 ⟨by rw[HL.out];omega,by have:=HK.out;rwa [List.take_of_length_le (Nat.le_of_eq HL.out)]at this⟩));go_wp2;go_ret
    exact⟨Bs.Qq HF.out.symm,rfl⟩
theorem QhO(base:Nat)(v0:Value)(n:Nat)(l:List Int)(s:List Int)(w:World)(hown:w.ownsRow base 5 1 v0 n (l.map (Value.int .u8)))(hbase:base≤w.heap.size)(hn:n≤500000000)(hb:Bs.IsB s)(hl:s.length≤65536) :
  Calls Tryz.prog 67 #[v0,.string (strOfNums s)] w (GrowB base w (l++strB s) (n+(strB s).length)):=by
 obtain⟨i0,hi,hz0,hz1,hz2⟩:=info_parts Qj;have hss:=strOfNums_size s;have HE:Hid (strB s=varB 9 (s.length:Int)++s):=hid rfl;obtain⟨q,hq⟩:∃q,s.length=q:=⟨_,rfl⟩;have HQ:=hid hq;rw[hq]at hss hl HE;have hwu:=wrap_u64 (n:=q) (by omega);have HP:=hid (In.Qao base v0 n l (q:Int) w hown hbase (by omega) (by omega) (by omega));have hvl:=Oct.QE 9 (q:Int);obtain⟨p,hp⟩:∃p,(varB 9 (q:Int)).length=p:=⟨_,rfl⟩;rw[hp]at HP hvl;have HPl:=hid hp;have HB:=hid hb;have HSS:=hid hss;have HBa:=hid hbase;clear hown hbase hb hq hp;go_enter Tryz.func67,Tryz.ntmps67
 go_wp2_with fail
 refine HP.out.mono ?_;rintro e w1 ⟨g,c,rfl,hown1,hb1⟩;have HO1:=hid hown1;have HB1:=hid hb1;have HS1:Hid (base≤w1.heap.size):=hid (Nat.le_trans HBa.out hb1.size);clear hown1 hb1;dsimp only;go_wp2_with (first
  |(at_builtin;refine Lib.wpList_append_own_string _ rfl (.tmp 9) (.tmp 10) 45 9 rfl base 5 i0 Tryz.underlying45 Tryz.underlying9 hi hz0 hz1 hz2 _ (n+p) _ rfl HO1.out (strOfNums s) rfl (by rw[HSS.out];unfold maxLen;omega) (by rw[HSS.out];omega) HS1.out ?_;intro v3 w3 hown3 hgrow3 hnil3)
  |fail)
 rw[HSS.out,QbO s HB.out,←List.map_append]at hown3;obtain⟨g3,c3,rfl⟩:=Go.Joins.ownsRow_form hown3 (by have:=Oct.QaN 9 (q:Int);have:=HPl.out;omega);have HF:Hid (GrowB base w (l++strB s) (n+(strB s).length) (.returned (.slice (some ⟨g3,0,none⟩) (n+p+q) c3)) w3):=by
  have hlen:n+(strB s).length=n+p+q:=by rw[HE.out,List.length_append,HPl.out,HQ.out,Nat.add_assoc]
  refine hid ?_;rw[hlen];refine⟨g3,c3,rfl,?_,HB1.out.grown hgrow3 HS1.out (fun j e=>(HO1.out.lt j e).1)⟩;rw[HE.out,←List.append_assoc];exact hown3
 clear hown3 hgrow3 hnil3;go_wp2;go_ret
 exact HF.out
theorem Qbf(a:Option Addr)(n c:Nat)(l:List (List Int))(w:World)(hs:Ss.Seg w a n c l)(hb:AllB l) :
  Calls Tryz.prog 124 #[.slice a n c] w (PutT w (formR (plainT l) l)):=by
 have HC:=hid (Qcb a n c l w hs);cases hok:okB l with
 |false=>
  rw[Qfu hok]at HC;rw[QdR hok];clear hs hb hok;go_enter Tryz.func124,Tryz.ntmps124
  go_wp2_with (first
   |(go_at_call 153;refine HC.out.mono ?_;rintro e w' ⟨rfl,rfl⟩)
   |fail)
  go_ret2
  exact Qd0 (Below.refl _ _)
 |true=>
  rw[QfM hok]at HC;have hO:=(QaJ l).1 hok;rw[Qbn hok];have HOk:=hid hO;have hn:n≤4096:=by rw[←hs.len];exact hO.1
  have HLen:=hid hs.len;have HSeg:=hid hs;have HBB:=hid hb;have hcap:=hs.cap;have hle:=hs.le;unfold maxLen at hcap;have hwu:=wrap_u64 (n:=n) (by omega);have hlit:=World.ownsRow_lit (base:=w.heap.size) (e:=5) (size:=1) w #[.int .u8 1] 1 (Nat.le_refl _) (by unfold maxLen;omega) rfl;have HP:=hid (In.Qao w.heap.size (.slice (some ⟨w.heap.size,0,none⟩) 1 1) 1 [1] (n:Int) (w.alloc (.cells #[.int .u8 1] 5)) hlit (by simp) (by omega) (by omega) (by decide));have HA:Hid (Below w.heap.size w (w.alloc (.cells #[.int .u8 1] 5))):=hid ((Below.refl _ w).alloc (Nat.le_refl _) _);have hvl:=Oct.QE 9 (n:Int);obtain⟨p,hp⟩:∃p,(varB 9 (n:Int)).length=p:=⟨_,rfl⟩;rw[hp]at HP hvl;have HPl:=hid hp;clear hs hb hok hO hlit hp;go_enter Tryz.func124,Tryz.ntmps124
  go_wp2_with (first
   |(go_at_call 153;refine HC.out.mono ?_;rintro e w' ⟨rfl,rfl⟩)
   |fail)
  refine HP.out.mono ?_;rintro e w1 ⟨g1,c1,rfl,hown1,hb1⟩;have HO1:=hid hown1;have HB1:=hid (HA.out.trans hb1);clear hown1 hb1;dsimp only;go_wp2
  go_loopw [5,6] (fun so si wr=>∃(k q:Nat) (V:Value),k≤n∧si=.int .i64 k∧V=so∧Hid ((strsB (l.take k)).length=q∧q≤k*65546)∧Hid (wr.ownsRow w.heap.size 5 1 V (1+p+q) (([1]++varB 9 (n:Int)++strsB (l.take k)).map (Value.int .u8)))∧Hid (Below w.heap.size w wr))
   (fun _ si _=>n-(intOf si).toNat)
  case atStart=>exact⟨0,0,_,Nat.zero_le _,rfl,rfl,hid ⟨rfl,Nat.le_refl _⟩,hid (by simpa [strsB] using HO1.out),HB1⟩
  case round=>
   obtain⟨k,q,V,hk,rfl,rfl,HQ,HO,HB⟩:=hrel;by_cases hlt:k<n
   ·have hseg:=Qt HSeg.out HB.out rfl;obtain⟨gA,oA,rfl,hc⟩:=hseg.addr (by omega);have g1:=hc k hlt;obtain⟨x,hx⟩:∃x,l.getD k []=x:=⟨_,rfl⟩;have hxm:x∈l:=hx▸take_at (by rw[HLen.out];exact hlt);rw[hx]at g1;have HPx:=hid (QeT l k x (by have:=HLen.out;omega) hx);have hxl:=HOk.out.2 x hxm;have hqb:=HQ.out.2;have HT:=hid (QhO w.heap.size V (1+p+q) _ x wr HO.out HB.out.size (by omega) (HBB.out x hxm) hxl);have hsl:=Qej x;obtain⟨t,ht⟩:∃t,(strB x).length=t:=⟨_,rfl⟩;rw[ht]at HT hsl;have HTl:=hid ht;have HXl:Hid (t≤65546):=hid (by omega);clear hx hc hseg hxm hxl hsl ht;go_wp2_with fail
    refine HT.out.mono ?_;rintro e w2 ⟨g2,c2,rfl,hown2,hb2⟩;have HO2:=hid hown2;have HB2:=hid (HB.out.trans hb2);clear hown2 hb2;dsimp only;go_wp2;go_roundw
    case rel=>
     refine⟨k+1,q+t,_,by omega,by go_num,rfl,hid ⟨?_,by have:=HQ.out.2;have:=HXl.out;omega⟩,hid ?_,HB2⟩
     ·rw[HPx.out,List.length_append,HQ.out.1,←HTl.out];rfl
     ·have:=HO2.out;have e:[1]++varB 9 (n:Int)++(strsB (l.take k)++(varB 9 (x.length:Int)++x))=[1]++varB 9 (n:Int)++strsB (l.take k)++strB x:=by simp[strB]
      rw[HPx.out,e,show 1+p+(q+t)=1+p+q+t from by omega];exact this
    case measure=>simp[intOf];omega
   ·obtain rfl:k=n:=by omega
    obtain⟨g,cc,rfl⟩:=ownsRow_form HO.out (by omega);have HF:Hid (PutT w (0,plainT l) (.returned (.tuple #[.slice (some ⟨g,0,none⟩) (1+p+q) cc,.int .i64 0])) wr):=by
     have h1:=HQ.out.1;have h2:=HO.out;rw[List.take_of_length_le (Nat.le_of_eq HLen.out)]at h1 h2;have e:plainT l=[1]++varB 9 (k:Int)++strsB l:=by unfold plainT;rw[HLen.out];rfl
     have hl:(plainT l).length=1+p+q:=by rw[e,List.length_append,List.length_append,HPl.out,h1];rfl
     refine hid ⟨some ⟨g,0,none⟩,cc,by rw[hl],?_,HB.out⟩;rw[hl];refine Bs.Seg.own (base:=w.heap.size) (e:=5) ?_;dsimp only;rw[e];exact h2
    go_wp2;go_ret2
    exact HF.out
end Tx
namespace Tx
open Go.RowKit Go.Joins
open Ss (IsS encW Q4)
open In (Qd Qf)
open Pk (Turn.then)
open Dv (Turn nowhere)
theorem Ql4(a b:List Int):Op.bytesLess (strOfNums a).toList (strOfNums b).toList=decide (byt a<byt b):=by
 rw[Go.Proofs.bytesLess_eq,Go.ByteArray.toList_eq,Go.ByteArray.toList_eq,QeB,QeB]
theorem QS{w W:World}{a:Option Addr}{n c:Nat}{l:List (List Int)}(h:Ss.Seg w a n c l)(hh:W.heap=w.heap):Ss.Seg W a n c l:=
 ⟨h.len,h.le,h.cap,h.nil_,fun ad had j u hu=>by
  have e:W.cell? (ad.add j)=w.cell? (ad.add j):=by unfold World.cell?;rw[hh]
  rw[e];exact h.at_ ad had j u hu⟩
theorem Qh0(x:List Int):∀(ws:List (List Int)) (j:Nat),j≤ws.length→(∀i,i<j→byt (ws.getD i [])<byt x)→(j<ws.length→¬byt (ws.getD j [])<byt x) →
  ins x ws=if j<ws.length∧ws.getD j []=x then ws else ws.take j++x :: ws.drop j
 | [],j,hj,_,_=>by
  obtain rfl:j=0:=by simpa using hj
  simp[ins]
 |y :: r,0,_,_,h=>by
  have h0:¬byt y<byt x:=h (by simp);unfold ins;rw[if_neg h0];simp
 |y :: r,j+1,hj,h1,h2=>by
  have h0:byt y<byt x:=h1 0 (by omega);unfold ins;rw[if_pos h0,Qh0 x r j (by simpa using hj) (fun i hi=>by simpa using h1 (i+1) (by omega)) (fun hlt=>by simpa using h2 (by simpa using hlt))];simp only[List.length_cons,List.getD_cons_succ,Nat.add_lt_add_iff_right,List.take_succ_cons,List.drop_succ_cons,List.cons_append]
  split <;> rfl
theorem QjW{l:List (List Int)}(hl:AllB l)(k j:Nat)(x:List Int)(hk:k<l.length)(hx:l.getD k []=x)(hj:j≤(wordsF (l.take k)).length)(h1:∀i,i<j→byt ((wordsF (l.take k)).getD i [])<byt x)
  (h2:j<(wordsF (l.take k)).length→¬byt ((wordsF (l.take k)).getD j [])<byt x) :
  wordsF (l.take (k+1))=if j<(wordsF (l.take k)).length∧(wordsF (l.take k)).getD j []=x then wordsF (l.take k) else(wordsF (l.take k)).take j++x :: (wordsF (l.take k)).drop j:=by
 have e:l[k]=x:=by rw[←hx];simp[List.getD,hk]
 have hxb:Bs.IsB x:=hl x (hx▸take_at hk);rw[List.take_succ_eq_append_getElem hk,e,QlE (fun z hz=>hl z (List.mem_of_mem_take hz)) x hxb];exact Qh0 x _ j hj h1 h2
theorem Qb0(w:World)(N:Nat)(hN:N≤w.heap.size):(w.alloc (.cells #[] 9)).ownsRow N 9 1 (.slice (some ⟨w.heap.size,0,none⟩) 0 0) 0 []:=
 World.ownsRow_made (base:=N) (e:=9) (size:=1) w #[] 0 hN (by unfold maxLen;omega) rfl
theorem Qc5(w:World)(x:List Int):Ss.Seg (w.alloc (.cells #[.string (strOfNums x)] 9)) (some ⟨w.heap.size,0,none⟩) 1 1 [x]:=Ss.QbV w [x] (by simp)
theorem QaB{P:Program}{w:World}{ops:Array Oper}{o:Oper}{a:Act}{K:Act→World→Prop}{Q:Exit→Act→World→Prop}{E:Prop}(hgd:o.guard=none)(s x:Operand)(t:TypeId)
  (ho:o.op=.call { callee:=.builtin .append,args:=#[s,x],argTypes:=#[t,t] }) (base:Nat) (e:TypeId) (i:TypeInfo) (ht:P.underlying t=some (.slice e)) (hi:P.info? e=some i) (hz:i.zero=some (.string ⟨#[]⟩)) (hsize:i.size=1) (hby:i.bytes=16)
  (g n0 c0:Nat) (xs:List Value) (hs:a.eval s=.slice (some ⟨g,0,none⟩) n0 c0) (hown:w.ownsRow base e 1 (.slice (some ⟨g,0,none⟩) n0 c0) n0 xs)
  (sp:Option Addr) (n c:Nat) (l:List (List Int)) (hx:a.eval x=.slice sp n c) (hseg:Ss.Seg w sp n c l) (hbytes:(n0+n)*16≤140737488355328) (hbase:base≤w.heap.size)
  (h:∀g' c' w',w'.ownsRow base e 1 (.slice (some ⟨g',0,none⟩) (n0+n) c') (n0+n) (xs++l.map encW)→w.grownBy w' (some g)→K (a.put o.dst (.slice (some ⟨g',0,none⟩) (n0+n) c')) w') :
  if Region.wanted o (yielded ops a.tmps)=true then Oper.wp P o a w K Q else E:=by
 have hw:Region.wanted o (yielded ops a.tmps)=true:=by simp[Region.wanted,hgd]
 rw[if_pos hw];exact Ss.QcJ s x t ho base e i ht hi hz hsize hby g n0 c0 xs hs hown sp n c l hx hseg hbytes hbase h
theorem Qk3(a:Option Addr)(n c:Nat)(l:List (List Int))(w:World)(hs:Ss.Seg w a n c l)(hS:IsS l)(hn:n≤65536) :
  Calls Tryz.prog 154 #[.slice a n c] w (TextsX w (wordsF l)):=by
 obtain⟨i0,hi,hz0,hz1,hz2⟩:=info_parts Q4;have hcap:=hs.cap;have hle:=hs.le;unfold maxLen at hcap;have HLen:=hid hs.len;have HSeg:=hid hs;have HS:=hid hS;clear hs hS;go_enter Tryz.func154,Tryz.ntmps154
 go_wp2
 go_loopw [3,4] (fun so si wr=>∃(k m c1:Nat) (a1:Option Addr),k≤n∧si=.int .i64 k∧so=.slice a1 m c1∧Hid (Ss.Seg wr a1 m c1 (wordsF (l.take k)))∧Hid (Below w.heap.size w wr)) (fun _ si _=>n-(intOf si).toNat)
 case atStart=>exact⟨0,0,0,none,Nat.zero_le _,rfl,rfl,hid (Ss.Seg.nil w),hid (Below.refl _ _)⟩
 case round=>
  obtain⟨k,m,c1,a1,hk,rfl,rfl,HW,HB⟩:=hrel;by_cases hlt:k<n
  ·have hseg:=Qt HSeg.out HB.out rfl;obtain⟨gA,oA,rfl,hc⟩:=hseg.addr (by omega);have hkl:k<l.length:=by rw[HLen.out];exact hlt
   obtain⟨x,hx⟩:∃x,l.getD k []=x:=⟨_,rfl⟩;have g1:=hc k hlt;have hxb:=(HS.out.at k).1;rw[hx]at g1 hxb;have HRd:=hid (fun j=>QjW (Qfk HS.out) k j x hkl hx);obtain⟨ws,hws⟩:∃ws,wordsF (l.take k)=ws:=⟨_,rfl⟩;have hwS:IsS ws:=hws▸Qdl (HS.out.take k);have hwl:ws.length≤k:=by have:=QaT (l.take k);rw[hws,List.length_take]at this;omega
   rw[hws]at HRd HW;have hm:ws.length=m:=HW.out.len;have hcm:=HW.out.cap;have hlm:=HW.out.le;unfold maxLen at hcm;rw[hm]at hwl;have HM:=hid hm;have HG1:=hid g1;have HWS:=hid hwS;have HXB:=hid hxb;clear hc hx hkl hseg g1 hws hwS hm hxb
   rename World=>w1
   go_wp2
   go_loopw [5] (fun sj wr=>∃j:Nat,j≤m∧sj=.int .i64 j∧Hid (wr.heap=w1.heap)∧Hid (Turn w1 wr nowhere)∧Hid (∀i,i<j→byt (ws.getD i [])<byt x)) (fun sj _=>m-(intOf sj).toNat)
   case atStart=>exact⟨0,Nat.zero_le _,rfl,hid rfl,hid (Turn.refl _ _),hid (fun i hi=>absurd hi (Nat.not_lt_zero i))⟩
   case round=>
    obtain⟨j,hj,rfl,HHp,HTr,HLs⟩:=hrel;have q1:wr.cell? ⟨gA,oA+k,none⟩=some (.string (strOfNums x)):=by
     have e:wr.cell? ⟨gA,oA+k,none⟩=w1.cell? ⟨gA,oA+k,none⟩:=by unfold World.cell?;rw[HHp.out]
     rw[e];exact HG1.out
    by_cases hjm:j<m
    ·obtain⟨gW,oW,rfl,hcw⟩:=(QS HW.out HHp.out).addr (by omega);have q2:=hcw j hjm;have hyb:=(HWS.out.at j).1;have hls:=Ql4 (ws.getD j []) x;by_cases hless:byt (ws.getD j [])<byt x
     ·rw[decide_eq_true hless]at hls;have HLs2:Hid (∀i,i<j+1→byt (ws.getD i [])<byt x):=hid fun i hi=>by
       by_cases e:i=j
       ·subst e;exact hless
       ·exact HLs.out i (by omega)
      obtain⟨y,hy⟩:∃y,ws.getD j []=y:=⟨_,rfl⟩;rw[hy]at q2 hls;clear hcw hyb hless hy;go_wp2
      go_quiet (fail)
      go_wp2;go_roundw
      case rel=>exact⟨j+1,by omega,by go_num,hid HHp.out,hid (Turn.then HTr.out (Turn.drewN wr _ nowhere)),HLs2⟩
      case measure=>simp[intOf];omega
     ·rw[decide_eq_false hless]at hls;have hR:=HRd.out j (by rw[HM.out];exact hj) HLs.out (fun _=>hless);by_cases he:ws.getD j []=x
      ·rw[if_pos ⟨by rw[HM.out];exact hjm,he⟩]at hR;have HR:=hid hR;rw[he]at q2 hls;have hjne:((j:Int)==(m:Int))=false:=by simp;omega
       have HWj:=hid (QS HW.out HHp.out);clear hcw hyb hless he hR;go_wp2
       go_quiet (fail)
       have H1:Hid (Turn wr (wr.drewN nq) nowhere):=hid (Turn.drewN wr nq nowhere);have e1:(wr.drewN nq).cell? ⟨gA,oA+k,none⟩=some (.string (strOfNums x)):=q1;have e2:(wr.drewN nq).cell? ⟨gW,oW+j,none⟩=some (.string (strOfNums x)):=q2;have HWv:Hid (Ss.Seg (wr.drewN nq) (some ⟨gW,oW,none⟩) m c1 ws):=hid (QS HWj.out rfl);generalize wr.drewN nq=v1 at *;go_wp2
       go_quiet (fail)
       have H2:Hid (Turn v1 (v1.drewN nq) nowhere):=hid (Turn.drewN v1 nq nowhere);have HWv2:Hid (Ss.Seg (v1.drewN nq) (some ⟨gW,oW,none⟩) m c1 ws):=hid (QS HWv.out rfl);generalize v1.drewN nq=V at *;have HTV:Hid (Turn w1 V nowhere):=hid (Turn.then HTr.out (Turn.then H1.out H2.out));go_wp2;go_roundw
       case rel=>exact⟨k+1,m,c1,some ⟨gW,oW,none⟩,by omega,by go_num,rfl,hid (by rw[HR.out];exact HWv2.out),hid (HB.out.trans (Qf (Pk.QW HTV.out) HB.out.size))⟩
       case measure=>simp[intOf];omega
      ·rw[if_neg (fun h=>he h.2)]at hR;have HR:=hid hR;have hne:=Ss.QaH hyb HXB.out he;obtain⟨y,hy⟩:∃y,ws.getD j []=y:=⟨_,rfl⟩;rw[hy]at q2 hls hne;have hjne:((j:Int)==(m:Int))=false:=by simp;omega
       have hcj:¬c1=j:=by omega
       have HSD:=hid (((QS HW.out HHp.out)).drop (k:=j) (by omega));have HST:=hid ((QS HW.out HHp.out).take (m:=j) (by omega));have HWr:=hid (Turn.then (Qd (S:=nowhere) (w:=w1) (Qf (Pk.QW HTr.out) (Nat.le_refl _))) (Turn.refl wr nowhere));clear hcw hyb hless he hR hy;go_wp2
       go_quiet (fail)
       have H1:Hid ((wr.drewN nq).heap=wr.heap∧Turn wr (wr.drewN nq) nowhere):=hid ⟨rfl,Turn.drewN wr nq nowhere⟩;obtain⟨v1,hv1⟩:∃v,wr.drewN nq=v:=⟨_,rfl⟩;rw[hv1]at H1 ⊢;have e1:v1.cell? ⟨gA,oA+k,none⟩=some (.string (strOfNums x)):=(by unfold World.cell?;rw[H1.out.1]:v1.cell? ⟨gA,oA+k,none⟩=wr.cell? ⟨gA,oA+k,none⟩).trans q1;have e2:v1.cell? ⟨gW,oW+j,none⟩=some (.string (strOfNums y)):=(by unfold World.cell?;rw[H1.out.1]:v1.cell? ⟨gW,oW+j,none⟩=wr.cell? ⟨gW,oW+j,none⟩).trans q2;clear hv1 q1 q2;go_wp2
       go_quiet (fail)
       have H2:Hid ((v1.drewN nq).heap=v1.heap∧Turn v1 (v1.drewN nq) nowhere):=hid ⟨rfl,Turn.drewN v1 nq nowhere⟩;obtain⟨V,hV⟩:∃v,v1.drewN nq=v:=⟨_,rfl⟩;rw[hV]at H2 ⊢;have f1:V.cell? ⟨gA,oA+k,none⟩=some (.string (strOfNums x)):=(by unfold World.cell?;rw[H2.out.1]:V.cell? ⟨gA,oA+k,none⟩=v1.cell? ⟨gA,oA+k,none⟩).trans e1;have HTV:Hid (Turn w1 V nowhere):=hid (Turn.then HTr.out (Turn.then H1.out.2 H2.out.2));have HST2:=hid (QS HST.out (H2.out.1.trans H1.out.1));have HSD2:=hid (QS HSD.out (H2.out.1.trans H1.out.1));clear hV e1 e2 H1 H2 HST HSD HWr hls hne;have hjm1:(j:Int)≤(m:Int):=by omega
       have hjc1:(j:Int)≤(c1:Int):=by omega
       have hmc1:(m:Int)≤(c1:Int):=by omega
       have hgA:gA<V.heap.size:=World.block_lt_of_cell? V _ f1;have HE1:Hid (((V.alloc (.cells #[] 9)).drew).ownsRow V.heap.size 9 1 (.slice (some ⟨V.heap.size,0,none⟩) 0 0) 0 []):=hid (Qb0 V _ (Nat.le_refl _));have HE2:Hid ((((V.alloc (.cells #[] 9)).alloc (.cells #[.string (strOfNums x)] 9)).drew).ownsRow V.heap.size 9 1 (.slice (some ⟨V.heap.size,0,none⟩) 0 0) 0 []):=hid ((Qb0 V _ (Nat.le_refl _)).alloc _);have HE3:Hid ((((V.alloc (.cells #[.string (strOfNums x)] 9)).alloc (.cells #[] 9)).drew).ownsRow V.heap.size 9 1 (.slice (some ⟨V.heap.size+1,0,none⟩) 0 0) 0 []):=hid (by
        have:=Qb0 (V.alloc (.cells #[.string (strOfNums x)] 9)) V.heap.size (by simp);rw[World.size_alloc]at this;exact this)
       have HBe1:Hid (Below V.heap.size V ((V.alloc (.cells #[] 9)).drew)):=hid ((Below.refl _ V).alloc (Nat.le_refl _) _).drew;have HBe2:Hid (Below V.heap.size V (((V.alloc (.cells #[] 9)).alloc (.cells #[.string (strOfNums x)] 9)).drew)):=hid (((Below.refl _ V).alloc (Nat.le_refl _) _).alloc (by simp) _).drew;have HBe3:Hid (Below V.heap.size V (((V.alloc (.cells #[.string (strOfNums x)] 9)).alloc (.cells #[] 9)).drew)):=hid (((Below.refl _ V).alloc (Nat.le_refl _) _).alloc (by simp) _).drew;have HX2:Hid (Ss.Seg (((V.alloc (.cells #[] 9)).alloc (.cells #[.string (strOfNums x)] 9)).drew) (some ⟨V.heap.size+1,0,none⟩) 1 1 [x]):=by
        have:=Qc5 (V.alloc (.cells #[] 9)) x;rw[World.size_alloc]at this;exact hid (QS this rfl)
       have HX3:Hid (Ss.Seg (((V.alloc (.cells #[.string (strOfNums x)] 9)).alloc (.cells #[] 9)).drew) (some ⟨V.heap.size,0,none⟩) 1 1 [x]):=hid (QS ((Qc5 V x).grown (World.grownBy_alloc _ _ none)) rfl);go_wp2
       go_region_law (first
        |(refine QaB rfl (.tmp 44) (.tmp 47) 132 rfl V.heap.size 9 i0 Tryz.underlying132 hi hz0 hz1 hz2 _ 0 0 [] rfl (by first|exact HE1.out|exact HE2.out|exact HE3.out) _ j c1 (ws.take j) rfl (by first|exact Qt HST2.out HBe1.out rfl|exact Qt HST2.out HBe2.out rfl|exact Qt HST2.out HBe3.out rfl) (by omega) (by first|exact HBe1.out.size|exact HBe2.out.size|exact HBe3.out.size) ?_;intro g2 c2 w2 hown2 hgrow2;simp only[Nat.zero_add,List.nil_append]at hown2 ⊢;have HO2:=hid hown2;have HB2:Hid (Below V.heap.size V w2):=hid (by first|exact HBe1.out.grown hgrow2 HBe1.out.size (fun i e=>by cases e;first|exact Nat.le_refl _|exact Nat.le_succ _)|exact HBe2.out.grown hgrow2 HBe2.out.size (fun i e=>by cases e;first|exact Nat.le_refl _|exact Nat.le_succ _)|exact HBe3.out.grown hgrow2 HBe3.out.size (fun i e=>by cases e;first|exact Nat.le_refl _|exact Nat.le_succ _));have s2:w2.cell? ⟨gA,oA+k,none⟩=some (.string (strOfNums x)):=(HB2.out.cell hgA).trans f1;have HGr:=hid hgrow2;clear hown2 hgrow2)
        |(refine QaB rfl (.tmp 48) (.tmp 53) 132 rfl V.heap.size 9 i0 Tryz.underlying132 hi hz0 hz1 hz2 g2 j c2 _ rfl (by first|exact HO2.out.alloc _|exact HO2.out) _ 1 1 [x] rfl (by first|exact Qc5 w2 x|exact HX2.out.kept HGr.out (fun ad e h=>by cases e;have h2:=Option.some.inj h;dsimp only at h2;omega)|exact HX3.out.kept HGr.out (fun ad e h=>by cases e;have h2:=Option.some.inj h;dsimp only at h2;omega)) (by omega) (by first|exact HB2.out.size|exact Nat.le_trans HB2.out.size (by simp)) ?_;intro g3 c3 w3 hown3 hgrow3;have HO3:=hid hown3;have HB3:Hid (Below V.heap.size V w3):=hid (by first|exact HB2.out.grown hgrow3 HB2.out.size (fun i e=>by cases e;exact(HO2.out.lt _ rfl).1)|exact(HB2.out.alloc HB2.out.size _).grown hgrow3 (Nat.le_trans HB2.out.size (by simp)) (fun i e=>by cases e;exact(HO2.out.lt _ rfl).1));clear hown3 hgrow3)
        |(refine QaB rfl (.tmp 54) (.tmp 57) 132 rfl V.heap.size 9 i0 Tryz.underlying132 hi hz0 hz1 hz2 g3 (j+1) c3 _ rfl HO3.out _ _ _ (ws.drop j) rfl (Qt HSD2.out HB3.out rfl) (by omega) HB3.out.size ?_;intro g4 c4 w4 hown4 hgrow4;have HO4:=hid hown4;have HB4:Hid (Below V.heap.size V w4):=hid (HB3.out.grown hgrow4 HB3.out.size (fun i e=>by cases e;exact(HO3.out.lt _ rfl).1));clear hown4 hgrow4))
       all_goals
        go_wp2;go_roundw
        case rel=>
         refine⟨k+1,j+1+(m-j),c4,some ⟨g4,0,none⟩,by omega,by go_num,rfl,hid ?_,hid ((HB.out.trans (Qf (Pk.QW HTV.out) HB.out.size)).trans (Qf HB4.out (Nat.le_trans HB.out.size HTV.out.size)))⟩;rw[HR.out];refine Ss.Seg.own (base:=V.heap.size) (e:=9) ?_;have e:(ws.take j++x :: ws.drop j).map encW=((ws.take j).map encW++[x].map encW)++(ws.drop j).map encW:=by simp
         rw[e];exact HO4.out
        case measure=>simp[intOf];omega
    ·obtain rfl:j=m:=by omega
     have hR:=HRd.out j (by rw[HM.out];exact Nat.le_refl _) HLs.out (fun h=>absurd h (by rw[HM.out];exact Nat.lt_irrefl _));rw[if_neg (fun h=>by have:=h.1;rw[HM.out]at this;exact absurd this (Nat.lt_irrefl _))]at hR;have HR:=hid hR;have hjm2:¬(j:Int)<(j:Int):=by omega
     have hjj:((j:Int)==(j:Int))=true:=by simp
     have HST:=hid ((QS HW.out HHp.out).take (m:=j) (Nat.le_refl _));have HSD:Hid (Ss.Seg wr (if c1=j then a1 else Option.map (fun x=>x.add j) a1) 0 (c1-j) (ws.drop j)):=hid (by have:=(QS HW.out HHp.out).from_ (k:=j) (Nat.le_refl _);rwa [Nat.sub_self]at this);clear hR;go_wp2
     go_quiet (fail)
     have H1:Hid ((wr.drewN nq).heap=wr.heap∧Turn wr (wr.drewN nq) nowhere):=hid ⟨rfl,Turn.drewN wr nq nowhere⟩;obtain⟨v1,hv1⟩:∃v,wr.drewN nq=v:=⟨_,rfl⟩;rw[hv1]at H1 ⊢;have e1:v1.cell? ⟨gA,oA+k,none⟩=some (.string (strOfNums x)):=(by unfold World.cell?;rw[H1.out.1]:v1.cell? ⟨gA,oA+k,none⟩=wr.cell? ⟨gA,oA+k,none⟩).trans q1;clear hv1 q1;go_wp2
     go_quiet (fail)
     have H2:Hid ((v1.drewN nq).heap=v1.heap∧Turn v1 (v1.drewN nq) nowhere):=hid ⟨rfl,Turn.drewN v1 nq nowhere⟩;obtain⟨V,hV⟩:∃v,v1.drewN nq=v:=⟨_,rfl⟩;rw[hV]at H2 ⊢;have f1:V.cell? ⟨gA,oA+k,none⟩=some (.string (strOfNums x)):=(by unfold World.cell?;rw[H2.out.1]:V.cell? ⟨gA,oA+k,none⟩=v1.cell? ⟨gA,oA+k,none⟩).trans e1;have HTV:Hid (Turn w1 V nowhere):=hid (Turn.then HTr.out (Turn.then H1.out.2 H2.out.2));have HST2:=hid (QS HST.out (H2.out.1.trans H1.out.1));have HSD2:=hid (QS HSD.out (H2.out.1.trans H1.out.1));clear hV e1 H1 H2 HST HSD;have hjc1:(j:Int)≤(c1:Int):=by omega
     have hgA:gA<V.heap.size:=World.block_lt_of_cell? V _ f1;have HE1:Hid (((V.alloc (.cells #[] 9)).drew).ownsRow V.heap.size 9 1 (.slice (some ⟨V.heap.size,0,none⟩) 0 0) 0 []):=hid (Qb0 V _ (Nat.le_refl _));have HE2:Hid ((((V.alloc (.cells #[] 9)).alloc (.cells #[.string (strOfNums x)] 9)).drew).ownsRow V.heap.size 9 1 (.slice (some ⟨V.heap.size,0,none⟩) 0 0) 0 []):=hid ((Qb0 V _ (Nat.le_refl _)).alloc _);have HE3:Hid ((((V.alloc (.cells #[.string (strOfNums x)] 9)).alloc (.cells #[] 9)).drew).ownsRow V.heap.size 9 1 (.slice (some ⟨V.heap.size+1,0,none⟩) 0 0) 0 []):=hid (by
      have:=Qb0 (V.alloc (.cells #[.string (strOfNums x)] 9)) V.heap.size (by simp);rw[World.size_alloc]at this;exact this)
     have HBe1:Hid (Below V.heap.size V ((V.alloc (.cells #[] 9)).drew)):=hid ((Below.refl _ V).alloc (Nat.le_refl _) _).drew;have HBe2:Hid (Below V.heap.size V (((V.alloc (.cells #[] 9)).alloc (.cells #[.string (strOfNums x)] 9)).drew)):=hid (((Below.refl _ V).alloc (Nat.le_refl _) _).alloc (by simp) _).drew;have HBe3:Hid (Below V.heap.size V (((V.alloc (.cells #[.string (strOfNums x)] 9)).alloc (.cells #[] 9)).drew)):=hid (((Below.refl _ V).alloc (Nat.le_refl _) _).alloc (by simp) _).drew;have HX2:Hid (Ss.Seg (((V.alloc (.cells #[] 9)).alloc (.cells #[.string (strOfNums x)] 9)).drew) (some ⟨V.heap.size+1,0,none⟩) 1 1 [x]):=by
      have:=Qc5 (V.alloc (.cells #[] 9)) x;rw[World.size_alloc]at this;exact hid (QS this rfl)
     have HX3:Hid (Ss.Seg (((V.alloc (.cells #[.string (strOfNums x)] 9)).alloc (.cells #[] 9)).drew) (some ⟨V.heap.size,0,none⟩) 1 1 [x]):=hid (QS ((Qc5 V x).grown (World.grownBy_alloc _ _ none)) rfl);go_wp2
     go_region_law (first
      |(refine QaB rfl (.tmp 44) (.tmp 47) 132 rfl V.heap.size 9 i0 Tryz.underlying132 hi hz0 hz1 hz2 _ 0 0 [] rfl (by first|exact HE1.out|exact HE2.out|exact HE3.out) _ j c1 (ws.take j) rfl (by first|exact Qt HST2.out HBe1.out rfl|exact Qt HST2.out HBe2.out rfl|exact Qt HST2.out HBe3.out rfl) (by omega) (by first|exact HBe1.out.size|exact HBe2.out.size|exact HBe3.out.size) ?_;intro g2 c2 w2 hown2 hgrow2;simp only[Nat.zero_add,List.nil_append]at hown2 ⊢;have HO2:=hid hown2;have HB2:Hid (Below V.heap.size V w2):=hid (by first|exact HBe1.out.grown hgrow2 HBe1.out.size (fun i e=>by cases e;first|exact Nat.le_refl _|exact Nat.le_succ _)|exact HBe2.out.grown hgrow2 HBe2.out.size (fun i e=>by cases e;first|exact Nat.le_refl _|exact Nat.le_succ _)|exact HBe3.out.grown hgrow2 HBe3.out.size (fun i e=>by cases e;first|exact Nat.le_refl _|exact Nat.le_succ _));have s2:w2.cell? ⟨gA,oA+k,none⟩=some (.string (strOfNums x)):=(HB2.out.cell hgA).trans f1;have HGr:=hid hgrow2;clear hown2 hgrow2)
      |(refine QaB rfl (.tmp 48) (.tmp 53) 132 rfl V.heap.size 9 i0 Tryz.underlying132 hi hz0 hz1 hz2 g2 j c2 _ rfl (by first|exact HO2.out.alloc _|exact HO2.out) _ 1 1 [x] rfl (by first|exact Qc5 w2 x|exact HX2.out.kept HGr.out (fun ad e h=>by cases e;have h2:=Option.some.inj h;dsimp only at h2;omega)|exact HX3.out.kept HGr.out (fun ad e h=>by cases e;have h2:=Option.some.inj h;dsimp only at h2;omega)) (by omega) (by first|exact HB2.out.size|exact Nat.le_trans HB2.out.size (by simp)) ?_;intro g3 c3 w3 hown3 hgrow3;have HO3:=hid hown3;have HB3:Hid (Below V.heap.size V w3):=hid (by first|exact HB2.out.grown hgrow3 HB2.out.size (fun i e=>by cases e;exact(HO2.out.lt _ rfl).1)|exact(HB2.out.alloc HB2.out.size _).grown hgrow3 (Nat.le_trans HB2.out.size (by simp)) (fun i e=>by cases e;exact(HO2.out.lt _ rfl).1));clear hown3 hgrow3)
      |(refine QaB rfl (.tmp 54) (.tmp 57) 132 rfl V.heap.size 9 i0 Tryz.underlying132 hi hz0 hz1 hz2 g3 (j+1) c3 _ rfl HO3.out _ _ _ (ws.drop j) rfl (Qt HSD2.out HB3.out rfl) (by omega) HB3.out.size ?_;intro g4 c4 w4 hown4 hgrow4;have HO4:=hid hown4;have HB4:Hid (Below V.heap.size V w4):=hid (HB3.out.grown hgrow4 HB3.out.size (fun i e=>by cases e;exact(HO3.out.lt _ rfl).1));clear hown4 hgrow4))
     all_goals
      go_wp2;go_roundw
      case rel=>
       refine⟨k+1,j+1+0,c4,some ⟨g4,0,none⟩,by omega,by go_num,rfl,hid ?_,hid ((HB.out.trans (Qf (Pk.QW HTV.out) HB.out.size)).trans (Qf HB4.out (Nat.le_trans HB.out.size HTV.out.size)))⟩;rw[HR.out];refine Ss.Seg.own (base:=V.heap.size) (e:=9) ?_;have e:(ws.take j++x :: ws.drop j).map encW=((ws.take j).map encW++[x].map encW)++(ws.drop j).map encW:=by simp
       rw[e];exact HO4.out
      case measure=>simp[intOf];omega
  ·obtain rfl:k=n:=by omega
   have hW:=HW.out;rw[←HLen.out,List.take_length]at hW;have hlen:=hW.len
   rename World=>w1
   have HF:Hid (TextsX w (wordsF l) (.returned (.slice a1 m c1)) w1):=hid (by subst hlen;exact⟨a1,c1,rfl,hW,HB.out⟩);clear hW hlen;go_wp2;go_ret
   exact HF.out
end Tx
namespace Tx
open Go.RowKit Go.Joins
open Ss (IsS encW Q4)
open Bs (Qj)
open Us (Qak)
open Ref1 (GrowB)
open Oct (varB)
open In (Qd Qf)
open Pk (wid putR IsU Turn.then)
open Dv (Turn nowhere)
theorem Qoj{w:World}{base n:Nat}{V:Value}{l:List Int}(h:w.ownsRow base 85 1 V n (l.map (Value.int .u64))):∃a c,V=.slice a n c∧Us.Seg w a n c l:=by
 have h1:=h.1;rw[List.length_map,Nat.mul_one]at h1;have hh:=h;rcases h.2 with ⟨rfl,rfl⟩|⟨g',cap,cur,rfl,_⟩
 ·obtain rfl:=List.eq_nil_of_length_eq_zero h1;exact⟨none,0,rfl,Us.Seg.nil w⟩
 ·exact⟨_,cap,rfl,Us.Seg.own hh⟩
theorem Qa5{l:List Int}{v E:Int}{B:List Int}{m:Nat}(hR:putR l v=(E,B))(hm:B.length=m)(hu:IsU l)(a:Option Addr)(n c:Nat)(W:World)(hs:Us.Seg W a n c l) :
  Calls Tryz.prog 46 #[.slice a n c,.int .i64 v] W (Pk.PutO W m E B):=
 (Pk.Qay a n c l v W hs hu).mono fun e w' h=>by
  rw[hR]at h;obtain⟨a',k,he,h1,h2,h3⟩:=h;subst hm;exact⟨a',k,he,h1,Pk.Qc h2,h3⟩
theorem Qe0(a:Option Addr)(n c:Nat)(l:List (List Int))(w:World)(hs:Ss.Seg w a n c l)(hb:AllB l) :
  Calls Tryz.prog 125 #[.slice a n c] w (PutT w (formR (dictT l) l)):=by
 have HC:=hid (Qcb a n c l w hs);cases hok:okB l with
 |false=>
  rw[Qfu hok]at HC;rw[QdR hok];clear hs hb hok;go_enter Tryz.func125,Tryz.ntmps125
  go_wp2_with (first
   |(go_at_call 153;refine HC.out.mono ?_;rintro e w' ⟨rfl,rfl⟩)
   |fail)
  go_ret2
  exact Qd0 (Below.refl _ _)
 |true=>
  obtain⟨i0,hi,hz0,hz1,hz2⟩:=info_parts Qj;obtain⟨j0,ji,jz0,jz1,jz2⟩:=info_parts Qak;have hO:=(QaJ l).1 hok;rw[QfM hok]at HC;rw[Qbn hok];have hn:n≤4096:=by rw[←hs.len];exact hO.1
  have HLen:=hid hs.len;have HSeg:=hid hs;have hcap:=hs.cap;have hle:=hs.le;unfold maxLen at hcap;have hS:IsS l:=fun s h=>⟨hb s h,Nat.le_trans (hO.2 s h) (by omega)⟩
  have HS:=hid hS;have hwu:=wrap_u64 (n:=n) (by omega);have HWords:=hid (Qk3 a n c l w hs hS (by omega));obtain⟨ws,hws⟩:∃ws,wordsF l=ws:=⟨_,rfl⟩;obtain⟨ix,hix⟩:∃ix,ixT l=ix:=⟨_,rfl⟩;have hwl:=QaT l;obtain⟨m,hm⟩:∃m,ws.length=m:=⟨_,rfl⟩;have HIn:Hid (∀x∈l,x∈ws):=hid fun x hx=>hws▸(QZ x l).2 hx
  have HWS:Hid (IsS ws):=hid (hws▸Qdl hS);have HND:Hid ws.Nodup:=hid (hws▸(Qbr l hb).nodup);have HWl:Hid (∀s∈ws,s.length≤65536):=hid fun s h=>hO.2 s ((QZ s l).1 (hws▸h))
  have HU:Hid (IsU ix):=hid (hix▸QeO (by have:=hO.1;omega));have hpix:=Qjz (l:=l) (by have:=hO.1;omega);have HParts:=hid (QgR l);rw[hws,hix]at HParts;have hixw:idxsF ws l=ix:=by rw[←hws];exact hix
  rw[hix]at hpix;rw[hws]at hwl HWords;have hm4:m≤4096:=by have:=hO.1;omega
  have hwm:=wrap_u64 (n:=m) (by omega);unfold TextsX at HWords;rw[hm]at HWords;obtain⟨v,hv⟩:∃v,wid ix=v:=⟨_,rfl⟩;have hv64:v≤64:=hv▸Pk.Qbh HU.out;rw[hv]at hpix HParts;obtain⟨P,hP⟩:∃P,(putR ix v).2=P:=⟨_,rfl⟩;rw[hP]at HParts;have hR:putR ix v=(0,P):=by rw[←hpix,←hP]
  have hPl:P.length≤524288:=hP▸Pk.Qc0 ix v;obtain⟨pl,hpl⟩:∃x,P.length=x:=⟨_,rfl⟩;rw[hpl]at hPl;have hilen:ix.length=n:=by rw[←hixw,Qcm];exact HLen.out
  have HIl:=hid hilen;have HIW:=hid hixw;have HR:=hid hR;have HPL:=hid hpl;have HM:=hid hm;have HV:=hid hv;have hvw:IntKind.u8.wrap (v:Int)=(v:Int):=by rw[IntKind.wrap_u8];omega
  have hvl:=Oct.QE 9 (n:Int);obtain⟨p,hp⟩:∃p,(varB 9 (n:Int)).length=p:=⟨_,rfl⟩;rw[hp]at hvl;have hvl2:=Oct.QE 9 (m:Int);obtain⟨p2,hp2⟩:∃p,(varB 9 (m:Int)).length=p:=⟨_,rfl⟩;rw[hp2]at hvl2;have HPn:=hid hp;have HPm:=hid hp2;clear hs hb hok hO hS hws hix hwl hpix hixw hP hR hilen hpl hm hv hp hp2;go_enter Tryz.func125,Tryz.ntmps125
  go_wp2_with (first
   |(go_at_call 153;refine HC.out.mono ?_;rintro e w' ⟨rfl,rfl⟩)
   |fail)
  refine HWords.out.mono ?_;rintro e w2 ⟨aw,cw,rfl,hsw,hb2⟩;have HB2:=hid hb2;have HSW:=hid hsw;have hlit:=World.ownsRow_lit (base:=w2.heap.size) (e:=5) (size:=1) w2 #[.int .u8 2] 1 (Nat.le_refl _) (by unfold maxLen;omega) rfl;have HP:=hid (In.Qao w2.heap.size (.slice (some ⟨w2.heap.size,0,none⟩) 1 1) 1 [2] (n:Int) (w2.alloc (.cells #[.int .u8 2] 5)) hlit (by simp) (by omega) (by omega) (by decide));have HA:Hid (Below w2.heap.size w2 (w2.alloc (.cells #[.int .u8 2] 5))):=hid ((Below.refl _ w2).alloc (Nat.le_refl _) _);rw[HPn.out]at HP;clear hsw hb2 hlit HC HWords;dsimp only;go_wp2_with fail
  refine HP.out.mono ?_;rintro e w3 ⟨g3,c3,rfl,hown3,hb3⟩;have HB3:=hid (HA.out.trans hb3);have HP2:=hid (In.Qao w2.heap.size _ _ _ (m:Int) w3 hown3 HB3.out.size (by omega) (by omega) (by omega));rw[HPm.out]at HP2;clear hown3 hb3 HP HA;dsimp only;go_wp2_with fail
  refine HP2.out.mono ?_;rintro e w4 ⟨g4,c4,rfl,hown4,hb4⟩;have HB4:=hid (HB3.out.trans hb4);have HO4:=hid hown4;clear hown4 hb4 HP2 HB3;dsimp only;go_wp2;have hcw:=HSW.out.cap;have hlw:=HSW.out.le;unfold maxLen at hcw
  go_loopw [6,7] (fun so si wr=>∃(k q:Nat) (V:Value),k≤m∧si=.int .i64 k∧V=so∧Hid ((strsB (ws.take k)).length=q∧q≤k*65546)∧Hid (wr.ownsRow w2.heap.size 5 1 V (1+p+p2+q) (([2]++varB 9 (n:Int)++varB 9 (m:Int)++strsB (ws.take k)).map (Value.int .u8)))∧Hid (Below w2.heap.size w2 wr))
   (fun _ si _=>m-(intOf si).toNat)
  case atStart=>exact⟨0,0,_,Nat.zero_le _,rfl,rfl,hid ⟨rfl,Nat.le_refl _⟩,hid (by simpa [strsB] using HO4.out),HB4⟩
  case round=>
   obtain⟨k,q,V,hk,rfl,rfl,HQ,HO,HB⟩:=hrel;by_cases hlt:k<m
   ·have hseg:=Qt HSW.out HB.out rfl;obtain⟨gA,oA,rfl,hc⟩:=hseg.addr (by omega);have g1:=hc k hlt;obtain⟨x,hx⟩:∃x,ws.getD k []=x:=⟨_,rfl⟩;have hxm:x∈ws:=hx▸take_at (by rw[HM.out];exact hlt);rw[hx]at g1;have HPx:=hid (QeT ws k x (by have:=HM.out;omega) hx);have hxl:=HWl.out x hxm;have hqb:=HQ.out.2;have HT:=hid (QhO w2.heap.size V (1+p+p2+q) _ x wr HO.out HB.out.size (by omega) ((HWS.out x hxm).1) hxl);have hsl:=Qej x;obtain⟨t,ht⟩:∃t,(strB x).length=t:=⟨_,rfl⟩;rw[ht]at HT hsl;have HTl:=hid ht;have HXl:Hid (t≤65546):=hid (by omega);clear hx hc hseg hxm hxl hsl ht;go_wp2_with fail
    refine HT.out.mono ?_;rintro e w5 ⟨g5,c5,rfl,hown5,hb5⟩;have HO5:=hid hown5;have HB5:=hid (HB.out.trans hb5);clear hown5 hb5;dsimp only;go_wp2;go_roundw
    case rel=>
     refine⟨k+1,q+t,_,by omega,by go_num,rfl,hid ⟨?_,by have:=HQ.out.2;have:=HXl.out;omega⟩,hid ?_,HB5⟩
     ·rw[HPx.out,List.length_append,HQ.out.1,←HTl.out];rfl
     ·have:=HO5.out;have e:[2]++varB 9 (n:Int)++varB 9 (m:Int)++(strsB (ws.take k)++(varB 9 (x.length:Int)++x))=[2]++varB 9 (n:Int)++varB 9 (m:Int)++strsB (ws.take k)++strB x:=by simp[strB]
      rw[HPx.out,e,show 1+p+p2+(q+t)=1+p+p2+q+t from by omega];exact this
    case measure=>simp[intOf];omega
   ·obtain rfl:k=m:=by omega
    obtain⟨g6,c6,rfl⟩:=ownsRow_form HO.out (by omega);have HQ6:Hid ((strsB ws).length=q):=hid (by have:=HQ.out.1;rwa [List.take_of_length_le (Nat.le_of_eq HM.out)]at this);have hq6:q≤268476416:=Nat.le_trans HQ.out.2 (Nat.mul_le_mul_right 65546 hm4);have HO6:Hid (wr.ownsRow w2.heap.size 5 1 (.slice (some ⟨g6,0,none⟩) (1+p+p2+q) c6) (1+p+p2+q) (([2]++varB 9 (n:Int)++varB 9 (k:Int)++strsB ws).map (Value.int .u8))):=hid (by have:=HO.out;rwa [List.take_of_length_le (Nat.le_of_eq HM.out)]at this);have HSW6:=hid (Qt HSW.out HB.out rfl);have HSL6:=hid (Qt HSeg.out (HB2.out.trans (Qf HB.out HB2.out.size)) rfl)
    rename World=>w6
    clear HQ HO HB4 HO4;go_wp2
    go_loopw [8,9] (fun so si wr=>∃(k:Nat) (V:Value),k≤n∧si=.int .i64 k∧V=so∧Hid (wr.ownsRow w6.heap.size 85 1 V k (((idxsF ws l).take k).map (Value.int .u64)))∧Hid (Below w6.heap.size w6 wr))
     (fun _ si _=>n-(intOf si).toNat)
    case atStart=>exact⟨0,_,Nat.zero_le _,rfl,rfl,hid (World.ownsRow_nil _ _ _ _),hid (Below.refl _ _)⟩
    case round=>
     obtain⟨t,V,ht,rfl,rfl,HO,HB7⟩:=hrel;by_cases hlt2:t<n
     ·have hseg:=Qt HSL6.out HB7.out rfl;obtain⟨gA,oA,rfl,hc⟩:=hseg.addr (by omega);have g1:=hc t hlt2;obtain⟨x,hx⟩:∃x,l.getD t []=x:=⟨_,rfl⟩;have hxl:t<l.length:=by rw[HLen.out];exact hlt2
      have hxin:x∈ws:=HIn.out x (hx▸take_at hxl);have HP:=hid (Qkq ws l t x hxl hx);have hxb:=(HS.out.at t).1;obtain⟨i,hi⟩:∃i,idx ws x=i:=⟨_,rfl⟩;have hilt:i<k:=by rw[←hi,←HM.out];exact QdM hxin
      have hiat:ws.getD i []=x:=by rw[←hi];exact QgW hxin
      have hbef:∀j,j<i→¬ws.getD j []=x:=fun j hj e=>by
       have h2:=Qgo HND.out j (by rw[HM.out];omega);rw[e,hi]at h2;omega
      rw[hi]at HP;rw[hx]at g1 hxb;have hsegw:=Qt HSW6.out HB7.out rfl;obtain⟨gW,oW,rfl,hcw2⟩:=hsegw.addr (by omega);have HCW:=hid hcw2;have HG1:=hid g1;have HBef:=hid hbef;have HXB:=hid hxb;have HIA:=hid hiat;clear hc hx hseg hsegw hxl hxin hi hbef hxb hiat g1 hcw2
      rename World=>w7
      go_wp2
      go_loopw [10] (fun sj wr=>∃j:Nat,j≤i∧sj=.int .i64 j∧Hid (wr.heap=w7.heap)∧Hid (Turn w7 wr nowhere)) (fun sj _=>i-(intOf sj).toNat)
      case atStart=>exact⟨0,Nat.zero_le _,rfl,hid rfl,hid (Turn.refl _ _)⟩
      case round=>
       obtain⟨j,hj,rfl,HHp,HTr⟩:=hrel;have q1:wr.cell? ⟨gA,oA+t,none⟩=some (.string (strOfNums x)):=by
        have e:wr.cell? ⟨gA,oA+t,none⟩=w7.cell? ⟨gA,oA+t,none⟩:=by unfold World.cell?;rw[HHp.out]
        rw[e];exact HG1.out
       have q2:wr.cell? ⟨gW,oW+j,none⟩=some (.string (strOfNums (ws.getD j []))):=by
        have e:wr.cell? ⟨gW,oW+j,none⟩=w7.cell? ⟨gW,oW+j,none⟩:=by unfold World.cell?;rw[HHp.out]
        rw[e];exact HCW.out j (by omega)
       by_cases hji:j<i
       ·have hne:=Ss.QaH ((HWS.out.at j).1) HXB.out (HBef.out j hji);obtain⟨y,hy⟩:∃y,ws.getD j []=y:=⟨_,rfl⟩;rw[hy]at q2 hne;clear hy;go_wp2
        go_quiet (fail)
        go_wp2;go_roundw
        case rel=>exact⟨j+1,by omega,by go_num,hid HHp.out,hid (Turn.then HTr.out (Turn.drewN wr _ nowhere))⟩
        case measure=>simp[intOf];omega
       ·obtain rfl:j=i:=by omega
        rw[HIA.out]at q2;clear hji;go_wp2
        go_quiet (fail)
        have H1:Hid ((wr.drewN nq).heap=wr.heap∧Turn wr (wr.drewN nq) nowhere):=hid ⟨rfl,Turn.drewN wr nq nowhere⟩;obtain⟨v1,hv1⟩:∃v,wr.drewN nq=v:=⟨_,rfl⟩;rw[hv1]at H1 ⊢;have HTV:Hid (Turn w7 v1 nowhere):=hid (Turn.then HTr.out H1.out.2);have HOv:=hid (In.QY HO.out HTV.out.grown);have HBv:Hid (Below w6.heap.size w6 v1):=hid (HB7.out.trans (Qf (Pk.QW HTV.out) HB7.out.size));have hwj:=wrap_u64 (n:=j) (by omega);have HBs:Hid (w6.heap.size≤v1.heap.size):=hid HBv.out.size;clear hv1 q1 q2 H1 HTr HHp HTV;go_wp2_with (first
         |(at_builtin;refine wpList_append_own _ rfl (.tmp 60) (.tmp 63) 88 rfl w6.heap.size 85 j0 (.int .u64 0) 1 8 Tryz.underlying88 ji jz0 jz1 jz2 rfl (by decide) V t _ rfl (HOv.out.alloc _) ⟨v1.heap.size,0,none⟩ 1 1 [.int .u64 (j:Int)] rfl rfl (by intro y u hy;match y,hy with|0,hy=>simp at hy;subst hy;simp[Addr.add]) (by intro u hu;simp at hu;subst hu;rfl) (by unfold maxLen;omega) (by omega) (by have:=HBs.out;simp;omega) ?_;intro V2 w8 hown8 hgrow8 hnil8)
         |go_in)
        go_roundw
        case rel=>
         refine⟨t+1,_,by omega,by go_num,rfl,?_,hid ((HBv.out.alloc HBv.out.size _).grown hgrow8 (by have:=HBs.out;simp;omega) (fun y e=>(HOv.out.lt y e).1))⟩;rw[HP.out,List.map_append];exact hid hown8
        case measure=>simp[intOf];omega
     ·obtain rfl:t=n:=by omega
      have HO8:Hid (wr.ownsRow w6.heap.size 85 1 V t (ix.map (Value.int .u64))):=hid (by have:=HO.out;rw[HIW.out]at this;rwa [List.take_of_length_le (Nat.le_of_eq HIl.out)]at this);obtain⟨ai,ci,rfl,hsi⟩:=Qoj HO8.out;have HWid:=hid (Pk.QcQ ai t ci ix wr hsi HU.out);rw[HV.out]at HWid;have HPut:=hid (Qa5 (v:=(v:Int)) HR.out HPL.out HU.out ai t ci wr hsi);have HO7:=hid (In.own_below HO6.out HB7.out);have HL7:Hid (Below w2.heap.size w2 wr):=hid (HB.out.trans (Qf HB7.out HB.out.size));clear hsi HO HO8 HO6
      rename World=>w7
      go_wp2_with (first
       |(go_at_call 78;refine HWid.out.mono ?_;rintro e w' ⟨rfl,rfl⟩)
       |fail)
      refine HPut.out.mono ?_;rintro e w9 ⟨ap,cp,rfl,hsp,ht9,ho9⟩;obtain⟨gP,rfl,hoP⟩:=ho9 rfl;have HNe:Hid (∀ad:Addr,some (⟨gP,0,none⟩:Addr)=some ad→∀y,(Value.slice (some ⟨g6,0,none⟩) (1+p+p2+q) c6).ownBlock=some y→¬y=ad.block):=hid (fun ad had y hy e=>by
       have h1:=(HO7.out.lt y hy).2;have h2:=(hoP.lt gP rfl).1;cases had
       dsimp only at e;omega)
      clear hoP ho9;have HB9:Hid (Below w2.heap.size w2 w9):=hid (HL7.out.trans (Qf (Pk.QW ht9) HL7.out.size));have HO9:=hid (In.QY HO7.out ht9.grown);have HSP:=hid hsp;have HS9:Hid (w2.heap.size≤w9.heap.size):=hid HB9.out.size;clear hsp ht9 HO7 HL7 HWid HPut;dsimp only;go_wp2_with (first
       |(at_builtin;refine wpList_append_own _ rfl (.tmp 73) (.tmp 76) 45 rfl w2.heap.size 5 i0 (.int .u8 0) 1 1 Tryz.underlying45 hi hz0 hz1 hz2 rfl (by decide) _ (1+p+p2+q) _ rfl (HO9.out.alloc _) ⟨w9.heap.size,0,none⟩ 1 1 [.int .u8 (v:Int)] rfl rfl (by intro y u hy;match y,hy with|0,hy=>simp at hy;subst hy;exact Pk.Qm w9 _ _) (by intro u hu;simp at hu;subst hu;rfl) (by unfold maxLen;omega) (by omega) (by have:=HS9.out;simp;omega) ?_;intro v10 w10 hown10 hg10 hnil10;obtain⟨g10,c10,rfl⟩:=ownsRow_form hown10 (by omega);have HO10:=hid hown10;have HB10:Hid (Below w2.heap.size w2 w10):=hid ((HB9.out.alloc HS9.out _).grown hg10 (by have:=HS9.out;simp;omega) (fun j e=>(HO9.out.lt j e).1));have HSP10:Hid (Bs.Seg w10 (some ⟨gP,0,none⟩) pl cp P):=hid ((HSP.out.grown (World.grownBy_alloc w9 _ none)).kept hg10 (fun ad had e=>HNe.out ad had _ e rfl));have HS10:Hid (w2.heap.size≤w10.heap.size):=hid HB10.out.size;clear hown10 hg10 hnil10)
       |(at_builtin;refine Bs.Qr rfl (.tmp 77) (.tmp 78) 45 rfl w2.heap.size 5 i0 Tryz.underlying45 hi hz0 hz1 hz2 g10 (1+p+p2+q+1) c10 _ rfl HO10.out (some ⟨gP,0,none⟩) pl cp P rfl HSP10.out (by omega) HS10.out ?_;intro g11 c11 w11 hown11 hg11)
       |fail)
      have HF:Hid (PutT w (0,dictT l) (.returned (.tuple #[.slice (some ⟨g11,0,none⟩) (1+p+p2+q+1+pl) c11,.int .i64 0])) w11):=by
       have e1:([2]++varB 9 (t:Int))++varB 9 (k:Int)++strsB ws++[(v:Int)]++P=dictT l:=by rw[HParts.out,HLen.out,HM.out]
       have hlen:(dictT l).length=1+p+p2+q+1+pl:=by
        rw[←e1,List.length_append,List.length_append,List.length_append,List.length_append,List.length_append,HPn.out,HPm.out,HQ6.out,HPL.out]
        rfl
       refine hid ⟨_,c11,by rw[hlen],?_,HB2.out.trans (Qf (HB10.out.grown hg11 HS10.out (fun j e=>(HO10.out.lt j e).1)) HB2.out.size)⟩;rw[hlen,←e1];refine Bs.Seg.own (base:=w2.heap.size) (e:=5) ?_;dsimp only;rw[List.map_append,List.map_append];exact hown11
      clear hown11 hg11;go_ret2
      exact HF.out
end Tx
namespace Tx
open Go.RowKit Go.Joins
open In (Qf)
open Dv (Turn nowhere)
theorem QmO(a:Option Addr)(n c:Nat)(l:List (List Int))(w:World)(hs:Ss.Seg w a n c l)(hb:AllB l) :
  Calls Tryz.prog 69 #[.slice a n c] w (PutT w (formR (bestT l) l)):=by
 have HP:=hid (Qbf a n c l w hs hb);cases hok:okB l with
 |false=>
  rw[QdR hok]at HP ⊢;unfold PutT at HP;dsimp only at HP;clear hs hb hok;go_enter Tryz.func69,Tryz.ntmps69
  go_wp2_with fail
  refine HP.out.mono ?_;rintro e w1 ⟨ap,cp,rfl,hsp,hb1⟩;have HF:=hid (Qd0 hb1);clear hsp hb1;dsimp only;go_wp2;go_ret2
  exact HF.out
 |true=>
  have HD:=hid (fun W (k:Below w.heap.size w W)=>Qe0 a n c l W (Qt hs k rfl) hb);rw[Qbn hok]at HP ⊢;rw[Qbn hok]at HD;obtain⟨P,hP⟩:∃P,plainT l=P:=⟨_,rfl⟩;obtain⟨D,hD⟩:∃D,dictT l=D:=⟨_,rfl⟩;have hR:bestT l=if D.length<P.length then D else P:=by rw[←hP,←hD];rfl
  rw[hP]at HP;rw[hD]at HD;obtain⟨R,hRe⟩:∃R,bestT l=R:=⟨_,rfl⟩;rw[hRe]at hR ⊢;have HRe:=hid hR.symm;obtain⟨pl,hpl⟩:∃x,P.length=x:=⟨_,rfl⟩;obtain⟨dl,hdl⟩:∃x,D.length=x:=⟨_,rfl⟩;unfold PutT at HP HD;dsimp only at HP HD;rw[hpl]at HP;rw[hdl]at HD;have HPl:=hid hpl;have HDl:=hid hdl;clear hs hb hok hP hD hR hRe hpl hdl;go_enter Tryz.func69,Tryz.ntmps69
  go_wp2_with fail
  refine HP.out.mono ?_;rintro e w1 ⟨ap,cp,rfl,hsp,hb1⟩;have HB1:=hid hb1;have HSP:=hid hsp;have HD1:=hid (HD.out w1 hb1);clear hsp hb1;dsimp only;go_wp2_with fail
  refine HD1.out.mono ?_;rintro e w2 ⟨ad,cd,rfl,hsd,hb2⟩;have HB2:=hid (HB1.out.trans (Qf hb2 HB1.out.size));have HSP2:Hid (Bs.Seg w2 ap pl cp P):=hid (HSP.out.grown (Bs.grown_of hb2));have HSD:=hid hsd;clear hsd hb2;dsimp only;by_cases hlt:dl<pl
  ·have HF:Hid (PutT w (0,R) (.returned (.tuple #[.slice ad dl cd,.int .i64 0])) w2):=hid (by
    rw[←HRe.out,if_pos (by rw[HPl.out,HDl.out];exact hlt)];exact⟨ad,cd,by rw[HDl.out],by rw[HDl.out];exact HSD.out,HB2.out⟩)
   have hlt':(dl:Int)<(pl:Int):=by omega
   clear hlt;go_wp2;go_ret2
   exact HF.out
  ·have HF:Hid (PutT w (0,R) (.returned (.tuple #[.slice ap pl cp,.int .i64 0])) w2):=hid (by
    rw[←HRe.out,if_neg (by rw[HPl.out,HDl.out];exact hlt)];exact⟨ap,cp,by rw[HPl.out],by rw[HPl.out];exact HSP2.out,HB2.out⟩)
   have hlt':¬(dl:Int)<(pl:Int):=by omega
   clear hlt;go_wp2;go_ret2
   exact HF.out
end Tx
namespace Tx
open Go.RowKit Go.Joins
open Ss (IsS encW Q4)
open Bs (Qj)
open Oct (readV ofB)
open In (At RR RRead RVarX rvar_any Qe Qcs Qbm Qn QB RBytesX QdL QcN)
open Pk (Turn.then)
open Dv (Turn nowhere)
theorem Qon(W:World):(convert 45 9 (.slice none 0 0)).run Tryz.prog W=.ok (.string ⟨#[]⟩) W:=by kernel_rfl
def RReadX(b g:Nat)(w:World)(o:Option (List Int×List Int))(e:Ending)(w':World):Prop:=
 Turn w w' (At b)∧∃r,RR w' b g r∧Oct.IsB r∧r.length≤100000000∧match o with
  |some (s,rest)=>r=rest∧e=.returned (.tuple #[.string (strOfNums s),.bool true])
  |none=>∃S,e=.returned (.tuple #[.string S,.bool false])
theorem Qhv(b g:Nat)(bs:List Int)(w:World)(h:RR w b g bs)(hg:g<w.heap.size)(hb:Oct.IsB bs)(hl:bs.length≤100000000) :
  Calls Tryz.prog 130 #[.pointer (some ⟨b,0,none⟩)] w (RReadX b g w (readS bs)):=by
 have HVar:=hid (rvar_any b g bs w h hb);unfold RVarX at HVar;obtain⟨v,er,nn,hv⟩:∃v er nn,readV 0 0 bs=(v,er,nn):=⟨_,_,_,rfl⟩;have hvb:er=0→0≤v:=fun h0=>by subst h0;exact(In.QQ bs hb v nn hv).1
 have HVe:=hid hv;rw[hv]at HVar;dsimp only at HVar;obtain⟨r1,hr1e⟩:∃r,bs.drop nn=r:=⟨_,rfl⟩;have hr1b:Oct.IsB r1:=hr1e▸Qn hb nn;have hr1l:r1.length≤100000000:=by rw[←hr1e,List.length_drop];omega
 rw[hr1e]at HVar;have HR1e:=hid hr1e;have HB1:=hid hr1b;have HL1:=hid hr1l;have HGL:=hid hg;clear hr1e hv h hb hl hg;by_cases hbad:er≠0∨65536<v
 ·have HF:Hid (∀w' S,Turn w w' (At b)→RR w' b g r1→RReadX b g w (readS bs) (.returned (.tuple #[.string S,.bool false])) w'):=hid fun w' S ht hr=>by
   rw[show readS bs=none by unfold readS;rw[HVe.out];exact if_pos (by rcases hbad with h|h;exact .inl h;exact .inr (.inl h))];exact⟨ht,r1,hr,HB1.out,HL1.out,S,rfl⟩
  by_cases he:er=0
  ·subst he;have hv2:65536<v:=by simpa using hbad
   have hv0:=hvb rfl;clear hbad hvb;go_enter Tryz.func130,Tryz.ntmps130
   go_wp2_with fail
   refine HVar.out.mono ?_;rintro e w1 ⟨rfl,ht1,hr1⟩;have HF1:=hid (HF.out w1 ⟨#[]⟩ ht1 hr1);clear ht1 hr1;dsimp only;go_wp2;go_ret2
   exact HF1.out
  ·clear hbad hvb;go_enter Tryz.func130,Tryz.ntmps130
   go_wp2_with fail
   refine HVar.out.mono ?_;rintro e w1 ⟨rfl,ht1,hr1⟩;have HF1:=hid (HF.out w1 ⟨#[]⟩ ht1 hr1);clear ht1 hr1;dsimp only;go_wp2;go_ret2
   exact HF1.out
 ·have he:er=0:=Classical.byContradiction fun h=>hbad (.inl h)
  have hv2:¬65536<v:=fun h=>hbad (.inr h)
  subst he;obtain⟨s,rfl⟩:=Int.eq_ofNat_of_zero_le (hvb rfl);clear hbad hvb;obtain⟨q,hq⟩:∃q,r1.length=q:=⟨_,rfl⟩;by_cases hlong:q<s
  ·have HF:Hid (∀w' S,Turn w w' (At b)→RR w' b g r1→RReadX b g w (readS bs) (.returned (.tuple #[.string S,.bool false])) w'):=hid fun w' S ht hr=>by
    rw[show readS bs=none by unfold readS;rw[HVe.out];exact if_pos (.inr (.inr (by rw[HR1e.out,hq];simpa using hlong)))];exact⟨ht,r1,hr,HB1.out,HL1.out,S,rfl⟩
   have HBy:=hid (fun W (h:RR W b g r1)=>QdL b g r1 s W h (by omega));clear hlong hq hr1b hr1l;go_enter Tryz.func130,Tryz.ntmps130
   go_wp2_with fail
   refine HVar.out.mono ?_;rintro e w1 ⟨rfl,ht1,hr1⟩;have HF1:=hid (HF.out w1 ⟨#[]⟩ ht1 hr1);have HBy1:=hid (HBy.out w1 hr1);have hcn:=Qon w1;clear ht1 hr1;dsimp only;go_wp2_with (first
    |(go_at_call 128;refine HBy1.out.mono ?_;rintro e w' ⟨rfl,rfl⟩)
    |fail)
   go_ret2
   exact HF1.out
  ·have HF:Hid (∀w',Turn w w' (At b)→RR w' b g (r1.drop s)→RReadX b g w (readS bs) (.returned (.tuple #[.string (strOfNums (r1.take s)),.bool true])) w'):=hid fun w' ht hr=>by
    rw[show readS bs=some (r1.take s,r1.drop s) by unfold readS;rw[HVe.out];dsimp only;rw[HR1e.out,if_neg (by rw[hq];simp;omega),Int.toNat_natCast]];exact⟨ht,_,hr,Qn HB1.out s,by rw[List.length_drop];have:=HL1.out;omega,rfl,rfl⟩
   have HBy:=hid (fun W (h:RR W b g r1)=>QcN b g r1 s W h (by omega) HL1.out);obtain⟨x,hx⟩:∃x,r1.take s=x:=⟨_,rfl⟩;rw[hx]at HF HBy;clear hlong hq hr1b hr1l hx;go_enter Tryz.func130,Tryz.ntmps130
   go_wp2_with fail
   refine HVar.out.mono ?_;rintro e w1 ⟨rfl,ht1,hr1⟩;have HT1:=hid ht1;have HBy1:=hid (HBy.out w1 hr1);clear ht1 hr1;dsimp only;go_wp2_with fail
   refine HBy1.out.mono ?_;rintro e w2 ⟨g2,c2,rfl,hown2,ht2,hr2⟩;have hcv:=Qf4 hown2;have HF2:=hid (HF.out w2 (Qe HT1.out ht2 (fun i e=>.inl e)) hr2);clear hown2 ht2 hr2;dsimp only;go_wp2;go_ret2
   exact HF2.out
def RRowsX(b g:Nat)(w:World)(o:Option (List (List Int)×List Int))(e:Ending)(w':World):Prop:=
 Turn w w' (At b)∧∃r,RR w' b g r∧Oct.IsB r∧r.length≤100000000∧match o with
  |some (l,rest)=>r=rest∧∃a c,e=.returned (.tuple #[.slice a l.length c,.bool true])∧Ss.Seg w' a l.length c l∧∀ad,a=some ad→w.heap.size≤ad.block
  |none=>e=.returned (.tuple #[.slice none 0 0,.bool false])
theorem Qhw(b g n:Nat)(bs:List Int)(w:World)(h:RR w b g bs)(hg:g<w.heap.size)(hb:Oct.IsB bs)(hl:bs.length≤100000000)(hn:n≤65536) :
  Calls Tryz.prog 132 #[.pointer (some ⟨b,0,none⟩),.int .u64 n] w (RRowsX b g w (readSs n bs)):=by
 obtain⟨i0,hi,hz0,hz1,hz2⟩:=info_parts Q4;have HBL:=hid h.lt;have HGL:=hid hg;have HR0:=hid h;have HB0:Hid (Oct.IsB bs∧bs.length≤100000000):=hid ⟨hb,hl⟩;have HE0:Hid (readSs n bs=(readSs (n-0) bs).map (fun p=>(([]:List (List Int))++p.1,p.2))):=hid (by simp);clear h hg hb hl;go_enter Tryz.func132,Tryz.ntmps132
 go_wp2
 go_loopw [1,6] (fun sn so wr=>∃(k m:Nat) (V:Value) (acc:List (List Int)) (rest:List Int),k+m=n∧sn=.int .u64 m∧V=so∧Hid (wr.ownsRow w.heap.size 9 1 V k (acc.map encW)) ∧
   Hid (RR wr b g rest)∧Hid (Oct.IsB rest∧rest.length≤100000000)∧Hid (readSs n bs=(readSs (n-k) rest).map (fun p=>(acc++p.1,p.2)))∧Hid (Turn w wr (At b)))
  (fun sn _ _=>(intOf sn).toNat)
 case atStart=>exact⟨0,n,_,[],bs,by omega,rfl,rfl,hid (World.ownsRow_nil _ _ _ _),HR0,HB0,HE0,hid (Turn.refl _ _)⟩
 case round=>
  obtain⟨k,m,V,acc,rest,hk,rfl,rfl,HO,HR,HB,HE,HT⟩:=hrel;have HS:Hid (w.heap.size≤wr.heap.size):=hid HT.out.size;by_cases hlt:0<m
  ·have hstep:=QfD n k bs acc rest (by omega) HE.out;have HRd:=hid (Qhv b g rest wr HR.out (Nat.lt_of_lt_of_le HGL.out HS.out) HB.out.1 HB.out.2);have hlt':(0:Int)<(m:Int):=by omega
   cases hrd:readS rest with
   |none=>
    rw[hrd]at HRd;have HX:=hid (hstep.1 hrd);clear hstep hrd;go_wp2_with fail
    refine HRd.out.mono ?_;rintro e w1 ⟨ht1,r,hr1,hb1,hl1,S,rfl⟩;have HF:Hid (RRowsX b g w (readSs n bs) (.returned (.tuple #[.slice none 0 0,.bool false])) w1):=hid (by
     rw[HX.out];exact⟨Qe HT.out ht1 (fun i e=>.inl e),r,hr1,hb1,hl1,rfl⟩)
    clear ht1 hr1 hb1 hl1;dsimp only;go_wp2
    try rw[Exit.noGoto_ret]
    go_ret2
    exact HF.out
   |some p=>
    obtain⟨x,r2⟩:=p;rw[hrd]at HRd;have HX:=hid (hstep.2 x r2 hrd);clear hstep hrd;have hw1:IntKind.u64.wrap ((m:Int)-1)=((m-1:Nat):Int):=by rw[IntKind.wrap_u64];omega
    go_wp2_with fail
    refine HRd.out.mono ?_;rintro e w1 ⟨ht1,r,hr1,hb1,hl1,rfl,rfl⟩;have HT1:=hid (Qe HT.out ht1 (fun i e=>.inl e));have HO1:=hid (Qbm HO.out ht1 HBL.out);have HS1:Hid (w.heap.size≤w1.heap.size):=hid HT1.out.size;have HR1:=hid hr1;have HB1:=hid (And.intro hb1 hl1);clear ht1 hr1 hb1 hl1;dsimp only;go_wp2_with (first
     |(at_builtin;refine wpList_append_own _ rfl (.tmp 20) (.tmp 22) 132 rfl w.heap.size 9 i0 (.string ⟨#[]⟩) 1 16 Tryz.underlying132 hi hz0 hz1 hz2 rfl (by decide) V k _ rfl (HO1.out.alloc _) ⟨w1.heap.size,0,none⟩ 1 1 [.string (strOfNums x)] rfl rfl (by intro y u hy;match y,hy with|0,hy=>simp at hy;subst hy;exact Pk.Qm w1 _ _) (by intro u hu;simp at hu;subst hu;rfl) (by unfold maxLen;omega) (by omega) (by have:=HS1.out;simp;omega) ?_;intro V3 w3 hown3 hgrow3 hnil3)
     |fail)
    go_roundw
    case rel=>
     have hT3:=Turn.alloc w1 (.cells #[.string (strOfNums x)] 9) (At b);have hR3:RR (w1.alloc (.cells #[.string (strOfNums x)] 9)) b g r:=HR1.out.turn (Turn.alloc w1 _ nowhere) id id;refine⟨k+1,m-1,_,acc++[x],r,by omega,?_,rfl,hid ?_,hid (hR3.own hgrow3 (fun j e=>(HO1.out.lt j e).1) HBL.out HGL.out),HB1,HX,hid (Qcs (Qe HT1.out hT3 (fun i e=>.inl e)) hgrow3 (fun j e=>(HO1.out.lt j e).1))⟩
     ·go_num
     ·rw[List.map_append];exact hown3
    case measure=>simp[intOf];omega
  ·obtain rfl:m=0:=by omega
   obtain rfl:k=n:=by omega
   have hd:=HE.out;rw[Nat.sub_self]at hd;have hd2:readSs k bs=some (acc,rest):=by rw[hd];simp[readSs]
   have hal:acc.length=k:=by have:=HO.out.1;rw[List.length_map]at this;omega
   obtain⟨a',c',rfl,hs⟩:=QfW HO.out;have HF:Hid (RRowsX b g w (readSs k bs) (.returned (.tuple #[.slice a' k c',.bool true])) wr):=hid (by
    rw[hd2];refine⟨HT.out,rest,HR.out,HB.out.1,HB.out.2,rfl,_,c',by rw[hal],by rw[hal];exact hs,fun ad e=>?_⟩;subst e;rcases HO.out.2 with h|⟨g',cap,cur,e1,hb',_⟩
    ·simp at h
    ·cases e1;exact hb')
   clear hd hd2 hal hs;go_wp2
   try rw[Exit.noGoto_ret]
   go_ret2
   exact HF.out
end Tx
namespace Tx
open Go.RowKit Go.Joins
open Ss (IsS encW Q4)
open Oct (readV ofB)
open In (At RR RRead RVarX rvar_any QgA Qw Qe Qcs Qd Qbm Qn QB Qf)
open Pk (Turn.then getR IsU)
open Dv (Turn nowhere)
theorem Qov{w:World}{base e s n c:Nat}{a:Option Addr}{xs:List Value}(h:w.ownsRow base e s (.slice a n c) n xs):∀ad,a=some ad→base≤ad.block:=by
 intro ad had;subst had;rcases h.2 with ⟨q,_⟩|⟨g,cap,cur,q,hb,_⟩
 ·simp at q
 ·cases q;exact hb
def RWordsX(b:Nat)(w:World)(o:Option (List (List Int)))(e:Ending)(w':World):Prop:=
 Turn w w' (At b)∧match o with
  |some l=>∃a c,e=.returned (.tuple #[.slice a l.length c,.bool true])∧Ss.Seg w' a l.length c l∧∀ad,a=some ad→w.heap.size≤ad.block
  |none=>e=.returned (.tuple #[.slice none 0 0,.bool false])
theorem Qj1(b g n:Nat)(bs:List Int)(w:World)(h:RR w b g bs)(hg:g<w.heap.size)(hb:Oct.IsB bs)(hl:bs.length≤100000000)(hn:n≤4096) :
  Calls Tryz.prog 133 #[.pointer (some ⟨b,0,none⟩),.int .i64 n] w (RWordsX b w (rwordsT n bs)):=by
 obtain⟨i0,hi,hz0,hz1,hz2⟩:=info_parts Q4;have HVar:=hid (rvar_any b g bs w h hb);unfold RVarX at HVar;obtain⟨v,er,nn,hv⟩:∃v er nn,readV 0 0 bs=(v,er,nn):=⟨_,_,_,rfl⟩;have hvb:er=0→0≤v:=fun h0=>by subst h0;exact(In.QQ bs hb v nn hv).1
 obtain⟨r1,hr1e⟩:∃r,bs.drop nn=r:=⟨_,rfl⟩;have HB1:Hid (Oct.IsB r1∧r1.length≤100000000):=hid ⟨hr1e▸Qn hb nn,by rw[←hr1e,List.length_drop];omega⟩;have HRW:Hid (rwordsT n bs=if er≠0∨(n:Int)<v then none else match readSs v.toNat r1 with
  |none=>none
  |some (_,[])=>none
  |some (ws,w :: r)=>if (getR r n w).1≠0 then none else dictL ws (getR r n w).2):=hid (by unfold rwordsT;rw[hv,hr1e];rfl)
 rw[hv]at HVar;dsimp only at HVar;rw[hr1e]at HVar;have HGL:=hid hg;have HBL:=hid h.lt;have hwn:=wrap_u64 (n:=n) (by omega);obtain⟨X,hX⟩:∃X,rwordsT n bs=X:=⟨_,rfl⟩;rw[hX]at HRW ⊢;clear hr1e hv h hb hl hg hX;go_enter Tryz.func133,Tryz.ntmps133
 go_wp2_with fail
 refine HVar.out.mono ?_;rintro e w1 ⟨rfl,ht1,hr1⟩;have HT1:=hid ht1;have HR1:=hid hr1;clear ht1 hr1 HVar;dsimp only;by_cases hbad:er≠0∨(n:Int)<v
 ·have HF:Hid (RWordsX b w X (.returned (.tuple #[.slice none 0 0,.bool false])) w1):=hid (by
   rw[HRW.out,if_pos hbad];exact⟨HT1.out,rfl⟩)
  by_cases he:er=0
  ·subst he;have hv2:(n:Int)<v:=by simpa using hbad
   have hv0:=hvb rfl;clear hbad hvb;go_wp2;go_ret2
   exact HF.out
  ·clear hbad hvb;go_wp2;go_ret2
   exact HF.out
 ·have HX2:=hid (HRW.out.trans (if_neg hbad));have he:er=0:=Classical.byContradiction fun h=>hbad (.inl h)
  have hv2:¬(n:Int)<v:=fun h=>hbad (.inr h)
  subst he;obtain⟨k,rfl⟩:=Int.eq_ofNat_of_zero_le (hvb rfl);rw[Int.toNat_natCast]at HX2;have HRows:=hid (Qhw b g k r1 w1 HR1.out (Nat.lt_of_lt_of_le HGL.out HT1.out.size) HB1.out.1 HB1.out.2 (by omega));clear hbad hvb HRW HR1;cases hro:readSs k r1 with
  |none=>
   rw[hro]at HX2 HRows;have HX:Hid (X=none):=HX2;clear HX2 hro;go_wp2_with fail
   refine HRows.out.mono ?_;rintro e w2 ⟨ht2,r2,hr2,hb2,hl2,rfl⟩;have HT2:=hid (Qe HT1.out ht2 (fun i e=>.inl e));have HN:Hid (∃x E r,Calls Tryz.prog 127 #[.pointer (some ⟨b,0,none⟩),.int .i64 1] w2 (RRead b g w2 x E r)):=hid (by
    have:=Qw b g r2 w2 hr2 hb2;cases r2 with
    |nil=>exact⟨_,_,_,this⟩
    |cons x r=>exact⟨_,_,_,this⟩)
   obtain⟨x,E,r3,hN⟩:=HN.out;have HN2:=hid hN;clear ht2 hr2 hb2 hl2 HN hN;dsimp only;go_wp2_with fail
   refine HN2.out.mono ?_;rintro e w3 ⟨rfl,ht3,hr3⟩;have HF:Hid (RWordsX b w X (.returned (.tuple #[.slice none 0 0,.bool false])) w3):=hid (by
    rw[HX.out];exact⟨Qe HT2.out ht3 (fun i e=>.inl e),rfl⟩)
   clear ht3 hr3;dsimp only;go_wp2;go_ret2
   exact HF.out
  |some p=>
   obtain⟨ws,r2⟩:=p;have hrs:=QaD k r1 HB1.out.1 ws r2 hro;have HWS:Hid (IsS ws):=hid fun s hs=>⟨hrs.2.2.1 s hs,Nat.le_trans (hrs.2.1 s hs) (by omega)⟩
   have HWl:Hid (ws.length=k):=hid hrs.1;rw[hro]at HX2 HRows;clear hro hrs;cases r2 with
   |nil=>
    have HX:Hid (X=none):=HX2;unfold RRowsX at HRows;dsimp only at HRows;rw[HWl.out]at HRows;clear HX2;go_wp2_with fail
    refine HRows.out.mono ?_;rintro e w2 ⟨ht2,r2,hr2,hb2,hl2,rfl,aw,cw,rfl,hsw,hnew⟩;have HT2:=hid (Qe HT1.out ht2 (fun i e=>.inl e));have HN2:=hid (Qw b g [] w2 hr2 hb2);clear ht2 hr2 hb2 hl2 hsw hnew;dsimp only;go_wp2_with fail
    refine HN2.out.mono ?_;rintro e w3 ⟨rfl,ht3,hr3⟩;have HF:Hid (RWordsX b w X (.returned (.tuple #[.slice none 0 0,.bool false])) w3):=hid (by
     rw[HX.out];exact⟨Qe HT2.out ht3 (fun i e=>.inl e),rfl⟩)
    clear ht3 hr3;dsimp only;go_wp2;go_ret2
    exact HF.out
   |cons x r3=>
    have HX3:Hid (X=if (getR r3 n x).1≠0 then none else dictL ws (getR r3 n x).2):=HX2;unfold RRowsX at HRows;dsimp only at HRows;rw[HWl.out]at HRows;clear HX2;go_wp2_with fail
    refine HRows.out.mono ?_;rintro e w2 ⟨ht2,r2,hr2,hb2,hl2,rfl,aw,cw,rfl,hsw,hnew⟩;have HT2:=hid (Qe HT1.out ht2 (fun i e=>.inl e));have HSW:=hid hsw;have HNew:Hid (∀ad,aw=some ad→¬At b ad.block):=hid fun ad e=>by have:=hnew ad e;have:=HT1.out.size;have:=HBL.out;unfold At;omega
    have HN2:=hid (Qw b g (x :: r3) w2 hr2 hb2);have hxb:=hb2 x (by simp);have hb3:Oct.IsB r3:=fun y hy=>hb2 y (by simp[hy])
    have HB3:=hid hb3;clear ht2 hr2 hb2 hl2 hsw hnew hb3;dsimp only;go_wp2_with fail
    refine HN2.out.mono ?_;rintro e w3 ⟨rfl,ht3,hr3⟩;have HT3:=hid (Qe HT2.out ht3 (fun i e=>.inl e));have HSW3:=hid (Qh2 HSW.out ht3 HNew.out);obtain⟨o3,c3,hcell,hseg3⟩:=QgA hr3;have HGet:=hid (Pk.Qew _ _ _ _ (n:Int) x w3 hseg3 (Pk.Q0 HB3.out));unfold Pk.GetX at HGet;clear ht3 hr3 hseg3 HN2 HSW;dsimp only;go_wp2_with fail
    refine HGet.out.mono ?_;rintro e w4 ⟨ai,ci,rfl,hsi,hgi⟩;have HT4:Hid (Turn w w4 (At b)):=hid (Qcs HT3.out hgi (fun i e=>by cases e));have HSW4:=hid (HSW3.out.grown hgi);have HSI:=hid hsi;have HPG:=hid (fun h=>Pk.Qau r3 (n:Int) x (Pk.Q0 HB3.out) h);clear hgi hsi HSW3 HGet;obtain⟨E,ix,hR⟩:∃E ix,getR r3 (n:Int) x=(E,ix):=⟨_,_,rfl⟩;rw[hR]at HX3 HPG HSI ⊢;dsimp only at HX3 HPG HSI ⊢;clear hR;by_cases hE:E=0
    ·subst hE;have HX4:Hid (X=dictL ws ix):=hid (HX3.out.trans (if_neg (fun h=>h rfl)));have hpg:=HPG.out rfl;have HIx:Hid (ix.length=n∧IsU ix):=hid ⟨by have:=hpg.2.1;omega,hpg.2.2.2⟩;clear hpg HX3 HPG;rw[HIx.out.1]at HSI ⊢;have hcapw:=HSW4.out.cap;have hcapi:=HSI.out.cap;have hlew:=HSW4.out.le;have hlei:=HSI.out.le;unfold maxLen at hcapw hcapi;have hwk:=wrap_u64 (n:=k) (by omega);go_wp2
     go_loopw [14,15] (fun so si wr=>∃(t:Nat) (V:Value),t≤n∧si=.int .i64 t∧V=so∧Hid (wr.ownsRow w4.heap.size 9 1 V t ((getsL ws (ix.take t)).map encW)) ∧
       Hid (∀i∈ix.take t,i<(ws.length:Int))∧Hid (Below w4.heap.size w4 wr))
      (fun _ si _=>n-(intOf si).toNat)
     case atStart=>exact⟨0,_,Nat.zero_le _,rfl,rfl,hid (World.ownsRow_nil _ _ _ _),hid (fun i hi=>by simp at hi),hid (Below.refl _ _)⟩
     case round=>
      obtain⟨t,V,ht,rfl,rfl,HO,HLt,HB⟩:=hrel;by_cases hlt:t<n
      ·have husg:=HSI.out.grown (Bs.grown_of HB.out);obtain⟨gI,oI,rfl,hci⟩:=husg.addr (by omega);have g1:=hci t hlt;have hu:=HIx.out.2 (ix.getD t 0) (by rw[List.getD_eq_getElem?_getD,List.getElem?_eq_getElem (by rw[HIx.out.1];exact hlt)];exact List.getElem_mem _);obtain⟨j,hj⟩:=Int.eq_ofNat_of_zero_le hu.1;rw[hj]at g1;by_cases hjm:j<k
       ·have hssg:=HSW4.out.grown (Bs.grown_of HB.out);obtain⟨gW,oW,rfl,hcw⟩:=hssg.addr (by omega);have g2:=hcw j hjm;obtain⟨y,hy⟩:∃y,ws.getD j []=y:=⟨_,rfl⟩;rw[hy]at g2;have HP:=hid (Qhz ws ix t j y (by rw[HIx.out.1];exact hlt) hj hy);have HLt2:=hid (Qko (by rw[HIx.out.1];exact hlt) hj (by rw[HWl.out];exact hjm) HLt.out);have hjm':¬(k:Int)≤(j:Int):=by omega
        have hjm2:(j:Int)<(k:Int):=by omega
        have HS:Hid (w4.heap.size≤wr.heap.size):=hid HB.out.size;clear hci hcw hj hy hu husg hssg;go_wp2_with (first
         |(at_builtin;refine wpList_append_own _ rfl (.tmp 72) (.tmp 80) 132 rfl w4.heap.size 9 i0 (.string ⟨#[]⟩) 1 16 Tryz.underlying132 hi hz0 hz1 hz2 rfl (by decide) V t _ rfl (HO.out.alloc _) ⟨wr.heap.size,0,none⟩ 1 1 [.string (strOfNums y)] rfl rfl (by intro z u hz;match z,hz with|0,hz=>simp at hz;subst hz;exact Pk.Qm wr _ _) (by intro u hu;simp at hu;subst hu;rfl) (by unfold maxLen;omega) (by omega) (by have:=HS.out;simp;omega) ?_;intro V5 w5 hown5 hgrow5 hnil5)
         |fail)
        go_roundw
        case rel=>
         refine⟨t+1,_,by omega,by go_num,rfl,hid ?_,HLt2,hid ((HB.out.alloc HB.out.size _).grown hgrow5 (by have:=HS.out;simp;omega) (fun z e=>(HO.out.lt z e).1))⟩;rw[HP.out,List.map_append];exact hown5
        case measure=>simp[intOf];omega
       ·have HF:Hid (RWordsX b w X (.returned (.tuple #[.slice none 0 0,.bool false])) wr):=hid (by
         rw[HX4.out,QiN (k:=t) (by rw[HIx.out.1];exact hlt) (by rw[HWl.out,hj];omega)];exact⟨Qe HT4.out (Qd (S:=nowhere) HB.out) (fun i e=>e.elim),rfl⟩)
        have hjm':(k:Int)≤(j:Int):=by omega
        clear hci hj hu husg hjm;go_wp2;go_ret2
        exact HF.out
      ·obtain rfl:t=n:=by omega
       have hik:ix.take t=ix:=List.take_of_length_le (Nat.le_of_eq HIx.out.1);have hO:=HO.out;have hLt:=HLt.out;rw[hik]at hO hLt;have hdl:=QhQ hLt;have hll:(getsL ws ix).length=t:=by unfold getsL;rw[List.length_map];exact HIx.out.1
       obtain⟨a5,c5,rfl,hs5⟩:=QfW hO;have HF:Hid (RWordsX b w X (.returned (.tuple #[.slice a5 t c5,.bool true])) wr):=hid (by
        rw[HX4.out,hdl];exact⟨Qe HT4.out (Qd (S:=nowhere) HB.out) (fun i e=>e.elim),a5,c5,by rw[hll],by rw[hll];exact hs5,fun ad e=>Nat.le_trans HT4.out.size (Qov hO ad e)⟩)
       clear hik hO hLt hdl hll hs5;go_wp2;go_ret2
       exact HF.out
    ·have HF:Hid (RWordsX b w X (.returned (.tuple #[.slice none 0 0,.bool false])) w4):=hid (by
      rw[HX3.out,if_pos hE];exact⟨HT4.out,rfl⟩)
     clear HX3 HPG;go_wp2;go_ret2
     exact HF.out
end Tx
namespace Tx
open Go.RowKit Go.Joins
open Ss (IsS encW Q4)
open Oct (readV ofB varB)
open In (At RR RRead RVarX rvar_any QV Qw Qh below_grown Qf Qn QG)
open Pk (Turn.then)
open Dv (Turn nowhere)
theorem QgN{l:List (List Int)}(h:OkT l)(hb:AllB l):Oct.IsB (plainT l):=by
 intro x hx;unfold plainT at hx;rcases List.mem_cons.1 hx with e|hx
 ·subst e;decide
 ·exact In.QaR (In.QaY l.length (by have:=h.1;omega)) (QhD hb fun s hs=>by have:=h.2 s hs;omega) x hx
theorem QhB{l:List (List Int)}(h:OkT l)(hb:AllB l):Oct.IsB (dictT l):=by
 have hw:=QaT l;intro x hx;unfold dictT at hx;rcases List.mem_cons.1 hx with e|hx
 ·subst e;decide
 ·exact In.QaR (In.QaY (wordsF l).length (by have:=h.1;omega) |> fun _=>In.QaY l.length (by have:=h.1;omega)) (In.QaR (In.QaR (In.QaY (wordsF l).length (by have:=h.1;omega)) (QhD (QeA hb) fun s hs=>by have:=h.2 s ((QZ s l).1 hs);omega)) (QnI _ (QeO (by have:=h.1;omega)))) x hx
def GetN(w:World)(r:Int×List (List Int))(e:Ending)(w':World):Prop:=
 ∃a c,e=.returned (.tuple #[.slice a r.2.length c,.int .i64 r.1])∧Ss.Seg w' a r.2.length c r.2∧Below w.heap.size w w'∧∀ad,a=some ad→w.heap.size≤ad.block
theorem QbA{w w':World}(h:Below w.heap.size w w'):GetN w (resT none) (.returned (.tuple #[.slice none 0 0,.int .i64 4])) w':=⟨none,0,rfl,Ss.Seg.nil w',h,fun ad e=>by cases e⟩
theorem Qm7(a:Option Addr)(n c:Nat)(w:World)(hs:Bs.Seg w a n c []) :
  Calls Tryz.prog 75 #[.slice a n c] w (GetN w (resT (rgetT []))):=by
 have hlen:=hs.len;have HNew:=hid (QV a n c [] w hs (by simp at hlen;omega));clear hs hlen;go_enter Tryz.func75,Tryz.ntmps75
 go_wp2_with fail
 refine HNew.out.mono ?_;rintro e w1 ⟨b,g,rfl,hb0,hrr,hgr,hg1⟩;have HB1:Hid (Below w.heap.size w w1):=hid (below_grown hgr (Nat.le_refl _));have HB0:=hid hb0;have HN:=hid (Qw b g [] w1 hrr (fun x hx=>by cases hx));clear hb0 hrr hgr hg1;dsimp only;go_wp2_with fail
 refine HN.out.mono ?_;rintro e w2 ⟨rfl,ht2,hr2⟩;have HB2:Hid (Below w.heap.size w w2):=hid (Qh HB1.out ht2 HB0.out);have HV:=hid (rvar_any b g [] w2 hr2 (fun x hx=>by cases hx));unfold RVarX at HV;obtain⟨v,er,nn,hv⟩:∃v er nn,readV 0 0 []=(v,er,nn):=⟨_,_,_,rfl⟩;rw[hv]at HV;dsimp only at HV;clear hv ht2 hr2 HN;dsimp only;go_wp2_with fail
 refine HV.out.mono ?_;rintro e w3 ⟨rfl,ht3,hr3⟩;have HF:Hid (GetN w (resT (rgetT [])) (.returned (.tuple #[.slice none 0 0,.int .i64 4])) w3):=hid (QbA (Qh HB2.out ht3 HB0.out));clear ht3 hr3;dsimp only;go_wp2;go_ret2
 exact HF.out
theorem Qg5(a:Option Addr)(n c:Nat)(k:Int)(t:List Int)(w:World)(hs:Bs.Seg w a n c (k :: t))(hb:Oct.IsB (k :: t))(hn:n≤100000000) :
  Calls Tryz.prog 75 #[.slice a n c] w (GetN w (resT (rgetT (k :: t)))):=by
 have HNew:=hid (QV a n c (k :: t) w hs (by omega));have hlen:=hs.len;rw[List.length_cons]at hlen;have hnp:0<n:=by omega
 have HBt:Hid (Oct.IsB t):=hid fun x hx=>hb x (by simp[hx])
 have HTl:Hid (t.length≤100000000):=hid (by omega);have HB:=hid hb;have HSeg:=hid hs;obtain⟨v,er,nn,hv⟩:∃v er nn,readV 0 0 t=(v,er,nn):=⟨_,_,_,rfl⟩;have hvb:er=0→0≤v:=fun h0=>by subst h0;exact(In.QQ t HBt.out v nn hv).1
 obtain⟨r,hre⟩:∃r,t.drop nn=r:=⟨_,rfl⟩;have HR1:Hid (Oct.IsB r∧r.length≤100000000):=hid ⟨hre▸Qn HBt.out nn,by rw[←hre,List.length_drop];have:=HTl.out;omega⟩;have HX:Hid (rgetT (k :: t)=match (if er≠0∨4096<v then none else some (v.toNat,r)) with
  |none=>none
  |some (n,r)=>if k=1 then sameT (k :: t) plainT (fstT (readSs n r)) else if k=2 then sameT (k :: t) dictT (rwordsT n r) else none):=hid (by rw[QcS];unfold readC;rw[hv,hre];rfl)
 have HVar:=hid (fun W b g (h:RR W b g t)=>rvar_any b g t W h HBt.out);unfold RVarX at HVar;rw[hv]at HVar;dsimp only at HVar;rw[hre]at HVar;obtain⟨X,hXe⟩:∃X,rgetT (k :: t)=X:=⟨_,rfl⟩;rw[hXe]at HX ⊢;clear hs hb hlen hv hre hXe;go_enter Tryz.func75,Tryz.ntmps75
 go_wp2_with fail
 refine HNew.out.mono ?_;rintro e w1 ⟨b,g,rfl,hb0,hrr,hgr,hg1⟩;have HB1:Hid (Below w.heap.size w w1):=hid (below_grown hgr (Nat.le_refl _));have HB0:=hid hb0;have HG1:=hid hg1;have HN:=hid (Qw b g (k :: t) w1 hrr HB.out);clear hb0 hrr hgr hg1;dsimp only;go_wp2_with fail
 refine HN.out.mono ?_;rintro e w2 ⟨rfl,ht2,hr2⟩;have HB2:Hid (Below w.heap.size w w2):=hid (Qh HB1.out ht2 HB0.out);have HG2:Hid (g<w2.heap.size):=hid (Nat.lt_of_lt_of_le HG1.out ht2.size);have HV:=hid (HVar.out w2 b g hr2);clear ht2 hr2 HN HVar HNew;dsimp only;go_wp2_with fail
 refine HV.out.mono ?_;rintro e w3 ⟨rfl,ht3,hr3⟩;have HB3:Hid (Below w.heap.size w w3):=hid (Qh HB2.out ht3 HB0.out);have HG3:Hid (g<w3.heap.size):=hid (Nat.lt_of_lt_of_le HG2.out ht3.size);have HR3:=hid hr3;clear ht3 hr3 HV;dsimp only;by_cases hbad:er≠0∨4096<v
 ·have HF:Hid (GetN w (resT X) (.returned (.tuple #[.slice none 0 0,.int .i64 4])) w3):=hid (by
   rw[HX.out,if_pos hbad];exact QbA HB3.out)
  by_cases he:er=0
  ·subst he;have hv2:4096<v:=by simpa using hbad
   have hv0:=hvb rfl;clear hbad hvb;go_wp2;go_ret2
   exact HF.out
  ·clear hbad hvb;go_wp2;go_ret2
   exact HF.out
 ·have HX2:Hid (X=if k=1 then sameT (k :: t) plainT (fstT (readSs v.toNat r)) else if k=2 then sameT (k :: t) dictT (rwordsT v.toNat r) else none):=hid (by rw[HX.out,if_neg hbad]);have he:er=0:=Classical.byContradiction fun h=>hbad (.inl h)
  have hv2:¬4096<v:=fun h=>hbad (.inr h)
  subst he;obtain⟨m,rfl⟩:=Int.eq_ofNat_of_zero_le (hvb rfl);rw[Int.toNat_natCast]at HX2;have hm:m≤4096:=by omega
  have hv3:¬(4096:Int)<(m:Int):=hv2;clear hbad hvb HX hv2;by_cases hk1:k=1
  ·have HX3:Hid (X=sameT (k :: t) plainT (fstT (readSs m r))):=hid (HX2.out.trans (if_pos hk1));have HRows:=hid (Qhw b g m r w3 HR3.out HG3.out HR1.out.1 HR1.out.2 (by omega));have e1:(k==1)=true:=beq_iff_eq.2 hk1;clear HX2 hk1;cases hro:readSs m r with
   |none=>
    rw[hro]at HRows HX3;have HX4:Hid (X=none):=HX3;clear HX3 hro;go_wp2_with fail
    refine HRows.out.mono ?_;rintro e w4 ⟨ht4,r4,hr4,hb4,hl4,rfl⟩;have HB4:Hid (Below w.heap.size w w4):=hid (Qh HB3.out ht4 HB0.out);have HP:=hid (Qbf none 0 0 [] w4 (Ss.Seg.nil w4) (fun s hs=>by cases hs));unfold PutT at HP;generalize formR (plainT []) []=R at HP;clear ht4 hr4 hb4 hl4;dsimp only;go_wp2_with fail
    refine HP.out.mono ?_;rintro e w5 ⟨a5,c5,rfl,hs5,hb5⟩;have HF:Hid (GetN w (resT X) (.returned (.tuple #[.slice none 0 0,.int .i64 4])) w5):=hid (by
     rw[HX4.out];exact QbA (HB4.out.trans (Qf hb5 HB4.out.size)))
    clear hs5 hb5;dsimp only;go_wp2;go_ret2
    exact HF.out
   |some p=>
    obtain⟨l,r4⟩:=p;have hrs:=QaD m r HR1.out.1 l r4 hro;have hok:OkT l:=⟨by omega,hrs.2.1⟩;rw[hro]at HRows HX3;have HX4:Hid (X=if plainT l=k :: t then some l else none):=HX3;have HOk:=hid hok;have HAl:=hid hrs.2.2.1;have HLm:=hid hrs.1;have HP:=hid (fun W a c (h:Ss.Seg W a m c l)=>Qbf a m c l W h HAl.out);rw[Qbn ((QaJ l).2 hok)]at HP;unfold PutT at HP;dsimp only at HP;unfold RRowsX at HRows;dsimp only at HRows;rw[hrs.1]at HRows;have HPB:=hid (QgN hok HAl.out);obtain⟨P,hP⟩:∃P,plainT l=P:=⟨_,rfl⟩;have hpl:0<P.length:=by rw[←hP];unfold plainT;simp
    rw[hP]at HP HX4 HPB;obtain⟨pl,hpe⟩:∃x,P.length=x:=⟨_,rfl⟩;rw[hpe]at HP hpl;clear HX3 hro hrs hok hP hpe;go_wp2_with fail
    refine HRows.out.mono ?_;rintro e w4 ⟨ht4,r5,hr4,hb4,hl4,rfl,a4,c4,rfl,hs4,hn4⟩;have HNL:Hid (∀ad,a4=some ad→w.heap.size≤ad.block):=hid (fun ad e=>Nat.le_trans HB3.out.size (hn4 ad e));have HB4:Hid (Below w.heap.size w w4):=hid (Qh HB3.out ht4 HB0.out);have HS4:=hid hs4;have HP4:=hid (HP.out w4 a4 c4 hs4);clear ht4 hr4 hb4 hl4 hs4 hn4 HP HRows;dsimp only;go_wp2_with fail
    refine HP4.out.mono ?_;rintro e w5 ⟨a5,c5,rfl,hs5,hb5⟩;have HB5:Hid (Below w.heap.size w w5):=hid (HB4.out.trans (Qf hb5 HB4.out.size));have HS5:=hid (HS4.out.grown (Bs.grown_of hb5));have hc1:=QG hs5 hpl;have hc2:=QG (HSeg.out.grown (Bs.grown_of HB5.out)) hnp;clear hs5 hb5;dsimp only;by_cases hsame:P=k :: t
    ·have HF:Hid (GetN w (resT X) (.returned (.tuple #[.slice a4 m c4,.int .i64 0])) w5):=hid (by
      rw[HX4.out,if_pos hsame];exact⟨a4,c4,by rw[show(resT (some l)).2.length=m from HLm.out];rfl,by rw[show(resT (some l)).2.length=m from HLm.out];exact HS5.out,HB5.out,HNL.out⟩)
     rw[hsame]at hc1;clear hsame;go_wp2;go_ret2
     exact HF.out
    ·have HF:Hid (GetN w (resT X) (.returned (.tuple #[.slice none 0 0,.int .i64 4])) w5):=hid (by
      rw[HX4.out,if_neg hsame];exact QbA HB5.out)
     have hne:=Ss.QaH HPB.out HB.out hsame;clear hsame;obtain⟨S1,hS1⟩:∃S,strOfNums P=S:=⟨_,rfl⟩;obtain⟨S2,hS2⟩:∃S,strOfNums (k :: t)=S:=⟨_,rfl⟩;rw[hS1]at hc1 hne;rw[hS2]at hc2 hne;go_wp2;go_ret2
     exact HF.out
  ·by_cases hk2:k=2
   ·have HX3:Hid (X=sameT (k :: t) dictT (rwordsT m r)):=hid ((HX2.out.trans (if_neg hk1)).trans (if_pos hk2));have HRows:=hid (Qj1 b g m r w3 HR3.out HG3.out HR1.out.1 HR1.out.2 (by omega));have e1:(k==1)=false:=beq_eq_false_iff_ne.2 hk1;have e2:(k==2)=true:=beq_iff_eq.2 hk2;clear HX2 hk1 hk2;cases hro:rwordsT m r with
    |none=>
     rw[hro]at HRows HX3;have HX4:Hid (X=none):=HX3;clear HX3 hro;go_wp2_with fail
     refine HRows.out.mono ?_;rintro e w4 ⟨ht4,rfl⟩;have HB4:Hid (Below w.heap.size w w4):=hid (Qh HB3.out ht4 HB0.out);have HP:=hid (Qe0 none 0 0 [] w4 (Ss.Seg.nil w4) (fun s hs=>by cases hs));unfold PutT at HP;generalize formR (dictT []) []=R at HP;clear ht4;dsimp only;go_wp2_with fail
     refine HP.out.mono ?_;rintro e w5 ⟨a5,c5,rfl,hs5,hb5⟩;have HF:Hid (GetN w (resT X) (.returned (.tuple #[.slice none 0 0,.int .i64 4])) w5):=hid (by
      rw[HX4.out];exact QbA (HB4.out.trans (Qf hb5 HB4.out.size)))
     clear hs5 hb5;dsimp only;go_wp2;go_ret2
     exact HF.out
    |some l=>
     have hrs:=Qho hm HR1.out.1 hro;have hok:OkT l:=hrs.2.1;rw[hro]at HRows HX3;have HX4:Hid (X=if dictT l=k :: t then some l else none):=HX3;have HOk:=hid hok;have HAl:=hid hrs.2.2;have HLm:=hid hrs.1;have HP:=hid (fun W a c (h:Ss.Seg W a m c l)=>Qe0 a m c l W h HAl.out);rw[Qbn ((QaJ l).2 hok)]at HP;unfold PutT at HP;dsimp only at HP;unfold RWordsX at HRows;dsimp only at HRows;rw[hrs.1]at HRows;have HPB:=hid (QhB hok HAl.out);obtain⟨P,hP⟩:∃P,dictT l=P:=⟨_,rfl⟩;have hpl:0<P.length:=by rw[←hP];unfold dictT;simp
     rw[hP]at HP HX4 HPB;obtain⟨pl,hpe⟩:∃x,P.length=x:=⟨_,rfl⟩;rw[hpe]at HP hpl;clear HX3 hro hrs hok hP hpe;go_wp2_with fail
     refine HRows.out.mono ?_;rintro e w4 ⟨ht4,a4,c4,rfl,hs4,hn4⟩;have HNL:Hid (∀ad,a4=some ad→w.heap.size≤ad.block):=hid (fun ad e=>Nat.le_trans HB3.out.size (hn4 ad e));have HB4:Hid (Below w.heap.size w w4):=hid (Qh HB3.out ht4 HB0.out);have HS4:=hid hs4;have HP4:=hid (HP.out w4 a4 c4 hs4);clear ht4 hs4 hn4 HP HRows;dsimp only;go_wp2_with fail
     refine HP4.out.mono ?_;rintro e w5 ⟨a5,c5,rfl,hs5,hb5⟩;have HB5:Hid (Below w.heap.size w w5):=hid (HB4.out.trans (Qf hb5 HB4.out.size));have HS5:=hid (HS4.out.grown (Bs.grown_of hb5));have hc1:=QG hs5 hpl;have hc2:=QG (HSeg.out.grown (Bs.grown_of HB5.out)) hnp;clear hs5 hb5;dsimp only;by_cases hsame:P=k :: t
     ·have HF:Hid (GetN w (resT X) (.returned (.tuple #[.slice a4 m c4,.int .i64 0])) w5):=hid (by
       rw[HX4.out,if_pos hsame];exact⟨a4,c4,by rw[show(resT (some l)).2.length=m from HLm.out];rfl,by rw[show(resT (some l)).2.length=m from HLm.out];exact HS5.out,HB5.out,HNL.out⟩)
      rw[hsame]at hc1;clear hsame;go_wp2;go_ret2
      exact HF.out
     ·have HF:Hid (GetN w (resT X) (.returned (.tuple #[.slice none 0 0,.int .i64 4])) w5):=hid (by
       rw[HX4.out,if_neg hsame];exact QbA HB5.out)
      have hne:=Ss.QaH HPB.out HB.out hsame;clear hsame;obtain⟨S1,hS1⟩:∃S,strOfNums P=S:=⟨_,rfl⟩;obtain⟨S2,hS2⟩:∃S,strOfNums (k :: t)=S:=⟨_,rfl⟩;rw[hS1]at hc1 hne;rw[hS2]at hc2 hne;go_wp2;go_ret2
      exact HF.out
   ·have HF:Hid (GetN w (resT X) (.returned (.tuple #[.slice none 0 0,.int .i64 4])) w3):=hid (by
     rw[HX2.out,if_neg hk1,if_neg hk2];exact QbA HB3.out)
    have e1:(k==1)=false:=beq_eq_false_iff_ne.2 hk1;have e2:(k==2)=false:=beq_eq_false_iff_ne.2 hk2;clear HX2 hk1 hk2;go_wp2;go_ret2
    exact HF.out
theorem Qmx(a:Option Addr)(n c:Nat)(l:List Int)(w:World)(hs:Bs.Seg w a n c l)(hb:Oct.IsB l)(hn:n≤100000000) :
  Calls Tryz.prog 75 #[.slice a n c] w (GetN w (resT (getT l))):=by
 rw[←QdW hb];cases l with
 |nil=>exact Qm7 a n c w hs
 |cons k t=>exact Qg5 a n c k t w hs hb hn
end Tx
end Go.Proofs.YtljanfnhmhimiaaGreat
