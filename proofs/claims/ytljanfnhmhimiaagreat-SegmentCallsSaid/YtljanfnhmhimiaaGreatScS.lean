/- Parts of the proof. -/
import Derived.Test.YtljanfnhmhimiaaGreatScN
import Derived.Test.YtljanfnhmhimiaaGreatScO
set_option maxRecDepth 100000
set_option maxHeartbeats 8000000
open Go.Lib (hid)
namespace Go.Proofs.YtljanfnhmhimiaaGreat
namespace Tx
open Go.RowKit Go.Joins
open Ss (IsS)
open Bs (Qj)
open Oct (varB)
open Ref1 (GrowB)
open In (below_grown Qf QY oseg)
open Pk (PutF)
open Dv (Turn nowhere)
def PutT(w:World)(r:Int×List Int)(e:Ending)(w':World):Prop:=
 ∃a k,e=.returned (.tuple #[.slice a r.2.length k,.int .i64 r.1])∧Bs.Seg w' a r.2.length k r.2∧Below w.heap.size w w'
theorem QmM{w w':World}{r:Int×List Int}{e:Ending}{E:Int}{B:List Int}{m:Nat}(h:PutT w r e w')(hr:r=(E,B))(hm:B.length=m):PutF w m E B e w':=by
 subst hr;obtain⟨a,k,he,hs,hb⟩:=h;subst hm;exact⟨a,k,he,hs,In.Qd hb⟩
theorem QhF(a:Option Addr)(n c:Nat)(l:List (List Int))(w:World)(hs:Ss.Seg w a n c l) :
  Calls Tryz.prog 168 #[.slice a n c] w fun e w'=>e=.returned (.bool (okB l))∧Below w.heap.size w w':=
 (QkW a n c l w hs).mono fun e w' ⟨he,m,hw⟩=>⟨he,by subst hw;exact Bs.below_drewN m (Below.refl _ w)⟩
theorem QdR{b:List Int}{l:List (List Int)}(h:okB l=false):formR b l=(3,[]):=by unfold formR;rw[h];rfl
theorem Qbn{b:List Int}{l:List (List Int)}(h:okB l=true):formR b l=(0,b):=by unfold formR;rw[h];rfl
theorem Qd0{w w':World}(h:Below w.heap.size w w'):PutT w (3,[]) (.returned (.tuple #[.slice none 0 0,.int .i64 3])) w':=⟨none,0,rfl,Bs.Seg.nil w',h⟩
theorem Qmp(a:Option Addr)(n c:Nat)(l:List (List Int))(w:World)(hs:Ss.Seg w a n c l)(hb:AllB l) :
  Calls Tryz.prog 144 #[.slice a n c] w (PutT w (formR (plainT l) l)):=by
 have HC:=hid (QhF a n c l w hs);cases hok:okB l with
 |false=>
  rw[hok]at HC;rw[QdR hok];clear hs hb hok;go_enter Tryz.func144,Tryz.ntmps144
  go_wp2_with fail
  refine HC.out.mono ?_;rintro e w1 ⟨rfl,hb1⟩;have HF:=hid (Qd0 hb1);clear hb1;dsimp only;go_wp2;go_ret2
  exact HF.out
 |true=>
  have hO:=(QaJ l).1 hok;rw[hok]at HC;rw[Qbn hok];have HOk:=hid hO;have hn:n≤4096:=by rw[←hs.len];exact hO.1
  have HLen:=hid hs.len;have HSeg:=hid hs;have HBB:=hid hb;have hwu:=wrap_u64 (n:=n) (by omega);clear hs hb hok hO;go_enter Tryz.func144,Tryz.ntmps144
  go_wp2_with fail
  refine HC.out.mono ?_;rintro e w1 ⟨rfl,hb1⟩;have HPut:=hid (Oct.Qar _ 1 1 [1] (n:Int) (w1.alloc (.cells #[.int .u8 1] 5)) (oseg (Bs.QbV w1 [1] (by decide))) (by omega) (by omega) (by decide));have HB1:Hid (Below w.heap.size w (w1.alloc (.cells #[.int .u8 1] 5))):=hid (hb1.alloc hb1.size _);clear hb1;dsimp only;go_wp2_with fail
  refine HPut.out.mono ?_;rintro e w2 hnew;obtain⟨g,p,rfl,hf⟩:=hnew.value;obtain⟨hp,hown1,hg⟩:=hf.is;have hvl:=Oct.QE 9 (n:Int);have hp1:p≤11:=by rw[hp];simp;omega
  have hp0:0<p:=by rw[hp];simp
  have HB2:=hid (HB1.out.trans (below_grown hg HB1.out.size));have HStr:=hid (QdO w.heap.size _ p ([1]++varB 9 (n:Int)) a n c l w2 (Qt HSeg.out HB2.out rfl) (fun h=>QkC HSeg.out h) HB2.out.size (Oct.Qv hown1 HB1.out.size) hp0 (by omega) HBB.out HOk.out.2 (by omega));have HE:Hid (plainT l=[1]++varB 9 (n:Int)++strsB l):=hid (by unfold plainT;rw[HLen.out];rfl);have HPl:=hid hp;clear hnew hf hown1 hg hp hvl hp1 hp0;dsimp only;go_wp2_with fail
  refine HStr.out.mono ?_;rintro e w3 ⟨g3,c3,rfl,hown3,hb3⟩;have HF:Hid (PutT w (0,plainT l) (.returned (.tuple #[.slice (some ⟨g3,0,none⟩) (p+(strsB l).length) c3,.int .i64 0])) w3):=by
   have hl:(plainT l).length=p+(strsB l).length:=by rw[HE.out,List.length_append,←HPl.out]
   refine hid ⟨some ⟨g3,0,none⟩,c3,by rw[←hl],?_,HB2.out.trans hb3⟩;rw[hl,HE.out];exact Bs.Seg.own hown3
  clear hown3 hb3;dsimp only;go_wp2;go_ret2
  exact HF.out
end Tx
namespace In
open Go.RowKit Go.Joins
open Bs (Qj)
open Oct (readV ofB)
open Dv (Turn nowhere)
def RBytesX(b g:Nat)(w:World)(x r:List Int)(n:Nat)(e:Ending)(w':World):Prop:=
 ∃g1 c1,e=.returned (.tuple #[.slice (some ⟨g1,0,none⟩) n c1,.int .i64 0])∧w'.ownsRow w.heap.size 5 1 (.slice (some ⟨g1,0,none⟩) n c1) n (x.map (Value.int .u8))∧Turn w w' (At b)∧RR w' b g r
theorem QdL(b g:Nat)(l:List Int)(n:Nat)(w:World)(h:RR w b g l)(hn:l.length<n) :
  Calls Tryz.prog 128 #[.pointer (some ⟨b,0,none⟩),.int .i64 n] w fun e w'=>e=.returned (.tuple #[.slice none 0 0,.int .i64 7])∧w=w':=by
 obtain⟨o,c,h0,hle,hc,hj⟩:=h.cells;obtain⟨m,hm⟩:∃m,l.length=m:=⟨_,rfl⟩;rw[hm]at h0 hn;have a1:¬(n:Int)<0:=by omega
 have a3:(m:Int)<(n:Int):=by omega
 clear hj hle hc h hm hn;go_enter Tryz.func128,Tryz.ntmps128
 go_wp2;go_ret2
 exact⟨rfl,rfl⟩
theorem QcN(b g:Nat)(l:List Int)(n:Nat)(w:World)(h:RR w b g l)(hn:n≤l.length)(hl:l.length≤100000000) :
  Calls Tryz.prog 128 #[.pointer (some ⟨b,0,none⟩),.int .i64 n] w (RBytesX b g w (l.take n) (l.drop n) n):=by
 obtain⟨i0,hi,hz0,hz1,hz2⟩:=info_parts Qj;obtain⟨o,c,h0,hle,hc,hj⟩:=h.cells;have H:=hid h;have hbl:=h.lt;have hseg:Bs.Seg w (some ⟨g,o,none⟩) n c (l.take n):=by
  refine⟨by rw[List.length_take];omega,by omega,hc,(fun e=>by cases e),fun ad had j u hu=>?_⟩;cases had
  have hjn:j<n:=by
   have:=(List.getElem?_eq_some_iff.1 hu).1;simp at this;omega
  rw[Addr.add_lit,hj j (by omega)];rw[List.getElem?_map,List.getElem?_take_of_lt hjn,List.getElem?_eq_getElem (by omega)]at hu;simp[List.getD,List.getElem?_eq_getElem (show j<l.length by omega)]
  simpa using hu
 have hA:=World.grownBy_alloc w (.cells #[] 5) none;have HSeg:=hid (hseg.grown hA);have hown:=World.ownsRow_made (base:=w.heap.size) (e:=5) (size:=1) w #[] 0 (Nat.le_refl _) (by unfold maxLen;omega) rfl;have HO0:Hid ((w.alloc (.cells #[] 5)).ownsRow w.heap.size 5 1 (.slice (some ⟨w.heap.size,0,none⟩) 0 0) 0 ([]:List Value)):=hid hown;have HJ:=hid hj;have HBL:=hid hbl;have HW:Hid (w.heap.size≤(w.alloc (.cells #[] 5)).heap.size):=hid (by simp);have h0a:(w.alloc (.cells #[] 5)).cell? ⟨b,0,none⟩=some (.slice (some ⟨g,o,none⟩) l.length c):=(Turn.alloc w (.cells #[] 5) nowhere).cell h0 id;obtain⟨m,hm⟩:∃m,l.length=m:=⟨_,rfl⟩;have HM:=hid hm;rw[hm]at h0 h0a hn hle hl;have a1:¬(n:Int)<0:=by omega
 have a3:¬(m:Int)<(n:Int):=by omega
 have a4:(n:Int)≤(c:Int):=by omega
 have a5:(n:Int)≤(m:Int):=by omega
 unfold maxLen at hc;have HC:=hid hc;have FIN:Hid (∀g1 c1 w1,w1.ownsRow w.heap.size 5 1 (.slice (some ⟨g1,0,none⟩) (0+n) c1) (0+n) (([]:List Value)++(l.take n).map (Value.int .u8))→(w.alloc (.cells #[] 5)).grownBy w1 (some w.heap.size) →
   w1.cell? ⟨b,0,none⟩=some (.slice (some ⟨g,o,none⟩) m c)∧w1.frozen? ⟨b,0,none⟩=false∧∀v,(v=if c=n then some ⟨g,o,none⟩ else some ⟨g,o+n,none⟩)→RBytesX b g w (l.take n) (l.drop n) n (.returned (.tuple #[.slice (some ⟨g1,0,none⟩) n c1,.int .i64 0])) (w1.setCell ⟨b,0,none⟩ (.slice v (m-n) (c-n)))):=hid (by
  intro g1 c1 w1 hown1 hgrow1;have hgr:w.grownBy w1 none:=Bs.grownBy_trans (World.grownBy_alloc w _ none) hgrow1 (fun j e=>by cases e;exact Nat.le_refl _);have hT1:Turn w w1 nowhere:=Turn.QD hgr (fun _ e=>by cases e);have h1:w1.cell? ⟨b,0,none⟩=some (.slice (some ⟨g,o,none⟩) m c):=hT1.cell h0 id;have hR1:RR w1 b g l:=H.out.turn hT1 id id;refine⟨h1,hR1.free,fun v hv=>⟨g1,c1,rfl,?_,Qe (In.Qd (Pk.QW hT1)) (Turn.setCell w1 ⟨b,0,none⟩ _ rfl) (fun i e=>.inl e.symm),?_⟩⟩
  ·have:=Qbm hown1 (Turn.setCell w1 ⟨b,0,none⟩ (.slice v (m-n) (c-n)) rfl) HBL.out
   simpa using this
  ·have:=RR.next (n:=n) hR1 (by rw[HM.out];exact h1) (by rw[HM.out];exact hle) (by unfold maxLen;exact HC.out) (fun j hj=>hT1.cell (HJ.out j hj) id) (by rw[HM.out];exact hn) v hv
   rwa [HM.out]at this)
 clear hj hbl h hseg hown hA hm HJ H;by_cases hcn:c=n
 ·subst hcn;obtain rfl:m=c:=by omega
  go_enter Tryz.func128,Tryz.ntmps128
  go_wp2_with (at_builtin;refine Bs.Qr rfl (.tmp 16) (.tmp 22) 45 rfl w.heap.size 5 i0 Tryz.underlying45 hi hz0 hz1 hz2 w.heap.size 0 0 [] rfl HO0.out (some ⟨g,o,none⟩) m m (l.take m) rfl HSeg.out (by omega) HW.out ?_;intro g1 c1 w1 hown1 hgrow1;obtain⟨h1,hf1,hx1⟩:=FIN.out g1 c1 w1 hown1 hgrow1;have HX:=hid hx1;clear hown1 hgrow1 hx1)
  have HF:=hid (HX.out (some ⟨g,o,none⟩) (by simp));rw[Nat.sub_self]at HF;go_ret2
  exact HF.out
 ·go_enter Tryz.func128,Tryz.ntmps128
  go_wp2_with (at_builtin;refine Bs.Qr rfl (.tmp 16) (.tmp 22) 45 rfl w.heap.size 5 i0 Tryz.underlying45 hi hz0 hz1 hz2 w.heap.size 0 0 [] rfl HO0.out (some ⟨g,o,none⟩) n c (l.take n) rfl HSeg.out (by omega) HW.out ?_;intro g1 c1 w1 hown1 hgrow1;obtain⟨h1,hf1,hx1⟩:=FIN.out g1 c1 w1 hown1 hgrow1;have HX:=hid hx1;clear hown1 hgrow1 hx1)
  have HF:=hid (HX.out (some ⟨g,o+n,none⟩) (by rw[if_neg hcn]));go_ret2
  exact HF.out
theorem QgA{w:World}{b g:Nat}{l:List Int}(h:RR w b g l):∃o c,w.cell? ⟨b,0,none⟩=some (.slice (some ⟨g,o,none⟩) l.length c)∧Bs.Seg w (some ⟨g,o,none⟩) l.length c l:=by
 obtain⟨o,c,h0,hle,hc,hj⟩:=h.cells;refine⟨o,c,h0,rfl,hle,hc,(fun e=>by cases e),fun ad had j u hu=>?_⟩;cases had
 have hjn:j<l.length:=by
  have:=(List.getElem?_eq_some_iff.1 hu).1
  simpa using this
 rw[Addr.add_lit,hj j hjn];rw[List.getElem?_map,List.getElem?_eq_getElem hjn]at hu;simp only[Option.map_some,Option.some.injEq]at hu;simp[List.getD,List.getElem?_eq_getElem hjn,hu]
theorem Qw(b g:Nat)(l:List Int)(w:World)(h:RR w b g l)(hb:Oct.IsB l) :
  Calls Tryz.prog 127 #[.pointer (some ⟨b,0,none⟩),.int .i64 1] w (match (generalizing:=false) l with
   | []=>RRead b g w 0 7 []
   |x :: r=>RRead b g w x 0 r):=by
 cases l with
 |nil=>exact QaQ b g [] 1 w h (by decide) (by decide) (by decide)
 |cons x r=>
  have:=Qai b g (x :: r) 1 w h hb (by decide) (by decide) (by simp);have e:ofB ((x :: r).take 1)=x:=by simp[ofB]
  rw[e]at this;exact this
end In
namespace In
open Go.RowKit Go.Joins
open Is (IsI)
open Bs (Qj)
open Ref1 (GrowB)
theorem Q7{w w':World}{a:Option Addr}{n c B:Nat}{l:List Int}(h:Is.Seg w a n c l)(k:Below B w w')(hB:B=w.heap.size):Is.Seg w' a n c l:=by
 subst hB;exact h.grown (Bs.grown_of k)
theorem QcL(base:Nat)(v0:Value)(n:Nat)(l:List Int)(v:Int)(w:World)(hown:w.ownsRow base 5 1 v0 n (l.map (Value.int .u8)))(hbase:base≤w.heap.size)(hn:n≤70368744177664) :
  Calls Tryz.prog 181 #[v0,.int .i64 v] w (GrowB base w (l++num8 v) (n+8)):=by
 obtain⟨i0,hi,hz0,hz1,hz2⟩:=info_parts Qj;have HP:=hid (Oct.Qb3 none 0 0 [] (u v) 8 w (Oct.Seg.nil w) (u_bd v).1 (u_bd v).2 (by decide) (by decide) (by decide));have HO:=hid hown;have HN:=hid hn;clear hown hn;go_enter Tryz.func181,Tryz.ntmps181
 go_wp2_with fail
 refine HP.out.mono ?_;rintro e w1 hnew;rw[List.nil_append]at hnew;obtain⟨g,q,rfl,hf⟩:=hnew.value;obtain⟨hq,hown1,hg⟩:=hf.is;rw[Oct.QdH]at hq;subst hq;have hs:=Oct.Seg.own hown1;have hown0:=QY HO.out hg;have hsz:=hg.size;have HB:=hid (below_grown (B:=base) hg hbase);have HB2:Hid (base≤w1.heap.size):=hid (by omega);have HS:=hid (hs.at_ _ rfl);have HL:Hid (((Oct.putB 8 (u v)).map (Value.int .u8)).length=8*1):=hid (by rw[List.length_map,Oct.QdH]);have HO0:=hid hown0;clear hnew hf hown1 hg hs hown0 hsz;go_wp2_with (at_builtin;refine wpList_append_own _ rfl (.tmp 5) (.tmp 8) 45 rfl base 5 i0 (.int .u8 0) 1 1 Tryz.underlying45 hi hz0 hz1 hz2 rfl (by decide) v0 n (l.map (Value.int .u8)) rfl HO0.out ⟨g,0,none⟩ 8 8 ((Oct.putB 8 (u v)).map (Value.int .u8)) rfl HL.out HS.out (ints_oneCell _ _) (by have:=HN.out;unfold maxLen;omega) (by have:=HN.out;omega) HB2.out ?_;intro v' w2 hown2 hgrow2 _)
 obtain⟨g',c',rfl⟩:=ownsRow_form hown2 (by omega);have HF:Hid (GrowB base w (l++num8 v) (n+8) (.returned (.slice (some ⟨g',0,none⟩) (n+8) c')) w2):=by
  refine hid ⟨g',c',rfl,?_,HB.out.grown hgrow2 HB2.out (fun i e=>(HO0.out.lt i e).1)⟩;rw[List.map_append];exact hown2
 clear hown2 hgrow2;go_wp2;go_ret
 exact HF.out
theorem QgD(l:List Int)(k:Nat)(x:Int)(h:k<l.length)(hx:l.getD k 0=x):plainB (l.take (k+1))=plainB (l.take k)++num8 x:=by
 rw[List.take_succ_eq_append_getElem h,QjL,←hx];simp[List.getD,h]
theorem Qjx(a:Option Addr)(n c:Nat)(l:List Int)(w:World)(hs:Is.Seg w a n c l)(hn:n≤65536) :
  Calls Tryz.prog 160 #[.slice a n c] w (GrowB w.heap.size w (plainB l) (8*n)):=by
 have hcap:=hs.cap;have hle:=hs.le;unfold maxLen at hcap;have HLen:=hid hs.len;have hmk:∀W:World,(Instr.makeSlice 45 (.int .i64 0) (.int .i64 (8*(n:Int)))).run Tryz.prog W=.ok (.slice (some ⟨W.heap.size,0,none⟩) 0 (8*n)) (W.alloc (.cells (Pk.room (8*n)) 5)):=fun W=>by
  have:=Pk.QhE (8*n) (by omega) W
  rwa [Int.natCast_mul]at this
 have h0:=World.ownsRow_made (base:=w.heap.size) (e:=5) (size:=1) w (Pk.room (8*n)) (8*n) (Nat.le_refl _) (by unfold maxLen;omega) (by rw[Pk.Qe5,Nat.mul_one]);have HO:=hid h0;have HG:Hid (Below w.heap.size w (w.alloc (.cells (Pk.room (8*n)) 5))):=hid ((Below.refl _ w).alloc (Nat.le_refl _) _);have HSeg:=hid hs;clear h0 hs;go_enter Tryz.func160,Tryz.ntmps160
 go_wp2
 go_loopw [3,12] (fun so si wr=>∃(k:Nat) (V:Value),k≤n∧si=.int .i64 k∧V=so∧Hid (∃g cc,V=.slice (some ⟨g,0,none⟩) (8*k) cc)∧Hid (wr.ownsRow w.heap.size 5 1 V (8*k) ((plainB (l.take k)).map (Value.int .u8)))∧Hid (Below w.heap.size w wr))
  (fun _ si _=>n-(intOf si).toNat)
 case atStart=>exact⟨0,_,Nat.zero_le _,rfl,rfl,hid ⟨_,_,rfl⟩,HO,HG⟩
 case round=>
  obtain⟨k,V,hk,rfl,rfl,HV,HO,HB⟩:=hrel;by_cases hlt:k<n
  ·have hseg:=Q7 HSeg.out HB.out rfl;obtain⟨gA,oA,rfl,hc⟩:=hseg.addr (by omega);have g1:=hc k hlt;obtain⟨x,hx⟩:∃x,l.getD k 0=x:=⟨_,rfl⟩;rw[hx]at g1;have HP:=hid (QgD l k x (by have:=HLen.out;omega) hx);have HN:=hid (QcL w.heap.size V (8*k) (plainB (l.take k)) x wr HO.out HB.out.size (by omega));clear hx hc hseg;go_wp2_with fail
   refine HN.out.mono ?_;rintro e w1 ⟨g,cc,rfl,hown,hbel⟩;have HO1:Hid (w1.ownsRow w.heap.size 5 1 (.slice (some ⟨g,0,none⟩) (8*k+8) cc) (8*(k+1)) ((plainB (l.take (k+1))).map (Value.int .u8))):=hid (by rw[HP.out];exact hown);have HB1:=hid (HB.out.trans hbel);clear hown hbel;dsimp only;go_wp2;go_roundw
   case rel=>exact⟨k+1,_,by omega,by go_num,rfl,hid ⟨_,_,rfl⟩,HO1,HB1⟩
   case measure=>simp[intOf];omega
  ·obtain rfl:k=n:=by omega
   obtain⟨g,cc,rfl⟩:=HV.out;have HF:Hid (GrowB w.heap.size w (plainB l) (8*k) (.returned (.slice (some ⟨g,0,none⟩) (8*k) cc)) wr):=by
    have:=HO.out;rw[List.take_of_length_le (Nat.le_of_eq HLen.out)]at this;exact hid ⟨g,cc,rfl,this,HB.out⟩
   go_wp2;go_ret
   exact HF.out
end In
end Go.Proofs.YtljanfnhmhimiaaGreat
