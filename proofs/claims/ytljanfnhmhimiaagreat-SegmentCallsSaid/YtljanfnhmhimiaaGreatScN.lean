/- Parts of the proof. -/
import Derived.Test.YtljanfnhmhimiaaGreatScH
set_option maxRecDepth 100000
set_option maxHeartbeats 8000000
open Go.Lib (hid)
namespace Go.Proofs.YtljanfnhmhimiaaGreat
namespace Tx
open Go.RowKit Go.Joins
open Ss (IsS)
open Bs (Qj)
open Oct (varB)
open Ref1 (GrowB)
open In (below_grown Qf QY)
theorem QbO(d:List Int)(h:Bs.IsB d):Lib.strCells (strOfNums d)=d.map (Value.int .u8):=Dv.Qja d h
theorem Qt{w w':World}{a:Option Addr}{n c B:Nat}{l:List (List Int)}(h:Ss.Seg w a n c l)(k:Below B w w')(hB:B=w.heap.size):Ss.Seg w' a n c l:=by
 subst hB;exact h.grown (Bs.grown_of k)
theorem Qo7{w w':World}{a:Option Addr}{n c B:Nat}{l:List (List Int)}(h:Ss.Seg w a n c l)(k:Below B w w')(hb:∀ad,a=some ad→ad.block<B):Ss.Seg w' a n c l:=by
 refine⟨h.len,h.le,h.cap,h.nil_,fun ad had j u hu=>?_⟩;have e:(ad.add j).block=ad.block:=by unfold Addr.add;split <;> rfl
 exact(k.cell (by rw[e];exact hb ad had)).trans (h.at_ ad had j u hu)
theorem QkC{w:World}{a:Option Addr}{n c:Nat}{l:List (List Int)}(h:Ss.Seg w a n c l)(hn:0<n):∀ad,a=some ad→ad.block<w.heap.size:=by
 intro ad had;obtain⟨g,o,rfl,hc⟩:=h.addr hn;cases had
 exact World.block_lt_of_cell? w _ (hc 0 hn)
theorem QeT(l:List (List Int))(k:Nat)(x:List Int)(h:k<l.length)(hx:l.getD k []=x):strsB (l.take (k+1))=strsB (l.take k)++(varB 9 (x.length:Int)++x):=by
 rw[List.take_succ_eq_append_getElem h,Qlw,←hx];simp[List.getD,h,strB]
theorem take_at{l:List (List Int)}{k:Nat}(h:k<l.length):l.getD k []∈l:=by
 rw[List.getD_eq_getElem?_getD,List.getElem?_eq_getElem h];exact List.getElem_mem _
theorem wrap_u64{n:Nat}(h:n≤1000000000):IntKind.u64.wrap (n:Int)=(n:Int):=by rw[IntKind.wrap_u64];omega
theorem QdO(base:Nat)(v0:Value)(n:Nat)(B:List Int)(a:Option Addr)(m c:Nat)(l:List (List Int))(w:World)(hs:Ss.Seg w a m c l)(hblk:0<m→∀ad,a=some ad→ad.block<base)(hbase:base≤w.heap.size)
  (hown:w.ownsRow base 5 1 v0 n (B.map (Value.int .u8))) (hn:0<n) (hn2:n≤1000000000) (hb:AllB l) (hl:∀s∈l,s.length≤65536) (hm:m≤65536) :
  Calls Tryz.prog 169 #[v0,.slice a m c] w (GrowB base w (B++strsB l) (n+(strsB l).length)):=by
 obtain⟨i0,hi,hz0,hz1,hz2⟩:=info_parts Qj;have hcap:=hs.cap;have hle:=hs.le;unfold maxLen at hcap;have HLen:=hid hs.len;have HSeg:=hid hs;have HO:=hid hown;have HG:=hid (Below.refl base w);have HW:=hid hbase;have HBk:=hid hblk;have HBB:=hid hb;have HLL:=hid hl;clear hs hown hbase hblk hb hl;go_enter Tryz.func169,Tryz.ntmps169
 go_wp2
 go_loopw [0,9] (fun so si wr=>∃(k q:Nat) (V:Value),k≤m∧si=.int .i64 k∧V=so∧Hid ((strsB (l.take k)).length=q∧q≤k*65546)∧Hid (wr.ownsRow base 5 1 V (n+q) ((B++strsB (l.take k)).map (Value.int .u8)))∧Hid (Below base w wr))
  (fun _ si _=>m-(intOf si).toNat)
 case atStart=>exact⟨0,0,_,Nat.zero_le _,rfl,rfl,hid ⟨rfl,Nat.le_refl _⟩,hid (by simpa [strsB] using HO.out),HG⟩
 case round=>
  obtain⟨k,q,V,hk,rfl,rfl,HQ,HO,HB⟩:=hrel;by_cases hlt:k<m
  ·have hsz0:base≤wr.heap.size:=Nat.le_trans HW.out HB.out.size;have hseg:=Qo7 HSeg.out HB.out (HBk.out (by omega));obtain⟨gA,oA,rfl,hc⟩:=hseg.addr (by omega);have g1:=hc k hlt;obtain⟨x,hx⟩:∃x,l.getD k []=x:=⟨_,rfl⟩;have hxm:x∈l:=hx▸take_at (by rw[HLen.out];exact hlt);have HXB:=hid (HBB.out x hxm);rw[hx]at g1;have HP:=hid (QeT l k x (by have:=HLen.out;omega) hx);have hss:=strOfNums_size x;have hxl:=HLL.out x hxm;obtain⟨xl,hxe⟩:∃n,x.length=n:=⟨_,rfl⟩;rw[hxe]at hss hxl;have hwu:=wrap_u64 (n:=xl) (by omega);have HPut:=hid (Oct.Qar none 0 0 [] (xl:Int) wr (Oct.Seg.nil wr) (by omega) (by omega) (by omega));have hvl:=Oct.QE 9 (xl:Int);have HXe:=hid hxe;have HSS:=hid hss;clear hx hxm hc hseg hxe;go_wp2_with fail
   refine HPut.out.mono ?_;rintro e w1 hnew;rw[List.nil_append]at hnew;obtain⟨g,p,rfl,hf⟩:=hnew.value;obtain⟨hp,hown1,hg⟩:=hf.is;rw[←hp]at hvl;have HPl:=hid hp;have HS1:=hid ((Oct.Seg.own hown1).at_ _ rfl);have HLn:Hid (((varB 9 (xl:Int)).map (Value.int .u8)).length=p*1):=hid (by rw[List.length_map,hp];omega);have HO1:=hid (QY HO.out hg);have HB1:=hid (HB.out.trans (below_grown hg hsz0));have HS2:Hid (base≤w1.heap.size):=hid (Nat.le_trans hsz0 hg.size);have hqb:=HQ.out.2;clear hnew hf hown1 hg hp hsz0;go_wp2_with (first
    |(at_builtin;refine wpList_append_own _ rfl (.tmp 13) (.tmp 17) 45 rfl base 5 i0 (.int .u8 0) 1 1 Tryz.underlying45 hi hz0 hz1 hz2 rfl (by decide) V (n+q) _ rfl HO1.out ⟨g,0,none⟩ p p ((varB 9 (xl:Int)).map (Value.int .u8)) rfl HLn.out HS1.out (ints_oneCell _ _) (by unfold maxLen;omega) (by omega) HS2.out ?_;intro v2 w2 hown2 hgrow2 hnil2;have HO2:=hid hown2;have HB2:=hid (HB1.out.grown hgrow2 HS2.out (fun j e=>(HO1.out.lt j e).1));have HS3:Hid (base≤w2.heap.size):=hid (Nat.le_trans HS2.out hgrow2.size);clear hown2 hgrow2 hnil2)
    |(at_builtin;refine Lib.wpList_append_own_string _ rfl (.tmp 19) (.tmp 20) 45 9 rfl base 5 i0 Tryz.underlying45 Tryz.underlying9 hi hz0 hz1 hz2 v2 (n+q+p) _ rfl HO2.out (strOfNums x) rfl (by rw[HSS.out];unfold maxLen;omega) (by rw[HSS.out];omega) HS3.out ?_;intro v3 w3 hown3 hgrow3 hnil3)
    |fail)
   rw[HSS.out,QbO x HXB.out,←List.map_append]at hown3;go_roundw
   case rel=>
    refine⟨k+1,q+(p+xl),v3,by omega,by go_num,rfl,hid ⟨?_,by have:=HQ.out.2;omega⟩,hid ?_,hid (HB2.out.grown hgrow3 HS3.out (fun j e=>(HO2.out.lt j e).1))⟩
    ·rw[HP.out,List.length_append,HQ.out.1,List.length_append,HXe.out,←HPl.out]
    ·rw[HP.out,HXe.out,show n+(q+(p+xl))=n+q+p+xl from by omega,←List.append_assoc,←List.append_assoc];rw[List.map_append]at hown3 ⊢;rw[List.map_append (l₁:=B++strsB (l.take k))]
     simpa using hown3
   case measure=>simp[intOf];omega
  ·obtain rfl:k=m:=by omega
   obtain⟨g,cc,rfl⟩:=ownsRow_form HO.out (by omega);have HF:Hid (GrowB base w (B++strsB l) (n+(strsB l).length) (.returned (.slice (some ⟨g,0,none⟩) (n+q) cc)) wr):=by
    have h1:=HQ.out.1;have h2:=HO.out;rw[List.take_of_length_le (Nat.le_of_eq HLen.out)]at h1 h2;rw[h1];exact hid ⟨g,cc,rfl,h2,HB.out⟩
   go_wp2;go_ret
   exact HF.out
end Tx
namespace In
open Go.RowKit Go.Joins
open Bs (Qj)
open Oct (readV ofB VInv)
open Dv (Turn nowhere)
structure RR (w:World) (b g:Nat) (l:List Int):Prop where
 ne:g≠b
 cells:∃o c,w.cell? ⟨b,0,none⟩=some (.slice (some ⟨g,o,none⟩) l.length c)∧l.length≤c∧c≤maxLen∧∀j,j<l.length→w.cell? ⟨g,o+j,none⟩=some (.int .u8 (l.getD j 0))
 free:w.frozen? ⟨b,0,none⟩=false
theorem RR.lt{w:World}{b g:Nat}{l:List Int}(h:RR w b g l):b<w.heap.size:=by
 obtain⟨o,c,h0,_⟩:=h.cells;exact World.block_lt_of_cell? w _ h0
theorem RR.turn{w w':World}{b g:Nat}{l:List Int}{S:Nat→Prop}(h:RR w b g l)(k:Turn w w' S)(h1:¬S b)(h2:¬S g):RR w' b g l:=by
 have lt:=h.lt;obtain⟨o,c,h0,hle,hc,hj⟩:=h.cells;exact⟨h.ne,⟨o,c,k.cell h0 h1,hle,hc,fun j hjl=>k.cell (hj j hjl) h2⟩,(k.frozen (p:=⟨b,0,none⟩) lt h1).trans h.free⟩
theorem RR.next{w:World}{b g o c n:Nat}{l:List Int}(h:RR w b g l)(h0:w.cell? ⟨b,0,none⟩=some (.slice (some ⟨g,o,none⟩) l.length c))(hle:l.length≤c)(hc:c≤maxLen)(hj:∀j,j<l.length→w.cell? ⟨g,o+j,none⟩=some (.int .u8 (l.getD j 0)))(hn:n≤l.length)(v:Option Addr)
  (hv:v=if c=n then some ⟨g,o,none⟩ else some ⟨g,o+n,none⟩) :
  RR (w.setCell ⟨b,0,none⟩ (.slice v (l.length-n) (c-n))) b g (l.drop n):=by
 have hT:Turn w (w.setCell ⟨b,0,none⟩ (.slice v (l.length-n) (c-n))) (At b):=Turn.setCell w ⟨b,0,none⟩ _ rfl;have hcell:(w.setCell ⟨b,0,none⟩ (.slice v (l.length-n) (c-n))).cell? ⟨b,0,none⟩=some (.slice v (l.length-n) (c-n)):=World.cell?_setCell_same _ _ _ h0;refine⟨h.ne,?_,by rw[World.frozen?_setCell];exact h.free⟩;by_cases hcn:c=n
 ·rw[if_pos hcn]at hv;subst hv;refine⟨o,c-n,by rw[hcell,List.length_drop],by rw[List.length_drop];omega,by omega,fun j hjl=>?_⟩;rw[List.length_drop]at hjl;omega
 ·rw[if_neg hcn]at hv;subst hv;refine⟨o+n,c-n,by rw[hcell,List.length_drop],by rw[List.length_drop];omega,by omega,fun j hjl=>?_⟩;rw[List.length_drop]at hjl;have h1:=hT.cell (hj (n+j) (by omega)) (fun e=>h.ne e);rw[Nat.add_assoc,h1];simp[List.getD]
def RNew2(w:World)(l:List Int)(e:Ending)(w':World):Prop:=
 ∃b g,e=.returned (.pointer (some ⟨b,0,none⟩))∧w.heap.size≤b∧RR w' b g l∧w.grownBy w' none∧g<w'.heap.size
theorem QV(a:Option Addr)(n c:Nat)(l:List Int)(w:World)(hs:Bs.Seg w a n c l)(hn:n≤140737488355328) :
  Calls Tryz.prog 71 #[.slice a n c] w (RNew2 w l):=by
 obtain⟨i0,hi,hz0,hz1,hz2⟩:=info_parts Qj;have hl:=hs.len;have h0:=World.ownsRow_made (base:=w.heap.size) (e:=5) (size:=1) w #[] 0 (Nat.le_refl _) (by unfold maxLen;omega) rfl;have HO0:Hid ((w.alloc (.cells #[] 5)).ownsRow w.heap.size 5 1 (.slice (some ⟨w.heap.size,0,none⟩) 0 0) 0 ([]:List Value)):=hid h0;have HS:=hid (hs.grown (World.grownBy_alloc w (.cells #[] 5) none));have HW:Hid (w.heap.size≤(w.alloc (.cells #[] 5)).heap.size):=hid (by simp);clear h0 hs;go_enter Tryz.func71,Tryz.ntmps71
 go_wp2_with (at_builtin;refine Bs.Qr rfl (.tmp 3) (.tmp 4) 45 rfl w.heap.size 5 i0 Tryz.underlying45 hi hz0 hz1 hz2 w.heap.size 0 0 [] rfl HO0.out a n c l rfl HS.out (by omega) HW.out ?_;intro g1 c1 w1 hown1 hgrow1)
 have hlt:=(hown1.lt g1 rfl).2;have hs1:=Bs.Seg.own (l:=l) (by simpa using hown1);have hcells:∀j,j<l.length→w1.cell? ⟨g1,0+j,none⟩=some (.int .u8 (l.getD j 0)):=fun j hj=>by
  have:=hs1.at_ _ rfl j (.int .u8 (l.getD j 0)) (by simp[List.getD,hj]);rw[Addr.add_lit]at this;exact this
 have hA:Turn w1 (w1.alloc (.cells #[.slice (some ⟨g1,0,none⟩) n c1] 138)) nowhere:=Turn.alloc _ _ _;have hF:RNew2 w l (.returned (.pointer (some ⟨w1.heap.size,0,none⟩))) (w1.alloc (.cells #[.slice (some ⟨g1,0,none⟩) n c1] 138)):=by
  have hgr:w.grownBy w1 none:=Bs.grownBy_trans (World.grownBy_alloc w _ none) hgrow1 (fun j e=>by cases e;exact Nat.le_refl _);refine⟨w1.heap.size,g1,rfl,hgr.size,⟨by omega,⟨0,c1,?_,?_,hs1.cap,fun j hj=>hA.cell (hcells j hj) id⟩,?_⟩,Bs.grownBy_trans hgr (World.grownBy_alloc w1 _ none) (fun j e=>by cases e),by simp;omega⟩
  ·rw[hl];exact World.cell?_alloc_at _ _ _ _ rfl
  ·have:=hs1.le;omega
  ·exact World.frozen?_alloc_at _ _ _ _ rfl
 have HF:=hid hF;clear hown1 hgrow1 hs1 hcells hA hF hlt;go_ret
 exact HF.out
def RRead(b g:Nat)(w:World)(v E:Int)(r:List Int)(e:Ending)(w':World):Prop:=
 e=.returned (.tuple #[.int .u64 v,.int .i64 E])∧Turn w w' (At b)∧RR w' b g r
theorem QaQ(b g:Nat)(l:List Int)(n:Nat)(w:World)(h:RR w b g l)(n1:1≤n)(n8:n≤8)(hn:l.length<n) :
  Calls Tryz.prog 127 #[.pointer (some ⟨b,0,none⟩),.int .i64 n] w (RRead b g w 0 7 l):=by
 obtain⟨o,c,h0,hle,hc,hj⟩:=h.cells;have H:=hid h;obtain⟨m,hm⟩:∃m,l.length=m:=⟨_,rfl⟩;rw[hm]at h0 hn;have a1:¬n<1:=by omega
 have a2:¬8<n:=by omega
 clear hj hle hc h hm;go_enter Tryz.func127,Tryz.ntmps127
 go_wp2;go_ret2
 exact⟨rfl,Turn.refl _ _,H.out⟩
theorem Qai(b g:Nat)(l:List Int)(n:Nat)(w:World)(h:RR w b g l)(hb:Oct.IsB l)(n1:1≤n)(n8:n≤8)(hn:n≤l.length) :
  Calls Tryz.prog 127 #[.pointer (some ⟨b,0,none⟩),.int .i64 n] w (RRead b g w (ofB (l.take n)) 0 (l.drop n)):=by
 obtain⟨o,c,h0,hle,hc,hj⟩:=h.cells;have H:=hid h;have hf:=h.free;have hseg:Bs.Seg w (some ⟨g,o,none⟩) n c (l.take n):=by
  refine⟨by rw[List.length_take];omega,by omega,hc,(fun e=>by cases e),fun ad had j u hu=>?_⟩;cases had
  have hjn:j<n:=by
   have:=(List.getElem?_eq_some_iff.1 hu).1;simp at this;omega
  rw[Addr.add_lit,hj j (by omega)];rw[List.getElem?_map,List.getElem?_take_of_lt hjn,List.getElem?_eq_getElem (by omega)]at hu;simp[List.getD,List.getElem?_eq_getElem (show j<l.length by omega)]
  simpa using hu
 have HOf:=hid (Ref1.QgY g o n c _ w hseg (QB hb n) n8);have HNext:=hid (fun v hv=>RR.next (n:=n) h h0 hle hc hj hn v hv);obtain⟨z,hz⟩:∃z,ofB (l.take n)=z:=⟨_,rfl⟩;rw[hz]at HOf ⊢;obtain⟨m,hm⟩:∃m,l.length=m:=⟨_,rfl⟩;rw[hm]at h0 hn HNext hle;have a1:¬n<1:=by omega
 have a2:¬8<n:=by omega
 have a3:¬m<n:=by omega
 unfold maxLen at hc;clear hj h hm hseg hz;have HT:Hid (∀v,Turn w (w.setCell ⟨b,0,none⟩ v) (At b)):=hid (fun v=>Turn.setCell w ⟨b,0,none⟩ v rfl);by_cases hcn:c=n
 ·subst hcn;obtain rfl:m=c:=by omega
  have HF:Hid (RRead b g w z 0 (l.drop m) (.returned (.tuple #[.int .u64 z,.int .i64 0])) (w.setCell ⟨b,0,none⟩ (.slice (some ⟨g,o,none⟩) (m-m) (m-m)))):=hid ⟨rfl,HT.out _,HNext.out _ (by rw[if_pos rfl])⟩;go_enter Tryz.func127,Tryz.ntmps127
  go_wp2_with (first
   |(go_at_call 155;refine HOf.out.mono ?_;rintro e w' ⟨rfl,rfl⟩)
   |fail)
  go_ret2
  rw[Nat.sub_self]at HF;exact HF.out
 ·have HF:Hid (RRead b g w z 0 (l.drop n) (.returned (.tuple #[.int .u64 z,.int .i64 0])) (w.setCell ⟨b,0,none⟩ (.slice (some ⟨g,o+n,none⟩) (m-n) (c-n)))):=hid ⟨rfl,HT.out _,HNext.out _ (by rw[if_neg hcn])⟩;go_enter Tryz.func127,Tryz.ntmps127
  go_wp2_with (first
   |(go_at_call 155;refine HOf.out.mono ?_;rintro e w' ⟨rfl,rfl⟩)
   |fail)
  go_ret2
  exact HF.out
end In
namespace In
open Go.RowKit Go.Joins
open Oct (readV ofB VInv)
open Dv (Turn nowhere)
theorem Qlh:∀x:Fin 256,bits .and .u8 ((x.val:Nat):Int) 127=((x.val:Nat):Int) % 128:=by decide +kernel
theorem and127(x:Int)(h0:0≤x)(h1:x<256):bits .and .u8 x 127=x % 128:=by
 obtain⟨n,rfl⟩:∃n:Nat,x=(n:Int):=⟨x.toNat,by omega⟩;exact Qlh ⟨n,by omega⟩
def RVarX(b g:Nat)(w:World)(l:List Int)(e:Ending)(w':World):Prop:=RRead b g w (readV 0 0 l).1 (readV 0 0 l).2.1 (l.drop (readV 0 0 l).2.2) e w'
theorem RVarX.err{b g:Nat}{w:World}{l:List Int}{x:Int}(hr:readV 0 0 l=(0,x,0))(h:RR w b g l):RVarX b g w l (.returned (.tuple #[.int .u64 0,.int .i64 x])) w:=by
 unfold RVarX;rw[hr];exact⟨rfl,Turn.refl _ _,h⟩
theorem rvar_any (b g : Nat) (l : List Int) (w : World) (h : RR w b g l) (hb : Oct.IsB l) :
    Calls Tryz.prog 126 #[.pointer (some ⟨b, 0, none⟩)] w (RVarX b g w l) := by
  obtain ⟨o, c, h0, hle, hc, hj⟩ := h.cells
  have hf := h.free
  have HNext := Lib.hid (fun n hn v hv => RR.next (n := n) h h0 hle hc hj hn v hv)
  unfold maxLen at hc
  have HJ := Lib.hid hj
  have HI := Lib.hid (fun k acc (hi : VInv l k acc) (hk : k < l.length) => hi.round hk hb)
  have HE := Lib.hid (fun acc (hi : VInv l l.length acc) => hi.end)
  have HT : Hid (∀ v, Turn w (w.setCell ⟨b, 0, none⟩ v) (At b)) := Lib.hid (fun v => Turn.setCell w ⟨b, 0, none⟩ v rfl)
  have H := Lib.hid h
  obtain ⟨n, hn⟩ : ∃ n, n = l.length := ⟨_, rfl⟩
  have HN := Lib.hid hn
  rw [← hn] at h0 hle HNext
  clear hj hb h hn
  go_enter Tryz.func126, Tryz.ntmps126
  go_wp2
  go_loop [4, 5] (fun sv si => ∃ (k : Nat) (acc : Int), k ≤ 10 ∧ si = .int .i64 k ∧ sv = .int .u64 acc ∧ Hid ((k ≤ 9 ∧ k ≤ n ∧ VInv l k acc) ∨ (k = 10 ∧ readV 0 0 l = (0, 4, 0)))) (fun _ si => 10 - (intOf si).toNat)
  case atStart => exact ⟨0, 0, by decide, rfl, rfl, Lib.hid (.inl ⟨by decide, Nat.zero_le _, VInv.start l⟩)⟩
  case round =>
    obtain ⟨k, acc, hk, rfl, rfl, HA⟩ := hrel
    rcases HA.out with ⟨k9, kn, hA⟩ | ⟨rfl, hr⟩
    · have HV := Lib.hid hA
      have hk10 : (k : Int) < 10 := by omega
      clear hA HA
      by_cases hlt : k < n
      · obtain ⟨x0, x1, a0, hA, hrest⟩ := HI.out k acc HV.out (by have := HN.out; omega)
        have g1 := HJ.out k (by have := HN.out; omega)
        obtain ⟨x, hx⟩ : ∃ x, x = l.getD k 0 := ⟨_, rfl⟩
        rw [← hx] at x0 x1 hA hrest g1
        have hand := and127 x x0 x1
        clear hx
        by_cases cA : k = 9 ∧ 1 < x % 128
        · have HF := Lib.hid (hA ⟨cA.1, by omega⟩)
          obtain ⟨rfl, cx⟩ := cA
          clear hA hrest
          go_wp2
          go_ret2
          exact RVarX.err HF.out H.out
        · by_cases cB : 128 ≤ x
          · by_cases e9 : k = 9
            · subst e9
              have y1 : ¬ 1 < x % 128 := fun h => cA ⟨rfl, h⟩
              have HF := Lib.hid (hA ⟨rfl, by omega⟩)
              have yb : 0 ≤ x % 128 ∧ x % 128 < 128 := by omega
              obtain ⟨y, hy⟩ : ∃ y, x % 128 = y := ⟨_, rfl⟩
              rw [hy] at hand y1 yb
              have hlt128 : ¬ x < 128 := by omega
              clear hA hrest cA hy
              go_wp2
              go_round
              case rel => exact ⟨10, _, by decide, by go_num, rfl, Lib.hid (.inr ⟨rfl, HF.out⟩)⟩
              case measure => simp [intOf]
            · obtain ⟨y0, y1, ho, hB, hC, hD⟩ := hrest (fun h => e9 h.1)
              have HBv := Lib.hid (hB cB)
              have k9' : ((k : Int) == 9) = false := by simp; omega
              have hlt128 : ¬ x < 128 := by omega
              have hk8 : k ≤ 8 := by omega
              clear hA hrest hB hC hD cA e9
              go_wp2
              go_round
              case rel => exact ⟨k + 1, acc + x % 128 * 2 ^ (7 * k), by omega, by go_num, rfl, Lib.hid (.inl ⟨by omega, by omega, HBv.out⟩)⟩
              case measure => simp [intOf]; omega
          · have hyx : x % 128 = x := by omega
            have hlt128 : x < 128 := by omega
            have cA2 : ¬ (k = 9 ∧ 1 < x) := fun h => cA ⟨h.1, by omega⟩
            obtain ⟨y0, y1, ho, hB, hC, hD⟩ := hrest cA2
            rw [hyx] at hand y0 y1 ho hD
            have HC2 := Lib.hid hC
            have HD := Lib.hid hD
            clear hA hrest hB hC hD cA hyx
            have hand0 : bits .and .u8 0 127 = 0 := and127 0 (by decide) (by decide)
            by_cases cz : x = 0 ∧ 0 < k
            · have HF := Lib.hid (HC2.out cz)
              have xz : (x == 0) = true := by simp; omega
              have kp : (0 : Int) < (k : Int) := by omega
              have ho0 : bits BinOp.or IntKind.u64 acc 0 = acc := by rw [cz.1] at ho; simpa using ho
              by_cases e9 : k = 9
              · have k9' : ((k : Int) == 9) = true := by simp; omega
                have x1' : ¬ 1 < x := by omega
                clear cA2 cz e9
                go_wp2
                go_ret2
                exact RVarX.err HF.out H.out
              · have k9' : ((k : Int) == 9) = false := by simp; omega
                clear cA2 cz e9
                go_wp2
                go_ret2
                exact RVarX.err HF.out H.out
            · have HF := Lib.hid (HD.out (by omega) cz)
              by_cases e9 : k = 9
              · have x1' : ¬ 1 < x := fun h => cA2 ⟨e9, h⟩
                have xz : (x == 0) = false := by simp; omega
                have k9' : ((k : Int) == 9) = true := by simp; omega
                clear cA2 cz e9
                by_cases hcn : c = k + 1
                · obtain rfl : n = k + 1 := by omega
                  subst hcn
                  have HR : Hid (RVarX b g w l (.returned (.tuple #[.int .u64 (acc + x * 2 ^ (7 * k)), .int .i64 0])) (w.setCell ⟨b, 0, none⟩ (.slice (some ⟨g, o, none⟩) (k + 1 - (k + 1)) (k + 1 - (k + 1))))) := Lib.hid (by
                    unfold RVarX
                    rw [HF.out]
                    exact ⟨rfl, HT.out _, HNext.out (k + 1) (Nat.le_refl _) _ (by rw [if_pos rfl])⟩)
                  rw [Nat.sub_self] at HR
                  go_wp2
                  go_ret2
                  exact HR.out
                · have HR : Hid (RVarX b g w l (.returned (.tuple #[.int .u64 (acc + x * 2 ^ (7 * k)), .int .i64 0])) (w.setCell ⟨b, 0, none⟩ (.slice (some ⟨g, o + (k + 1), none⟩) (n - (k + 1)) (c - (k + 1))))) := Lib.hid (by
                    unfold RVarX
                    rw [HF.out]
                    exact ⟨rfl, HT.out _, HNext.out (k + 1) (by omega) _ (by rw [if_neg hcn])⟩)
                  go_wp2
                  go_ret2
                  exact HR.out
              · have k9' : ((k : Int) == 9) = false := by simp; omega
                by_cases ez : x = 0
                · have xz : (x == 0) = true := by simp; omega
                  have kp : (k : Int) ≤ 0 := by omega
                  have kp2 : decide ((0 : Int) < (k : Int)) = false := by simp; omega
                  have ho0 : bits BinOp.or IntKind.u64 acc 0 = acc := by rw [ez] at ho; simpa using ho
                  have HF2 : Hid (readV 0 0 l = (acc, 0, k + 1)) := Lib.hid (by have := HF.out; rw [ez] at this; simpa using this)
                  clear cA2 cz e9
                  by_cases hcn : c = k + 1
                  · obtain rfl : n = k + 1 := by omega
                    subst hcn
                    have HR : Hid (RVarX b g w l (.returned (.tuple #[.int .u64 acc, .int .i64 0])) (w.setCell ⟨b, 0, none⟩ (.slice (some ⟨g, o, none⟩) (k + 1 - (k + 1)) (k + 1 - (k + 1))))) := Lib.hid (by
                      unfold RVarX
                      rw [HF2.out]
                      exact ⟨rfl, HT.out _, HNext.out (k + 1) (Nat.le_refl _) _ (by rw [if_pos rfl])⟩)
                    rw [Nat.sub_self] at HR
                    go_wp2
                    go_ret2
                    exact HR.out
                  · have HR : Hid (RVarX b g w l (.returned (.tuple #[.int .u64 acc, .int .i64 0])) (w.setCell ⟨b, 0, none⟩ (.slice (some ⟨g, o + (k + 1), none⟩) (n - (k + 1)) (c - (k + 1))))) := Lib.hid (by
                      unfold RVarX
                      rw [HF2.out]
                      exact ⟨rfl, HT.out _, HNext.out (k + 1) (by omega) _ (by rw [if_neg hcn])⟩)
                    go_wp2
                    go_ret2
                    exact HR.out
                · have xz : (x == 0) = false := by simp; omega
                  clear cA2 cz e9
                  by_cases hcn : c = k + 1
                  · obtain rfl : n = k + 1 := by omega
                    subst hcn
                    have HR : Hid (RVarX b g w l (.returned (.tuple #[.int .u64 (acc + x * 2 ^ (7 * k)), .int .i64 0])) (w.setCell ⟨b, 0, none⟩ (.slice (some ⟨g, o, none⟩) (k + 1 - (k + 1)) (k + 1 - (k + 1))))) := Lib.hid (by
                      unfold RVarX
                      rw [HF.out]
                      exact ⟨rfl, HT.out _, HNext.out (k + 1) (Nat.le_refl _) _ (by rw [if_pos rfl])⟩)
                    rw [Nat.sub_self] at HR
                    go_wp2
                    go_ret2
                    exact HR.out
                  · have HR : Hid (RVarX b g w l (.returned (.tuple #[.int .u64 (acc + x * 2 ^ (7 * k)), .int .i64 0])) (w.setCell ⟨b, 0, none⟩ (.slice (some ⟨g, o + (k + 1), none⟩) (n - (k + 1)) (c - (k + 1))))) := Lib.hid (by
                      unfold RVarX
                      rw [HF.out]
                      exact ⟨rfl, HT.out _, HNext.out (k + 1) (by omega) _ (by rw [if_neg hcn])⟩)
                    go_wp2
                    go_ret2
                    exact HR.out
      · obtain rfl : k = n := by omega
        have HF := Lib.hid (HE.out acc (by rw [← HN.out]; exact HV.out))
        have hk10' : k < 10 := by omega
        clear hlt kn hk10
        go_wp2
        go_ret2
        exact RVarX.err HF.out H.out
    · have HF := Lib.hid hr
      clear hr HA
      go_wp2
      go_ret2
      exact RVarX.err HF.out H.out
theorem Qcs{a w w':World}{b:Nat}{row:Option Nat}(h:Turn a w (At b))(k:w.grownBy w' row)(hr:∀i,row=some i→a.heap.size≤i):Turn a w' (At b):=
 Qe h (Turn.QD (S:=fun i=>a.heap.size≤i) k (fun i e _=>hr i e)) (fun _ hi=>.inr hi)
theorem RR.own{w w':World}{b g N:Nat}{l:List Int}{row:Option Nat}(h:RR w b g l)(k:w.grownBy w' row)(hr:∀i,row=some i→N≤i)(hb:b<N)(hg:g<N):RR w' b g l:=
 h.turn (Turn.QD (S:=fun i=>N≤i) k (fun i e _=>hr i e)) (Nat.not_le.2 hb) (Nat.not_le.2 hg)
theorem Qbm{w w':World}{base e s n b:Nat}{V:Value}{xs:List Value}(h:w.ownsRow base e s V n xs)(k:Turn w w' (At b))(hb:b<base):w'.ownsRow base e s V n xs:=by
 refine⟨h.1,?_⟩;rcases h.2 with h'|⟨g',cap,cur,e1,hb',hgg,rest⟩
 ·exact .inl h'
 ·exact .inr ⟨g',cap,cur,e1,hb',(k.block g' (Array.getElem?_eq_some_iff.1 hgg).1 (by unfold At;omega)).trans hgg,rest⟩
theorem Qjl(b g:Nat)(l:List Int)(w:World)(h:RR w b g l)(hb:Oct.IsB l):∃v E r,(8≤l.length→v=ofB (l.take 8)∧E=0∧r=l.drop 8)∧(l.length<8→E=7) ∧
  Calls Tryz.prog 127 #[.pointer (some ⟨b,0,none⟩),.int .i64 8] w (RRead b g w v E r):=by
 by_cases h8:l.length<8
 ·exact⟨0,7,l,fun h=>by omega,fun _=>rfl,QaQ b g l 8 w h (by decide) (by decide) h8⟩
 ·exact⟨_,0,_,fun _=>⟨rfl,rfl,rfl⟩,fun h=>by omega,Qai b g l 8 w h hb (by decide) (by decide) (by omega)⟩
end In
namespace In
open Go.RowKit
open Is (IsI)
theorem QhY(l:List Int)(k:Nat)(x:Int)(h0:1≤k)(h:k<l.length)(hx:l.getD k 0=x):minL (l.take (k+1))=min (minL (l.take k)) x:=by
 have hne:l.take k≠[]:=fun e=>by have:=congrArg List.length e;rw[List.length_take,List.length_nil]at this;omega
 rw[List.take_succ_eq_append_getElem h,Qmh _ _ hne];rw[←hx];simp[List.getD,h]
theorem QmQ(m x:Int):(if x<m then x else m)=min m x:=by split <;> omega
theorem Qjr(l:List Int)(h:0<l.length):minL (l.take 1)=l.getD 0 0:=by
 cases l with
 |nil=>simp at h
 |cons x t=>simp[minL]
theorem Qpc(a:Option Addr)(n c:Nat)(l:List Int)(w:World)(hs:Is.Seg w a n c l)(hI:IsI l)(hn:0<n) :
  Calls Tryz.prog 193 #[.slice a n c] w fun e w'=>e=.returned (.int .i64 (minL l))∧w=w':=by
 have hm:=hs.cap;have hle:=hs.le;unfold maxLen at hm;have HL:=hid hs.len;obtain⟨g,o,rfl,hc⟩:=hs.addr hn;have HC:=hid hc;have HI:Hid (∀k,k<n→-9223372036854775808≤l.getD k 0∧l.getD k 0≤9223372036854775807):=hid (fun k hk=>by
  have:=hs.len;rw[List.getD_eq_getElem?_getD,List.getElem?_eq_getElem (by omega)];exact hI _ (List.getElem_mem _))
 have c0:=hc 0 hn;rw[Nat.add_zero]at c0;obtain⟨x0,hx0⟩:∃x,x=l.getD 0 0:=⟨_,rfl⟩;rw[←hx0]at c0;have HX0:=hid hx0;clear hc hs hx0;go_enter Tryz.func193,Tryz.ntmps193
 go_wp2
 go_loop [3,4] (fun sm si=>∃(k:Nat) (m:Int),1≤k∧k≤n∧si=.int .i64 k∧sm=.int .i64 m∧Hid (m=minL (l.take k))) (fun _ si=>n-(intOf si).toNat)
 case atStart=>exact⟨1,x0,Nat.le_refl _,hn,rfl,rfl,hid (by rw[HX0.out,Qjr l (by have:=HL.out;omega)])⟩
 case round=>
  obtain⟨k,m,hk1,hk,rfl,rfl,HM⟩:=hrel;by_cases hlt:k<n
  ·have g1:=HC.out k hlt;obtain⟨x,hx⟩:∃x,l.getD k 0=x:=⟨_,rfl⟩;rw[hx]at g1;have HS:=hid (QhY l k x hk1 (by have:=HL.out;omega) hx);clear hx;go_wp2
   go_round
   case rel=>exact⟨k+1,min m x,by omega,by omega,by go_num,(by simp only[QmQ]),hid (by rw[HS.out,HM.out])⟩
   case measure=>simp[intOf];omega
  ·obtain rfl:k=n:=by omega
   go_wp2;go_ret
   exact⟨Bs.Qq (by rw[HM.out,List.take_of_length_le (Nat.le_of_eq HL.out)]),rfl⟩
theorem Qfd(a:Option Addr)(n c:Nat)(l:List Int)(w:World)(hs:Is.Seg w a n c l)(hI:IsI l) :
  Calls Tryz.prog 184 #[.slice a n c] w fun e w'=>e=.returned (.int .i64 (minL l))∧w=w':=by
 by_cases hn:n=0
 ·subst hn;obtain rfl:=List.eq_nil_of_length_eq_zero hs.len;go_enter Tryz.func184,Tryz.ntmps184
  go_wp2;go_ret
  exact⟨rfl,rfl⟩
 ·have H:=hid (Qpc a n c l w hs hI (by omega));have hb:((n:Int)==0)=false:=by simp;omega
  go_enter Tryz.func184,Tryz.ntmps184
  go_wp2_with fail
  refine H.out.mono ?_;rintro e w' ⟨rfl,rfl⟩;go_wp2;go_ret
  exact⟨rfl,rfl⟩
end In
end Go.Proofs.YtljanfnhmhimiaaGreat
