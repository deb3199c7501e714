/- Parts of the proof. -/
import Derived.Maps.OwnIn
import Derived.Test.YtgffbbdcbkikhaaGreatDoorKbL
import Derived.Test.YtgffbbdcbkikhaaGreatDoorKbS
set_option maxRecDepth 100000
set_option maxHeartbeats 8000000
open Go.Lib (hid)
namespace Go.Proofs.YtgffbbdcbkikhaaGreatDoor
namespace Sp
open Go.RowKit Go.Shelf Bs Dv Gr Dr
open Cf (FeedsX QaG QaH QaS)
attribute [local go_sem] Oper.semAt_some
theorem QfI(a:Option Addr)(n c:Nat)(w:World) :
  Calls Tryz.prog 151 #[.slice a n c] w fun e w'=>e=.returned (.func (.func 154) #[] #[.pointer (some ⟨w.heap.size,0,none⟩)])∧w'=w.alloc (.cells #[.slice a n c] 39):=by
 have hmf:∀(fn:Fn) (first cap:Array Value) (w:World),(Instr.makeFunc fn first cap).run Tryz.prog w=.ok (.func fn first cap) w:=fun _ _ _ _=>rfl
 go_enter Tryz.func151,Tryz.ntmps151
 go_wp2;go_ret
 exact⟨rfl,rfl⟩
def encB(l:List Int)(k:Nat):Array Value:=#[.int .i64 ((l.length-1-k:Nat):Int),.int .u32 (l.getD (l.length-1-k) 0)]
theorem Qlg(m:Nat)(hm:1≤m)(y:Nat)(P:Nat→Prop)(b:Nat)(a:Option Addr)(n c:Nat)(l:List Int)(J:Nat→World→Prop)(W:World)(hY:∀k args W1,k<l.length→J k W1→args=encB l k→YieldAt Fence.wide (m-1) Tryz.prog y args W1 fun x W'=>x=.returned (.bool true)∧J (k+1) W'∧Cf.Kept P W1 W')
  (hb:W.cell? ⟨b,0,none⟩=some (.slice a n c)) (hs:Ws.Seg W a n c l) (pb:P b) (pa:∀ad,a=some ad→0<n→P ad.block) (h0:J 0 W) :
  CallsIn Fence.wide m Tryz.prog 154 #[.func (.yield y) #[] #[],.pointer (some ⟨b,0,none⟩)] W fun e W'=>(∃z,e=.returned z)∧J l.length W':=by
 have hle:=hs.le;have hcap:=hs.cap;unfold maxLen at hcap;have hlen:=hs.len;rw[hlen]at hY ⊢;have HY:=hid hY;have HB:=hid hb;have HS:=hid hs;have HPB:=hid pb;have HPA:=hid pa;have HLN:=hid hlen;have e0:IntKind.i64.wrap ((n:Int)-1)=(n:Int)-1:=IntWalk.i64_in _ (by omega);clear hY hs pb pa hlen;refine callsIn_of_wp Tryz.func154 rfl trivial ?_ rfl;simp only[Tryz.ntmps154,List.size_toArray,List.length_cons,List.length_nil,Nat.reduceAdd,Nat.reduceSub,Array.replicate_succ,Array.replicate_zero,List.push_toArray,List.append_toArray,List.nil_append,List.cons_append];refine wpIn_wide.2 ?_;go_wp2
 go_loopw [3] (fun si wr=>∃(k:Nat) (z:Int),si=.int .i64 z∧Hid (z=(n:Int)-1-(k:Int))∧Hid (k≤n)∧Hid (J k wr)∧Hid (Cf.Kept P W wr)) (fun si _=>(intOf si+1).toNat)
 case atStart=>exact⟨0,_,rfl,hid (by omega),hid (Nat.zero_le _),hid h0,hid (Turn.refl _ _)⟩
 case round=>
  clear hb e0 h0;obtain⟨k,z,rfl,HZ,HKN,HJs,HK⟩:=hrel;have c0:=HK.out.cell HB.out (fun e=>e HPB.out);by_cases hlt:k<n
  ·obtain⟨i,hi⟩:∃i:Nat,n-1-k=i:=⟨_,rfl⟩;obtain rfl:z=(i:Int):=by have:=HZ.out;omega
   have hin:i<n:=by omega
   obtain⟨g,o,rfl,hc⟩:=HS.out.addr (by omega);have c1:=HK.out.cell (hc i hin) (fun e=>e (HPA.out (⟨g,o,none⟩:Addr) rfl (by omega)));have hq:decide ((0:Int)≤(i:Int))=true:=decide_eq_true (by omega);have p0:(0:Int)≤(i:Int):=by omega
   have p1:(i:Int)<(n:Int):=by omega
   have HE:Hid (encB l k=#[.int .i64 (i:Int),.int .u32 (l.getD i 0)]):=hid (by unfold encB;rw[HLN.out,hi]);have e1:IntKind.i64.wrap ((i:Int)-1)=(i:Int)-1:=IntWalk.i64_in _ (by omega);have HI:=hid hi;obtain⟨v,hv⟩:∃v,l.getD i 0=v:=⟨_,rfl⟩;rw[hv]at c1 HE;obtain⟨fn,tmps,assign,body,hy,hR⟩:=HY.out k _ wr hlt HJs.out rfl;rw[HE.out]at hy;have HKL:=hid hlt;clear hi hc hv hlt;refine(wpIn_wide (n:=m)).1 ?_
   gi_wp2
   refine hR.mono ?_;rintro e W3 ⟨rfl,hJ3,hk3⟩;have HJ3:=hid hJ3;have HK3:=hid (Cf.Kept.t HK.out hk3);clear hJ3 hk3 hR hy c0 c1
   gi_wp2
   go_wp2;go_roundw
   case rel=>exact⟨k+1,_,rfl,hid (by have:=HZ.out;omega),hid HKL.out,HJ3,HK3⟩
   case measure=>simp[intOf];try omega
  ·have hkn:k=n:=by have:=HKN.out;omega
   obtain rfl:z=-1:=by have:=HZ.out;omega
   have HJE:Hid (J n wr):=hid (by rw[←hkn];exact HJs.out);clear HJs;go_wp2
   go_end0
   exact⟨⟨_,rfl⟩,HJE.out⟩
theorem QhH(m:Nat)(hm:1≤m)(P:Nat→Prop)(b:Nat)(a:Option Addr)(n c:Nat)(l:List Int)(w:World)(hb:w.cell? ⟨b,0,none⟩=some (.slice a n c))(hs:Ws.Seg w a n c l)(pb:P b)(pa:∀ad,a=some ad→0<n→P ad.block)(hPw:∀i,P i→i<w.heap.size) :
  FeedsX Fence.wide m Tryz.prog 154 #[] #[.pointer (some ⟨b,0,none⟩)] (fun k args _=>args=encB l k) l.length (fun _=>Cf.Kept P) (fun _ _ _=>False) w:=
 fun y J W hW _ hY h0=>by
  have hT:Turn w W (fun i=>w.heap.size≤i):=⟨hW.os,hW.tape,hW.output,hW.size,fun k hk _=>hW.block k hk⟩;refine Qlg m hm y P b a n c l J W (fun k args W1 hk j e=>hY k args W1 hk j e) (hT.cell hb (fun e=>by have:=hPw b pb;have e:w.heap.size≤b:=e;omega)) ⟨hs.len,hs.le,hs.cap,hs.nil_,fun ad had j u hu=>hT.cell (hs.at_ ad had j u hu) (fun e=>?_)⟩ pb pa h0;have hj:=(List.getElem?_eq_some_iff.1 hu).1;rw[List.length_map,hs.len]at hj;have:=hPw _ (pa ad had (by omega));rw[block_add]at e;omega
def Stk(W:World)(base:Nat)(oa:Option Addr)(oc:Nat)(l:List Int):Prop:=W.ownsRow base 30 1 (.slice oa l.length oc) l.length (l.map (Value.int .u32))
def blkO(oa:Option Addr)(i:Nat):Prop:=∃ad:Addr,oa=some ad∧i=ad.block
theorem QcC{W:World}{base oc:Nat}{oa:Option Addr}{l:List Int}(h:Stk W base oa oc l){i:Nat}(hi:blkO oa i):base≤i∧i<W.heap.size:=by
 obtain⟨ad,rfl,rfl⟩:=hi;exact h.lt ad.block rfl
theorem Qa4{W W':World}{base oc:Nat}{oa:Option Addr}{l:List Int}{S:Nat→Prop}(h:Stk W base oa oc l)(k:Turn W W' S)(hS:∀i,blkO oa i→¬S i):Stk W' base oa oc l:=by
 refine⟨h.1,?_⟩;rcases h.2 with h2|⟨g,cap,cur,e1,h3,h4,h5⟩
 ·exact .inl h2
 ·refine .inr ⟨g,cap,cur,e1,h3,?_,h5⟩
  injection e1 with e1 _ _
  rw[k.block g (Array.getElem?_eq_some_iff.1 h4).1 (hS g ⟨_,e1,rfl⟩)];exact h4
theorem QhB{W:World}{base oc:Nat}{oa:Option Addr}{l:List Int}(h:Stk W base oa oc l):Ws.Seg W oa l.length oc l:=by
 cases oa with
 |none=>
  have h2:=h.2;rcases h2 with ⟨e,e0⟩|⟨g,cap,cur,e1,_⟩
  ·injection e with _ _ e
   rw[e,e0,List.eq_nil_of_length_eq_zero e0];exact Ws.Seg.nil W
  ·injection e1 with e1
   cases e1
 |some ad=>
  have h0:=h;rcases h.2 with ⟨e,_⟩|⟨g,cap,cur,e1,_⟩
  ·cases e
  ·injection e1 with e1 _ _
   injection e1 with e1
   subst e1;exact Ws.Seg.own h0
theorem QeC{W w':World}{base oc:Nat}{oa:Option Addr}{l:List Int}{m:Int}{tmp:Obj}{v':Value}(h2:w'.ownsRow base 30 1 v' (l.length+1) (l.map (Value.int .u32)++[.int .u32 m]))(h3:(W.alloc tmp).grownBy w' (Value.slice oa l.length oc).ownBlock)
  (h5:v'.ownBlock=(Value.slice oa l.length oc).ownBlock∨v'.ownBlock=some (W.alloc tmp).heap.size):∃g c,v'=.slice (some ⟨g,0,none⟩) (l.length+1) c∧Stk w' base (some ⟨g,0,none⟩) c (l++[m])∧Turn W w' (blkO oa)∧(blkO oa g∨W.heap.size≤g):=by
 obtain⟨g3,c3,rfl⟩:=Su.QL h2 (by omega);have hob:∀k,(Value.slice oa l.length oc).ownBlock=some k→blkO oa k:=fun k hk=>by
  cases oa with
  |none=>simp[Value.ownBlock]at hk
  |some ad=>simp[Value.ownBlock]at hk;exact⟨ad,rfl,hk.symm⟩
 refine⟨g3,c3,rfl,?_,(Turn.alloc W tmp (blkO oa)).trans (Turn.Qf h3 (fun k e _=>hob k e)) (fun _ _ e=>e),?_⟩
 ·unfold Stk;rw[List.map_append,List.length_append];exact h2
 ·rcases h5 with e|e
  ·exact .inl (hob _ e.symm)
  ·refine .inr ?_;have e2:some g3=some (W.alloc tmp).heap.size:=e;rw[World.size_alloc]at e2
   injection e2 with e2
   omega
theorem Qbh{W:World}{base oc:Nat}{oa:Option Addr}{l:List Int}(h:Stk W base oa oc l){i:Nat}(hi:blkO oa i):∃o:Obj,W.heap[i]?=some o∧o.isCells=true:=by
 obtain⟨ad,rfl,rfl⟩:=hi;rcases h.2 with ⟨e,_⟩|⟨g,cap,cur,e1,h3,h4,_⟩
 ·cases e
 ·injection e1 with e1 _ _
  injection e1 with e1
  subst e1;exact⟨_,h4,rfl⟩
def PuI(w:World)(base:Nat)(oa:Option Addr)(st l:List Int)(k:Nat)(W:World):Prop:=
 ∃oa' oc',Boxed W w.heap.size 39 (.slice oa' (st++l.reverse.take k).length oc')∧Stk W base oa' oc' (st++l.reverse.take k)∧Turn w W (blkO oa)∧(∀i,blkO oa' i→blkO oa i∨w.heap.size+2≤i)∧w.heap.size+2≤W.heap.size
theorem Qht(w:World)(base:Nat)(oa:Option Addr)(st l:List Int):OwnFrom (w.heap.size+2) (PuI w base oa st l):=by
 rintro k W W' row ⟨oa',oc',h1,h2,h3,h4,h5⟩ hg hr;have hT:Turn W W' (fun i=>w.heap.size+2≤i∧∃o:Obj,W.heap[i]?=some o∧o.isCells=false):=Turn.Qf hg (fun i e _=>hr i e);refine⟨oa',oc',Qk h1 hT (fun e=>by have:=e.1;omega),Qa4 h2 hT (fun i hi e=>?_),h3.trans hT (fun i hi e=>by have:=e.1;omega),h4,Nat.le_trans h5 hT.size⟩;obtain⟨o,o1,o2⟩:=Qbh h2 hi;obtain⟨-,o',o3,o4⟩:=e;rw[o1]at o3;cases o3
 rw[o2]at o4;cases o4
theorem Qik(oa:Option Addr)(oc:Nat)(st:List Int)(base:Nat)(pa:Option Addr)(n c:Nat)(l:List Int)(w:World)(hst:Stk w base oa oc st)(hb:base≤w.heap.size)(hs:Ws.Seg w pa n c l)(hne:∀ad,pa=some ad→0<n→¬blkO oa ad.block)(hsz:st.length+n≤1000000000) :
  Calls Tryz.prog 139 #[.slice oa st.length oc,.slice pa n c] w fun e w'=>∃oa' oc',e=.returned (.slice oa' (st.length+l.length) oc')∧Stk w' base oa' oc' (st++l.reverse)∧Turn w w' (blkO oa)∧∀i,blkO oa' i→blkO oa i∨w.heap.size≤i:=by
 obtain⟨i0,hi,hz0,hz1,hz2⟩:=info_parts Ws.Qbp;have hmf:∀(fn:Fn) (first cap:Array Value) (w:World),(Instr.makeFunc fn first cap).run Tryz.prog w=.ok (.func fn first cap) w:=fun _ _ _ _=>rfl
 have HBK:=hid (fun W=>QfI pa n c W);have HLN:=hid hs.len;have HPL:Hid (∀ad,pa=some ad→0<n→ad.block<w.heap.size):=hid (fun ad e h0=>by
  obtain⟨g,o,e2,hc⟩:=hs.addr h0;rw[e]at e2;cases e2
  exact World.block_lt_of_cell? w _ (hc 0 h0))
 have hBO:∀i,blkO oa i→i<w.heap.size:=fun i e=>(QcC hst e).2
 have HBO:=hid hBO;obtain⟨W1,hW1⟩:∃X,(w.alloc (.cells #[.slice oa st.length oc] 39)).alloc (.cells #[.slice pa n c] 39)=X:=⟨_,rfl⟩;have hz:W1.heap.size=w.heap.size+2:=by rw[←hW1];simp[World.size_alloc]
 have hT1:Turn w W1 (blkO oa):=by rw[←hW1];exact(Turn.alloc w _ (blkO oa)).trans (Turn.alloc _ _ (blkO oa)) (fun _ _ e=>e)
 have HI0:Hid (PuI w base oa st l 0 W1):=hid ⟨oa,oc,by
  rw[←hW1,List.take_zero,List.append_nil];exact(Boxed.new w _ _).alloc _,by rw[←hW1,List.take_zero,List.append_nil];exact(hst.alloc _).alloc _,hT1,fun i e=>.inl e,by omega⟩
 have HBX:Hid (W1.cell? ⟨w.heap.size+1,0,none⟩=some (.slice pa n c)):=hid (by
  have:=(Boxed.new (w.alloc (.cells #[.slice oa st.length oc] 39)) 39 (.slice pa n c)).cell;rw[World.size_alloc,hW1]at this;exact this)
 have HS1:Hid (Ws.Seg W1 pa n c l):=hid (by rw[←hW1];exact(hs.grown (Qb _ _)).grown (Qb _ _));have HZ:=hid hz;have HNE:=hid hne;have HBS:=hid hb;have HW1:=hid hW1;have hszl:st.length+l.length≤1000000000:=by rw[hs.len];exact hsz
 have HSZ:=hid hszl;clear hst hs hne hW1 hT1 hz hsz hszl hBO hb;refine(callsIn_wide (n:=3)).1 ?_;refine callsIn_of_wp_marks Tryz.func139 rfl trivial ?_ rfl;simp only[Tryz.ntmps139,List.size_toArray,List.length_cons,List.length_nil,Nat.reduceAdd,Nat.reduceSub,Array.replicate_succ,Array.replicate_zero,List.push_toArray,List.append_toArray,List.nil_append,List.cons_append];refine wpIn_wide.2 ?_;go_wp2_with (first|(go_at_call 151;refine(HBK.out _).mono ?_;rintro e w' ⟨rfl,rfl⟩)|fail)
 rw[HW1.out];refine(wpIn_wide (n:=3)).1 ?_;have hPw:∀i,(i=w.heap.size+1∨(0<n∧blkO pa i))→i<W1.heap.size:=fun i e=>by
  rw[HZ.out];rcases e with rfl|⟨h0,ad,e1,rfl⟩
  ·omega
  ·have:=HPL.out ad e1 h0;omega
 refine QaG (T:=fun _ _ _=>False) rfl (by decide) (gf:=154) (first:=#[]) (lb:=#[.pointer (some ⟨w.heap.size+1,0,none⟩)]) rfl trivial (enters_of Tryz.func154 (by kernel_rfl) rfl)
  (fun _ _ _ e=>e.elim) (QhH 2 (by decide) (fun i=>i=w.heap.size+1∨(0<n∧blkO pa i)) (w.heap.size+1) pa n c l W1 HBX.out HS1.out (.inl rfl) (fun ad e h0=>.inr ⟨h0,ad,e,rfl⟩) hPw) (Below.refl _ _) (fun h k=>Cf.Kept.t h k) (fun W i o o' q1 _ _ _=>Turn.Qf (grownBy_putObj' W i o') (fun j e _=>by cases e;exact fun hp=>by have:=hPw _ hp;omega)) (fun k args W e=>by subst e;rfl)
  (PuI w base oa st l) (by rw[HZ.out];exact Qht w base oa st l) (fun k X Y _ hI ht=>Qht w base oa st l k X Y none hI (Turn.grown ht) (fun _ e=>by cases e))
  (fun a' k _=>a'={ tmps:=#[.slice oa st.length oc,.slice pa n c,.pointer (some ⟨w.heap.size,0,none⟩),undef,.slice none 0 0,undef,.int .u32 (l.getD (l.length-1-k) 0),.slice pa n c,.func (.func 154) #[] #[.pointer (some ⟨w.heap.size+1,0,none⟩)],.int .i64 ((l.length-1-k:Nat):Int),.int .u32 (l.getD (l.length-1-k) 0),undef,undef,undef,undef,undef],defers:=[] }) (fun a'=>fun _ _ _ _ hs _ _=>hs) HI0.out ?assign ?body ?done
 case assign=>
  intro y k args W K hk _ hI e hK;subst e;unfold encB
  gi_wp2
  exact hK _ _ (KeepsFrom.refl _ _) (Turn.refl _ _) hI rfl
 case body=>
  rintro y k a' W hk - ⟨oa',oc',q1,q2,q3,q4,q5⟩ rfl;have HE:Hid (st++l.reverse.take (k+1)=(st++l.reverse.take k)++[l.getD (l.length-1-k) 0]):=hid (by
   rw[List.take_succ_eq_append_getElem (by rw[List.length_reverse];exact hk),List.append_assoc,List.getElem_reverse,List.getD_eq_getElem?_getD,List.getElem?_eq_getElem (by omega)]
   rfl)
  have hl2:(st++l.reverse.take k).length≤1000000000-1:=by
   have:=HSZ.out;rw[List.length_append,List.length_take,List.length_reverse];omega
  obtain⟨v,hv⟩:∃v,l.getD (l.length-1-k) 0=v:=⟨_,rfl⟩;obtain⟨z,hz⟩:∃z,l.length-1-k=z:=⟨_,rfl⟩;obtain⟨S,hS⟩:∃S,st++l.reverse.take k=S:=⟨_,rfl⟩;rw[hS]at q1 q2 hl2 HE;rw[hv]at HE ⊢;rw[hz];have HS:=hid hS;have hc1:=q1.cell;have hf1:=q1.frozen;have HQ1:=hid q1;have HQ2:=hid q2;have HQ3:=hid q3;have HQ4:=hid q4;have HQ5:=hid q5;have hown:=q2.alloc (.cells #[.int .u32 v] 30);have HOW:=hid hown;have hlen:S.length=S.length:=rfl;clear hv hz hS q1 q2 q3 q4 q5 hown hlen hk
  gi_wp2_with (gi_at_builtin;refine wpListIn_append_own_at _ rfl _ _ 39 rfl base 30 i0 (.int .u32 0) 1 4 Tryz.underlying39 hi hz0 hz1 hz2 rfl (by decide) (.slice oa' S.length oc') S.length _ rfl HOW.out ⟨W.heap.size,0,none⟩ 1 1 [.int .u32 v] rfl rfl (cell_one_new _ _ _) (by simp[Value.oneCell']) (by unfold maxLen;omega) (by omega) (by have:=HBS.out;have:=HQ5.out;rw[World.size_alloc];omega) ?_;intro v2 w2 hown2 hg2 _ hat2;obtain⟨g3,c3,rfl,hst3,ht3,hb3⟩:=QeC hown2 hg2 hat2;have hb4:Boxed w2 w.heap.size 39 (.slice oa' S.length oc'):=(Qk HQ1.out ht3 (fun e=>by rcases HQ4.out _ e with e|e;have:=HBO.out _ e;omega;omega));have hc3:=hb4.cell;have hf3:=hb4.frozen;have HB4:=hid hb4;have HST3:=hid hst3;have HT3:=hid ht3;have HB3:=hid hb3;clear hown2 hg2 hat2 hst3 ht3 hb3 hb4 hc1 hf1)
  have hT4:Turn W (w2.setCell ⟨w.heap.size,0,none⟩ (.slice (some ⟨g3,0,none⟩) (S.length+1) c3)) (fun i=>i=w.heap.size∨blkO oa' i):=
   (HT3.out.mono (fun i _ e=>.inr e)).trans (Turn.setCell w2 ⟨w.heap.size,0,none⟩ _ (S:=(·=w.heap.size)) rfl) (fun i _ e=>.inl e)
  have hg3:∀i,blkO (some ⟨g3,0,none⟩) i→i≠w.heap.size∧(blkO oa i∨w.heap.size+2≤i):=fun i e=>by
   obtain⟨ad,e1,rfl⟩:=e;cases e1
   have h5:=HQ5.out;rcases HB3.out with e|e
   ·rcases HQ4.out _ e with e|e
    ·have:=HBO.out _ e;exact⟨by show g3≠_;omega,.inl e⟩
    ·exact⟨by show g3≠_;omega,.inr e⟩
   ·exact⟨by show g3≠_;omega,.inr (by show _≤g3;omega)⟩
  refine⟨⟨hT4.size,fun i o _ h1 h2=>(hT4.block i (Array.getElem?_eq_some_iff.1 h1).1 (fun e=>?_)).trans h1⟩,hT4.mono (fun i _ e hp=>?_),some ⟨g3,0,none⟩,c3,?_,?_,HQ3.out.trans hT4 (fun i hi e=>?_),fun i e=>(hg3 i e).2,Nat.le_trans HQ5.out hT4.size⟩
  ·rcases e with rfl|e
   ·rw[HQ1.out]at h1;cases h1;cases h2
   ·obtain⟨o',o1,o2⟩:=Qbh HQ2.out e;rw[o1]at h1;cases h1;rw[o2]at h2;cases h2
  ·rcases hp with rfl|⟨h0,ad,e1,rfl⟩
   ·rcases e with e|e
    ·omega
    ·rcases HQ4.out _ e with e|e
     ·have:=HBO.out _ e;omega
     ·omega
   ·have h1:=HPL.out ad e1 h0;rcases e with e|e
    ·omega
    ·rcases HQ4.out _ e with e|e
     ·exact HNE.out ad e1 h0 e
     ·omega
  ·rw[HE.out,List.length_append];exact HB4.out.set _
  ·rw[HE.out];exact Qa4 HST3.out (Turn.setCell w2 ⟨w.heap.size,0,none⟩ _ (S:=(·=w.heap.size)) rfl) (fun i e=>(hg3 i e).1)
  ·rcases e with e|e
   ·omega
   ·rcases HQ4.out _ e with e|e
    ·exact e
    ·omega
 case done=>
  rintro D W hD ⟨oa',oc',q1,q2,q3,q4,q5⟩ hK;rw[List.take_of_length_le (by rw[List.length_reverse];exact Nat.le_refl _)]at q1 q2;have hc1:=q1.cell;have HF:Hid (Stk (W.putObj D (.deferred none)) base oa' oc' (st++l.reverse)∧Turn w (W.putObj D (.deferred none)) (blkO oa)∧∀i,blkO oa' i→blkO oa i∨w.heap.size≤i):=hid (by
   have hT5:Turn W (W.putObj D (.deferred none)) (·=D):=Turn.Qf (grownBy_putObj' W D (.deferred none)) (fun i e _=>by cases e;rfl);refine⟨Qa4 q2 hT5 (fun i hi e=>?_),q3.trans hT5 (fun i hi e=>by have:=HZ.out;omega),fun i e=>(q4 i e).imp id (fun z=>by omega)⟩;obtain⟨o,o1,o2⟩:=Qbh q2 hi;rw[e,hK]at o1;cases o1
   cases o2)
  clear q1 q2 q3 q4 q5
  gi_wp2
  go_wp2;refine⟨by simp,.inl ⟨_,_,rfl,run_takeDeferred hK,?_⟩⟩;exact⟨_,results_tmp rfl _ _ _,_,_,rfl,HF.out⟩
end Sp
end Go.Proofs.YtgffbbdcbkikhaaGreatDoor
