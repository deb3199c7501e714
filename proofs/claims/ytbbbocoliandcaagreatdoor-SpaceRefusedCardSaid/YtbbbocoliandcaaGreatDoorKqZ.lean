/- Parts of the proof. -/
import Derived.Test.YtbbbocoliandcaaGreatDoorKqY
set_option maxRecDepth 100000
set_option maxHeartbeats 8000000
open Go.Lib (hid)
namespace Go.Proofs.YtbbbocoliandcaaGreatDoor
namespace Sp
open Go.RowKit Bs Dv Gr
open Cn (CN CC CnOk IsC Ql TakeR freeC TookC)
open Su (Sup SupOk QX Qae QY QaX QbG)
def freeL(K N:List Int):List Nat:=(List.range N.length).filter fun i=>decide (freeC K N i)
theorem QbQ{K N:List Int}{i:Nat}:i∈freeL K N↔freeC K N i:=by
 unfold freeL;rw[List.mem_filter,List.mem_range,decide_eq_true_iff];exact⟨fun h=>h.2,fun h=>⟨h.2.1,h⟩⟩
theorem QaW(K N:List Int):(freeL K N).Pairwise (· < ·):=List.pairwise_lt_range.filter _
theorem Qho{K N:List Int}{i:Nat}(hi:i<(freeL K N).length):TakeR K (setAll N ((freeL K N).take i) 1) (some ((freeL K N).getD i 0))∧(freeL K N).take (i+1)=(freeL K N).take i++[(freeL K N).getD i 0]:=by
 have hlt:∀n∈(freeL K N).take i,n<N.length:=fun n hn=>(QbQ.1 (List.mem_of_mem_take hn)).2.1
 have e:(freeL K N).getD i 0=(freeL K N)[i]:=by rw[List.getD_eq_getElem?_getD,List.getElem?_eq_getElem hi];rfl
 have hm:(freeL K N).getD i 0∈freeL K N:=by rw[e];exact List.getElem_mem hi
 have hs:=QaW K N;have hf:=QbQ.1 hm;have hbefore:∀n∈(freeL K N).take i,n<(freeL K N)[i]:=fun n hn=>by
  obtain⟨j,hj,rfl⟩:=List.getElem_of_mem hn;rw[List.length_take]at hj;rw[List.getElem_take];exact List.pairwise_iff_getElem.1 hs j i (by omega) hi (by omega)
 refine⟨.one _ ⟨hf.1,by rw[QN];exact hf.2.1,?_,hf.2.2.2⟩ fun j hj q=>?_,by rw[List.take_succ_eq_append_getElem hi,e]⟩
 ·rw[Qaq 1 _ N _ hlt,if_neg fun q=>?_]
  ·exact hf.2.2.1
  ·have:=hbefore _ q;omega
 ·obtain⟨q1,q2,q3,q4⟩:=q;rw[QN]at q2;rw[Qaq 1 _ N _ hlt]at q3;by_cases z:j∈(freeL K N).take i
  ·rw[if_pos z]at q3;exact absurd q3 (by decide)
  ·rw[if_neg z]at q3;have hj2:j∈freeL K N:=QbQ.2 ⟨q1,q2,q3,q4⟩;obtain⟨t,ht,rfl⟩:=List.getElem_of_mem hj2;by_cases ti:t<i
   ·exact z (by
     have:(freeL K N)[t]=((freeL K N).take i)[t]'(by rw[List.length_take];omega):=by rw[List.getElem_take]
     rw[this];exact List.getElem_mem _)
   ·rcases Nat.lt_or_eq_of_le (Nat.le_of_not_lt ti) with h1|h1
    ·have:=List.pairwise_iff_getElem.1 hs i t hi ht h1;omega
    ·subst h1;omega
theorem QdG(c:List Int)(l:List Nat)(n:Nat)(v:Int):setAll c (l++[n]) v=(setAll c l v).set n v:=by unfold setAll;rw[List.foldl_append];rfl
def room4(S:Nat):Array Value:=madeCells (Value.int .u32 0).cells S
theorem QhA(S:Nat)(hS:S≤1000000)(W:World):(Instr.makeSlice 38 (.int .i64 0) (.int .i64 (S:Int))).run Tryz.prog W=.ok (.slice (some ⟨W.heap.size,0,none⟩) 0 S) (W.alloc (.cells (room4 S) 35)):=by
 obtain⟨i0,hi,hz0,hz1,hz2⟩:=info_parts Ws.Qbc;have h:=run_make (P:=Tryz.prog) W 38 35 i0 (.int .u32 0) Tryz.underlying38 hi hz0 .i64 .i64 0 (S:Int) (by omega) (by omega) (by rw[hz2];omega) (by omega);rw[hz1,Int.toNat_natCast,Nat.mul_one]at h;exact h
theorem Qiq(W:World)(S:Nat)(hS:S≤1000000):(W.alloc (.cells (room4 S) 35)).ownsRow W.heap.size 35 1 (.slice (some ⟨W.heap.size,0,none⟩) 0 S) 0 []:=
 World.ownsRow_made (base:=W.heap.size) (e:=35) (size:=1) W (room4 S) S (Nat.le_refl _) (by unfold maxLen;omega) (by unfold room4;rw[size_madeCells,Nat.mul_one])
def ints(l:List Nat):List Int:=l.map fun n:Nat=>(n:Int)
def TakenX(w0 w:World)(g h cap:Nat)(size:Int)(n:Nat)(N:List Int)(l:List Nat)(e:Ending)(w':World):Prop:=
 ∃a c,e=.returned (.tuple #[.slice a l.length c,.int .i64 0])∧Ws.Seg w' a l.length c (ints l)∧(∀ad,a=some ad→w.heap.size≤ad.block)∧CN w0 w' g h cap size n (setAll N l 1)∧Turn w w' (·=h)
theorem QbD(w0 w:World)(g h cap:Nat)(size:Int)(n:Nat)(N K:List Int)(p:Option Addr)(k:Nat)(hc:CN w0 w g h cap size n N)(hk:k≤(freeL K N).length)
  (hT:∀W N',Turn w W (·=h)→CN w0 W g h cap size n N'→Calls Tryz.prog 82 #[.pointer (some ⟨g,0,none⟩),.pointer p] W (TookC K N' g h cap size W)) :
  Calls Tryz.prog 69 #[.pointer (some ⟨g,0,none⟩),.pointer p,.int .i64 (k:Int)] w (TakenX w0 w g h cap size n N ((freeL K N).take k)):=by
 obtain⟨i0,hi,hz0,hz1,hz2⟩:=info_parts Ws.Qbc;have hk4:k≤4096:=by
  have h1:(freeL K N).length≤N.length:=by unfold freeL;exact Nat.le_trans (List.length_filter_le _ _) (by rw[List.length_range];exact Nat.le_refl _)
  have h2:=hc.cc.small;omega
 have HLT:=hid (⟨hc.cc.lt,hc.cc.glt⟩:h<w.heap.size∧g<w.heap.size);have hmk:=QhA k (by omega);have HO0:=hid (Qiq w k (by omega));have hg0:=Qb w (.cells (room4 k) 35);have HC0:=hid (hc.old hg0);have HT0:Hid (Turn w (w.alloc (.cells (room4 k) 35)) (·=h)):=hid ((Qd hg0).mono (fun _ _ e=>e.elim));obtain⟨W1,hW1⟩:∃X,w.alloc (.cells (room4 k) 35)=X:=⟨_,rfl⟩;rw[hW1]at HO0 HC0 HT0;have HW1:=hid hW1;have HNX:=hid (fun i (hi:i<k)=>Qho (K:=K) (N:=N) (i:=i) (by omega));have HFN:Hid (∀i,i<k→(freeL K N).getD i 0<n∧2≤(freeL K N).getD i 0):=hid (fun i hi=>by
  have hm:(freeL K N).getD i 0∈freeL K N:=by rw[List.getD_eq_getElem?_getD,List.getElem?_eq_getElem (show i<(freeL K N).length by omega)];exact List.getElem_mem _
  have:=QbQ.1 hm;have h3:=hc.ok.len;exact⟨by have:=this.2.1;omega,this.1⟩)
 have HKL:=hid hk;have HT:=hid hT;have HNB:Hid (n≤4096):=hid (by have:=hc.cc.small;have:=hc.ok.len;omega);have HLL:Hid (∀i,i≤k→((freeL K N).take i).length=i):=hid (fun i hi=>by rw[List.length_take];omega);clear hk hT hc hg0 hW1;go_enter Tryz.func69,Tryz.ntmps69
 go_wp2;rw[HW1.out]
 go_loopw [8,14] (fun s8 si wr=>∃(i g' c':Nat),i≤k∧si=.int .i64 i∧s8=.slice (some ⟨g',0,none⟩) i c'∧Hid (wr.ownsRow w.heap.size 35 1 (.slice (some ⟨g',0,none⟩) i c') i ((ints ((freeL K N).take i)).map (Value.int .u32)))∧Hid (CN w0 wr g h cap size n (setAll N ((freeL K N).take i) 1))∧Hid (Turn w wr (·=h))) (fun _ si _=>k-(intOf si).toNat)
 case atStart=>exact⟨0,w.heap.size,k,Nat.zero_le _,rfl,rfl,HO0,HC0,HT0⟩
 case round=>
  clear HO0 HC0 HT0 hmk;obtain⟨i,g',c',hik,rfl,rfl,HO,HC,HTU⟩:=hrel;by_cases hlt:i<k
  ·have hq:decide (i<k)=true:=decide_eq_true hlt;have HTK:=hid (HT.out wr _ HTU.out HC.out);have HTR:=hid (HNX.out i hlt).1;have HTL:=hid (HNX.out i hlt).2;have hfb:=HFN.out i hlt;obtain⟨m,hm⟩:∃m,(freeL K N).getD i 0=m:=⟨_,rfl⟩;rw[hm]at HTR HTL hfb;have HFB:=hid hfb;clear hm hfb;go_wp2_with fail
   refine HTK.out.mono ?_;intro e w2 htk;obtain⟨rfl,hc2,ht2⟩:=HC.out.took HTR.out htk;have HC2:Hid (CN w0 w2 g h cap size n (setAll N ((freeL K N).take (i+1)) 1)):=hid (by rw[HTL.out,QdG];exact hc2);have HTU2:=hid (HTU.out.trans ht2 (fun _ _ e=>e));have hhl:=HLT.out;have HO1:=hid (QY HO.out ht2 (fun i h e=>by have e2:i=_:=e;omega));have hl2:w.heap.size≤w2.heap.size:=HTU2.out.size;clear htk hc2 ht2 HTK HO HC HTU hhl;dsimp only;go_wp2_with (first
    |(at_builtin;refine wpList_append_own _ rfl (.tmp 25) (.tmp 27) 38 rfl w.heap.size 35 i0 (.int .u32 0) 1 4 Tryz.underlying38 hi hz0 hz1 hz2 rfl (by decide) (.slice (some ⟨g',0,none⟩) i c') i _ rfl (HO1.out.alloc _) ⟨w2.heap.size,0,none⟩ 1 1 [.int .u32 (m:Int)] rfl rfl (by intro t u ht;match t,ht with|0,ht=>simp at ht;subst ht;exact Qae w2 _ _) (by intro u hu;simp at hu;subst hu;rfl) (by unfold maxLen;omega) (by omega) (by simp only[World.size_alloc];omega) ?_;intro v' w4' hown hgr _;obtain⟨g3,c3,rfl⟩:=QX hown (by omega);have HTA:=hid ((Turn.alloc w2 (.cells #[.int .u32 (m:Int)] 35) (fun i=>w.heap.size≤i)).trans (Turn.Qm hgr (fun i e _=>((HO1.out.alloc (.cells #[.int .u32 (m:Int)] 35)).lt i (by first|exact e|(rw[←e]))).1)) (fun _ _ h=>h));have HOW:=hid hown;clear hown hgr)
    |fail)
   have HO3:Hid (w4'.ownsRow w.heap.size 35 1 (.slice (some ⟨g3,0,none⟩) (i+1) c3) (i+1) ((ints ((freeL K N).take (i+1))).map (Value.int .u32))):=hid (by
    rw[HTL.out];unfold ints;rw[List.map_append,List.map_append];exact HOW.out)
   have hhl:=HLT.out;have HC3:Hid (CN w0 w4' g h cap size n (setAll N ((freeL K N).take (i+1)) 1)):=hid (Qv HC2.out HTA.out (QV HC2.out.gr HTA.out (fun q hq=>by have:=HC2.out.gr.size;have h5:w.heap.size≤q:=hq;have h6:=HC2.out.newg;omega)) (by show ¬w.heap.size≤g;omega) (by show ¬w.heap.size≤h;omega));have HTU3:Hid (Turn w w4' (·=h)):=hid (HTU2.out.trans HTA.out (fun i h e=>by have e2:w.heap.size≤i:=e;omega));clear hhl;go_roundw
   case rel=>exact⟨i+1,g3,c3,by omega,by go_num,rfl,HO3,HC3,HTU3⟩
   case measure=>simp[intOf];omega
  ·have hq:decide (i<k)=false:=decide_eq_false hlt;obtain rfl:i=k:=by omega
   have HLI:=hid (HLL.out i (Nat.le_refl _));go_wp2;go_ret2
   refine⟨some ⟨g',0,none⟩,c',by rw[HLI.out];rfl,by rw[HLI.out];exact QbG HO.out,fun ad had=>?_,HC.out,HTU.out⟩;obtain⟨a2,c2,e2,h3⟩:=QaX HO.out;cases e2
   exact h3 ad had
theorem QhS(w0 w:World)(g h cap:Nat)(size:Int)(n:Nat)(N:List Int)(a:Option Addr)(m c:Nat)(l:List Nat)(hc:CN w0 w g h cap size n N)(hs:Ws.Seg w a m c (ints l))(hl:∀q∈l,2≤q∧q<n)(hm:m≤100000)(ha:∀ad,a=some ad→ad.block≠h) :
  Calls Tryz.prog 95 #[.pointer (some ⟨g,0,none⟩),.slice a m c] w fun e w'=>e=.returned (.tuple #[])∧CN w0 w' g h cap size n (setAll N l 0)∧Turn w w' (·=h):=by
 have HLN:Hid (l.length=m):=hid (by have:=hs.len;unfold ints at this;rw[List.length_map]at this;exact this);have HNB:Hid (n≤4096∧N.length=n):=hid (by have:=hc.cc.small;have:=hc.ok.len;omega);have HSG:=hid hs;have HAH:=hid ha;have HL:=hid hl;have HC0:=hid hc;have hle:=hs.le;clear hs ha hl hc;go_enter Tryz.func95,Tryz.ntmps95
 go_wp2
 go_loopw [8] (fun si wr=>∃i:Nat,i≤m∧si=.int .i64 i∧Hid (CN w0 wr g h cap size n (setAll N (l.take i) 0))∧Hid (Turn w wr (·=h))) (fun si _=>m-(intOf si).toNat)
 case atStart=>exact⟨0,Nat.zero_le _,rfl,HC0,hid (Turn.refl _ _)⟩
 case round=>
  clear HC0;obtain⟨i,him,rfl,HC,HT⟩:=hrel;by_cases hlt:i<m
  ·have hq:decide (i<m)=true:=decide_eq_true hlt;obtain⟨ga,oa,rfl,hcell⟩:=(Qo HSG.out HT.out (fun ad had=>HAH.out ad had)).addr (by omega);have hck:=hcell i hlt;have hi2:i<l.length:=by rw[HLN.out];exact hlt
   have e1:(ints l).getD i 0=(l.getD i 0:Nat):=by unfold ints;rw[List.getD_eq_getElem?_getD,List.getD_eq_getElem?_getD,List.getElem?_map,List.getElem?_eq_getElem hi2];rfl
   rw[e1]at hck;have hqb:=HL.out (l.getD i 0) (by rw[List.getD_eq_getElem?_getD,List.getElem?_eq_getElem hi2];exact List.getElem_mem hi2);have HTK:Hid (l.take (i+1)=l.take i++[l.getD i 0]):=hid (by rw[List.take_succ_eq_append_getElem hi2,List.getD_eq_getElem?_getD,List.getElem?_eq_getElem hi2];rfl);obtain⟨q,hqq⟩:∃q,l.getD i 0=q:=⟨_,rfl⟩;rw[hqq]at hck hqb HTK;have HQ:=hid hqb;have hq32:q<4294967296:=by have:=HNB.out;omega
   clear hcell e1 hqq hi2 hqb;go_wp2
   go_loopw [12] (fun _ wx=>∃M:List Int,Hid (CN w0 wx g h cap size n M)∧Hid (M.set q 0=setAll N (l.take (i+1)) 0∧M.length=n)∧Hid (Turn w wx (·=h))) (fun _ wx=>match wx.cell? ⟨h,q,none⟩ with|some v=>(intOf v).toNat|none=>0)
   case atStart=>exact⟨_,HC,hid ⟨by rw[HTK.out,QdG],by rw[QN];exact HNB.out.2⟩,HT⟩
   case round=>
    clear HC HT hck;obtain⟨M,HC,HM,HT⟩:=hrel;have HGT:=hid (HC.out.get q hq32);have HSB:=hid (HC.out.sub q hq32);have hcell:=(HC.out.cc.row q (by rw[HM.out.2];exact HQ.out.2)).1;have hnn:=(HC.out.ok.at' q);have HVV:Hid (M.getD q 0≠0→Cn.subE M q=0∧Cn.subN M q=M.set q (M.getD q 0-1)):=hid (fun hv=>by
     have h1:Cn.subE M q=0:=by
      unfold Cn.subE;rw[if_neg (fun z=>z ⟨HQ.out.1,by rw[HM.out.2];exact HQ.out.2⟩),if_neg hv]
     exact⟨h1,if_pos h1⟩)
    have HZZ:Hid (M.getD q 0=0→M=M.set q 0):=hid (fun hv=>by
     refine(List.ext_getElem? fun j=>?_);by_cases e:j=q
     ·subst e;rw[List.getElem?_set_self (by rw[HM.out.2];exact HQ.out.2),List.getElem?_eq_getElem (by rw[HM.out.2];exact HQ.out.2)];rw[List.getD_eq_getElem?_getD,List.getElem?_eq_getElem (by rw[HM.out.2];exact HQ.out.2)]at hv;exact congrArg some hv
     ·rw[List.getElem?_set_ne (fun z=>e z.symm)])
    obtain⟨v,hv⟩:∃v,M.getD q 0=v:=⟨_,rfl⟩;rw[hv]at HGT hcell hnn HVV HZZ;have HV:=hid hv;have HCELL:=hid hcell;by_cases h0:v=0
    ·subst h0;have HX:Hid (CN w0 wr g h cap size n (setAll N (l.take (i+1)) 0)):=hid (by
      rw[←HM.out.1,←HZZ.out rfl];exact HC.out)
     clear HC HM HSB HVV HZZ hcell hv hnn;go_wp2_with (first|(go_at_call 87;refine HGT.out.mono ?_;rintro e w' ⟨rfl,rfl⟩)|fail)
     go_roundw
     case rel=>exact⟨i+1,by omega,by go_num,HX,HT⟩
     case measure=>simp[intOf];omega
    ·have q0:decide (0<v)=true:=decide_eq_true (by omega);obtain⟨hs1,hs2⟩:=HVV.out h0;have HS2:=hid hs2;have hmeas:(match wr.cell? ⟨h,q,none⟩ with|some v=>(intOf v).toNat|none=>0)=v.toNat:=by rw[hcell];rfl
     have HME:=hid hmeas;have HVP:Hid (0<v):=hid (by omega);clear hs1 hs2 hmeas hcell hv h0 hnn HVV HZZ;go_wp2_with (first|(go_at_call 87;refine HGT.out.mono ?_;rintro e w' ⟨rfl,rfl⟩)|fail)
     refine HSB.out.mono ?_;rintro e w3 ⟨rfl,hc3,ht3⟩;have HC3:Hid (CN w0 w3 g h cap size n (M.set q (v-1))):=hid (by rw[←HS2.out];exact hc3);have HT3:=hid (HT.out.trans ht3 (fun _ _ e=>e));have HM3:Hid ((M.set q (v-1)).set q 0=setAll N (l.take (i+1)) 0∧(M.set q (v-1)).length=n):=hid ⟨by rw[List.set_set];exact HM.out.1,by rw[List.length_set];exact HM.out.2⟩;have HME3:Hid ((match w3.cell? ⟨h,q,none⟩ with|some v=>(intOf v).toNat|none=>0)=(v-1).toNat):=hid (by
      have h5:=(HC3.out.cc.row q (by rw[HM3.out.2];exact HQ.out.2)).1;rw[Ql _ _ _ _ (by rw[HM.out.2];exact HQ.out.2),if_pos rfl]at h5;rw[h5]
      rfl)
     clear hc3 ht3 HSB HGT HC HM HS2;dsimp only;go_wp2;go_roundw
     case rel=>exact⟨M.set q (v-1),HC3,HM3,HT3⟩
     case measure=>
      rw[HME3.out,HME.out];have:=HVP.out;omega
  ·have hq:decide (i<m)=false:=decide_eq_false hlt;obtain rfl:i=m:=by omega
   have HX:Hid (CN w0 wr g h cap size n (setAll N l 0)):=hid (by
    have h1:=HC.out;rw[List.take_of_length_le (by rw[HLN.out];exact Nat.le_refl _)]at h1;exact h1)
   go_wp2
   go_end0
   exact⟨rfl,HX.out,HT.out⟩
end Sp
end Go.Proofs.YtbbbocoliandcaaGreatDoor
