/- Parts of the proof. -/
import Derived.Test.YtgffbbdcbkikhaaGreatDoorKbI
import Derived.Test.YtgffbbdcbkikhaaGreatDoorKbL
set_option maxRecDepth 100000
set_option maxHeartbeats 8000000
open Go.Lib (hid)
namespace Go.Proofs.YtgffbbdcbkikhaaGreatDoor
namespace Cn
open Go.RowKit Go.Shelf Bs Dv Gr
open Cf (Kept FeedsL)
attribute [local go_sem] Oper.semAt_some
def piecesC(n each:Nat):Nat:=(n+each-1) / each
theorem Qaj(n each k:Nat)(he:0<each):k<piecesC n each↔k*each<n:=by
 unfold piecesC;rw[Nat.lt_div_iff_mul_lt he];omega
def pieceL(n each k:Nat):Nat:=min each (n-k*each)
def encP(h n each:Nat)(k:Nat):Array Value:=#[.slice (some ⟨h,k*each,none⟩) (pieceL n each k) (pieceL n each k)]
theorem Qe4(a:Option Addr)(n c each:Nat)(w:World)(he:1≤each) :
  Calls Tryz.prog 119 #[.slice a n c,.int .i64 each] w fun e w'=>
   e=.returned (.func (.func 140) #[] #[.pointer (some ⟨w.heap.size,0,none⟩),.pointer (some ⟨w.heap.size+1,0,none⟩)]) ∧
   w'=((w.alloc (.cells #[.slice a n c] 133)).alloc (.cells #[.int .i64 each] 3)):=by
 have hmf:∀(fn:Fn) (first cap:Array Value) (w:World),(Instr.makeFunc fn first cap).run Tryz.prog w=.ok (.func fn first cap) w:=fun _ _ _ _=>rfl
 have hq:decide ((each:Int)<1)=false:=decide_eq_false (by omega);go_enter Tryz.func119,Tryz.ntmps119
 go_wp2;go_ret
 exact⟨rfl,rfl⟩
theorem QjW(m:Nat)(hm:1≤m)(y:Nat)(P:Nat→Prop)(bA bB h n c each:Nat)(J:Nat→World→Prop)(Jx:World→Prop)(B:Nat)(hJ:AbidesFrom B J)
  (hY:∀k W1,k<piecesC n each→J k W1→YieldAt Fence.wide (m-1) Tryz.prog y (encP h n each k) W1 fun x W'=>(x=.returned (.bool true)∧J (k+1) W'∧Kept P W1 W')∨(x=.returned (.bool false)∧Jx W'))
  (W:World) (hA:W.cell? ⟨bA,0,none⟩=some (.slice (some ⟨h,0,none⟩) n c)) (hB:W.cell? ⟨bB,0,none⟩=some (.int .i64 each)) (pA:P bA) (pB:P bB) (hn:n≤4096) (hc:n≤c) (he:1≤each∧each≤4096) (h0:J 0 W) :
  CallsIn Fence.wide m Tryz.prog 140 #[.func (.yield y) #[] #[],.pointer (some ⟨bA,0,none⟩),.pointer (some ⟨bB,0,none⟩)] W fun e W'=>(∃z,e=.returned z)∧(J (piecesC n each) W'∨Jx W'):=by
 have HJ:=hid hJ;have HY:=hid hY;have HA:=hid hA;have HB:=hid hB;have HPA:=hid pA;have HPB:=hid pB;have HPL:=hid (fun k=>Qaj n each k (by omega));clear hJ hY hA hB pA pB;refine callsIn_of_wp Tryz.func140 rfl trivial ?_ rfl;simp only[Tryz.ntmps140,List.size_toArray,List.length_cons,List.length_nil,Nat.reduceAdd,Nat.reduceSub,Array.replicate_succ,Array.replicate_zero,List.push_toArray,List.append_toArray,List.nil_append,List.cons_append];refine wpIn_wide.2 ?_;go_wp2
 go_loopw [4] (fun si wr=>∃k i:Nat,si=.int .i64 i∧i≤8192∧Hid (k*each=i)∧Hid (k≤piecesC n each)∧Hid (J k wr)∧Hid (Kept P W wr)) (fun si _=>n-(intOf si).toNat)
 case atStart=>exact⟨0,0,rfl,by omega,hid (Nat.zero_mul _),hid (Nat.zero_le _),hid h0,hid (Turn.refl _ _)⟩
 case round=>
  obtain⟨k,i,rfl,hi8,HI,HKN,HJs,HK⟩:=hrel;have cA:=HK.out.cell HA.out (fun e=>e HPA.out);have cB:=HK.out.cell HB.out (fun e=>e HPB.out);by_cases hlt:i<n
  ·have hq:decide (i<n)=true:=decide_eq_true hlt;have HKL:Hid (k<piecesC n each):=hid ((HPL.out k).2 (by rw[HI.out];exact hlt));have hci:¬c=i:=by omega
   obtain⟨r,hr⟩:∃r,n-i=r:=⟨_,rfl⟩;obtain⟨q,hqq⟩:∃q,min each r=q:=⟨_,rfl⟩;have hm1:(if n-i<each then((n-i:Nat):Int) else(each:Int))=(q:Int):=by split <;> omega
   have hr2:(n:Int)-(i:Int)=(r:Int):=by omega
   have HENC:Hid (encP h n each k=#[.slice (some ⟨h,i,none⟩) q q]):=hid (by unfold encP pieceL;rw[HI.out,hr,hqq]);have hiq:i+q≤n:=by omega
   have hq1:1≤q:=by omega
   clear hqq hr;go_wp2
   go_quiet (fail)
   obtain⟨V,hV⟩:∃V,wr.drewN nq=V:=⟨_,rfl⟩;have hJ2:=HJ.out k wr (wr.drewN nq) none HJs.out ⟨rfl,rfl,rfl,Nat.le_refl _,fun _ _ _=>rfl⟩ (fun _ e=>by cases e);have HKV:Hid (Kept P W V):=hid (by rw[←hV];exact Kept.t HK.out (Turn.drewN wr nq _));rw[hV]at hJ2 ⊢;have dA:=HKV.out.cell HA.out (fun e=>e HPA.out);have dB:=HKV.out.cell HB.out (fun e=>e HPB.out);obtain⟨fn,tmps,assign,body,hy,hR⟩:=HY.out k V HKL.out hJ2;rw[HENC.out]at hy;clear hV cA cB hJ2 HJs HK;have e1:(i:Int)+(q:Int)=((i+q:Nat):Int):=by omega
   have e2:IntKind.i64.wrap ((i+q:Nat):Int)=((i+q:Nat):Int):=IntWalk.i64_in _ (by omega);obtain⟨s,hs⟩:∃s,i+q=s:=⟨_,rfl⟩;rw[hs]at e1 e2;have hiq2:i≤s∧s≤n:=by omega
   have hsq:s-i=q:=by omega
   have hsi:¬s=i:=by omega
   have HE1:Hid ((k+1)*each=i+each):=hid (by rw[Nat.add_mul,HI.out,Nat.one_mul]);clear hs;clear hm1;go_upto_region 4 with (fail)
   refine(wpIn_wide (n:=m)).1 ?_
   gi_wp2
   refine hR.mono ?_;rintro e W3 (⟨rfl,hJ3,hk3⟩|⟨rfl,hJx⟩)
   ·have HJ3:=hid hJ3;have HK3:=hid (Kept.t HKV.out hk3);have dB3:=HK3.out.cell HB.out (fun e=>e HPB.out);clear hJ3 hk3 hR hy dA dB
    gi_wp2
    go_wp2;go_roundw
    case rel=>exact⟨k+1,i+each,by go_num,by omega,HE1,hid (by have:=HKL.out;omega),HJ3,HK3⟩
    case measure=>simp[intOf];omega
   ·have HJx:=hid hJx;clear hJx hR hy dA dB
    gi_wp2
    go_wp2;refine bodyPost_ret (results_none rfl _ _ _) rfl ?_;exact⟨⟨_,rfl⟩,.inr HJx.out⟩
  ·have hq:decide (i<n)=false:=decide_eq_false hlt;have HEND:Hid (k=piecesC n each):=hid (by
    have h1:=HKN.out;by_cases h2:k<piecesC n each
    ·have:=(HPL.out k).1 h2;rw[HI.out]at this;omega
    ·omega)
   have HJE:Hid (J (piecesC n each) wr):=hid (by rw[←HEND.out];exact HJs.out);clear HJs;go_wp2
   go_end0
   exact⟨⟨_,rfl⟩,.inl HJE.out⟩
theorem QdB(m:Nat)(hm:1≤m)(P:Nat→Prop)(bA bB h n c each:Nat)(w:World)(hA:w.cell? ⟨bA,0,none⟩=some (.slice (some ⟨h,0,none⟩) n c))(hB:w.cell? ⟨bB,0,none⟩=some (.int .i64 each))(pA:P bA)(pB:P bB)(hPw:∀i,P i→i<w.heap.size)(hn:n≤4096)(hc:n≤c)(he:1≤each∧each≤4096) :
  FeedsL Fence.wide m Tryz.prog 140 #[] #[.pointer (some ⟨bA,0,none⟩),.pointer (some ⟨bB,0,none⟩)] (encP h n each) (piecesC n each) (Kept P) w:=
 fun y J Jx W hW hJ hY h0=>QjW m hm y P bA bB h n c each J Jx W.heap.size hJ hY W
  (by have:=hW.block bA (hPw _ pA);exact(World.cell?_of_block (a:=⟨bA,0,none⟩) this).trans hA)
  (by have:=hW.block bB (hPw _ pB);exact(World.cell?_of_block (a:=⟨bB,0,none⟩) this).trans hB) pA pB hn hc he h0
end Cn
end Go.Proofs.YtgffbbdcbkikhaaGreatDoor
