/- Parts of the proof. -/
import Derived.Deep.LoopGhost
import Derived.Test.YtljanfnhmhimiaaGreatScH
import Derived.Test.YtljanfnhmhimiaaGreatScJ
set_option maxRecDepth 100000
set_option maxHeartbeats 8000000
open Go.Lib (hid)
namespace Go.Proofs.YtljanfnhmhimiaaGreat
namespace In
open Go.RowKit Go.Joins
open Bs (Qj)
open Ref1 (GrowB)
open Oct (varB putB)
theorem Qma:∀x:Fin 256,bits .or .u8 ((x.val:Nat):Int) 128=((x.val:Nat):Int) % 128+128:=by decide +kernel
theorem or128(v:Int):bits .or .u8 (v % 256) 128=v % 128+128:=by
 obtain⟨n,hn⟩:∃n:Nat,v % 256=(n:Int):=⟨(v % 256).toNat,by omega⟩;have h:=Qma ⟨n,by omega⟩;have e:((n:Nat):Int) % 128=v % 128:=by omega
 rw[hn,←e];exact h
theorem Qen(f:Nat)(v:Int)(h:v<128):varB f v=[v]:=by cases f <;> simp[varB,h]
theorem Qf5(f:Nat)(v:Int)(h:128≤v):varB (f+1) v=(v % 128+128) :: varB f (v / 128):=by simp only[varB];rw[if_neg (by omega)]
theorem Qao(base:Nat)(v0:Value)(n:Nat)(l:List Int)(v:Int)(w:World)(hown:w.ownsRow base 5 1 v0 n (l.map (Value.int .u8)))(hbase:base≤w.heap.size)(h0:0≤v)(h1:v<18446744073709551616)(hn:n≤1000000000) :
  Calls Tryz.prog 44 #[v0,.int .u64 v] w (GrowB base w (l++varB 9 v) (n+(varB 9 v).length)):=by
 obtain⟨i0,hi,hz0,hz1,hz2⟩:=info_parts Qj;have HO:=hid hown;have HB:Hid (Below base w w):=hid (Below.refl _ w);have HBs:=hid hbase;obtain⟨L,hL⟩:∃L,varB 9 v=L:=⟨_,rfl⟩;have h9:(2:Int)*128 ^ 9=18446744073709551616:=by decide
 have HV:Hid (∃f,L=[]++varB f v∧v<2*128 ^ f∧f=9):=hid ⟨9,by rw[←hL];rfl,by omega,rfl⟩;clear h9;rw[hL];clear hown hL;go_enter Tryz.func44,Tryz.ntmps44
 go_wp2
 go_loopg [0,1] 9 (fun gh so sv wr=>∃(k:Nat) (xs:List Int) (cur:Int) (V:Value),k+gh=9∧V=so∧sv=.int .u64 cur∧0≤cur∧Hid (cur<18446744073709551616)∧Hid (xs.length=k∧L=xs++varB gh cur∧cur<2*128 ^ gh) ∧
   Hid (wr.ownsRow base 5 1 V (n+k) ((l++xs).map (Value.int .u8)))∧Hid (Below base w wr))
 case atStart=>exact⟨0,[],v,v0,by omega,rfl,rfl,h0,hid h1,hid (by
  obtain⟨f,a,b,rfl⟩:=HV.out;exact⟨rfl,a,b⟩),hid (by simpa using HO.out),HB⟩
 case round=>
  obtain⟨k,xs,cur,V,hk,rfl,rfl,c0,C1,HX,HO2,HB2⟩:=hrel;have c1:=C1.out;have hor:=or128 cur;by_cases hge:128≤cur
  ·cases gk with
   |zero=>
    exfalso
    have:=HX.out.2.2;simp at this;omega
   |succ gh=>
    have hwb:base≤wr.heap.size:=Nat.le_trans HBs.out HB2.out.size;have HWb:=hid hwb;have hlt:¬cur<128:=by omega
    clear c1 hwb;go_wp2_with (at_builtin;refine wpList_append_own _ rfl (.tmp 7) (.tmp 11) 45 rfl base 5 i0 (.int .u8 0) 1 1 Tryz.underlying45 hi hz0 hz1 hz2 rfl (by decide) V (n+k) _ rfl (HO2.out.alloc _) ⟨wr.heap.size,0,none⟩ 1 1 [.int .u8 (cur % 128+128)] rfl rfl (by intro t u ht;match t,ht with|0,ht=>simp at ht;subst ht;exact Pk.Qm wr _ _) (by intro u hu;simp at hu;subst hu;rfl) (by unfold maxLen;omega) (by omega) (by have:=HWb.out;simp;omega) ?_;intro v2 w2 hown2 hgrow2 _)
    go_roundg gh
    case rel=>
     obtain⟨x1,x2,x3⟩:=HX.out;refine⟨k+1,xs++[cur % 128+128],cur / 128,v2,by omega,rfl,by first|rfl|(congr 1),by omega,hid (by have:=C1.out;omega),hid ⟨by simp[x1],?_,?_⟩,hid ?_,hid ((HB2.out.alloc HWb.out _).grown hgrow2 (by have:=HWb.out;simp;omega) (fun j e=>(HO2.out.lt j e).1))⟩
     ·rw[x2,Qf5 gh cur hge,List.append_assoc];rfl
     ·rw[Int.pow_succ]at x3;omega
     ·rw[←List.append_assoc,List.map_append];exact hown2
    case measure=>omega
  ·have hlt:cur<128:=by omega
   have hwb:base≤wr.heap.size:=Nat.le_trans HBs.out HB2.out.size;have HWb:=hid hwb;have hcm:cur % 256=cur:=by omega
   clear c1 hwb hor hge;go_wp2_with (at_builtin;refine wpList_append_own _ rfl (.tmp 15) (.tmp 18) 45 rfl base 5 i0 (.int .u8 0) 1 1 Tryz.underlying45 hi hz0 hz1 hz2 rfl (by decide) V (n+k) _ rfl (HO2.out.alloc _) ⟨wr.heap.size,0,none⟩ 1 1 [.int .u8 cur] rfl rfl (by intro t u ht;match t,ht with|0,ht=>simp at ht;subst ht;exact Pk.Qm wr _ _) (by intro u hu;simp at hu;subst hu;rfl) (by unfold maxLen;omega) (by omega) (by have:=HWb.out;simp;omega) ?_;intro v2 w2 hown2 hgrow2 _)
   obtain⟨g',c',rfl⟩:=ownsRow_form hown2 (by omega);have HF:Hid (GrowB base w (l++L) (n+L.length) (.returned (.slice (some ⟨g',0,none⟩) (n+k+1) c')) w2):=by
    obtain⟨x1,x2,x3⟩:=HX.out;have e:L=xs++[cur]:=by rw[x2,Qen _ _ hlt]
    have el:n+L.length=n+k+1:=by rw[e,List.length_append,x1];rfl
    refine hid ?_;rw[el];refine⟨g',c',rfl,?_,(HB2.out.alloc HWb.out _).grown hgrow2 (by have:=HWb.out;simp;omega) (fun j e=>(HO2.out.lt j e).1)⟩;rw[e,←List.append_assoc,List.map_append];exact hown2
   clear hown2 hgrow2;go_wp2;go_ret
   exact HF.out
end In
end Go.Proofs.YtljanfnhmhimiaaGreat
