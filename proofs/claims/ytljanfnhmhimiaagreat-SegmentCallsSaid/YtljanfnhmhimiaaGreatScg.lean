/- Parts of the proof. -/
import Derived.Test.YtljanfnhmhimiaaGreatScd
set_option maxRecDepth 100000
set_option maxHeartbeats 8000000
open Go.Lib (hid)
namespace Go.Proofs.YtljanfnhmhimiaaGreat
namespace Sg
open Go.RowKit Go.Joins Bs Oct
open Ref1 (Qcx)
open In (or128 Qf5 Qen)
open Tx (strB)
structure Bt (base:Nat) (w w':World):Prop where
 below:Below base w w'
 else_:∀i,i<w.heap.size→(∀cur f,w.heap[i]?≠some (.cells cur 5 f))→w'.heap[i]?=w.heap[i]?
theorem Bt.refl(base:Nat)(w:World):Bt base w w:=⟨Below.refl _ _,fun _ _ _=>rfl⟩
theorem Bt.trans{base:Nat}{w w1 w2:World}(h:Bt base w w1)(k:Bt base w1 w2):Bt base w w2:=⟨h.below.trans k.below,fun i hi hn=>by
 have e:=h.else_ i hi hn;rw[k.else_ i (Nat.lt_of_lt_of_le hi h.below.size) (by rw[e];exact hn),e]⟩
theorem Bt.alloc{base:Nat}{w w1:World}(h:Bt base w w1)(hb:base≤w1.heap.size)(o:Obj):Bt base w (w1.alloc o):=⟨h.below.alloc hb o,fun i hi hn=>by
 have e:=h.else_ i hi hn;rw[(World.grownBy_alloc w1 o none).block i (Nat.lt_of_lt_of_le hi h.below.size) (by simp),e]⟩
theorem Bt.grown{base e s n:Nat}{w w1 w2:World}{V:Value}{xs:List Value}(h:Bt base w w1)(hown:w1.ownsRow base 5 s V n xs)(hg:w1.grownBy w2 V.ownBlock)(hb:base≤w1.heap.size)(_:e=e):Bt base w w2:=
 ⟨h.below.grown hg hb (fun i q=>(hown.lt i q).1),fun i hi hn=>by
  have e:=h.else_ i hi hn;rw[hg.block i (Nat.lt_of_lt_of_le hi h.below.size) (fun q=>by
   rcases hown.2 with ⟨rfl,_⟩|⟨g,cap,cur,rfl,_,hgg,_⟩
   ·cases q
   ·obtain rfl:i=g:=(Option.some.inj q);rw[e]at hgg;exact hn _ _ hgg),e]⟩
def GrowT(base:Nat)(w:World)(l:List Int)(n:Nat)(e:Ending)(w':World):Prop:=
 ∃g c,e=.returned (.slice (some ⟨g,0,none⟩) n c)∧w'.ownsRow base 5 1 (.slice (some ⟨g,0,none⟩) n c) n (l.map (Value.int .u8))∧Bt base w w'
theorem QnY(base:Nat)(v0:Value)(n:Nat)(l:List Int)(v:Int)(m:Nat)(w:World)(hown:w.ownsRow base 5 1 v0 n (l.map (Value.int .u8)))(hbase:base≤w.heap.size)(_h0:0≤v)(_h1:v<18446744073709551616)(m1:1≤m)(m8:m≤8)(hn:n≤70368744177664) :
  Calls Tryz.prog 66 #[v0,.int .u64 v,.int .i64 m] w (GrowT base w (l++putB m v) (n+m)):=by
 obtain⟨i0,hi,hz0,hz1,hz2⟩:=info_parts Bs.Qj;go_enter Tryz.func66,Tryz.ntmps66
 go_wp2
 go_loopw [0,7] (fun sv i wr=>∃(k:Nat) (V:Value),k≤m∧i=.int .i64 k∧V=sv∧wr.ownsRow base 5 1 V (n+k) ((l++putB k v).map (Value.int .u8))∧Bt base w wr)
  (fun _ i _=>m-(intOf i).toNat)
 case atStart=>exact⟨0,v0,by omega,rfl,rfl,by simpa [putB] using hown,Bt.refl _ _⟩
 case round=>
  obtain⟨k,V,hk,rfl,rfl,hown,hgr⟩:=hrel;by_cases hlt:k<m
  ·have HP:=hid (Ref1.Qcx k v);have hb2:base≤wr.heap.size:=Nat.le_trans hbase hgr.below.size;go_wp2_with (at_builtin;refine wpList_append_own _ rfl (.tmp 20) (.tmp 27) 45 rfl base 5 i0 (.int .u8 0) 1 1 Tryz.underlying45 hi hz0 hz1 hz2 rfl (by decide) V (n+k) ((l++putB k v).map (Value.int .u8)) rfl (hown.alloc _) ⟨wr.heap.size,0,none⟩ 1 1 [.int .u8 (v / 2 ^ (8*k) % 256)] rfl rfl (by intro t u ht;match t,ht with|0,ht=>simp at ht;subst ht;simp[Addr.add]) (by intro u hu;simp at hu;subst hu;rfl) (by unfold maxLen;omega) (by omega) (by simp;omega) ?_;intro v' w1 hown1 hgrow1 _)
   go_roundw
   case rel=>
    refine⟨k+1,_,by omega,by go_num,rfl,?_,(hgr.alloc hb2 _).grown (e:=0) (hown.alloc _) hgrow1 (by simp;omega) rfl⟩;rw[HP.out,←List.append_assoc,List.map_append];exact hown1
   case measure=>simp[intOf];omega
  ·obtain rfl:k=m:=by omega
   obtain⟨g,c,rfl⟩:=ownsRow_form hown (by omega);have HF:Hid (GrowT base w (l++putB k v) (n+k) (.returned (.slice (some ⟨g,0,none⟩) (n+k) c)) wr):=⟨g,c,rfl,hown,hgr⟩;clear hown hgr;go_wp2;go_ret
   exact HF.out
theorem QjM(base:Nat)(v0:Value)(n:Nat)(l:List Int)(v:Int)(w:World)(hown:w.ownsRow base 5 1 v0 n (l.map (Value.int .u8)))(hbase:base≤w.heap.size)(h0:0≤v)(h1:v<18446744073709551616)(hn:n≤1000000000) :
  Calls Tryz.prog 44 #[v0,.int .u64 v] w (GrowT base w (l++varB 9 v) (n+(varB 9 v).length)):=by
 obtain⟨i0,hi,hz0,hz1,hz2⟩:=info_parts Bs.Qj;have HO:=hid hown;have HB:Hid (Bt base w w):=hid (Bt.refl _ w);have HBs:=hid hbase;obtain⟨L,hL⟩:∃L,varB 9 v=L:=⟨_,rfl⟩;have h9:(2:Int)*128 ^ 9=18446744073709551616:=by decide
 have HV:Hid (∃f,L=[]++varB f v∧v<2*128 ^ f∧f=9):=hid ⟨9,by rw[←hL];rfl,by omega,rfl⟩;clear h9;rw[hL];clear hown hL;go_enter Tryz.func44,Tryz.ntmps44
 go_wp2
 go_loopg [0,1] 9 (fun gh so sv wr=>∃(k:Nat) (xs:List Int) (cur:Int) (V:Value),k+gh=9∧V=so∧sv=.int .u64 cur∧0≤cur∧Hid (cur<18446744073709551616)∧Hid (xs.length=k∧L=xs++varB gh cur∧cur<2*128 ^ gh) ∧
   Hid (wr.ownsRow base 5 1 V (n+k) ((l++xs).map (Value.int .u8)))∧Hid (Bt base w wr))
 case atStart=>exact⟨0,[],v,v0,by omega,rfl,rfl,h0,hid h1,hid (by
  obtain⟨f,a,b,rfl⟩:=HV.out;exact⟨rfl,a,b⟩),hid (by simpa using HO.out),HB⟩
 case round=>
  obtain⟨k,xs,cur,V,hk,rfl,rfl,c0,C1,HX,HO2,HB2⟩:=hrel;have c1:=C1.out;have hor:=or128 cur;by_cases hge:128≤cur
  ·cases gk with
   |zero=>
    exfalso
    have:=HX.out.2.2;simp at this;omega
   |succ gh=>
    have hwb:base≤wr.heap.size:=Nat.le_trans HBs.out HB2.out.below.size;have HWb:=hid hwb;have hlt:¬cur<128:=by omega
    clear c1 hwb;go_wp2_with (at_builtin;refine wpList_append_own _ rfl (.tmp 7) (.tmp 11) 45 rfl base 5 i0 (.int .u8 0) 1 1 Tryz.underlying45 hi hz0 hz1 hz2 rfl (by decide) V (n+k) _ rfl (HO2.out.alloc _) ⟨wr.heap.size,0,none⟩ 1 1 [.int .u8 (cur % 128+128)] rfl rfl (by intro t u ht;match t,ht with|0,ht=>simp at ht;subst ht;exact Pk.Qm wr _ _) (by intro u hu;simp at hu;subst hu;rfl) (by unfold maxLen;omega) (by omega) (by have:=HWb.out;simp;omega) ?_;intro v2 w2 hown2 hgrow2 _)
    go_roundg gh
    case rel=>
     obtain⟨x1,x2,x3⟩:=HX.out;refine⟨k+1,xs++[cur % 128+128],cur / 128,v2,by omega,rfl,by first|rfl|(congr 1),by omega,hid (by have:=C1.out;omega),hid ⟨by simp[x1],?_,?_⟩,hid ?_,hid ((HB2.out.alloc HWb.out _).grown (e:=0) (HO2.out.alloc _) hgrow2 (by have:=HWb.out;simp;omega) rfl)⟩
     ·rw[x2,Qf5 gh cur hge,List.append_assoc];rfl
     ·rw[Int.pow_succ]at x3;omega
     ·rw[←List.append_assoc,List.map_append];exact hown2
    case measure=>omega
  ·have hlt:cur<128:=by omega
   have hwb:base≤wr.heap.size:=Nat.le_trans HBs.out HB2.out.below.size;have HWb:=hid hwb;have hcm:cur % 256=cur:=by omega
   clear c1 hwb hor hge;go_wp2_with (at_builtin;refine wpList_append_own _ rfl (.tmp 15) (.tmp 18) 45 rfl base 5 i0 (.int .u8 0) 1 1 Tryz.underlying45 hi hz0 hz1 hz2 rfl (by decide) V (n+k) _ rfl (HO2.out.alloc _) ⟨wr.heap.size,0,none⟩ 1 1 [.int .u8 cur] rfl rfl (by intro t u ht;match t,ht with|0,ht=>simp at ht;subst ht;exact Pk.Qm wr _ _) (by intro u hu;simp at hu;subst hu;rfl) (by unfold maxLen;omega) (by omega) (by have:=HWb.out;simp;omega) ?_;intro v2 w2 hown2 hgrow2 _)
   obtain⟨g',c',rfl⟩:=ownsRow_form hown2 (by omega);have HF:Hid (GrowT base w (l++L) (n+L.length) (.returned (.slice (some ⟨g',0,none⟩) (n+k+1) c')) w2):=by
    obtain⟨x1,x2,x3⟩:=HX.out;have e:L=xs++[cur]:=by rw[x2,Qen _ _ hlt]
    have el:n+L.length=n+k+1:=by rw[e,List.length_append,x1];rfl
    refine hid ?_;rw[el];refine⟨g',c',rfl,?_,(HB2.out.alloc HWb.out _).grown (e:=0) (HO2.out.alloc _) hgrow2 (by have:=HWb.out;simp;omega) rfl⟩;rw[e,←List.append_assoc,List.map_append];exact hown2
   clear hown2 hgrow2;go_wp2;go_ret
   exact HF.out
theorem Ql2(base:Nat)(v0:Value)(n:Nat)(l:List Int)(s:List Int)(w:World)(hown:w.ownsRow base 5 1 v0 n (l.map (Value.int .u8)))(hbase:base≤w.heap.size)(hn:n≤500000000)(hb:Bs.IsB s)(hl:s.length≤65536) :
  Calls Tryz.prog 67 #[v0,.string (strOfNums s)] w (GrowT base w (l++strB s) (n+(strB s).length)):=by
 obtain⟨i0,hi,hz0,hz1,hz2⟩:=info_parts Bs.Qj;have hss:=strOfNums_size s;have HE:Hid (strB s=varB 9 (s.length:Int)++s):=hid rfl;obtain⟨q,hq⟩:∃q,s.length=q:=⟨_,rfl⟩;have HQ:=hid hq;rw[hq]at hss hl HE;have hwu:=Tx.wrap_u64 (n:=q) (by omega);have HP:=hid (QjM base v0 n l (q:Int) w hown hbase (by omega) (by omega) (by omega));have hvl:=Oct.QE 9 (q:Int);obtain⟨p,hp⟩:∃p,(varB 9 (q:Int)).length=p:=⟨_,rfl⟩;rw[hp]at HP hvl;have HPl:=hid hp;have HB:=hid hb;have HSS:=hid hss;have HBa:=hid hbase;clear hown hbase hb hq hp;go_enter Tryz.func67,Tryz.ntmps67
 go_wp2_with fail
 refine HP.out.mono ?_;rintro e w1 ⟨g,c,rfl,hown1,hb1⟩;have HO1:=hid hown1;have HB1:=hid hb1;have HS1:Hid (base≤w1.heap.size):=hid (Nat.le_trans HBa.out hb1.below.size);clear hown1 hb1;dsimp only;go_wp2_with (first
  |(at_builtin;refine Lib.wpList_append_own_string _ rfl (.tmp 9) (.tmp 10) 45 9 rfl base 5 i0 Tryz.underlying45 Tryz.underlying9 hi hz0 hz1 hz2 _ (n+p) _ rfl HO1.out (strOfNums s) rfl (by rw[HSS.out];unfold maxLen;omega) (by rw[HSS.out];omega) HS1.out ?_;intro v3 w3 hown3 hgrow3 hnil3)
  |fail)
 rw[HSS.out,Tx.QbO s HB.out,←List.map_append]at hown3;obtain⟨g3,c3,rfl⟩:=Go.Joins.ownsRow_form hown3 (by have:=Oct.QaN 9 (q:Int);have:=HPl.out;omega);have HF:Hid (GrowT base w (l++strB s) (n+(strB s).length) (.returned (.slice (some ⟨g3,0,none⟩) (n+p+q) c3)) w3):=by
  have hlen:n+(strB s).length=n+p+q:=by rw[HE.out,List.length_append,HPl.out,HQ.out,Nat.add_assoc]
  refine hid ?_;rw[hlen];refine⟨g3,c3,rfl,?_,HB1.out.grown (e:=0) HO1.out hgrow3 HS1.out rfl⟩;rw[HE.out,←List.append_assoc];exact hown3
 clear hown3 hgrow3 hnil3;go_wp2;go_ret
 exact HF.out
end Sg
end Go.Proofs.YtljanfnhmhimiaaGreat
