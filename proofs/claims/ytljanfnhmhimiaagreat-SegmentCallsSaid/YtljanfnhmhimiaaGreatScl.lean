/- Parts of the proof. -/
import Derived.Test.YtljanfnhmhimiaaGreatSch
import Derived.Test.YtljanfnhmhimiaaGreatSck
set_option maxRecDepth 100000
set_option maxHeartbeats 8000000
open Go.Lib (hid)
namespace Go.Proofs.YtljanfnhmhimiaaGreat
namespace Sg
open Go.RowKit Go.Joins Zn Zr Dv
open In (At RR)
open Nu (getN cnt resN)
theorem QjD{P:Program}{fn:Func}{a b p c d:Tmp}{ty:TypeId}(h:fn.results=#[.tmp a,.tmp b,.cell p ty,.tmp c,.tmp d])(tmps:Array Value)(w:World)(g:Nat)(t:TypeId)(cs:Array Value)(fr:Nat×Nat)(de:TypeDesc)
  (hp:tmps.getD p undef=.pointer (some ⟨g,0,none⟩)) (hg:w.heap[g]?=some (.cells cs t fr))
  (hu:P.underlying ty=some de) (hd:(match de with | .struct _ | .array _ _=>true|_=>false)=true) (hi:(P.info? ty).map (·.size)=some cs.size) :
  (results fn tmps).run P w=.ok (.tuple #[tmps.getD a undef,tmps.getD b undef,.agg cs,tmps.getD c undef,tmps.getD d undef]) w:=by
 have e:(results fn tmps).run P w=((asAddr (tmps.getD p undef)).run P w).andThen fun a1 w₁=>((loadVar ty a1).run P w₁).andThen fun x w₂=>.ok (.tuple #[tmps.getD a undef,tmps.getD b undef,x,tmps.getD c undef,tmps.getD d undef]) w₂:=by
  simp only[results,h];simp[Sem.run_bind,Result.andThen]
 rw[e,hp];simp[asAddr,Result.andThen,run_loadVar_row w g t ty cs fr de hg hu hd hi]
theorem QR{fn:Func}{p u v x y:Tmp}(hf:fn.results=#[.tmp u,.tmp v,.cell p 33,.tmp x,.tmp y])(tmps:Array Value)(w:World)(g:Nat)(z:Zon)(a b c d:Value)(hp:tmps.getD p undef=.pointer (some ⟨g,0,none⟩))
  (hg:ZB w g z) (ha:tmps.getD u undef=a) (hb:tmps.getD v undef=b) (hc:tmps.getD x undef=c) (hd:tmps.getD y undef=d):(results fn tmps).run Tryz.prog w=.ok (.tuple #[a,b,.agg #[.int .i64 z.cnt,.int .i64 z.nul,.int .i64 z.min.k,.int .i64 z.min.n,.string z.min.s,.int .i64 z.max.k,.int .i64 z.max.n,.string z.max.s],c,d]) w:=by
 rw[←ha,←hb,←hc,←hd];exact QjD hf tmps w g _ _ _ _ hp hg Tryz.underlying33 rfl QbG
def RHeadNo(w:World)(e:Ending)(w':World):Prop:=e=.returned (.tuple #[.int .i64 0,.slice none 0 0,.agg #[.int .i64 0,.int .i64 0,.int .i64 0,.int .i64 0,.string ⟨#[]⟩,.int .i64 0,.int .i64 0,.string ⟨#[]⟩],.slice none 0 0,.bool false])∧Turn w w' nowhere
def RHeadYes(w:World)(k:Int)(nl:List Bool)(m:Nat)(z:Zon)(rest:List Int)(e:Ending)(w':World):Prop:=
 ∃a c ra rc,e=.returned (.tuple #[.int .i64 k,.slice a m c,.agg #[.int .i64 z.cnt,.int .i64 z.nul,.int .i64 z.min.k,.int .i64 z.min.n,.string z.min.s,.int .i64 z.max.k,.int .i64 z.max.n,.string z.max.s],.slice ra rest.length rc,.bool true])∧Bl.Seg w' a m c nl∧Bs.Seg w' ra rest.length rc rest∧Oct.IsB rest∧rest.length≤100000000∧Turn w w' nowhere
theorem Qfy{w w':World}{a:Option Addr}{n c:Nat}{l:List Bool}{b:Nat}(h:Bl.Seg w a n c l)(k:Turn w w' (At b))(hS:∀ad,a=some ad→n≠0→ad.block≠b):Bl.Seg w' a n c l:=
 ⟨h.len,h.le,h.cap,h.nil_,fun ad had j u hu=>k.cell (h.at_ ad had j u hu) (by
  have hn:n≠0:=by
   intro e;have:=(List.getElem?_eq_some_iff.1 hu).1;rw[List.length_map,h.len]at this;omega
  have:=hS ad had hn;unfold Addr.add At;split <;> exact this)⟩
theorem Qev{w w':World}{g n c:Nat}{a:Option Addr}{l:List Int}{z:Zon}(hs:Bs.Seg w a n c l)(hh:ZB w g z)(t:Turn w w' (·=g)):Bs.Seg w' a n c l:=by
 refine⟨hs.len,hs.le,hs.cap,hs.nil_,fun ad had j u hu=>t.cell (hs.at_ ad had j u hu) ?_⟩;intro e;have h1:=hs.at_ ad had j u hu;rw[List.getElem?_map]at hu;cases hx:l[j]? with
 |none=>rw[hx]at hu;cases hu
 |some x=>
  rw[hx,Option.map_some]at hu;obtain rfl:=Option.some.inj hu;have hsp:=Zn.Qdp h1;generalize ad.add j=A at h1 e hsp;obtain⟨b0,o0,sp0⟩:=A;replace e:b0=g:=e;replace hsp:sp0=none:=hsp;subst hsp e;unfold ZB at hh;rw[cell_of_row _ _ _ _ _ _ hh]at h1
  match o0 with
  |0=>simp at h1
  |1=>simp at h1
  |2=>simp at h1
  |3=>simp at h1
  |4=>simp at h1
  |5=>simp at h1
  |6=>simp at h1
  |7=>simp at h1
  |o+8=>simp at h1
theorem QdK{w w':World}{g n c:Nat}{a:Option Addr}{l:List Bool}{z:Zon}(hs:Bl.Seg w a n c l)(hh:ZB w g z)(t:Turn w w' (·=g)):Bl.Seg w' a n c l:=by
 refine⟨hs.len,hs.le,hs.cap,hs.nil_,fun ad had j u hu=>t.cell (hs.at_ ad had j u hu) ?_⟩;intro e;have h1:=hs.at_ ad had j u hu;rw[List.getElem?_map]at hu;cases hx:l[j]? with
 |none=>rw[hx]at hu;cases hu
 |some x=>
  rw[hx,Option.map_some]at hu;obtain rfl:=Option.some.inj hu;have hsp:=Zn.Qdp h1;generalize ad.add j=A at h1 e hsp;obtain⟨b0,o0,sp0⟩:=A;replace e:b0=g:=e;replace hsp:sp0=none:=hsp;subst hsp e;unfold ZB at hh;rw[cell_of_row _ _ _ _ _ _ hh]at h1
  match o0 with
  |0=>simp[Bl.encW]at h1
  |1=>simp[Bl.encW]at h1
  |2=>simp[Bl.encW]at h1
  |3=>simp[Bl.encW]at h1
  |4=>simp[Bl.encW]at h1
  |5=>simp[Bl.encW]at h1
  |6=>simp[Bl.encW]at h1
  |7=>simp[Bl.encW]at h1
  |o+8=>simp[Bl.encW]at h1
theorem QjP(w:World):Calls Tryz.prog 39 #[.string ⟨#[]⟩] w (RHeadNo w):=by
 have hZ:Hid (ZB (w.alloc (.cells #[.int .i64 0,.int .i64 0,.int .i64 0,.int .i64 0,.string ⟨#[]⟩,.int .i64 0,.int .i64 0,.string ⟨#[]⟩] 33)) w.heap.size zeroZ):=hid (ZB.new w zeroZ);have HT:Hid (Turn w (w.alloc (.cells #[.int .i64 0,.int .i64 0,.int .i64 0,.int .i64 0,.string ⟨#[]⟩,.int .i64 0,.int .i64 0,.string ⟨#[]⟩] 33)) nowhere):=hid (Turn.alloc w _ nowhere);go_enter Tryz.func39,Tryz.ntmps39
 go_wp2_with (first
  |(with_reducible refine Qo rfl (.tmp 4) (.tmp 29) rfl w.heap.size rfl zeroZ rfl zeroZ hZ.out ?_;intro w4 hz4 ht4)
  |fail)
 refine bodyPost_ret (QR rfl _ _ _ zeroZ _ _ _ _ rfl hz4 rfl rfl rfl rfl) rfl ⟨rfl,Pk.Qc (Ql HT.out.grown ht4 (Nat.le_refl _))⟩
theorem QnC(k0:Int)(t:List Int)(hb:Bs.IsB (k0 :: t))(hk:k0<1)(w:World):Calls Tryz.prog 39 #[.string (strOfNums (k0 :: t))] w (RHeadNo w):=by
 have hk0:=hb k0 (List.mem_cons_self ..);have hidx:=Qa3 k0 t hk0;have hne:(strOfNums (k0 :: t)).toList.isEmpty=false:=by rw[Go.ByteArray.toList_eq];rfl
 have hZ:Hid (ZB (w.alloc (.cells #[.int .i64 0,.int .i64 0,.int .i64 0,.int .i64 0,.string ⟨#[]⟩,.int .i64 0,.int .i64 0,.string ⟨#[]⟩] 33)) w.heap.size zeroZ):=hid (ZB.new w zeroZ);have HT:Hid (Turn w (w.alloc (.cells #[.int .i64 0,.int .i64 0,.int .i64 0,.int .i64 0,.string ⟨#[]⟩,.int .i64 0,.int .i64 0,.string ⟨#[]⟩] 33)) nowhere):=hid (Turn.alloc w _ nowhere);obtain⟨S,hS⟩:∃S,strOfNums (k0 :: t)=S:=⟨_,rfl⟩;rw[hS]at hidx hne ⊢;clear hS hb;go_enter Tryz.func39,Tryz.ntmps39
 go_wp2_with (first
  |(with_reducible refine Qo rfl (.tmp 4) (.tmp 29) rfl w.heap.size rfl zeroZ rfl zeroZ hZ.out ?_;intro w4 hz4 ht4)
  |fail)
 refine bodyPost_ret (QR rfl _ _ _ zeroZ _ _ _ _ rfl hz4 rfl rfl rfl rfl) rfl ⟨rfl,Pk.Qc (Ql HT.out.grown ht4 (Nat.le_refl _))⟩
theorem Qnq(k0:Int)(t:List Int)(hb:Bs.IsB (k0 :: t))(hk1:¬k0<1)(hk:3<k0)(w:World):Calls Tryz.prog 39 #[.string (strOfNums (k0 :: t))] w (RHeadNo w):=by
 have hk0:=hb k0 (List.mem_cons_self ..);have hidx:=Qa3 k0 t hk0;have hne:(strOfNums (k0 :: t)).toList.isEmpty=false:=by rw[Go.ByteArray.toList_eq];rfl
 have hZ:Hid (ZB (w.alloc (.cells #[.int .i64 0,.int .i64 0,.int .i64 0,.int .i64 0,.string ⟨#[]⟩,.int .i64 0,.int .i64 0,.string ⟨#[]⟩] 33)) w.heap.size zeroZ):=hid (ZB.new w zeroZ);have HT:Hid (Turn w (w.alloc (.cells #[.int .i64 0,.int .i64 0,.int .i64 0,.int .i64 0,.string ⟨#[]⟩,.int .i64 0,.int .i64 0,.string ⟨#[]⟩] 33)) nowhere):=hid (Turn.alloc w _ nowhere);obtain⟨S,hS⟩:∃S,strOfNums (k0 :: t)=S:=⟨_,rfl⟩;rw[hS]at hidx hne ⊢;clear hS hb;go_enter Tryz.func39,Tryz.ntmps39
 go_wp2_with (first
  |(with_reducible refine Qo rfl (.tmp 4) (.tmp 29) rfl w.heap.size rfl zeroZ rfl zeroZ hZ.out ?_;intro w4 hz4 ht4)
  |fail)
 refine bodyPost_ret (QR rfl _ _ _ zeroZ _ _ _ _ rfl hz4 rfl rfl rfl rfl) rfl ⟨rfl,Pk.Qc (Ql HT.out.grown ht4 (Nat.le_refl _))⟩
theorem Qj6(k0:Int)(t:List Int)(hb:Bs.IsB (k0 :: t))(hl:(k0 :: t).length≤100000000)(k1:1≤k0)(k3:k0≤3)(hg:getN t=none)(w:World):Calls Tryz.prog 39 #[.string (strOfNums (k0 :: t))] w (RHeadNo w):=by
 have hk0:=hb k0 (List.mem_cons_self ..);have hidx:=Qa3 k0 t hk0;have hwr:IntKind.i64.wrap k0=k0:=IntWalk.i64_in _ (by omega);have q1:¬k0<1:=by omega
 have q3:¬3<k0:=by omega
 have hne:(strOfNums (k0 :: t)).toList.isEmpty=false:=by rw[Go.ByteArray.toList_eq];rfl
 have hex1:(strOfNums (k0 :: t)).extract 1 (strOfNums (k0 :: t)).size=strOfNums t:=by
  rw[QX,strOfNums_size,List.drop_succ_cons,List.drop_zero,List.take_of_length_le (by simp)]
 have hsz:0<(strOfNums (k0 :: t)).size:=by rw[strOfNums_size];exact Nat.zero_lt_succ _
 have hsz1:(1:Int)≤((strOfNums (k0 :: t)).size:Int):=by omega
 have hZ:Hid (ZB (w.alloc (.cells #[.int .i64 0,.int .i64 0,.int .i64 0,.int .i64 0,.string ⟨#[]⟩,.int .i64 0,.int .i64 0,.string ⟨#[]⟩] 33)) w.heap.size zeroZ):=hid (ZB.new w zeroZ);have HT:Hid (Turn w (w.alloc (.cells #[.int .i64 0,.int .i64 0,.int .i64 0,.int .i64 0,.string ⟨#[]⟩,.int .i64 0,.int .i64 0,.string ⟨#[]⟩] 33)) nowhere):=hid (Turn.alloc w _ nowhere);have hbt:Oct.IsB t:=fun x hx=>hb x (List.mem_cons_of_mem _ hx)
 have hlt:t.length≤100000000:=by rw[List.length_cons]at hl;omega
 obtain⟨S,hS⟩:∃S,strOfNums (k0 :: t)=S:=⟨_,rfl⟩;obtain⟨S1,hS1⟩:∃S1,strOfNums t=S1:=⟨_,rfl⟩;rw[hS]at hidx hne hex1 hsz hsz1 ⊢;rw[hS1]at hex1;have HCV:=hid (fun W=>Qag t hbt (by omega) W);rw[hS1]at HCV;have HBT:=hid hbt;have HGN:=hid (fun a n c W hs=>Nu.Qfa (bs:=t) (L:=[]) (z:=0) (E:=4) (m:=0) (by rw[hg];rfl) rfl hbt hlt a n c W hs);clear hS hS1 hb hl hg hbt;obtain⟨cap,w4,hrun,hs4,ht4⟩:=HCV.out (w.alloc (.cells #[.int .i64 0,.int .i64 0,.int .i64 0,.int .i64 0,.string ⟨#[]⟩,.int .i64 0,.int .i64 0,.string ⟨#[]⟩] 33));have hrun2:(convert 9 45 (.string S1)).run Tryz.prog (w.alloc (.cells #[.int .i64 0,.int .i64 0,.int .i64 0,.int .i64 0,.string ⟨#[]⟩,.int .i64 0,.int .i64 0,.string ⟨#[]⟩] 33))=.ok (.slice (some ⟨w.heap.size+1,0,none⟩) t.length cap) w4:=by
  have h:=hrun;rw[World.size_alloc]at h;exact h
 have HS4:Hid (Bs.Seg w4 (some ⟨w.heap.size+1,0,none⟩) t.length cap t):=hid (by rw[World.size_alloc]at hs4;exact hs4);have T4:=hid (HT.out.trans ht4 (fun _ _ h=>h));have Z4:=hid (hZ.out.old ht4.grown);clear hs4 ht4 hZ HT HCV hrun;go_enter Tryz.func39,Tryz.ntmps39
 go_wp2_with fail
 refine(HGN.out _ _ _ _ HS4.out).mono ?_;rintro e w5 ⟨a5,c5,rfl,hs5,ht5⟩;have T5:=hid (T4.out.trans ht5 (fun _ _ h=>h));have Z5:=hid (Z4.out.old ht5.grown);clear hs5 ht5 T4 Z4 HS4 hrun2;dsimp only;go_wp2_with (first
  |(with_reducible refine Qo rfl (.tmp 4) (.tmp 43) rfl w.heap.size rfl zeroZ rfl zeroZ Z5.out ?_;intro w6 hz6 ht6)
  |fail)
 refine bodyPost_ret (QR rfl _ _ _ zeroZ _ _ _ _ rfl hz6 rfl rfl rfl rfl) rfl ⟨rfl,Pk.Qc (Ql T5.out.grown ht6 (Nat.le_refl _))⟩
theorem QlL(k0:Int)(t r0:List Int)(nl:List Bool)(m C:Nat)(hb:Bs.IsB (k0 :: t))(hl:(k0 :: t).length≤100000000)(k1:1≤k0)(k3:k0≤3)(hg:getN t=some (nl,r0))(hm:nl.length=m)(hc:cnt nl=C)(hmC:m=C)(w:World) :
  Calls Tryz.prog 39 #[.string (strOfNums (k0 :: t))] w (RHeadYes w k0 nl m ⟨(m:Int),(C:Int),zeroC,zeroC⟩ r0):=by
 have hk0:=hb k0 (List.mem_cons_self ..);have hidx:=Qa3 k0 t hk0;have hwr:IntKind.i64.wrap k0=k0:=IntWalk.i64_in _ (by omega);have q1:¬k0<1:=by omega
 have q3:¬3<k0:=by omega
 have hne:(strOfNums (k0 :: t)).toList.isEmpty=false:=by rw[Go.ByteArray.toList_eq];rfl
 have hex1:(strOfNums (k0 :: t)).extract 1 (strOfNums (k0 :: t)).size=strOfNums t:=by
  rw[QX,strOfNums_size,List.drop_succ_cons,List.drop_zero,List.take_of_length_le (by simp)]
 have hsz:0<(strOfNums (k0 :: t)).size:=by rw[strOfNums_size];exact Nat.zero_lt_succ _
 have hsz1:(1:Int)≤((strOfNums (k0 :: t)).size:Int):=by omega
 have hZ:Hid (ZB (w.alloc (.cells #[.int .i64 0,.int .i64 0,.int .i64 0,.int .i64 0,.string ⟨#[]⟩,.int .i64 0,.int .i64 0,.string ⟨#[]⟩] 33)) w.heap.size zeroZ):=hid (ZB.new w zeroZ);have HT:Hid (Turn w (w.alloc (.cells #[.int .i64 0,.int .i64 0,.int .i64 0,.int .i64 0,.string ⟨#[]⟩,.int .i64 0,.int .i64 0,.string ⟨#[]⟩] 33)) nowhere):=hid (Turn.alloc w _ nowhere);have hbt:Oct.IsB t:=fun x hx=>hb x (List.mem_cons_of_mem _ hx)
 have hlt:t.length≤100000000:=by rw[List.length_cons]at hl;omega
 obtain⟨S,hS⟩:∃S,strOfNums (k0 :: t)=S:=⟨_,rfl⟩;obtain⟨S1,hS1⟩:∃S1,strOfNums t=S1:=⟨_,rfl⟩;rw[hS]at hidx hne hex1 hsz hsz1 ⊢;rw[hS1]at hex1;have HCV:=hid (fun W=>Qag t hbt (by omega) W);rw[hS1]at HCV;have HBT:=hid hbt;obtain⟨hn4,ht⟩:=Nu.Qa4 hbt hg;obtain⟨q,hq⟩:∃q,(Nu.encN nl).length=q:=⟨_,rfl⟩;have hrl:t.length=q+r0.length:=by rw[ht,List.length_append,hq]
 have hrb:Oct.IsB r0:=fun x hx=>hbt x (by rw[ht];exact List.mem_append_right _ hx)
 have HRB:=hid hrb;have HCN:=hid hc;have hrl2:r0.length≤100000000:=by omega
 have hwq:IntKind.i64.wrap (1+(q:Int))=1+(q:Int):=IntWalk.i64_in _ (by omega);have HGN:=hid (fun a n c W hs=>Nu.Qfa (bs:=t) (L:=nl) (z:=(q:Int)) (E:=0) (m:=m) (by rw[hg];show(nl,(t.length:Int)-(r0.length:Int),(0:Int))=_;rw[hrl];exact congrArg (fun x=>(nl,x,(0:Int))) (by omega)) hm hbt hlt a n c W hs);have hm4:m≤4096:=by rw[←hm];exact hn4
 have hex2:S.extract (1+q) S.size=strOfNums r0:=by
  rw[←hS,QX,strOfNums_size,Nat.add_comm 1 q,List.drop_succ_cons,ht,←hq,List.drop_left,List.take_of_length_le (by simp)]
 obtain⟨S2,hS2⟩:∃S2,strOfNums r0=S2:=⟨_,rfl⟩;have HCV2:=hid (fun W=>Qag r0 hrb (by omega) W);rw[hS2]at HCV2 hex2;have hsz2:1+(q:Int)≤(S.size:Int):=by rw[←hS,strOfNums_size,List.length_cons];omega
 have q9:((m:Int) != (C:Int))=false:=by rw[hmC];exact bne_self_eq_false _
 clear hS hS1 hS2 hb hl hg hbt ht hq hrl hm hc hn4 hrb hmC;obtain⟨cap,w4,hrun,hs4,ht4⟩:=HCV.out (w.alloc (.cells #[.int .i64 0,.int .i64 0,.int .i64 0,.int .i64 0,.string ⟨#[]⟩,.int .i64 0,.int .i64 0,.string ⟨#[]⟩] 33));have hrun2:(convert 9 45 (.string S1)).run Tryz.prog (w.alloc (.cells #[.int .i64 0,.int .i64 0,.int .i64 0,.int .i64 0,.string ⟨#[]⟩,.int .i64 0,.int .i64 0,.string ⟨#[]⟩] 33))=.ok (.slice (some ⟨w.heap.size+1,0,none⟩) t.length cap) w4:=by
  have h:=hrun;rw[World.size_alloc]at h;exact h
 have HS4:Hid (Bs.Seg w4 (some ⟨w.heap.size+1,0,none⟩) t.length cap t):=hid (by rw[World.size_alloc]at hs4;exact hs4);have T4:=hid (HT.out.trans ht4 (fun _ _ h=>h));have Z4:=hid (hZ.out.old ht4.grown);clear hs4 ht4 hZ HT HCV hrun;go_enter Tryz.func39,Tryz.ntmps39
 go_wp2_with fail
 refine(HGN.out _ _ _ _ HS4.out).mono ?_;rintro e w5 ⟨a5,c5,rfl,hs5,ht5⟩;have T5:=hid (T4.out.trans ht5 (fun _ _ h=>h));have Z5:=hid (Z4.out.old ht5.grown);have S5:=hid hs5;clear hs5 ht5 T4 Z4 HS4 hrun2;dsimp only;have HCT:=hid (Nu.Qce a5 m c5 nl w5 S5.out);rw[HCN.out]at HCT;go_wp2_with fail
 refine HCT.out.mono ?_;rintro e w5' ⟨rfl,rfl⟩;clear HCT;dsimp only;go_upto_region 8 with (fail)
 obtain⟨W6,hW6⟩:∃V,w5.alloc (.cells #[.int .i64 (m:Int),.int .i64 (C:Int),.int .i64 0,.int .i64 0,.string ⟨#[]⟩,.int .i64 0,.int .i64 0,.string ⟨#[]⟩] 33)=V:=⟨_,rfl⟩;obtain⟨gz,hgz⟩:∃g,g=w5.heap.size:=⟨_,rfl⟩;rw[hW6,←hgz];have B6:Hid (ZB W6 gz ⟨(m:Int),(C:Int),zeroC,zeroC⟩):=hid (by rw[←hW6,hgz];exact heap_alloc_new w5 _);have t6:w5.grownBy W6 none:=by rw[←hW6];exact Qb _ _
 have T6:=hid (T5.out.trans (Pk.Qc t6) (fun _ _ h=>h));have Z6:=hid (Z5.out.old t6);have S6:=hid (S5.out.grown t6);have hgz0:w.heap.size<gz:=by rw[hgz];exact Z5.out.lt
 clear hW6 hgz t6 T5 Z5 S5;obtain⟨cap2,w7,hrun3,hs7,ht7⟩:=HCV2.out W6;have T7:=hid (T6.out.trans ht7 (fun _ _ h=>h));have Z7:=hid (Z6.out.old ht7.grown);have B7:=hid (B6.out.old ht7.grown);have S7:=hid (S6.out.grown ht7.grown);have HNR:=hid (In.QV _ _ cap2 r0 w7 hs7 (by omega));clear hs7 ht7 T6 Z6 B6 S6 HCV2;go_wp2_with fail
 refine HNR.out.mono ?_;rintro e w8 ⟨rb,rg,rfl,hrb1,hrd,hg8,hrg⟩;have T8:=hid (T7.out.trans (Pk.Qc hg8) (fun _ _ h=>h));have Z8:=hid (Z7.out.old hg8);have B8:=hid (B7.out.old hg8);have S8:=hid (S7.out.grown hg8);have R8:=hid hrd;have F8:Hid (∀ad,a5=some ad→m≠0→ad.block≠rb):=hid (fun ad e h=>by have:=Qbu S7.out ad e h;omega);have hgb:gz<rb:=Nat.lt_of_lt_of_le B7.out.lt hrb1;clear hg8 hrd T7 Z7 B7 S7 HNR hrun3 hrb1;dsimp only;obtain⟨b0,b1,-⟩:=B8.out.cells;go_upto_region 15 with (fail)
 clear b0 b1;obtain⟨ro,rc,hrc,hrs⟩:=In.QgA R8.out;have RS:=hid hrs;obtain⟨d0,d1,⟨d2,d3,d4⟩,d5,d6,d7⟩:=B8.out.cells;obtain⟨z0,z1,⟨z2,z3,z4⟩,z5,z6,z7⟩:=Z8.out.cells;have f0:=ZB.froz Z8.out 0;have f1:=ZB.froz Z8.out 1;have f2:=ZB.froz Z8.out 2;have f3:=ZB.froz Z8.out 3;have f4:=ZB.froz Z8.out 4;have f5:=ZB.froz Z8.out 5;have f6:=ZB.froz Z8.out 6;have f7:=ZB.froz Z8.out 7;clear hrs;go_region
 have hz9:=ZB.setAll Z8.out ⟨(m:Int),(C:Int),zeroC,zeroC⟩;have ht9:=QcB w8 w.heap.size ⟨(m:Int),(C:Int),zeroC,zeroC⟩;obtain⟨W9,hW9⟩:∃V,(((((((((w8.setCell ⟨w.heap.size,0,none⟩ (.int .i64 (m:Int))).setCell ⟨w.heap.size,1,none⟩ (.int .i64 (C:Int))).setCell ⟨w.heap.size,2,none⟩ (.int .i64 zeroC.k)).setCell ⟨w.heap.size,3,none⟩ (.int .i64 zeroC.n)).setCell ⟨w.heap.size,4,none⟩ (.string zeroC.s)).setCell ⟨w.heap.size,5,none⟩ (.int .i64 zeroC.k)).setCell ⟨w.heap.size,6,none⟩ (.int .i64 zeroC.n)).setCell ⟨w.heap.size,7,none⟩ (.string zeroC.s)))=V:=⟨_,rfl⟩;replace hz9:ZB W9 w.heap.size ⟨(m:Int),(C:Int),zeroC,zeroC⟩:=by rw[←hW9];exact hz9
 replace ht9:Turn w8 W9 (·=w.heap.size):=by rw[←hW9];exact ht9
 rw[hW9];have HZ9:Hid (ZB W9.drew w.heap.size ⟨(m:Int),(C:Int),zeroC,zeroC⟩):=hid hz9;have tt:Turn w8 W9.drew (·=w.heap.size):=ht9.trans (Turn.drew W9 _) (fun _ _ h=>h);have HF:Hid (RHeadYes w k0 nl m ⟨(m:Int),(C:Int),zeroC,zeroC⟩ r0 (.returned (.tuple #[.int .i64 k0,.slice a5 m c5,.agg #[.int .i64 (m:Int),.int .i64 (C:Int),.int .i64 zeroC.k,.int .i64 zeroC.n,.string zeroC.s,.int .i64 zeroC.k,.int .i64 zeroC.n,.string zeroC.s],.slice (some ⟨rg,ro,none⟩) r0.length rc,.bool true])) W9.drew):=hid ⟨_,_,_,_,rfl,QdK S8.out Z8.out tt,Qev RS.out Z8.out tt,HRB.out,by omega,Pk.Qc (Ql T8.out.grown tt (Nat.le_refl _))⟩;clear hW9 hz9 ht9 tt d0 d1 d2 d3 d4 d5 d6 d7 z0 z1 z2 z3 z4 z5 z6 z7 f0 f1 f2 f3 f4 f5 f6 f7 hrc RS;go_wp2;exact bodyPost_ret (QR rfl _ _ w.heap.size ⟨(m:Int),(C:Int),zeroC,zeroC⟩ (.int .i64 k0) (.slice a5 m c5) (.slice (some ⟨rg,ro,none⟩) r0.length rc) (.bool true) rfl HZ9.out rfl rfl rfl rfl) rfl HF.out
def ROne(o:Option (Cel×List Int))(c:Cel)(r:List Int)(ok:Bool):Prop:=match o with
 |some (x,rest)=>ok=true∧c=x∧r=rest
 |none=>ok=false
theorem Qkr{b g:Nat}{w w':World}{o:Option (Cel×List Int)}{e:Ending}(h:RCellX b g w o e w'):Turn w w' (At b)∧∃r c ok,e=.returned (.tuple #[.agg #[.int .i64 c.k,.int .i64 c.n,.string c.s],.bool ok])∧RR w' b g r∧Oct.IsB r∧r.length≤100000000∧ROne o c r ok:=by
 obtain⟨h1,r,c,ok,h2,h3,h4,h5,h6⟩:=h;refine⟨h1,r,c,ok,h2,h3,h4,h5,?_⟩;cases o with
 |none=>exact h6
 |some p=>obtain⟨x,y⟩:=p;exact h6
def RTwo(w:World)(k:Int)(nl:List Bool)(m C:Nat)(r0:List Int)(e:Ending)(w':World):Prop:=
 ∃c1 r1 ok1 c2 r2 ok2,ROne (readCell k r0) c1 r1 ok1∧ROne (readCell k r1) c2 r2 ok2∧(ok1=true→ok2=true→¬0<cmpC c1 c2→RHeadYes w k nl m ⟨(m:Int),(C:Int),c1,c2⟩ r2 e w')∧(ok1=false∨ok2=false∨0<cmpC c1 c2→RHeadNo w e w')
theorem Qmu(k0:Int)(t r0:List Int)(nl:List Bool)(m C:Nat)(hb:Bs.IsB (k0 :: t))(hl:(k0 :: t).length≤100000000)(k1:1≤k0)(k3:k0≤3)(hg:getN t=some (nl,r0))(hm:nl.length=m)(hc:cnt nl=C)(hmC:m≠C)(w:World) :
  Calls Tryz.prog 39 #[.string (strOfNums (k0 :: t))] w (RTwo w k0 nl m C r0):=by
 have hk0:=hb k0 (List.mem_cons_self ..);have hidx:=Qa3 k0 t hk0;have hwr:IntKind.i64.wrap k0=k0:=IntWalk.i64_in _ (by omega);have q1:¬k0<1:=by omega
 have q3:¬3<k0:=by omega
 have hne:(strOfNums (k0 :: t)).toList.isEmpty=false:=by rw[Go.ByteArray.toList_eq];rfl
 have hex1:(strOfNums (k0 :: t)).extract 1 (strOfNums (k0 :: t)).size=strOfNums t:=by
  rw[QX,strOfNums_size,List.drop_succ_cons,List.drop_zero,List.take_of_length_le (by simp)]
 have hsz:0<(strOfNums (k0 :: t)).size:=by rw[strOfNums_size];exact Nat.zero_lt_succ _
 have hsz1:(1:Int)≤((strOfNums (k0 :: t)).size:Int):=by omega
 have hZ:Hid (ZB (w.alloc (.cells #[.int .i64 0,.int .i64 0,.int .i64 0,.int .i64 0,.string ⟨#[]⟩,.int .i64 0,.int .i64 0,.string ⟨#[]⟩] 33)) w.heap.size zeroZ):=hid (ZB.new w zeroZ);have HT:Hid (Turn w (w.alloc (.cells #[.int .i64 0,.int .i64 0,.int .i64 0,.int .i64 0,.string ⟨#[]⟩,.int .i64 0,.int .i64 0,.string ⟨#[]⟩] 33)) nowhere):=hid (Turn.alloc w _ nowhere);have hbt:Oct.IsB t:=fun x hx=>hb x (List.mem_cons_of_mem _ hx)
 have hlt:t.length≤100000000:=by rw[List.length_cons]at hl;omega
 obtain⟨S,hS⟩:∃S,strOfNums (k0 :: t)=S:=⟨_,rfl⟩;obtain⟨S1,hS1⟩:∃S1,strOfNums t=S1:=⟨_,rfl⟩;rw[hS]at hidx hne hex1 hsz hsz1 ⊢;rw[hS1]at hex1;have HCV:=hid (fun W=>Qag t hbt (by omega) W);rw[hS1]at HCV;have HBT:=hid hbt;obtain⟨hn4,ht⟩:=Nu.Qa4 hbt hg;obtain⟨q,hq⟩:∃q,(Nu.encN nl).length=q:=⟨_,rfl⟩;have hrl:t.length=q+r0.length:=by rw[ht,List.length_append,hq]
 have hrb:Oct.IsB r0:=fun x hx=>hbt x (by rw[ht];exact List.mem_append_right _ hx)
 have HRB:=hid hrb;have HCN:=hid hc;have hrl2:r0.length≤100000000:=by omega
 have hwq:IntKind.i64.wrap (1+(q:Int))=1+(q:Int):=IntWalk.i64_in _ (by omega);have HGN:=hid (fun a n c W hs=>Nu.Qfa (bs:=t) (L:=nl) (z:=(q:Int)) (E:=0) (m:=m) (by rw[hg];show(nl,(t.length:Int)-(r0.length:Int),(0:Int))=_;rw[hrl];exact congrArg (fun x=>(nl,x,(0:Int))) (by omega)) hm hbt hlt a n c W hs);have hm4:m≤4096:=by rw[←hm];exact hn4
 have hex2:S.extract (1+q) S.size=strOfNums r0:=by
  rw[←hS,QX,strOfNums_size,Nat.add_comm 1 q,List.drop_succ_cons,ht,←hq,List.drop_left,List.take_of_length_le (by simp)]
 obtain⟨S2,hS2⟩:∃S2,strOfNums r0=S2:=⟨_,rfl⟩;have HCV2:=hid (fun W=>Qag r0 hrb (by omega) W);rw[hS2]at HCV2 hex2;have hsz2:1+(q:Int)≤(S.size:Int):=by rw[←hS,strOfNums_size,List.length_cons];omega
 have q9:((m:Int) != (C:Int))=true:=bne_iff_ne.2 (by omega);clear hS hS1 hS2 hb hl hg hbt ht hq hrl hm hc hn4 hrb hmC;obtain⟨cap,w4,hrun,hs4,ht4⟩:=HCV.out (w.alloc (.cells #[.int .i64 0,.int .i64 0,.int .i64 0,.int .i64 0,.string ⟨#[]⟩,.int .i64 0,.int .i64 0,.string ⟨#[]⟩] 33));have hrun2:(convert 9 45 (.string S1)).run Tryz.prog (w.alloc (.cells #[.int .i64 0,.int .i64 0,.int .i64 0,.int .i64 0,.string ⟨#[]⟩,.int .i64 0,.int .i64 0,.string ⟨#[]⟩] 33))=.ok (.slice (some ⟨w.heap.size+1,0,none⟩) t.length cap) w4:=by
  have h:=hrun;rw[World.size_alloc]at h;exact h
 have HS4:Hid (Bs.Seg w4 (some ⟨w.heap.size+1,0,none⟩) t.length cap t):=hid (by rw[World.size_alloc]at hs4;exact hs4);have T4:=hid (HT.out.trans ht4 (fun _ _ h=>h));have Z4:=hid (hZ.out.old ht4.grown);clear hs4 ht4 hZ HT HCV hrun;go_enter Tryz.func39,Tryz.ntmps39
 go_wp2_with fail
 refine(HGN.out _ _ _ _ HS4.out).mono ?_;rintro e w5 ⟨a5,c5,rfl,hs5,ht5⟩;have T5:=hid (T4.out.trans ht5 (fun _ _ h=>h));have Z5:=hid (Z4.out.old ht5.grown);have S5:=hid hs5;clear hs5 ht5 T4 Z4 HS4 hrun2;dsimp only;have HCT:=hid (Nu.Qce a5 m c5 nl w5 S5.out);rw[HCN.out]at HCT;go_wp2_with fail
 refine HCT.out.mono ?_;rintro e w5' ⟨rfl,rfl⟩;clear HCT;dsimp only;go_upto_region 8 with (fail)
 obtain⟨W6,hW6⟩:∃V,w5.alloc (.cells #[.int .i64 (m:Int),.int .i64 (C:Int),.int .i64 0,.int .i64 0,.string ⟨#[]⟩,.int .i64 0,.int .i64 0,.string ⟨#[]⟩] 33)=V:=⟨_,rfl⟩;obtain⟨gz,hgz⟩:∃g,g=w5.heap.size:=⟨_,rfl⟩;rw[hW6,←hgz];have B6:Hid (ZB W6 gz ⟨(m:Int),(C:Int),zeroC,zeroC⟩):=hid (by rw[←hW6,hgz];exact heap_alloc_new w5 _);have t6:w5.grownBy W6 none:=by rw[←hW6];exact Qb _ _
 have T6:=hid (T5.out.trans (Pk.Qc t6) (fun _ _ h=>h));have Z6:=hid (Z5.out.old t6);have S6:=hid (S5.out.grown t6);have hgz0:w.heap.size<gz:=by rw[hgz];exact Z5.out.lt
 clear hW6 hgz t6 T5 Z5 S5;obtain⟨cap2,w7,hrun3,hs7,ht7⟩:=HCV2.out W6;have T7:=hid (T6.out.trans ht7 (fun _ _ h=>h));have Z7:=hid (Z6.out.old ht7.grown);have B7:=hid (B6.out.old ht7.grown);have S7:=hid (S6.out.grown ht7.grown);have HNR:=hid (In.QV _ _ cap2 r0 w7 hs7 (by omega));clear hs7 ht7 T6 Z6 B6 S6 HCV2;go_wp2_with fail
 refine HNR.out.mono ?_;rintro e w8 ⟨rb,rg,rfl,hrb1,hrd,hg8,hrg⟩;have T8:=hid (T7.out.trans (Pk.Qc hg8) (fun _ _ h=>h));have Z8:=hid (Z7.out.old hg8);have B8:=hid (B7.out.old hg8);have S8:=hid (S7.out.grown hg8);have R8:=hid hrd;have F8:Hid (∀ad,a5=some ad→m≠0→ad.block≠rb):=hid (fun ad e h=>by have:=Qbu S7.out ad e h;omega);have hgb:gz<rb:=Nat.lt_of_lt_of_le B7.out.lt hrb1;clear hg8 hrd T7 Z7 B7 S7 HNR hrun3 hrb1;dsimp only;obtain⟨b0,b1,-⟩:=B8.out.cells;have HR1:=hid (Qgx k0 rb rg r0 w8 R8.out hrg HRB.out hrl2 k1 k3);go_wp2_with fail
 clear b0 b1;refine HR1.out.mono ?_;intro e w9 hx;obtain⟨ht9,r1,x1,ok1,rfl,hr9,hb9,hl9,ho1⟩:=Qkr hx;have O1:=hid ho1;have T9:=hid (T8.out.trans ht9 (fun i hi e=>by have e2:i=rb:=e;omega));have Z9:Hid (ZB w9 w.heap.size zeroZ):=hid (Qk Z8.out ht9 (by unfold At;omega));have B9:Hid (ZB w9 gz ⟨(m:Int),(C:Int),zeroC,zeroC⟩):=hid (Qk B8.out ht9 (by unfold At;omega));have S9:=hid (Qfy S8.out ht9 F8.out);have R9:=hid hr9;have RB1:=hid (And.intro hb9 hl9);have hs9:=ht9.size;clear hx ht9 hr9 hb9 hl9 ho1 HR1 T8 Z8 B8 S8 R8;dsimp only;go_upto_region 11 with (fail)
 obtain⟨W10,hW10⟩:∃V,w9.alloc (.cells #[.int .i64 x1.k,.int .i64 x1.n,.string x1.s] 24)=V:=⟨_,rfl⟩;obtain⟨ga,hga⟩:∃g,g=w9.heap.size:=⟨_,rfl⟩;rw[hW10,←hga];have A10:Hid (CB W10 ga x1):=hid (by rw[←hW10,hga];exact CB.new w9 x1);have t10:w9.grownBy W10 none:=by rw[←hW10];exact Qb _ _
 have T10:=hid (T9.out.trans (Pk.Qc t10) (fun _ _ h=>h));have Z10:=hid (Z9.out.old t10);have B10:=hid (B9.out.old t10);have S10:=hid (S9.out.grown t10);have R10:=hid (R9.out.turn (Pk.Qc t10) id id);have hrb9:=R9.out.lt;have hbz:=B9.out.lt;have hab:rb<ga:=by omega
 have hgza:gz<ga:=by omega
 have hs10:=t10.size;clear hW10 hga t10 T9 Z9 B9 S9 R9;have HR2:=hid (Qgx k0 rb rg r1 W10 R10.out (by omega) RB1.out.1 RB1.out.2 k1 k3);go_wp2_with fail
 refine HR2.out.mono ?_;intro e w11 hx;obtain⟨ht11,r2,x2,ok2,rfl,hr11,hb11,hl11,ho2⟩:=Qkr hx;have O2:=hid ho2;have T11:=hid (T10.out.trans ht11 (fun i hi e=>by have e2:i=rb:=e;omega));have Z11:Hid (ZB w11 w.heap.size zeroZ):=hid (Qk Z10.out ht11 (by unfold At;omega));have B11:Hid (ZB w11 gz ⟨(m:Int),(C:Int),zeroC,zeroC⟩):=hid (Qk B10.out ht11 (by unfold At;omega));have A11:Hid (CB w11 ga x1):=hid (Qk A10.out ht11 (by unfold At;omega));have S11:=hid (Qfy S10.out ht11 F8.out);have R11:=hid hr11;have RB2:=hid (And.intro hb11 hl11);clear hx ht11 hr11 hb11 hl11 ho2 HR2 T10 Z10 B10 S10 R10 A10;dsimp only;go_upto_region 12 with (fail)
 obtain⟨W12,hW12⟩:∃V,w11.alloc (.cells #[.int .i64 x2.k,.int .i64 x2.n,.string x2.s] 24)=V:=⟨_,rfl⟩;obtain⟨gb,hgb2⟩:∃g,g=w11.heap.size:=⟨_,rfl⟩;rw[hW12,←hgb2];have C12:Hid (CB W12 gb x2):=hid (by rw[←hW12,hgb2];exact CB.new w11 x2);have t12:w11.grownBy W12 none:=by rw[←hW12];exact Qb _ _
 have T12:=hid (T11.out.trans (Pk.Qc t12) (fun _ _ h=>h));have Z12:=hid (Z11.out.old t12);have B12:=hid (B11.out.old t12);have A12:=hid (A11.out.old t12);have S12:=hid (S11.out.grown t12);have R12:=hid (R11.out.turn (Pk.Qc t12) id id);have hab2:ga<gb:=by have:=A11.out.lt;omega
 clear hW12 hgb2 t12 T11 Z11 B11 S11 R11 A11;cases ok1 with
 |false=>
  go_wp2_with (first
   |(with_reducible refine Qo rfl (.tmp 4) (.tmp 84) rfl w.heap.size rfl zeroZ rfl zeroZ Z12.out ?_;intro w14 hz14 ht14)
   |fail)
  refine bodyPost_ret (QR rfl _ _ _ zeroZ _ _ _ _ rfl hz14 rfl rfl rfl rfl) rfl ?_;refine⟨x1,r1,_,x2,r2,_,O1.out,O2.out,?_,?_⟩
  ·intro h;cases h
  ·intro _;exact⟨rfl,Pk.Qc (Ql T12.out.grown ht14 (Nat.le_refl _))⟩
 |true=>
  cases ok2 with
  |false=>
   go_wp2_with (first
    |(with_reducible refine Qo rfl (.tmp 4) (.tmp 84) rfl w.heap.size rfl zeroZ rfl zeroZ Z12.out ?_;intro w14 hz14 ht14)
    |fail)
   refine bodyPost_ret (QR rfl _ _ _ zeroZ _ _ _ _ rfl hz14 rfl rfl rfl rfl) rfl ?_;refine⟨x1,r1,_,x2,r2,_,O1.out,O2.out,?_,?_⟩
   ·intro _ h;cases h
   ·intro _;exact⟨rfl,Pk.Qc (Ql T12.out.grown ht14 (Nat.le_refl _))⟩
  |true=>
   obtain⟨a0,a1,a2⟩:=A12.out.cells;obtain⟨c0,c1,c2⟩:=C12.out.cells;obtain⟨E,hE⟩:∃E,E=cmpC x1 x2:=⟨_,rfl⟩;have HCM:=hid (Qdf x1 x2 W12);rw[←hE]at HCM;have HEE:=hid hE;clear hE;go_wp2_with fail
   refine HCM.out.mono ?_;rintro e w13 ⟨rfl,hg13⟩;have T13:=hid (T12.out.trans (Pk.Qc hg13) (fun _ _ h=>h));have Z13:=hid (Z12.out.old hg13);have B13:=hid (B12.out.old hg13);have A13:=hid (A12.out.old hg13);have C13:=hid (C12.out.old hg13);have S13:=hid (S12.out.grown hg13);have R13:=hid (R12.out.turn (Pk.Qc hg13) id id);clear hg13 HCM a0 a1 a2 c0 c1 c2 T12 Z12 B12 A12 C12 S12 R12;dsimp only;by_cases hle:0<E
   ·have HLE:Hid (0<cmpC x1 x2):=hid (by rw[←HEE.out];exact hle);go_wp2_with (first
     |(with_reducible refine Qo rfl (.tmp 4) (.tmp 84) rfl w.heap.size rfl zeroZ rfl zeroZ Z13.out ?_;intro w14 hz14 ht14)
     |fail)
    refine bodyPost_ret (QR rfl _ _ _ zeroZ _ _ _ _ rfl hz14 rfl rfl rfl rfl) rfl ?_;refine⟨x1,r1,_,x2,r2,_,O1.out,O2.out,?_,?_⟩
    ·intro _ _ h;exact absurd HLE.out h
    ·intro _;exact⟨rfl,Pk.Qc (Ql T13.out.grown ht14 (Nat.le_refl _))⟩
   ·have HLE:Hid (¬0<cmpC x1 x2):=hid (by rw[←HEE.out];exact hle);obtain⟨a0,a1,a2⟩:=A13.out.cells;obtain⟨c0,c1,c2⟩:=C13.out.cells;obtain⟨-,-,⟨b2,b3,b4⟩,b5,b6,b7⟩:=B13.out.cells;have f2:=ZB.froz B13.out 2;have f3:=ZB.froz B13.out 3;have f4:=ZB.froz B13.out 4;have f5:=ZB.froz B13.out 5;have f6:=ZB.froz B13.out 6;have f7:=ZB.froz B13.out 7;go_upto_region 14 with (fail)
    go_region
    have hm1:=ZB.setMin B13.out x1;have hm2:=ZB.setMax hm1 x2;have tm1:Turn w13 (((w13.setCell ⟨gz,2,none⟩ (.int .i64 x1.k)).setCell ⟨gz,3,none⟩ (.int .i64 x1.n)).setCell ⟨gz,4,none⟩ (.string x1.s)) (·=gz):=Q8 w13 gz 2 3 4 _ _ _;have tm2:=tm1.trans (Q8 _ gz 5 6 7 (.int .i64 x2.k) (.int .i64 x2.n) (.string x2.s)) (fun _ _ h=>h);obtain⟨W13,hW13⟩:∃V,((((((w13.setCell ⟨gz,2,none⟩ (.int .i64 x1.k)).setCell ⟨gz,3,none⟩ (.int .i64 x1.n)).setCell ⟨gz,4,none⟩ (.string x1.s)).setCell ⟨gz,5,none⟩ (.int .i64 x2.k)).setCell ⟨gz,6,none⟩ (.int .i64 x2.n)).setCell ⟨gz,7,none⟩ (.string x2.s))=V:=⟨_,rfl⟩;rw[hW13]at hm2 tm2 ⊢;have B13d:ZB W13.drew gz ⟨(m:Int),(C:Int),x1,x2⟩:=hm2;have t13d:Turn w13 W13.drew (·=gz):=tm2.trans (Turn.drew W13 _) (fun _ _ h=>h);obtain⟨W14,hW14⟩:∃V,W13.drew=V:=⟨_,rfl⟩;rw[hW14]at B13d t13d ⊢;have B14:=hid B13d;have t14:=t13d;have T14:=hid (T13.out.trans t14 (fun i hi e=>by have e2:i=gz:=e;omega));have Z14:Hid (ZB W14 w.heap.size zeroZ):=hid (Qk Z13.out t14 (by omega));have S14:=hid (QdK S13.out B13.out t14);obtain⟨ro,rc,hrc0,hrs0⟩:=In.QgA R13.out;have hrc:=t14.cell hrc0 (show ¬rb=gz by omega);have RS:=hid (Qev hrs0 B13.out t14);clear hW14 hW13 B13d t13d hm1 hm2 tm1 tm2 hrc0 hrs0 T13 Z13 B13 A13 C13 S13 R13 a0 a1 a2 c0 c1 c2 b2 b3 b4 b5 b6 b7 f2 f3 f4 f5 f6 f7 t14;obtain⟨d0,d1,⟨d2,d3,d4⟩,d5,d6,d7⟩:=B14.out.cells;obtain⟨z0,z1,⟨z2,z3,z4⟩,z5,z6,z7⟩:=Z14.out.cells;have f0:=ZB.froz Z14.out 0;have f1:=ZB.froz Z14.out 1;have f2:=ZB.froz Z14.out 2;have f3:=ZB.froz Z14.out 3;have f4:=ZB.froz Z14.out 4;have f5:=ZB.froz Z14.out 5;have f6:=ZB.froz Z14.out 6;have f7:=ZB.froz Z14.out 7;go_upto_region 15 with (fail)
    go_region
    have hz9:=ZB.setAll Z14.out ⟨(m:Int),(C:Int),x1,x2⟩;have ht9:=QcB W14 w.heap.size ⟨(m:Int),(C:Int),x1,x2⟩;obtain⟨W9,hW9⟩:∃V,(((((((((W14.setCell ⟨w.heap.size,0,none⟩ (.int .i64 (m:Int))).setCell ⟨w.heap.size,1,none⟩ (.int .i64 (C:Int))).setCell ⟨w.heap.size,2,none⟩ (.int .i64 x1.k)).setCell ⟨w.heap.size,3,none⟩ (.int .i64 x1.n)).setCell ⟨w.heap.size,4,none⟩ (.string x1.s)).setCell ⟨w.heap.size,5,none⟩ (.int .i64 x2.k)).setCell ⟨w.heap.size,6,none⟩ (.int .i64 x2.n)).setCell ⟨w.heap.size,7,none⟩ (.string x2.s)))=V:=⟨_,rfl⟩;replace hz9:ZB W9 w.heap.size ⟨(m:Int),(C:Int),x1,x2⟩:=by rw[←hW9];exact hz9
    replace ht9:Turn W14 W9 (·=w.heap.size):=by rw[←hW9];exact ht9
    rw[hW9];have HZ9:Hid (ZB W9.drew w.heap.size ⟨(m:Int),(C:Int),x1,x2⟩):=hid hz9;have tt:Turn W14 W9.drew (·=w.heap.size):=ht9.trans (Turn.drew W9 _) (fun _ _ h=>h);have HF:Hid (RHeadYes w k0 nl m ⟨(m:Int),(C:Int),x1,x2⟩ r2 (.returned (.tuple #[.int .i64 k0,.slice a5 m c5,.agg #[.int .i64 (m:Int),.int .i64 (C:Int),.int .i64 x1.k,.int .i64 x1.n,.string x1.s,.int .i64 x2.k,.int .i64 x2.n,.string x2.s],.slice (some ⟨rg,ro,none⟩) r2.length rc,.bool true])) W9.drew):=hid ⟨_,_,_,_,rfl,QdK S14.out Z14.out tt,Qev RS.out Z14.out tt,RB2.out.1,RB2.out.2,Pk.Qc (Ql T14.out.grown tt (Nat.le_refl _))⟩;clear hW9 hz9 ht9 tt d0 d1 d2 d3 d4 d5 d6 d7 z0 z1 z2 z3 z4 z5 z6 z7 f0 f1 f2 f3 f4 f5 f6 f7 hrc RS;go_wp2;exact bodyPost_ret (QR rfl _ _ w.heap.size ⟨(m:Int),(C:Int),x1,x2⟩ (.int .i64 k0) (.slice a5 m c5) (.slice (some ⟨rg,ro,none⟩) r2.length rc) (.bool true) rfl HZ9.out rfl rfl rfl rfl) rfl ⟨x1,r1,_,x2,r2,_,O1.out,O2.out,fun _ _ _=>HF.out,fun h=>absurd h (by simp[HLE.out])⟩
end Sg
namespace Sg
open Go.RowKit Go.Joins Zn Zr Dv
open In (getI)
open Tx (getT)
open Pk (getR)
def fillC(cs:List Cel)(k:Nat):List Cel:=cs.take k++List.replicate (cs.length-k) zeroC
theorem Qek(cs:List Cel):fillC cs 0=List.replicate cs.length zeroC:=by simp[fillC]
theorem QeV(cs:List Cel):fillC cs cs.length=cs:=by simp[fillC]
theorem QeQ(cs:List Cel)(k:Nat)(h:k≤cs.length):(fillC cs k).length=cs.length:=by
 unfold fillC;rw[List.length_append,List.length_take,List.length_replicate];omega
theorem QfZ(cs:List Cel)(k:Nat)(h:k<cs.length):(fillC cs k).getD k zeroC=zeroC:=by
 unfold fillC;have hl:(cs.take k).length=k:=by rw[List.length_take];omega
 rw[List.getD_eq_getElem?_getD,List.getElem?_append_right (by rw[hl];exact Nat.le_refl _),hl,Nat.sub_self,show cs.length-k=cs.length-(k+1)+1 by omega,List.replicate_succ]
 rfl
theorem QeS(cs:List Cel)(k:Nat)(h:k<cs.length):(fillC cs k).set k (cs.getD k zeroC)=fillC cs (k+1):=by
 unfold fillC;have hl:(cs.take k).length=k:=by rw[List.length_take];omega
 rw[List.set_append_right _ _ (by rw[hl];exact Nat.le_refl _),hl,Nat.sub_self,show cs.length-k=cs.length-(k+1)+1 by omega,List.replicate_succ,Qa7 cs k h,List.append_assoc]
 rfl
theorem QfX{α:Type}:∀{l:List α} {j:Nat} {v:α},l[j]?=some v→l.set j v=l
 | [],_,_,h=>by cases h
 |a :: l,0,v,h=>by
  obtain rfl:a=v:=Option.some.inj h
  rfl
 |a :: l,j+1,v,h=>by
  rw[List.set_cons_succ,QfX (by simpa using h)]
theorem Qc3:∀(l:List Cel) (i:Nat),i<l.length→(flatC l)[i*3]?=some (.int .i64 (l.getD i zeroC).k)∧(flatC l)[i*3+1]?=some (.int .i64 (l.getD i zeroC).n)∧(flatC l)[i*3+2]?=some (.string (l.getD i zeroC).s)
 | [],i,h=>by cases h
 |c :: l,0,h=>⟨rfl,rfl,rfl⟩
 |c :: l,i+1,h=>by
  have ih:=Qc3 l i (by rw[List.length_cons]at h;omega);rw[flatC,show(i+1)*3=i*3+1+1+1 by omega]
  simpa using ih
theorem Qjq{l:List Cel}{i:Nat}(h:i<l.length)(hz:l.getD i zeroC=zeroC)(k n:Int):((flatC l).set (i*3) (.int .i64 k)).set (i*3+1) (.int .i64 n)=flatC (l.set i ⟨k,n,⟨#[]⟩⟩):=by
 rw[Qdx,if_pos h];refine(QfX ?_).symm;rw[List.getElem?_set_ne (by omega),List.getElem?_set_ne (by omega)];have:=(Qc3 l i h).2.2;rw[hz]at this;exact this
theorem QoB{l:List Cel}{i:Nat}(h:i<l.length)(hz:l.getD i zeroC=zeroC)(k:Int)(s:ByteArray):((flatC l).set (i*3) (.int .i64 k)).set (i*3+2) (.string s)=flatC (l.set i ⟨k,0,s⟩):=by
 rw[Qdx,if_pos h,QfX (l:=(flatC l).set (i*3) (.int .i64 k)) (j:=i*3+1) (v:=.int .i64 0)];rw[List.getElem?_set_ne (by omega)];have:=(Qc3 l i h).2.1;rw[hz]at this;exact this
def RCellsX(w:World)(m:Nat)(o:Option (List Cel))(e:Ending)(w':World):Prop:=Turn w w' nowhere∧match (generalizing:=false) o with
 |none=>e=.returned (.tuple #[.slice none 0 0,.bool false])
 |some L=>∃a c,e=.returned (.tuple #[.slice a m c,.bool true])∧CSeg w' a m c L
def GotI(w:World)(E:Int)(L:List Int)(m:Nat)(e:Ending)(w':World):Prop:=
 ∃a c,e=.returned (.tuple #[.slice a m c,.int .i64 E])∧Is.Seg w' a m c L∧Turn w w' nowhere∧∀ad,a=some ad→w.heap.size≤ad.block
theorem Qj0(kind:Int)(n:Nat)(a:Option Addr)(len c:Nat)(rest:List Int)(E:Int)(L:List Int)(m:Nat)(w:World)(hk:kind=1)(hn:n≤4096)(hm:L.length=m)(hno:E≠0∨m≠n)(hs:Bs.Seg w a len c rest)
  (HT:∀(W:World),Bs.Seg W a len c rest→Calls Tryz.prog 73 #[.slice a len c] W (GotI W E L m)) :
  Calls Tryz.prog 40 #[.int .i64 kind,.int .i64 (n:Int),.slice a len c] w (RCellsX w n (none)):=by
 have hmk:=Q3 n (by omega);have HS:=hid hs;have HTT:=hid HT;have qk1:(kind==1)=true:=beq_iff_eq.2 hk;have R1:=hid (Q6 n (by omega) w);have t1:=Turn.alloc w (.cells (roomC n) 24) nowhere;have S1:=hid (hs.grown t1.grown);have T1:=hid t1;obtain⟨W1,hW1⟩:∃V,w.alloc (.cells (roomC n) 24)=V:=⟨_,rfl⟩;rw[hW1]at R1 S1 T1;have HW1:=hid hW1;have HKK:=hid hk;have HM:=hid hm;clear hW1 t1 hs HT hk hm;rcases(by omega:E≠0∨(E=0∧m≠n)) with hE|⟨hE,hmn⟩
 ·have qe:(E != 0)=true:=bne_iff_ne.2 hE;clear hno hE;go_enter Tryz.func40,Tryz.ntmps40
  go_wp2_with fail
  rw[HW1.out];refine(HTT.out _ S1.out).mono ?_;rintro e w2 ⟨ra,rc,rfl,hsr,ht2,hnr⟩;have S2:=hid hsr;have T2:=hid (T1.out.trans ht2 (fun _ _ h=>h));have R2:=hid (Qi R1.out ht2.grown);have HF:Hid (RCellsX w n none (.returned (.tuple #[.slice none 0 0,.bool false])) w2):=hid ⟨T2.out,rfl⟩;clear hsr ht2 hnr hmk;dsimp only;go_wp2;go_ret2
  exact HF.out
 ·have qe:(E != 0)=false:=by rw[hE];rfl
  have qm:((m:Int) != (n:Int))=true:=bne_iff_ne.2 (by omega);clear hno hE hmn;go_enter Tryz.func40,Tryz.ntmps40
  go_wp2_with fail
  rw[HW1.out];refine(HTT.out _ S1.out).mono ?_;rintro e w2 ⟨ra,rc,rfl,hsr,ht2,hnr⟩;have S2:=hid hsr;have T2:=hid (T1.out.trans ht2 (fun _ _ h=>h));have R2:=hid (Qi R1.out ht2.grown);have HF:Hid (RCellsX w n none (.returned (.tuple #[.slice none 0 0,.bool false])) w2):=hid ⟨T2.out,rfl⟩;clear hsr ht2 hnr hmk;dsimp only;go_wp2;go_ret2
  exact HF.out
theorem Qis(kind:Int)(n:Nat)(a:Option Addr)(len c:Nat)(rest:List Int)(E:Int)(L:List Int)(m:Nat)(w:World)(hk:kind=1)(hn:n≤4096)(hm:L.length=m)(hE:E=0)(hmn:m=n)(hs:Bs.Seg w a len c rest)
  (HT:∀(W:World),Bs.Seg W a len c rest→Calls Tryz.prog 73 #[.slice a len c] W (GotI W E L m)) :
  Calls Tryz.prog 40 #[.int .i64 kind,.int .i64 (n:Int),.slice a len c] w (RCellsX w n (some (L.map fun v=>(⟨1,v,⟨#[]⟩⟩:Cel)))):=by
 have hmk:=Q3 n (by omega);have HS:=hid hs;have HTT:=hid HT;have qk1:(kind==1)=true:=beq_iff_eq.2 hk;obtain rfl:=hmn;have R1:=hid (Q6 m (by omega) w);have t1:=Turn.alloc w (.cells (roomC m) 24) nowhere;have S1:=hid (hs.grown t1.grown);have T1:=hid t1;obtain⟨W1,hW1⟩:∃V,w.alloc (.cells (roomC m) 24)=V:=⟨_,rfl⟩;rw[hW1]at R1 S1 T1;have HW1:=hid hW1;have HKK:=hid hk;have HM:=hid hm;have qe:(E != 0)=false:=by rw[hE];rfl
 have qm:((m:Int) != (m:Int))=false:=bne_self_eq_false _
 skip
 clear hW1 t1 hs HT hk hm hE;go_enter Tryz.func40,Tryz.ntmps40
 go_wp2_with fail
 rw[HW1.out];refine(HTT.out _ S1.out).mono ?_;rintro e w2 ⟨ra,rc,rfl,hsr,ht2,hnr⟩;have S2:=hid hsr;have T2:=hid (T1.out.trans ht2 (fun _ _ h=>h));have R2:=hid (Qi R1.out ht2.grown);have N2:Hid (∀ad,ra=some ad→ad.block≠w.heap.size):=hid (fun ad e=>by have h1:=hnr ad e;have h2:w.heap.size<W1.heap.size:=(R1.out.lt _ rfl).2;omega);have h12:=ht2.size;have hws:w.heap.size<W1.heap.size:=(R1.out.lt _ rfl).2;have HL0:Hid (fillC (L.map fun v=>(⟨1,v,⟨#[]⟩⟩:Cel)) 0=List.replicate m zeroC):=hid (by rw[Qek,List.length_map,HM.out]);clear hsr ht2 hnr hmk T1 S1 R1 HTT;dsimp only;go_wp2
 go_loopw [14] (fun iv wx=>∃k:Nat,iv=.int .i64 k∧k≤m∧Hid (wx.ownsRow w.heap.size 24 3 (.slice (some ⟨w.heap.size,0,none⟩) m m) m (flatC (fillC (L.map fun v=>(⟨1,v,⟨#[]⟩⟩:Cel)) k)))∧Hid (Turn w2 wx (·=w.heap.size))) (fun iv _=>m-(intOf iv).toNat)
 case atStart=>exact⟨0,rfl,Nat.zero_le _,hid (by rw[HL0.out];exact R2.out),hid (Turn.refl _ _)⟩
 case round=>
  obtain⟨k,rfl,hk,RK,TK⟩:=hrel;by_cases hlt:k<m
  ·have hkl:k<L.length:=by rw[HM.out];exact hlt
   have qk1:(kind==1)=true:=by rw[HKK.out];decide
   have hlt2:(k:Int)<(m:Int):=by omega
   have hk0:(0:Int)≤(k:Int):=by omega
   obtain⟨B,O,rfl,hc2⟩:=S2.out.addr (by omega);have hcx:=TK.out.cell (hc2 k hlt) (show ¬B=w.heap.size from N2.out ⟨B,O,none⟩ rfl);have hneB:¬B=w.heap.size:=N2.out ⟨B,O,none⟩ rfl;obtain⟨v,hv⟩:∃v,v=L.getD k 0:=⟨_,rfl⟩;rw[←hv]at hcx;have HCK:Hid ((L.map fun v=>(⟨1,v,⟨#[]⟩⟩:Cel)).getD k zeroC=⟨kind,v,⟨#[]⟩⟩):=hid (by rw[HKK.out,hv,List.getD_eq_getElem?_getD,List.getElem?_map,List.getElem?_eq_getElem hkl];simp[List.getD,hkl])
   skip
   have hfl:k<(fillC (L.map fun v=>(⟨1,v,⟨#[]⟩⟩:Cel)) k).length:=by rw[QeQ _ _ (by rw[List.length_map];omega),List.length_map];exact hkl
   have hfz:=QfZ (L.map fun v=>(⟨1,v,⟨#[]⟩⟩:Cel)) k (by rw[List.length_map];exact hkl);obtain⟨x0,x1,x2⟩:=(CSeg.own RK.out).cells0 k hlt;rw[hfz]at x0 x1 x2;have f0:=RK.out.frozenAt (k*3);have HST:=hid (QeS (L.map fun v=>(⟨1,v,⟨#[]⟩⟩:Cel)) k (by rw[List.length_map];exact hkl));rw[HCK.out]at HST;have hst1:=RK.out.stored (k*3) (.int .i64 kind);have HST1:=hid hst1;have HFL:=hid hfl;have HFZ:=hid hfz;have HVV:=hid hv;clear hfl hfz hst1 hv hc2;go_upto_region 23 with (fail)
   obtain⟨W7,hW7⟩:∃V,wr.setCell ⟨w.heap.size,k*3,none⟩ (.int .i64 kind)=V:=⟨_,rfl⟩;rw[hW7]at HST1 ⊢;have R7:=hid HST1.out.1;have t7:Turn wr W7 (·=w.heap.size):=Turn.QD HST1.out.2 (fun i e _=>(Option.some.inj e).symm);have hcx7:=t7.cell hcx hneB;have T7:=hid (TK.out.trans t7 (fun _ _ h=>h));have hx7:=R7.out.cells (g:=w.heap.size) rfl (k*3+1) (.int .i64 0) (by rw[List.getElem?_set_ne (by omega)];have h:=(Qc3 _ k HFL.out).2.1;rw[HFZ.out]at h;exact h);rw[Addr.add_lit,Nat.zero_add]at hx7;have f1:=R7.out.frozenAt (k*3+1);have hst2:=R7.out.stored (k*3+1) (.int .i64 v);rw[Qjq HFL.out HFZ.out kind v,HST.out]at hst2;have HST2:=hid hst2;clear hW7 HST1 hcx x0 x1 x2 f0 t7 hst2 HST HFL HFZ;go_upto_region 21 with (fail)
   obtain⟨W8,hW8⟩:∃V,W7.setCell ⟨w.heap.size,k*3+1,none⟩ (.int .i64 v)=V:=⟨_,rfl⟩;rw[hW8]at HST2 ⊢;have R8:=hid HST2.out.1;have T8:=hid (T7.out.trans (Turn.QD HST2.out.2 (fun i e _=>(Option.some.inj e).symm)) (fun _ _ h=>h));clear hW8 HST2 hcx7 hx7 f1 R7 T7 RK TK;go_wp2;go_roundw
   case rel=>exact⟨k+1,by go_num,by omega,R8,T8⟩
   case measure=>simp[intOf];omega
  ·obtain rfl:k=m:=by omega
   have hF:fillC (L.map fun v=>(⟨1,v,⟨#[]⟩⟩:Cel)) k=L.map fun v=>(⟨1,v,⟨#[]⟩⟩:Cel):=by
    have h:=QeV (L.map fun v=>(⟨1,v,⟨#[]⟩⟩:Cel))
    rwa [List.length_map,HM.out]at h
   rw[hF]at RK;have HF:Hid (RCellsX w k (some (L.map fun v=>(⟨1,v,⟨#[]⟩⟩:Cel))) (.returned (.tuple #[.slice (some ⟨w.heap.size,0,none⟩) k k,.bool true])) wr):=hid ⟨T2.out.trans TK.out (fun i hi e=>by have h2:i=w.heap.size:=e;omega),_,_,rfl,CSeg.own RK.out⟩;clear hF hlt RK TK;go_wp2;go_ret2
   exact HF.out
def GotB(w:World)(E:Int)(L:List Int)(m:Nat)(e:Ending)(w':World):Prop:=
 ∃a c,e=.returned (.tuple #[.slice a m c,.int .i64 E])∧Us.Seg w' a m c L∧Turn w w' nowhere
theorem QjI(kind:Int)(n:Nat)(a:Option Addr)(len c:Nat)(rest:List Int)(E:Int)(L:List Int)(m:Nat)(w:World)(hk:kind=2)(hn:n≤4096)(hm:L.length=m)(hno:E≠0∨m≠n)(hs:Bs.Seg w a len c rest)
  (HT:∀(W:World),Bs.Seg W a len c rest→Calls Tryz.prog 74 #[.slice a len c,.int .i64 (n:Int),.int .i64 1] W (GotB W E L m)) :
  Calls Tryz.prog 40 #[.int .i64 kind,.int .i64 (n:Int),.slice a len c] w (RCellsX w n (none)):=by
 have hmk:=Q3 n (by omega);have HS:=hid hs;have HTT:=hid HT;have qk1:(kind==1)=false:=beq_eq_false_iff_ne.2 (by omega);have qk2:(kind==2)=true:=beq_iff_eq.2 hk;have R1:=hid (Q6 n (by omega) w);have t1:=Turn.alloc w (.cells (roomC n) 24) nowhere;have S1:=hid (hs.grown t1.grown);have T1:=hid t1;obtain⟨W1,hW1⟩:∃V,w.alloc (.cells (roomC n) 24)=V:=⟨_,rfl⟩;rw[hW1]at R1 S1 T1;have HW1:=hid hW1;have HKK:=hid hk;have HM:=hid hm;clear hW1 t1 hs HT hk hm;rcases(by omega:E≠0∨(E=0∧m≠n)) with hE|⟨hE,hmn⟩
 ·have qe:(E != 0)=true:=bne_iff_ne.2 hE;clear hno hE;go_enter Tryz.func40,Tryz.ntmps40
  go_wp2_with fail
  rw[HW1.out];refine(HTT.out _ S1.out).mono ?_;rintro e w2 ⟨ra,rc,rfl,hsr,ht2⟩;have S2:=hid hsr;have T2:=hid (T1.out.trans ht2 (fun _ _ h=>h));have R2:=hid (Qi R1.out ht2.grown);have HF:Hid (RCellsX w n none (.returned (.tuple #[.slice none 0 0,.bool false])) w2):=hid ⟨T2.out,rfl⟩;clear hsr ht2 hmk;dsimp only;go_wp2;go_ret2
  exact HF.out
 ·have qe:(E != 0)=false:=by rw[hE];rfl
  have qm:((m:Int) != (n:Int))=true:=bne_iff_ne.2 (by omega);clear hno hE hmn;go_enter Tryz.func40,Tryz.ntmps40
  go_wp2_with fail
  rw[HW1.out];refine(HTT.out _ S1.out).mono ?_;rintro e w2 ⟨ra,rc,rfl,hsr,ht2⟩;have S2:=hid hsr;have T2:=hid (T1.out.trans ht2 (fun _ _ h=>h));have R2:=hid (Qi R1.out ht2.grown);have HF:Hid (RCellsX w n none (.returned (.tuple #[.slice none 0 0,.bool false])) w2):=hid ⟨T2.out,rfl⟩;clear hsr ht2 hmk;dsimp only;go_wp2;go_ret2
  exact HF.out
theorem QhH:∀(F:List Cel) (u:Value),u∈flatC F→(∃n,u=.int .i64 n)∨∃s,u=.string s
 | [],u,h=>by cases h
 |c :: F,u,h=>by
  rw[flatC]at h;rcases List.mem_cons.1 h with rfl|h
  ·exact .inl ⟨_,rfl⟩
  ·rcases List.mem_cons.1 h with rfl|h
   ·exact .inl ⟨_,rfl⟩
   ·rcases List.mem_cons.1 h with rfl|h
    ·exact .inr ⟨_,rfl⟩
    ·exact QhH F u h
theorem QnE{w:World}{base G n o:Nat}{F:List Cel}{B:Nat}{x:Int}(h:w.ownsRow base 24 3 (.slice (some ⟨G,0,none⟩) n n) n (flatC F))(hc:w.cell? ⟨B,o,none⟩=some (.int .u64 x)):¬B=G:=by
 rintro rfl;rcases h.2 with ⟨e1,_⟩|⟨g0,cap,cur,e1,hbg,hg,hnc,hcm,hcs,htake⟩
 ·cases e1
 ·cases e1
  have hl:cur.toList=flatC F:=by
   rw[←htake,List.take_of_length_le (by simp;omega)]
  unfold World.cell? at hc;rw[show(⟨B,o,none⟩:Addr).block=B from rfl,hg]at hc;simp only at hc;rw[←Array.getElem?_toList,hl]at hc;rcases QhH F _ (List.mem_of_getElem? hc) with ⟨_,e⟩|⟨_,e⟩ <;> cases e
theorem Qjw(kind:Int)(n:Nat)(a:Option Addr)(len c:Nat)(rest:List Int)(E:Int)(L:List Int)(m:Nat)(w:World)(hk:kind=2)(hn:n≤4096)(hm:L.length=m)(hE:E=0)(hmn:m=n)(hf:∀i,i<L.length→0≤L.getD i 0∧L.getD i 0<2)(hs:Bs.Seg w a len c rest)
  (HT:∀(W:World),Bs.Seg W a len c rest→Calls Tryz.prog 74 #[.slice a len c,.int .i64 (n:Int),.int .i64 1] W (GotB W E L m)) :
  Calls Tryz.prog 40 #[.int .i64 kind,.int .i64 (n:Int),.slice a len c] w (RCellsX w n (some (L.map fun v=>(⟨2,v,⟨#[]⟩⟩:Cel)))):=by
 have hmk:=Q3 n (by omega);have HS:=hid hs;have HTT:=hid HT;have qk1:(kind==1)=false:=beq_eq_false_iff_ne.2 (by omega);have qk2:(kind==2)=true:=beq_iff_eq.2 hk;obtain rfl:=hmn;have R1:=hid (Q6 m (by omega) w);have t1:=Turn.alloc w (.cells (roomC m) 24) nowhere;have S1:=hid (hs.grown t1.grown);have T1:=hid t1;obtain⟨W1,hW1⟩:∃V,w.alloc (.cells (roomC m) 24)=V:=⟨_,rfl⟩;rw[hW1]at R1 S1 T1;have HW1:=hid hW1;have HKK:=hid hk;have HM:=hid hm;have qe:(E != 0)=false:=by rw[hE];rfl
 have qm:((m:Int) != (m:Int))=false:=bne_self_eq_false _;have HFit:=hid hf;clear hW1 t1 hs HT hk hm hE hf;go_enter Tryz.func40,Tryz.ntmps40
 go_wp2_with fail
 rw[HW1.out];refine(HTT.out _ S1.out).mono ?_;rintro e w2 ⟨ra,rc,rfl,hsr,ht2⟩;have S2:=hid hsr;have T2:=hid (T1.out.trans ht2 (fun _ _ h=>h));have R2:=hid (Qi R1.out ht2.grown);have h12:=ht2.size;have hws:w.heap.size<W1.heap.size:=(R1.out.lt _ rfl).2;have HL0:Hid (fillC (L.map fun v=>(⟨2,v,⟨#[]⟩⟩:Cel)) 0=List.replicate m zeroC):=hid (by rw[Qek,List.length_map,HM.out]);clear hsr ht2 hmk T1 S1 R1 HTT;dsimp only;go_wp2
 go_loopw [14] (fun iv wx=>∃k:Nat,iv=.int .i64 k∧k≤m∧Hid (wx.ownsRow w.heap.size 24 3 (.slice (some ⟨w.heap.size,0,none⟩) m m) m (flatC (fillC (L.map fun v=>(⟨2,v,⟨#[]⟩⟩:Cel)) k)))∧Hid (Turn w2 wx (·=w.heap.size))) (fun iv _=>m-(intOf iv).toNat)
 case atStart=>exact⟨0,rfl,Nat.zero_le _,hid (by rw[HL0.out];exact R2.out),hid (Turn.refl _ _)⟩
 case round=>
  obtain⟨k,rfl,hk,RK,TK⟩:=hrel;by_cases hlt:k<m
  ·have hkl:k<L.length:=by rw[HM.out];exact hlt
   have qk1:(kind==1)=false:=by rw[HKK.out];decide
   have qk2:(kind==2)=true:=by rw[HKK.out];decide
   have hlt2:(k:Int)<(m:Int):=by omega
   have hk0:(0:Int)≤(k:Int):=by omega
   obtain⟨B,O,rfl,hc2⟩:=S2.out.addr (by omega);have hneB:¬B=w.heap.size:=QnE R2.out (hc2 k hlt);have hcx:=TK.out.cell (hc2 k hlt) hneB;obtain⟨v,hv⟩:∃v,v=L.getD k 0:=⟨_,rfl⟩;rw[←hv]at hcx;have HCK:Hid ((L.map fun v=>(⟨2,v,⟨#[]⟩⟩:Cel)).getD k zeroC=⟨kind,v,⟨#[]⟩⟩):=hid (by rw[HKK.out,hv,List.getD_eq_getElem?_getD,List.getElem?_map,List.getElem?_eq_getElem hkl];simp[List.getD,hkl]);have hvw:IntKind.i64.wrap v=v:=IntWalk.i64_in _ (by have h:=HFit.out k hkl;rw[←hv]at h;omega);have hfl:k<(fillC (L.map fun v=>(⟨2,v,⟨#[]⟩⟩:Cel)) k).length:=by rw[QeQ _ _ (by rw[List.length_map];omega),List.length_map];exact hkl
   have hfz:=QfZ (L.map fun v=>(⟨2,v,⟨#[]⟩⟩:Cel)) k (by rw[List.length_map];exact hkl);obtain⟨x0,x1,x2⟩:=(CSeg.own RK.out).cells0 k hlt;rw[hfz]at x0 x1 x2;have f0:=RK.out.frozenAt (k*3);have HST:=hid (QeS (L.map fun v=>(⟨2,v,⟨#[]⟩⟩:Cel)) k (by rw[List.length_map];exact hkl));rw[HCK.out]at HST;have hst1:=RK.out.stored (k*3) (.int .i64 kind);have HST1:=hid hst1;have HFL:=hid hfl;have HFZ:=hid hfz;have HVV:=hid hv;clear hfl hfz hst1 hv hc2;go_upto_region 23 with (fail)
   obtain⟨W7,hW7⟩:∃V,wr.setCell ⟨w.heap.size,k*3,none⟩ (.int .i64 kind)=V:=⟨_,rfl⟩;rw[hW7]at HST1 ⊢;have R7:=hid HST1.out.1;have t7:Turn wr W7 (·=w.heap.size):=Turn.QD HST1.out.2 (fun i e _=>(Option.some.inj e).symm);have hcx7:=t7.cell hcx hneB;have T7:=hid (TK.out.trans t7 (fun _ _ h=>h));have hx7:=R7.out.cells (g:=w.heap.size) rfl (k*3+1) (.int .i64 0) (by rw[List.getElem?_set_ne (by omega)];have h:=(Qc3 _ k HFL.out).2.1;rw[HFZ.out]at h;exact h);rw[Addr.add_lit,Nat.zero_add]at hx7;have f1:=R7.out.frozenAt (k*3+1);have hst2:=R7.out.stored (k*3+1) (.int .i64 v);rw[Qjq HFL.out HFZ.out kind v,HST.out]at hst2;have HST2:=hid hst2;clear hW7 HST1 hcx x0 x1 x2 f0 t7 hst2 HST HFL HFZ;go_upto_region 21 with (fail)
   obtain⟨W8,hW8⟩:∃V,W7.setCell ⟨w.heap.size,k*3+1,none⟩ (.int .i64 v)=V:=⟨_,rfl⟩;rw[hW8]at HST2 ⊢;have R8:=hid HST2.out.1;have T8:=hid (T7.out.trans (Turn.QD HST2.out.2 (fun i e _=>(Option.some.inj e).symm)) (fun _ _ h=>h));clear hW8 HST2 hcx7 hx7 f1 R7 T7 RK TK;go_wp2;go_roundw
   case rel=>exact⟨k+1,by go_num,by omega,R8,T8⟩
   case measure=>simp[intOf];omega
  ·obtain rfl:k=m:=by omega
   have hF:fillC (L.map fun v=>(⟨2,v,⟨#[]⟩⟩:Cel)) k=L.map fun v=>(⟨2,v,⟨#[]⟩⟩:Cel):=by
    have h:=QeV (L.map fun v=>(⟨2,v,⟨#[]⟩⟩:Cel))
    rwa [List.length_map,HM.out]at h
   rw[hF]at RK;have HF:Hid (RCellsX w k (some (L.map fun v=>(⟨2,v,⟨#[]⟩⟩:Cel))) (.returned (.tuple #[.slice (some ⟨w.heap.size,0,none⟩) k k,.bool true])) wr):=hid ⟨T2.out.trans TK.out (fun i hi e=>by have h2:i=w.heap.size:=e;omega),_,_,rfl,CSeg.own RK.out⟩;clear hF hlt RK TK;go_wp2;go_ret2
   exact HF.out
def GotT(w:World)(E:Int)(L:List (List Int))(m:Nat)(e:Ending)(w':World):Prop:=
 ∃a c,e=.returned (.tuple #[.slice a m c,.int .i64 E])∧Ss.Seg w' a m c L∧Turn w w' nowhere∧∀ad,a=some ad→w.heap.size≤ad.block
theorem Qfx(kind:Int)(n:Nat)(a:Option Addr)(len c:Nat)(rest:List Int)(E:Int)(L:List (List Int))(m:Nat)(w:World)(hk:kind=3)(hn:n≤4096)(hm:L.length=m)(hno:E≠0∨m≠n)(hs:Bs.Seg w a len c rest)
  (HT:∀(W:World),Bs.Seg W a len c rest→Calls Tryz.prog 75 #[.slice a len c] W (GotT W E L m)) :
  Calls Tryz.prog 40 #[.int .i64 kind,.int .i64 (n:Int),.slice a len c] w (RCellsX w n (none)):=by
 have hmk:=Q3 n (by omega);have HS:=hid hs;have HTT:=hid HT;have qk1:(kind==1)=false:=beq_eq_false_iff_ne.2 (by omega);have qk2:(kind==2)=false:=beq_eq_false_iff_ne.2 (by omega);have qk3:(kind==3)=true:=beq_iff_eq.2 hk;have R1:=hid (Q6 n (by omega) w);have t1:=Turn.alloc w (.cells (roomC n) 24) nowhere;have S1:=hid (hs.grown t1.grown);have T1:=hid t1;obtain⟨W1,hW1⟩:∃V,w.alloc (.cells (roomC n) 24)=V:=⟨_,rfl⟩;rw[hW1]at R1 S1 T1;have HW1:=hid hW1;have HKK:=hid hk;have HM:=hid hm;clear hW1 t1 hs HT hk hm;rcases(by omega:E≠0∨(E=0∧m≠n)) with hE|⟨hE,hmn⟩
 ·have qe:(E != 0)=true:=bne_iff_ne.2 hE;clear hno hE;go_enter Tryz.func40,Tryz.ntmps40
  go_wp2_with fail
  rw[HW1.out];refine(HTT.out _ S1.out).mono ?_;rintro e w2 ⟨ra,rc,rfl,hsr,ht2,hnr⟩;have S2:=hid hsr;have T2:=hid (T1.out.trans ht2 (fun _ _ h=>h));have R2:=hid (Qi R1.out ht2.grown);have HF:Hid (RCellsX w n none (.returned (.tuple #[.slice none 0 0,.bool false])) w2):=hid ⟨T2.out,rfl⟩;clear hsr ht2 hnr hmk;dsimp only;go_wp2;go_ret2
  exact HF.out
 ·have qe:(E != 0)=false:=by rw[hE];rfl
  have qm:((m:Int) != (n:Int))=true:=bne_iff_ne.2 (by omega);clear hno hE hmn;go_enter Tryz.func40,Tryz.ntmps40
  go_wp2_with fail
  rw[HW1.out];refine(HTT.out _ S1.out).mono ?_;rintro e w2 ⟨ra,rc,rfl,hsr,ht2,hnr⟩;have S2:=hid hsr;have T2:=hid (T1.out.trans ht2 (fun _ _ h=>h));have R2:=hid (Qi R1.out ht2.grown);have HF:Hid (RCellsX w n none (.returned (.tuple #[.slice none 0 0,.bool false])) w2):=hid ⟨T2.out,rfl⟩;clear hsr ht2 hnr hmk;dsimp only;go_wp2;go_ret2
  exact HF.out
theorem Qir(kind:Int)(n:Nat)(a:Option Addr)(len c:Nat)(rest:List Int)(E:Int)(L:List (List Int))(m:Nat)(w:World)(hk:kind=3)(hn:n≤4096)(hm:L.length=m)(hE:E=0)(hmn:m=n)(hs:Bs.Seg w a len c rest)
  (HT:∀(W:World),Bs.Seg W a len c rest→Calls Tryz.prog 75 #[.slice a len c] W (GotT W E L m)) :
  Calls Tryz.prog 40 #[.int .i64 kind,.int .i64 (n:Int),.slice a len c] w (RCellsX w n (some (L.map fun s=>(⟨3,0,strOfNums s⟩:Cel)))):=by
 have hmk:=Q3 n (by omega);have HS:=hid hs;have HTT:=hid HT;have qk1:(kind==1)=false:=beq_eq_false_iff_ne.2 (by omega);have qk2:(kind==2)=false:=beq_eq_false_iff_ne.2 (by omega);have qk3:(kind==3)=true:=beq_iff_eq.2 hk;obtain rfl:=hmn;have R1:=hid (Q6 m (by omega) w);have t1:=Turn.alloc w (.cells (roomC m) 24) nowhere;have S1:=hid (hs.grown t1.grown);have T1:=hid t1;obtain⟨W1,hW1⟩:∃V,w.alloc (.cells (roomC m) 24)=V:=⟨_,rfl⟩;rw[hW1]at R1 S1 T1;have HW1:=hid hW1;have HKK:=hid hk;have HM:=hid hm;have qe:(E != 0)=false:=by rw[hE];rfl
 have qm:((m:Int) != (m:Int))=false:=bne_self_eq_false _
 skip
 clear hW1 t1 hs HT hk hm hE;go_enter Tryz.func40,Tryz.ntmps40
 go_wp2_with fail
 rw[HW1.out];refine(HTT.out _ S1.out).mono ?_;rintro e w2 ⟨ra,rc,rfl,hsr,ht2,hnr⟩;have S2:=hid hsr;have T2:=hid (T1.out.trans ht2 (fun _ _ h=>h));have R2:=hid (Qi R1.out ht2.grown);have N2:Hid (∀ad,ra=some ad→ad.block≠w.heap.size):=hid (fun ad e=>by have h1:=hnr ad e;have h2:w.heap.size<W1.heap.size:=(R1.out.lt _ rfl).2;omega);have h12:=ht2.size;have hws:w.heap.size<W1.heap.size:=(R1.out.lt _ rfl).2;have HL0:Hid (fillC (L.map fun s=>(⟨3,0,strOfNums s⟩:Cel)) 0=List.replicate m zeroC):=hid (by rw[Qek,List.length_map,HM.out]);clear hsr ht2 hnr hmk T1 S1 R1 HTT;dsimp only;go_wp2
 go_loopw [14] (fun iv wx=>∃k:Nat,iv=.int .i64 k∧k≤m∧Hid (wx.ownsRow w.heap.size 24 3 (.slice (some ⟨w.heap.size,0,none⟩) m m) m (flatC (fillC (L.map fun s=>(⟨3,0,strOfNums s⟩:Cel)) k)))∧Hid (Turn w2 wx (·=w.heap.size))) (fun iv _=>m-(intOf iv).toNat)
 case atStart=>exact⟨0,rfl,Nat.zero_le _,hid (by rw[HL0.out];exact R2.out),hid (Turn.refl _ _)⟩
 case round=>
  obtain⟨k,rfl,hk,RK,TK⟩:=hrel;by_cases hlt:k<m
  ·have hkl:k<L.length:=by rw[HM.out];exact hlt
   have qk1:(kind==1)=false:=by rw[HKK.out];decide
   have qk2:(kind==2)=false:=by rw[HKK.out];decide
   have qk3:(kind==3)=true:=by rw[HKK.out];decide
   have hlt2:(k:Int)<(m:Int):=by omega
   have hk0:(0:Int)≤(k:Int):=by omega
   obtain⟨B,O,rfl,hc2⟩:=S2.out.addr (by omega);have hcx:=TK.out.cell (hc2 k hlt) (show ¬B=w.heap.size from N2.out ⟨B,O,none⟩ rfl);have hneB:¬B=w.heap.size:=N2.out ⟨B,O,none⟩ rfl;obtain⟨v,hv⟩:∃v,v=strOfNums (L.getD k []):=⟨_,rfl⟩;rw[←hv]at hcx;have HCK:Hid ((L.map fun s=>(⟨3,0,strOfNums s⟩:Cel)).getD k zeroC=⟨kind,0,v⟩):=hid (by rw[HKK.out,hv,List.getD_eq_getElem?_getD,List.getElem?_map,List.getElem?_eq_getElem hkl];simp[List.getD,hkl])
   skip
   have hfl:k<(fillC (L.map fun s=>(⟨3,0,strOfNums s⟩:Cel)) k).length:=by rw[QeQ _ _ (by rw[List.length_map];omega),List.length_map];exact hkl
   have hfz:=QfZ (L.map fun s=>(⟨3,0,strOfNums s⟩:Cel)) k (by rw[List.length_map];exact hkl);obtain⟨x0,x1,x2⟩:=(CSeg.own RK.out).cells0 k hlt;rw[hfz]at x0 x1 x2;have f0:=RK.out.frozenAt (k*3);have HST:=hid (QeS (L.map fun s=>(⟨3,0,strOfNums s⟩:Cel)) k (by rw[List.length_map];exact hkl));rw[HCK.out]at HST;have hst1:=RK.out.stored (k*3) (.int .i64 kind);have HST1:=hid hst1;have HFL:=hid hfl;have HFZ:=hid hfz;have HVV:=hid hv;clear hfl hfz hst1 hv hc2;go_upto_region 23 with (fail)
   obtain⟨W7,hW7⟩:∃V,wr.setCell ⟨w.heap.size,k*3,none⟩ (.int .i64 kind)=V:=⟨_,rfl⟩;rw[hW7]at HST1 ⊢;have R7:=hid HST1.out.1;have t7:Turn wr W7 (·=w.heap.size):=Turn.QD HST1.out.2 (fun i e _=>(Option.some.inj e).symm);have hcx7:=t7.cell hcx hneB;have T7:=hid (TK.out.trans t7 (fun _ _ h=>h));have hx7:=R7.out.cells (g:=w.heap.size) rfl (k*3+2) (.string ⟨#[]⟩) (by rw[List.getElem?_set_ne (by omega)];have h:=(Qc3 _ k HFL.out).2.2;rw[HFZ.out]at h;exact h);rw[Addr.add_lit,Nat.zero_add]at hx7;have f1:=R7.out.frozenAt (k*3+2);have hst2:=R7.out.stored (k*3+2) (.string v);rw[QoB HFL.out HFZ.out kind v,HST.out]at hst2;have HST2:=hid hst2;clear hW7 HST1 hcx x0 x1 x2 f0 t7 hst2 HST HFL HFZ;go_upto_region 21 with (fail)
   obtain⟨W8,hW8⟩:∃V,W7.setCell ⟨w.heap.size,k*3+2,none⟩ (.string v)=V:=⟨_,rfl⟩;rw[hW8]at HST2 ⊢;have R8:=hid HST2.out.1;have T8:=hid (T7.out.trans (Turn.QD HST2.out.2 (fun i e _=>(Option.some.inj e).symm)) (fun _ _ h=>h));clear hW8 HST2 hcx7 hx7 f1 R7 T7 RK TK;go_wp2;go_roundw
   case rel=>exact⟨k+1,by go_num,by omega,R8,T8⟩
   case measure=>simp[intOf];omega
  ·obtain rfl:k=m:=by omega
   have hF:fillC (L.map fun s=>(⟨3,0,strOfNums s⟩:Cel)) k=L.map fun s=>(⟨3,0,strOfNums s⟩:Cel):=by
    have h:=QeV (L.map fun s=>(⟨3,0,strOfNums s⟩:Cel))
    rwa [List.length_map,HM.out]at h
   rw[hF]at RK;have HF:Hid (RCellsX w k (some (L.map fun s=>(⟨3,0,strOfNums s⟩:Cel))) (.returned (.tuple #[.slice (some ⟨w.heap.size,0,none⟩) k k,.bool true])) wr):=hid ⟨T2.out.trans TK.out (fun i hi e=>by have h2:i=w.heap.size:=e;omega),_,_,rfl,CSeg.own RK.out⟩;clear hF hlt RK TK;go_wp2;go_ret2
   exact HF.out
theorem got_I{E:Int}{L:List Int}{m:Nat}{r:List Int}(hR:getI r=(E,L))(hm:L.length=m)(hr:Oct.IsB r)(hl:r.length≤100000000)(a:Option Addr)(c:Nat)(W:World)(hs:Bs.Seg W a r.length c r) :
  Calls Tryz.prog 73 #[.slice a r.length c] W (GotI W E L m):=by
 have h:=In.Qlj a r.length c r W hs hr hl;rw[In.QdW r hr,hR]at h;refine h.mono fun e w' ⟨x,k,e1,e2,e3,e4⟩=>⟨x,k,?_,?_,Nu.Qd e3,e4⟩
 ·rw[e1,←hm]
 ·rw[←hm];exact e2
theorem got_T{E:Int}{L:List (List Int)}{m:Nat}{r:List Int}(hR:Tx.resT (getT r)=(E,L))(hm:L.length=m)(hr:Oct.IsB r)(hl:r.length≤100000000)(a:Option Addr)(c:Nat)(W:World)(hs:Bs.Seg W a r.length c r) :
  Calls Tryz.prog 75 #[.slice a r.length c] W (GotT W E L m):=by
 have h:=Tx.Qmx a r.length c r W hs hr hl;rw[hR]at h;refine h.mono fun e w' ⟨x,k,e1,e2,e3,e4⟩=>⟨x,k,?_,?_,Nu.Qd e3,e4⟩
 ·rw[e1,←hm]
 ·rw[←hm];exact e2
theorem got_B{E:Int}{L:List Int}{m n:Nat}{r:List Int}(hR:getR r (n:Int) 1=(E,L))(hm:L.length=m)(hr:Oct.IsB r)(a:Option Addr)(c:Nat)(W:World)(hs:Bs.Seg W a r.length c r) :
  Calls Tryz.prog 74 #[.slice a r.length c,.int .i64 (n:Int),.int .i64 1] W (GotB W E L m):=by
 have h:=Pk.Qew a r.length c r (n:Int) 1 W hs (Pk.Q0 hr);rw[hR]at h;refine h.mono fun e w' ⟨x,k,e1,e2,e3⟩=>⟨x,k,?_,?_,Pk.Qc e3⟩
 ·rw[e1,←hm]
 ·rw[←hm];exact e2
theorem Qgh(k:Int)(n:Nat)(a:Option Addr)(c:Nat)(r:List Int)(w:World)(k1:1≤k)(k3:k≤3)(hn:n≤4096)(hs:Bs.Seg w a r.length c r)(hr:Oct.IsB r)(hl:r.length≤100000000) :
  Calls Tryz.prog 40 #[.int .i64 k,.int .i64 (n:Int),.slice a r.length c] w (RCellsX w n (cellsS k n r)):=by
 unfold cellsS;by_cases e1:k=1
 ·rw[if_pos e1];obtain⟨E,L,hR⟩:∃E L,getI r=(E,L):=⟨_,_,rfl⟩;rw[hR];by_cases hc:E≠0∨L.length≠n
  ·rw[if_pos hc];exact Qj0 k n a r.length c r E L L.length w e1 hn rfl hc hs (fun W h=>got_I hR rfl hr hl a c W h)
  ·rw[if_neg hc];exact Qis k n a r.length c r E L L.length w e1 hn rfl (Classical.byContradiction fun e=>hc (.inl e)) (Classical.byContradiction fun e=>hc (.inr e)) hs (fun W h=>got_I hR rfl hr hl a c W h)
 ·rw[if_neg e1];by_cases e2:k=2
  ·rw[if_pos e2];obtain⟨E,L,hR⟩:∃E L,getR r (n:Int) 1=(E,L):=⟨_,_,rfl⟩;rw[hR];by_cases hc:E≠0∨L.length≠n
   ·rw[if_pos hc];exact QjI k n a r.length c r E L L.length w e2 hn rfl hc hs (fun W h=>got_B hR rfl hr a c W h)
   ·rw[if_neg hc];have h0:E=0:=Classical.byContradiction fun e=>hc (.inl e)
    have hp:=Pk.Qau r (n:Int) 1 (Pk.Q0 hr) (by rw[hR];exact h0);rw[hR]at hp;have hf:=(Pk.Qbv _ 1 hp.2.2.2.nonneg).1 (by have:=hp.2.2.1;omega);refine Qjw k n a r.length c r E L L.length w e2 hn rfl h0 (Classical.byContradiction fun e=>hc (.inr e)) (fun i hi=>?_) hs (fun W h=>got_B hR rfl hr a c W h);rw[List.getD_eq_getElem?_getD,List.getElem?_eq_getElem hi];have:=hf _ (List.getElem_mem hi);exact⟨this.1,by have:=this.2;simpa using this⟩
  ·rw[if_neg e2];have e3:k=3:=by omega
   cases hg:getT r with
   |none=>
    have hR:Tx.resT (getT r)=(4,[]):=by rw[hg];rfl
    exact Qfx k n a r.length c r 4 [] 0 w e3 hn rfl (.inl (by decide)) hs (fun W h=>got_T hR rfl hr hl a c W h)
   |some L=>
    have hR:Tx.resT (getT r)=(0,L):=by rw[hg];rfl
    dsimp only;by_cases hc:L.length≠n
    ·rw[if_pos hc];exact Qfx k n a r.length c r 0 L L.length w e3 hn rfl (.inr hc) hs (fun W h=>got_T hR rfl hr hl a c W h)
    ·rw[if_neg hc];exact Qir k n a r.length c r 0 L L.length w e3 hn rfl rfl (Classical.byContradiction hc) hs (fun W h=>got_T hR rfl hr hl a c W h)
end Sg
namespace Sg
open Go.RowKit Go.Joins Zn Zr Dv
open Oct (Rd)
open Nu (getN cnt)
theorem Qdq{k:Int}(k1:1≤k)(k3:k≤3){m C:Nat}(h:C<m)(a b:Cel):checkE ⟨(m:Int),(C:Int),a,b⟩ k=0↔(CelOk k a∧CelOk k b∧¬0<cmpC a b):=by
 unfold checkE;rw[if_neg (by omega),if_neg (by simp only;omega),if_neg (by rintro⟨e,_⟩;simp only at e;omega)];by_cases hbd:boundB ⟨(m:Int),(C:Int),a,b⟩ k=true
 ·rw[if_neg (by rintro⟨_,e⟩;rw[hbd]at e;cases e)];have h1:=of_decide_eq_true hbd;exact⟨fun _=>⟨⟨h1.1.1,h1.1.2⟩,⟨h1.2.1.1,h1.2.1.2⟩,by have:=h1.2.2;simp only at this;omega⟩,fun _=>rfl⟩
 ·have hf:boundB ⟨(m:Int),(C:Int),a,b⟩ k=false:=by simpa using hbd
  rw[if_pos ⟨by simp only;omega,hf⟩];refine⟨(fun e=>by cases e),fun⟨o1,o2,o3⟩=>absurd (decide_eq_true ⟨⟨o1.k,o1.ok⟩,⟨o2.k,o2.ok⟩,?_⟩) hbd⟩;simp only;omega
theorem Qpt{w w':World}{k:Int}{nl:List Bool}{m C:Nat}{r0:List Int}{e:Ending}(k1:1≤k)(k3:k≤3)(hC:C<m)(hb:Oct.IsB r0)(h:HeadTwo w k nl m C r0 e w') :
  (match (match readCell k r0 with
   |none=>none
   |some (a,r1)=>match readCell k r1 with
    |none=>none
    |some (b,r2)=>if 0<cmpC a b then none else some ((⟨(m:Int),(C:Int),a,b⟩:Zon),r2)) with
   |none=>HeadNo w e w'
   |some (z,r)=>HeadYes w k nl m z r e w'):=by
 obtain⟨c1,r1,c2,r2,o1,o2,hy,hn⟩:=h;cases ha:readCell k r0 with
 |none=>
  rw[ha]at o1;exact hn (fun q=>o1 ((Qdq k1 k3 hC c1 c2).1 q).1)
 |some p=>
  obtain⟨a,ra⟩:=p;rw[ha]at o1;obtain⟨q1,q2⟩:=o1;subst q1 q2;obtain⟨oa,ea,_⟩:=Qdj k1 k3 hb ha;have hb1:Oct.IsB r1:=fun x hx=>hb x (by rw[ea];exact List.mem_append_right _ hx)
  dsimp only;cases hb2:readCell k r1 with
  |none=>
   rw[hb2]at o2;exact hn (fun q=>o2 ((Qdq k1 k3 hC c1 c2).1 q).2.1)
  |some p=>
   obtain⟨b,rb⟩:=p;rw[hb2]at o2;obtain⟨q1,q2⟩:=o2;subst q1 q2;obtain⟨ob,eb,_⟩:=Qdj k1 k3 hb1 hb2;dsimp only;by_cases hle:0<cmpC c1 c2
   ·rw[if_pos hle];exact hn (fun q=>((Qdq k1 k3 hC c1 c2).1 q).2.2 hle)
   ·rw[if_neg hle];exact hy ((Qdq k1 k3 hC c1 c2).2 ⟨oa,ob,hle⟩)
def HeadX(w:World)(o:Option (Int×List Bool×Zon×List Int))(e:Ending)(w':World):Prop:=match o with
 |none=>HeadNo w e w'
 |some (k,nl,z,r)=>HeadYes w k nl nl.length z r e w'
theorem QdC(s:List Int)(hb:Bs.IsB s)(hl:s.length≤100000000)(w:World):Calls Tryz.prog 34 #[.string (strOfNums s)] w (HeadX w (headS s)):=by
 cases s with
 |nil=>exact Qim w
 |cons k0 t=>
  rw[headS];by_cases hk:k0<1∨3<k0
  ·rw[if_pos hk];exact Qiz k0 t hb hk w
  ·rw[if_neg hk];have hbt:Oct.IsB t:=fun x hx=>hb x (List.mem_cons_of_mem _ hx)
   cases hg:getN t with
   |none=>exact Qih k0 t hb hl (by omega) (by omega) hg w
   |some p=>
    obtain⟨nl,r0⟩:=p;obtain⟨hn,ht⟩:=Nu.Qa4 hbt hg;have hbr:Oct.IsB r0:=fun x hx=>hbt x (by rw[ht];exact List.mem_append_right _ hx)
    have hcl:=Nu.QaK nl;dsimp only;by_cases hc:cnt nl=nl.length
    ·rw[if_pos hc];have hck:checkE ⟨(nl.length:Int),(nl.length:Int),zeroC,zeroC⟩ k0=0:=by
      unfold checkE;rw[if_neg (by omega),if_neg (by simp only;omega),if_neg (by rintro⟨_,e|e⟩ <;> rw[Zn.Qf2]at e <;> cases e),if_neg (by rintro⟨e,_⟩;exact e (by simp only))]
     have h:=Qju k0 t r0 nl nl.length hb hl (by omega) (by omega) hg rfl hc hck w
     show Calls _ _ _ _ (HeadYes w k0 nl nl.length ⟨(nl.length:Int),((cnt nl:Nat):Int),zeroC,zeroC⟩ r0)
     rw[hc];exact h
    ·rw[if_neg hc];obtain⟨M,hM⟩:∃M,nl.length=cnt nl+M:=⟨nl.length-cnt nl,by omega⟩;have h:Calls Tryz.prog 34 #[.string (strOfNums (k0 :: t))] w (HeadTwo w k0 nl nl.length (cnt nl) r0):=by
      rcases(by omega:k0=1∨k0=2∨k0=3) with e|e|e
      ·exact Qii k0 t r0 nl nl.length (cnt nl) M hb hl e hg rfl rfl hM (by omega) w
      ·exact Qij k0 t r0 nl nl.length (cnt nl) M hb hl e hg rfl rfl hM (by omega) w
      ·exact Qh7 k0 t r0 nl nl.length (cnt nl) M hb hl e hg rfl rfl hM (by omega) w
     refine h.mono fun e w' hx=>?_
     have h2:=Qpt (by omega) (by omega) (by omega) hbr hx;cases ha:readCell k0 r0 with
     |none=>rw[ha]at h2;exact h2
     |some p=>
      obtain⟨a,r1⟩:=p;rw[ha]at h2;dsimp only at h2 ⊢;cases hb2:readCell k0 r1 with
      |none=>rw[hb2]at h2;exact h2
      |some p=>
       obtain⟨b,r2⟩:=p;rw[hb2]at h2;dsimp only at h2 ⊢;by_cases hle:0<cmpC a b
       ·rw[if_pos hle]at h2 ⊢;exact h2
       ·rw[if_neg hle]at h2 ⊢;exact h2
end Sg
namespace Sg
open Go.RowKit Go.Joins Zn Zr Dv
theorem QlU{l:List Cel}{k:Nat}(h:k<l.length):nullsL (l.take (k+1))=nullsL (l.take k)++[decide ((l.getD k zeroC).k=0)]:=by
 rw[Qa7 l k h,QmK];rfl
def PartX(w:World)(l:List Cel)(n m:Nat)(e:Ending)(w':World):Prop:=
 ∃a c b d,e=.returned (.tuple #[.slice a n c,.slice b m d])∧w'.ownsRow w.heap.size 4 1 (.slice a n c) n ((nullsL l).map Value.bool)∧w'.ownsRow w.heap.size 24 3 (.slice b m d) m (flatC (someL l))∧Turn w w' nowhere
theorem QiC{w:World}{base e s n:Nat}{v:Value}{xs:List Value}(h:w.ownsRow base e s v n xs):∃a c,v=.slice a n c:=by
 rcases h.2 with ⟨rfl,h0⟩|⟨g,cap,cur,rfl,_⟩
 ·subst h0;exact⟨none,0,rfl⟩
 ·exact⟨_,_,rfl⟩
theorem Qok(a:Option Addr)(n c m:Nat)(l:List Cel)(w:World)(hs:CSeg w a n c l)(hn:n≤65536)(hm:(someL l).length=m):Calls Tryz.prog 27 #[.slice a n c] w (PartX w l n m):=by
 obtain⟨i0,ii,iz0,iz1,iz2⟩:=QaZ;obtain⟨j0,ji,jz0,jz1,jz2⟩:=info_parts Bl.QbY;have HS:=hid hs;have HL:=hid hs.len;have HM:=hid hm;clear hs hm;go_enter Tryz.func27,Tryz.ntmps27
 go_wp2
 go_loopw [2,3,8] (fun nv sv iv wx=>∃(k:Nat) (VN VS:Value),iv=.int .i64 k∧k≤n∧VN=nv∧VS=sv∧wx.ownsRow w.heap.size 4 1 VN k ((nullsL (l.take k)).map Value.bool)∧wx.ownsRow w.heap.size 24 3 VS (someL (l.take k)).length (flatC (someL (l.take k)))∧w.grownBy wx none) (fun _ _ iv _=>n-(intOf iv).toNat)
 case atStart=>exact⟨0,_,_,rfl,Nat.zero_le _,rfl,rfl,World.ownsRow_nil _ _ _ _,World.ownsRow_nil _ _ _ _,Qaz _⟩
 case round=>
  obtain⟨k,VN,VS,rfl,hk,rfl,rfl,rn,rs,hg⟩:=hrel;have HG:=hid hg;have RN:=hid rn;have RS:=hid rs;have hgs:=hg.size;clear rn rs hg;by_cases hlt:k<n
  ·obtain⟨B,O,rfl,hcs⟩:=(HS.out.old HG.out).form (by omega);obtain⟨x,hx⟩:∃x,x=l.getD k zeroC:=⟨_,rfl⟩;have HXE:=hid hx;have hkl:k<l.length:=by rw[HL.out];exact hlt
   have ht:=Qhs hkl;have hu:=QlU hkl;rw[←hx]at ht hu;have HT:=hid ht;have HU:=hid hu;have hlen:(someL (l.take k)).length≤k:=by
    have h1:=Qa8 (l.take k);rw[List.length_take]at h1;omega
   clear hcs hx ht hu hkl;have hlt2:(k:Int)<(n:Int):=by omega
   obtain⟨c0,c1,c2⟩:=Qp (HS.out.old HG.out) hlt HXE.out;by_cases hx0:x.k=0
   ·have q1:(x.k==0)=true:=beq_iff_eq.2 hx0;have q2:(x.k != 0)=false:=by rw[bne,q1];rfl
    have HT2:=hid (HT.out.trans (if_pos hx0));rw[decide_eq_true hx0]at HU;clear hx0 HT;go_upto_region 5 with (at_builtin;refine wpList_append_own _ rfl _ _ 44 rfl w.heap.size 4 j0 (.bool false) 1 1 Tryz.underlying44 ji jz0 jz1 jz2 rfl (by decide) VN k _ rfl (((RN.out.alloc _)).alloc _) ⟨wr.heap.size+1,0,none⟩ 1 1 [.bool true] rfl rfl (by intro y u hy;match y,hy with|0,hy=>simp at hy;subst hy;simp[Addr.add]) (by intro u hu;simp at hu;subst hu;rfl) (by unfold maxLen;omega) (by omega) (by simp;omega) ?_;intro V4 w4 hown4 hg4 hnil4)
    have RN4:Hid (w4.ownsRow w.heap.size 4 1 V4 (k+1) ((nullsL (l.take (k+1))).map Value.bool)):=hid (by rw[HU.out,List.map_append];exact hown4);have RS4:=hid (QT ((RS.out.alloc _).alloc _) hg4 (Qas RS.out RN.out (by decide)));have HG4:=hid (Bs.grownBy_trans (Qa (Qa HG.out (Qb _ _)) (Qb _ _)) hg4 (fun i e=>(RN.out.lt i e).1));have BX:Hid (CB w4 wr.heap.size x):=hid (by
     unfold CB;rw[hg4.block wr.heap.size (by simp;omega) (fun e=>by have:=(RN.out.lt _ e.symm).2;omega)];exact(CB.new wr x).old (Qb _ (.cells #[.bool true] 4)))
    clear hown4 hg4 hnil4 c0 c1 c2 RN RS HG;obtain⟨c0,c1,c2⟩:=BX.out.cells;go_wp2;go_roundw
    case rel=>exact⟨k+1,_,_,by go_num,by omega,rfl,rfl,RN4.out,by rw[HT2.out];exact RS4.out,HG4.out⟩
    case measure=>simp[intOf];omega
   ·have q1:(x.k==0)=false:=beq_eq_false_iff_ne.2 hx0;have q2:(x.k != 0)=true:=by rw[bne,q1];rfl
    have HT2:=hid (HT.out.trans (if_neg hx0));rw[decide_eq_false hx0]at HU;clear hx0 HT;go_upto_region 5 with (at_builtin;refine wpList_append_own _ rfl _ _ 44 rfl w.heap.size 4 j0 (.bool false) 1 1 Tryz.underlying44 ji jz0 jz1 jz2 rfl (by decide) VN k _ rfl (((RN.out.alloc _)).alloc _) ⟨wr.heap.size+1,0,none⟩ 1 1 [.bool false] rfl rfl (by intro y u hy;match y,hy with|0,hy=>simp at hy;subst hy;simp[Addr.add]) (by intro u hu;simp at hu;subst hu;rfl) (by unfold maxLen;omega) (by omega) (by simp;omega) ?_;intro V4 w4 hown4 hg4 hnil4)
    have RN4:Hid (w4.ownsRow w.heap.size 4 1 V4 (k+1) ((nullsL (l.take (k+1))).map Value.bool)):=hid (by rw[HU.out,List.map_append];exact hown4);have RS4:=hid (QT ((RS.out.alloc _).alloc _) hg4 (Qas RS.out RN.out (by decide)));have HG4:=hid (Bs.grownBy_trans (Qa (Qa HG.out (Qb _ _)) (Qb _ _)) hg4 (fun i e=>(RN.out.lt i e).1));have BX:Hid (CB w4 wr.heap.size x):=hid (by
     unfold CB;rw[hg4.block wr.heap.size (by simp;omega) (fun e=>by have:=(RN.out.lt _ e.symm).2;omega)];exact(CB.new wr x).old (Qb _ (.cells #[.bool false] 4)))
    clear hown4 hg4 hnil4 c0 c1 c2 RN RS HG;obtain⟨c0,c1,c2⟩:=BX.out.cells;have HB4:=HG4.out.size;go_wp2_with (at_builtin;refine wpList_append_own _ rfl _ _ 26 rfl w.heap.size 24 i0 (.agg #[.int .i64 0,.int .i64 0,.string ⟨#[]⟩]) 3 32 Tryz.underlying26 ii iz0 iz1 iz2 rfl (by decide) VS (someL (l.take k)).length _ rfl (RS4.out.alloc _) ⟨w4.heap.size,0,none⟩ 1 1 (flatC [x]) rfl rfl (Qc9 w4 x) (by intro u hu;simp[flatC]at hu;rcases hu with rfl|rfl|rfl <;> rfl) (by unfold maxLen;omega) (by omega) (by simp;omega) ?_;intro V5 w5 hown5 hg5 hnil5)
    have RN5:=hid (QT (RN4.out.alloc _) hg5 (Qas RN4.out RS4.out (by decide)));have HG5:=hid (Bs.grownBy_trans (Qa HG4.out (Qb _ _)) hg5 (fun i e=>(RS4.out.lt i e).1));have RS5:Hid (w5.ownsRow w.heap.size 24 3 V5 (someL (l.take (k+1))).length (flatC (someL (l.take (k+1))))):=hid (by
     rw[HT2.out,List.length_append,Qbo];exact hown5)
    clear hown5 hg5 hnil5 c0 c1 c2 RN4 RS4 HG4 HB4 BX;go_wp2;go_roundw
    case rel=>exact⟨k+1,_,_,by go_num,by omega,rfl,rfl,RN5.out,RS5.out,HG5.out⟩
    case measure=>simp[intOf];omega
  ·obtain rfl:k=n:=by omega
   have hT:l.take k=l:=List.take_of_length_le (by rw[HL.out];exact Nat.le_refl _);rw[hT]at RN RS;rw[HM.out]at RS;obtain⟨an,cn,rfl⟩:=QiC RN.out;obtain⟨ao,cs,rfl⟩:=QiC RS.out;have HF:Hid (PartX w l k m (.returned (.tuple #[.slice an k cn,.slice ao m cs])) wr):=hid ⟨_,_,_,_,rfl,RN.out,RS.out,Pk.Qc HG.out⟩;clear hT RN RS hlt;go_wp2;go_ret2
   exact HF.out
end Sg
end Go.Proofs.YtljanfnhmhimiaaGreat
