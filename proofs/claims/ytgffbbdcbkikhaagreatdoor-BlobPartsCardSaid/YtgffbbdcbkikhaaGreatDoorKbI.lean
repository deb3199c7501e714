/- Parts of the proof. -/
import Derived.Deep.Cut
import Derived.Test.YtgffbbdcbkikhaaGreatDoorKbH
set_option maxRecDepth 100000
set_option maxHeartbeats 8000000
open Go.Lib (hid)
namespace Go.Proofs.YtgffbbdcbkikhaaGreatDoor
namespace Cn
open Go.RowKit Bs Dv Gr
structure CC (w:World) (g h cap:Nat) (size:Int) (N:List Int):Prop where
 box:w.heap[g]?=some (.cells #[.int .i64 size,.int .i64 (N.length:Int),.slice (some ⟨h,0,none⟩) N.length cap,.pointer (some ⟨g,0,none⟩)] 135 (0,0))
 row:∀j,j<N.length→w.cell? ⟨h,j,none⟩=some (.int .u16 (N.getD j 0))∧w.frozen? ⟨h,j,none⟩=false
 ne:g≠h
 le:N.length≤cap
 capm:cap≤maxLen
 small:N.length≤4096
 lt:h<w.heap.size
theorem CC.turn{w w':World}{g h cap:Nat}{size:Int}{N:List Int}{S:Nat→Prop}(hc:CC w g h cap size N)(t:Turn w w' S)(hg:¬S g)(hh:¬S h):CC w' g h cap size N:=by
 refine⟨?_,fun j hj=>?_,hc.ne,hc.le,hc.capm,hc.small,Nat.lt_of_lt_of_le hc.lt t.size⟩
 ·rw[t.block g (Array.getElem?_eq_some_iff.1 hc.box).1 hg];exact hc.box
 ·obtain⟨h1,h2⟩:=hc.row j hj;exact⟨t.cell h1 hh,(t.frozen (p:=⟨h,j,none⟩) (World.block_lt_of_cell? w _ h1) hh).trans h2⟩
theorem CC.old{w w':World}{g h cap:Nat}{size:Int}{N:List Int}(hc:CC w g h cap size N)(k:w.grownBy w' none):CC w' g h cap size N:=hc.turn (Qc k) id id
theorem CC.glt{w:World}{g h cap:Nat}{size:Int}{N:List Int}(hc:CC w g h cap size N):g<w.heap.size:=(Array.getElem?_eq_some_iff.1 hc.box).1
theorem CC.cells{w:World}{g h cap:Nat}{size:Int}{N:List Int}(hc:CC w g h cap size N):w.cell? ⟨g,0,none⟩=some (.int .i64 size)∧w.cell? ⟨g,1,none⟩=some (.int .i64 (N.length:Int)) ∧
  w.cell? ⟨g,2,none⟩=some (.slice (some ⟨h,0,none⟩) N.length cap)∧w.cell? ⟨g,3,none⟩=some (.pointer (some ⟨g,0,none⟩)):=by
 refine⟨?_,?_,?_,?_⟩ <;> rw[cell_of_row _ _ _ _ _ _ hc.box] <;> rfl
theorem CC.set{w:World}{g h cap:Nat}{size:Int}{N:List Int}(hc:CC w g h cap size N)(k:Nat)(x:Int)(hk:k<N.length):CC (w.setCell ⟨h,k,none⟩ (.int .u16 x)) g h cap size (N.set k x)∧Turn w (w.setCell ⟨h,k,none⟩ (.int .u16 x)) (·=h):=by
 have ht:=Turn.setCell w ⟨h,k,none⟩ (.int .u16 x) (S:=(·=h)) rfl;refine⟨⟨?_,fun j hj=>?_,hc.ne,by rw[List.length_set];exact hc.le,hc.capm,by rw[List.length_set];exact hc.small,Nat.lt_of_lt_of_le hc.lt ht.size⟩,ht⟩
 ·rw[List.length_set,ht.block g (Array.getElem?_eq_some_iff.1 hc.box).1 hc.ne];exact hc.box
 ·rw[List.length_set]at hj;rw[Qj N k x j hk];have hfr:(w.setCell ⟨h,k,none⟩ (.int .u16 x)).frozen? ⟨h,j,none⟩=w.frozen? ⟨h,j,none⟩:=World.frozen?_setCells h [.int .u16 x] k w _;refine⟨?_,hfr.trans (hc.row j hj).2⟩;by_cases e:j=k
  ·subst e;rw[if_pos rfl];have h3:=World.cell?_setCells_in h [.int .u16 x] j w (fun i hi=>by
    obtain rfl:i=0:=by simpa using hi
    rw[Nat.add_zero,(hc.row j hj).1];rfl) 0 (by simp)
   exact h3.trans rfl
  ·rw[if_neg e];exact(World.cell?_setCells_out h [.int .u16 x] k w ⟨h,j,none⟩ (fun _ _=>by show j<k∨k+[Value.int .u16 x].length≤j;simp;omega)).trans (hc.row j hj).1
theorem Qg4:(Tryz.prog.info? 135).isSome=true:=by kernel_rfl
theorem QhT(a:Addr)(w:World):(binOp .eql 93 (.pointer (some a)) (.pointer (some a))).run Tryz.prog w=.ok (.bool true) w:=by
 obtain⟨j,hj⟩:=Option.isSome_iff_exists.1 Qg4;exact run_eql_ptr_same w a Tryz.underlying93 hj
theorem Ql(g:Nat)(w:World)(h:w.cell? ⟨g,3,none⟩=some (.pointer (some ⟨g,0,none⟩))) :
  Calls Tryz.prog 84 #[.pointer (some ⟨g,0,none⟩)] w fun e w'=>e=.returned (.bool true)∧w=w':=by
 have he:=QhT ⟨g,0,none⟩;go_enter Tryz.func84,Tryz.ntmps84
 go_wp2;go_ret
 exact⟨rfl,rfl⟩
theorem Qdq(w:World):Calls Tryz.prog 84 #[.pointer none] w fun e w'=>e=.returned (.bool false)∧w=w':=by
 go_enter Tryz.func84,Tryz.ntmps84
 go_wp2;go_ret
 exact⟨rfl,rfl⟩
theorem Qhk(g h cap:Nat)(size:Int)(N:List Int)(n:Nat)(w:World)(hc:CC w g h cap size N)(hn:n<4294967296) :
  Calls Tryz.prog 88 #[.pointer (some ⟨g,0,none⟩),.int .u32 (n:Int)] w fun e w'=>e=.returned (.bool (decide (n<N.length)))∧w=w':=by
 have c2:=hc.cells.2.2.1;have hs:=hc.small;have e1:IntKind.u64.wrap (N.length:Int)=(N.length:Int):=by rw[IntKind.wrap_u64];omega
 have e2:IntKind.u64.wrap (n:Int)=(n:Int):=by rw[IntKind.wrap_u64];omega
 obtain⟨L,hL⟩:∃L,N.length=L:=⟨_,rfl⟩;rw[hL]at c2 hs e1 ⊢;clear hL hc;have q2:decide ((n:Int)<(L:Int))=decide (n<L):=decide_eq_decide.2 (by omega);obtain⟨b,hb⟩:∃b,decide (n<L)=b:=⟨_,rfl⟩;rw[hb]at q2 ⊢;go_enter Tryz.func88,Tryz.ntmps88
 go_wp2;go_ret
 exact⟨rfl,rfl⟩
theorem Q9(g h cap:Nat)(size:Int)(N:List Int)(n:Nat)(w:World)(hc:CC w g h cap size N)(hn:n<4294967296)(hcn:IsC N) :
  Calls Tryz.prog 47 #[.pointer (some ⟨g,0,none⟩),.int .u32 (n:Int)] w fun e w'=>e=.returned (.int .i64 (N.getD n 0))∧w=w':=by
 have HV:=hid (Ql g w hc.cells.2.2.2);have HE:=hid (Qhk g h cap size N n w hc hn);have c2:=hc.cells.2.2.1;have hle:=hc.le;by_cases h2:n<N.length
 ·rw[decide_eq_true h2]at HE;have hcell:=(hc.row n h2).1;have hxr:=hcn (N.getD n 0) (by rw[List.getD_eq_getElem?_getD,List.getElem?_eq_getElem h2];exact List.getElem_mem h2);obtain⟨x,hx⟩:∃x,N.getD n 0=x:=⟨_,rfl⟩;obtain⟨L,hL⟩:∃L,N.length=L:=⟨_,rfl⟩;rw[hx]at hcell hxr ⊢;rw[hL]at c2 h2 hle;have e1:IntKind.i64.wrap x=x:=IntWalk.i64_in _ (by omega);clear hc hx hL hxr hcn;go_enter Tryz.func47,Tryz.ntmps47
  go_wp2_with (first|(go_at_call 84;refine HV.out.mono ?_;rintro e w' ⟨rfl,rfl⟩)|(go_at_call 88;refine HE.out.mono ?_;rintro e w' ⟨rfl,rfl⟩)|fail)
  go_ret
  exact⟨rfl,rfl⟩
 ·rw[decide_eq_false h2]at HE;have hx:N.getD n 0=0:=by rw[List.getD_eq_getElem?_getD,List.getElem?_eq_none (by omega)];rfl
  rw[hx];clear hc hx c2 hle h2 hcn;go_enter Tryz.func47,Tryz.ntmps47
  go_wp2_with (first|(go_at_call 84;refine HV.out.mono ?_;rintro e w' ⟨rfl,rfl⟩)|(go_at_call 88;refine HE.out.mono ?_;rintro e w' ⟨rfl,rfl⟩)|fail)
  go_ret
  exact⟨rfl,rfl⟩
theorem Qlx(n:Int)(w:World):Calls Tryz.prog 47 #[.pointer none,.int .u32 n] w fun e w'=>e=.returned (.int .i64 0)∧w=w':=by
 have HV:=hid (Qdq w);go_enter Tryz.func47,Tryz.ntmps47
 go_wp2_with (first|(go_at_call 84;refine HV.out.mono ?_;rintro e w' ⟨rfl,rfl⟩)|fail)
 go_ret
 exact⟨rfl,rfl⟩
def usedE(N:List Int)(n:Nat):Int:=if ¬(2≤n∧n<N.length) then 2 else if N.getD n 0=0 then 8 else 0
theorem Qa5(g h cap:Nat)(size:Int)(N:List Int)(n:Nat)(w:World)(hc:CC w g h cap size N)(hn:n<4294967296) :
  Calls Tryz.prog 104 #[.pointer (some ⟨g,0,none⟩),.int .u32 (n:Int)] w fun e w'=>e=.returned (.tuple #[.pointer (if usedE N n=0 then some ⟨h,n,none⟩ else none),.int .i64 (usedE N n)])∧w=w':=by
 have HV:=hid (Ql g w hc.cells.2.2.2);have HE:=hid (Qhk g h cap size N n w hc hn);have c2:=hc.cells.2.2.1;have hle:=hc.le;by_cases h1:2≤n
 ·have q1:decide ((n:Int)<2)=false:=decide_eq_false (by omega);by_cases h2:n<N.length
  ·rw[decide_eq_true h2]at HE;have hcell:=(hc.row n h2).1;have HU:Hid (usedE N n=if N.getD n 0=0 then 8 else 0):=hid (if_neg (fun k=>k ⟨h1,h2⟩));obtain⟨E,hE⟩:∃E,usedE N n=E:=⟨_,rfl⟩;obtain⟨x,hx⟩:∃x,N.getD n 0=x:=⟨_,rfl⟩;obtain⟨L,hL⟩:∃L,N.length=L:=⟨_,rfl⟩;rw[hx]at hcell HU;rw[hE]at HU ⊢;rw[hL]at c2 h2 hle;clear hc hx hL hE;by_cases h0:x=0
   ·have hE:E=8:=by rw[HU.out,if_pos h0]
    rw[if_neg (by rw[hE];decide)];subst hE;have q3:(x==0)=true:=beq_iff_eq.2 h0;clear h0 HU;go_enter Tryz.func104,Tryz.ntmps104
    go_wp2_with (first|(go_at_call 84;refine HV.out.mono ?_;rintro e w' ⟨rfl,rfl⟩)|(go_at_call 88;refine HE.out.mono ?_;rintro e w' ⟨rfl,rfl⟩)|fail)
    go_ret2
    exact⟨rfl,rfl⟩
   ·have hE:E=0:=by rw[HU.out,if_neg h0]
    rw[if_pos hE];subst hE;have q3:(x==0)=false:=beq_eq_false_iff_ne.2 h0;clear h0 HU;go_enter Tryz.func104,Tryz.ntmps104
    go_wp2_with (first|(go_at_call 84;refine HV.out.mono ?_;rintro e w' ⟨rfl,rfl⟩)|(go_at_call 88;refine HE.out.mono ?_;rintro e w' ⟨rfl,rfl⟩)|fail)
    go_ret2
    exact⟨rfl,rfl⟩
  ·rw[decide_eq_false h2]at HE;have hE:usedE N n=2:=if_pos (fun k=>h2 k.2);rw[hE];clear hc hE c2 hle h2;go_enter Tryz.func104,Tryz.ntmps104
   go_wp2_with (first|(go_at_call 84;refine HV.out.mono ?_;rintro e w' ⟨rfl,rfl⟩)|(go_at_call 88;refine HE.out.mono ?_;rintro e w' ⟨rfl,rfl⟩)|fail)
   go_ret2
   exact⟨rfl,rfl⟩
 ·have q1:decide ((n:Int)<2)=true:=decide_eq_true (by omega);have hE:usedE N n=2:=if_pos (fun k=>h1 k.1);rw[hE];clear hc hE c2 hle h1;go_enter Tryz.func104,Tryz.ntmps104
  go_wp2_with (first|(go_at_call 84;refine HV.out.mono ?_;rintro e w' ⟨rfl,rfl⟩)|fail)
  go_ret2
  exact⟨rfl,rfl⟩
theorem Qdt(g h cap:Nat)(size:Int)(N:List Int)(n:Nat)(w:World)(hc:CC w g h cap size N)(hn:n<4294967296)(hcn:IsC N) :
  Calls Tryz.prog 65 #[.pointer (some ⟨g,0,none⟩),.int .u32 (n:Int)] w fun e w'=>e=.returned (.int .i64 (addE N n))∧CC w' g h cap size (addN N n)∧Turn w w' (·=h):=by
 have HU:=hid (Qa5 g h cap size N n w hc hn);have HC:=hid hc;by_cases h1:usedE N n=0
 ·rw[if_pos h1,h1]at HU;have h2:2≤n∧n<N.length:=Classical.byContradiction fun k=>by unfold usedE at h1;rw[if_pos k]at h1;cases h1
  have h3:¬N.getD n 0=0:=fun k=>by unfold usedE at h1;rw[if_neg (fun q=>q h2),if_pos k]at h1;cases h1
  obtain⟨hcell,hfr⟩:=hc.row n h2.2;have hx:=hcn (N.getD n 0) (by rw[List.getD_eq_getElem?_getD,List.getElem?_eq_getElem h2.2];exact List.getElem_mem h2.2);have HE:Hid (addE N n=if N.getD n 0=65535 then 12 else 0):=hid (by unfold addE;rw[if_neg (fun k=>k h2),if_neg h3]);have HN:Hid (addE N n=0→addN N n=N.set n (N.getD n 0+1)):=hid (fun k=>if_pos k);have HN2:Hid (addE N n≠0→addN N n=N):=hid (fun k=>if_neg k);have HS2:=hid (hc.set n (N.getD n 0+1) h2.2);obtain⟨x,hxx⟩:∃x,N.getD n 0=x:=⟨_,rfl⟩;rw[hxx]at hcell hx HE HN HS2;obtain⟨E,hE⟩:∃E,addE N n=E:=⟨_,rfl⟩;rw[hE]at HE HN HN2 ⊢;obtain⟨R,hR⟩:∃R,addN N n=R:=⟨_,rfl⟩;rw[hR]at HN HN2 ⊢;clear hc h1 h2 h3 hxx hE hR hcn;by_cases h4:x=65535
  ·have hE:E=12:=by rw[HE.out,if_pos h4]
   have hR:R=N:=HN2.out (by rw[hE];decide);subst hE hR;have q2:(x==65535)=true:=beq_iff_eq.2 h4;clear h4 HE HN HN2 HS2 hx;go_enter Tryz.func65,Tryz.ntmps65
   go_wp2_with fail
   refine HU.out.mono ?_;rintro e w' ⟨rfl,rfl⟩;dsimp only;go_wp2;go_ret
   exact⟨rfl,HC.out,Turn.refl _ _⟩
  ·have hE:E=0:=by rw[HE.out,if_neg h4]
   have hR:R=N.set n (x+1):=HN.out hE;subst hE;rw[hR];have q2:(x==65535)=false:=beq_eq_false_iff_ne.2 h4;have e1:IntKind.u16.wrap (x+1)=x+1:=by rw[IntKind.wrap_u16];omega
   clear h4 HE HN HN2 hx hR;go_enter Tryz.func65,Tryz.ntmps65
   go_wp2_with fail
   refine HU.out.mono ?_;rintro e w' ⟨rfl,rfl⟩;dsimp only;go_wp2;go_ret
   exact⟨rfl,HS2.out⟩
 ·rw[if_neg h1]at HU;have hA:addE N n=usedE N n:=by
   unfold addE usedE at *;by_cases k:¬(2≤n∧n<N.length)
   ·rw[if_pos k,if_pos k]
   ·rw[if_neg k]at h1;rw[if_neg k,if_neg k];by_cases k2:N.getD n 0=0
    ·rw[if_pos k2,if_pos k2]
    ·rw[if_neg k2]at h1;exact absurd rfl h1
  have hR:addN N n=N:=if_neg (by rw[hA];exact h1);rw[hA,hR];obtain⟨E,hE⟩:∃E,usedE N n=E:=⟨_,rfl⟩;rw[hE]at HU h1 ⊢;have q1:(E != 0)=true:=bne_iff_ne.2 h1;clear hc h1 hA hR hE hcn;go_enter Tryz.func65,Tryz.ntmps65
  go_wp2_with fail
  refine HU.out.mono ?_;rintro e w' ⟨rfl,rfl⟩;dsimp only;go_wp2;go_ret
  exact⟨rfl,HC.out,Turn.refl _ _⟩
theorem QlZ(g h cap:Nat)(size:Int)(N:List Int)(n:Nat)(w:World)(hc:CC w g h cap size N)(hn:n<4294967296)(hcn:IsC N) :
  Calls Tryz.prog 92 #[.pointer (some ⟨g,0,none⟩),.int .u32 (n:Int)] w fun e w'=>e=.returned (.tuple #[.int .i64 (subV N n),.int .i64 (subE N n)])∧CC w' g h cap size (subN N n)∧Turn w w' (·=h):=by
 have HU:=hid (Qa5 g h cap size N n w hc hn);have HC:=hid hc;have hse:subE N n=usedE N n:=rfl;by_cases h1:usedE N n=0
 ·rw[if_pos h1,h1]at HU;have h2:2≤n∧n<N.length:=Classical.byContradiction fun k=>by unfold usedE at h1;rw[if_pos k]at h1;cases h1
  have h3:¬N.getD n 0=0:=fun k=>by unfold usedE at h1;rw[if_neg (fun q=>q h2),if_pos k]at h1;cases h1
  obtain⟨hcell,hfr⟩:=hc.row n h2.2;have hx:=hcn (N.getD n 0) (by rw[List.getD_eq_getElem?_getD,List.getElem?_eq_getElem h2.2];exact List.getElem_mem h2.2);have hE:subE N n=0:=hse.trans h1;have hV:subV N n=N.getD n 0-1:=if_pos hE;have hR:subN N n=N.set n (N.getD n 0-1):=if_pos hE;rw[hE,hV,hR];have HS2:=hid (hc.set n (N.getD n 0-1) h2.2);have hc2:=(HS2.out.1.row n (by rw[List.length_set];exact h2.2)).1;rw[Qj N n _ n h2.2,if_pos rfl]at hc2;obtain⟨x,hxx⟩:∃x,N.getD n 0=x:=⟨_,rfl⟩;rw[hxx]at hcell hx HS2 h3 hc2 ⊢;have e1:IntKind.u16.wrap (x-1)=x-1:=by rw[IntKind.wrap_u16];omega
  have e2:IntKind.i64.wrap (x-1)=x-1:=IntWalk.i64_in _ (by omega);clear hc h1 h2 h3 hxx hE hR hV hcn hse hx;go_enter Tryz.func92,Tryz.ntmps92
  go_wp2_with fail
  refine HU.out.mono ?_;rintro e w' ⟨rfl,rfl⟩;dsimp only;go_wp2;go_ret2
  exact⟨rfl,HS2.out⟩
 ·rw[if_neg h1]at HU;have hV:subV N n=0:=if_neg (by rw[hse];exact h1);have hR:subN N n=N:=if_neg (by rw[hse];exact h1);rw[hse,hV,hR];obtain⟨E,hE⟩:∃E,usedE N n=E:=⟨_,rfl⟩;rw[hE]at HU h1 ⊢;have q1:(E != 0)=true:=bne_iff_ne.2 h1;clear hc h1 hR hE hcn hse hV;go_enter Tryz.func92,Tryz.ntmps92
  go_wp2_with fail
  refine HU.out.mono ?_;rintro e w' ⟨rfl,rfl⟩;dsimp only;go_wp2;go_ret2
  exact⟨rfl,HC.out,Turn.refl _ _⟩
end Cn
namespace Cn
open Go.RowKit Bs Dv Gr
open Su (GeoOk QaE)
structure UR (w:World) (h cap:Nat) (N:List Int):Prop where
 row:∀j,j<N.length→w.cell? ⟨h,j,none⟩=some (.int .u16 (N.getD j 0))∧w.frozen? ⟨h,j,none⟩=false
 le:N.length≤cap
 capm:cap≤maxLen
 lt:h<w.heap.size
theorem UR.turn{w w':World}{h cap:Nat}{N:List Int}{S:Nat→Prop}(hc:UR w h cap N)(t:Turn w w' S)(hh:¬S h):UR w' h cap N:=by
 refine⟨fun j hj=>?_,hc.le,hc.capm,Nat.lt_of_lt_of_le hc.lt t.size⟩;obtain⟨h1,h2⟩:=hc.row j hj;exact⟨t.cell h1 hh,(t.frozen (p:=⟨h,j,none⟩) (World.block_lt_of_cell? w _ h1) hh).trans h2⟩
theorem UR.set{w:World}{h cap:Nat}{N:List Int}(hc:UR w h cap N)(k:Nat)(x:Int)(hk:k<N.length):UR (w.setCell ⟨h,k,none⟩ (.int .u16 x)) h cap (N.set k x):=by
 have ht:=Turn.setCell w ⟨h,k,none⟩ (.int .u16 x) (S:=(·=h)) rfl;refine⟨fun j hj=>?_,by rw[List.length_set];exact hc.le,hc.capm,Nat.lt_of_lt_of_le hc.lt ht.size⟩;rw[List.length_set]at hj;rw[Qj N k x j hk];have hfr:(w.setCell ⟨h,k,none⟩ (.int .u16 x)).frozen? ⟨h,j,none⟩=w.frozen? ⟨h,j,none⟩:=World.frozen?_setCells h [.int .u16 x] k w _;refine⟨?_,hfr.trans (hc.row j hj).2⟩;by_cases e:j=k
 ·subst e;rw[if_pos rfl];have h3:=World.cell?_setCells_in h [.int .u16 x] j w (fun i hi=>by
   obtain rfl:i=0:=by simpa using hi
   rw[Nat.add_zero,(hc.row j hj).1];rfl) 0 (by simp)
  exact h3.trans rfl
 ·rw[if_neg e];exact(World.cell?_setCells_out h [.int .u16 x] k w ⟨h,j,none⟩ (fun _ _=>by show j<k∨k+[Value.int .u16 x].length≤j;simp;omega)).trans (hc.row j hj).1
theorem UR.own{w:World}{base e g c:Nat}{N:List Int}(h:w.ownsRow base e 1 (.slice (some ⟨g,0,none⟩) N.length c) N.length (N.map (Value.int .u16))):UR w g c N:=by
 rcases h.2 with ⟨e,_⟩|⟨g',cap,cur,e,_,hg,h1,h2,_⟩
 ·cases e
 ·cases e
  refine⟨fun j hj=>⟨?_,by simp[World.frozen?,hg]⟩,h1,h2,(Array.getElem?_eq_some_iff.1 hg).1⟩;have:=h.cells (g:=g) rfl j (.int .u16 (N.getD j 0)) (by rw[List.getElem?_map,List.getElem?_eq_getElem hj,List.getD_eq_getElem?_getD,List.getElem?_eq_getElem hj];rfl)
  rwa [Addr.add_lit,Nat.zero_add]at this
theorem CC.seg{w:World}{g h cap:Nat}{size:Int}{N:List Int}(hc:CC w g h cap size N):Hs.Seg w (some ⟨h,0,none⟩) N.length cap N:=by
 refine⟨rfl,hc.le,hc.capm,(fun e=>by cases e),fun ad had j u hu=>?_⟩;cases had
 rw[List.getElem?_map]at hu;cases hq:N[j]? with
 |none=>rw[hq]at hu;cases hu
 |some x=>
  rw[hq]at hu;have hj:=(List.getElem?_eq_some_iff.1 hq).1;have h2:=(hc.row j hj).1;rw[List.getD_eq_getElem?_getD,hq]at h2;rw[Addr.add_lit,Nat.zero_add,←Option.some.inj hu];exact h2
theorem Qf6:(Tryz.prog.info? 136).map (fun i=>(i.zero,i.size,i.bytes))=some (some (.int .u16 0),1,2):=by kernel_rfl
def roomH(S:Nat):Array Value:=madeCells (Value.int .u16 0).cells S
theorem Qig(S:Nat)(hS:S≤1000000)(W:World):(Instr.makeSlice 133 (.int .i64 (S:Int)) (.int .i64 (S:Int))).run Tryz.prog W=.ok (.slice (some ⟨W.heap.size,0,none⟩) S S) (W.alloc (.cells (roomH S) 136)):=by
 obtain⟨i0,hi,hz0,hz1,hz2⟩:=info_parts Qf6;have h:=run_make (P:=Tryz.prog) W 133 136 i0 (.int .u16 0) Tryz.underlying133 hi hz0 .i64 .i64 (S:Int) (S:Int) (by omega) (by omega) (by rw[hz2];omega) (by omega);rw[hz1,Int.toNat_natCast,Nat.mul_one]at h;exact h
theorem Qkr(W:World)(S:Nat)(hS:S≤1000000):UR (W.alloc (.cells (roomH S) 136)) W.heap.size S (List.replicate S 0):=by
 refine⟨fun j hj=>?_,by rw[List.length_replicate];exact Nat.le_refl _,by unfold maxLen;omega,by simp⟩;rw[List.length_replicate]at hj;have q:=heap_alloc_new W (.cells (roomH S) 136);refine⟨?_,by simp only[World.frozen?,q];simp⟩;rw[cell_of_row _ _ _ _ _ _ (heap_alloc_new W _)];have h1:(roomH S).toList=List.replicate S (Value.int .u16 0):=toList_madeCells_one _ _;rw[←Array.getElem?_toList,h1];simp[List.getD,hj]
theorem Qa6(size:Int)(h cap:Nat)(N:List Int)(w:World)(hr:UR w h cap N)(hs:N.length≤4096) :
  Calls Tryz.prog 90 #[.agg #[.int .i64 size,.int .i64 (N.length:Int)],.slice (some ⟨h,0,none⟩) N.length cap] w fun e w'=>e=.returned (.pointer (some ⟨w.heap.size+1,0,none⟩))∧CC w' (w.heap.size+1) h cap size N∧w.grownBy w' none:=by
 have HR:=hid hr;have HLE:=hid hs;have HF:Hid (CC ((w.alloc (.cells #[.int .i64 size,.int .i64 (N.length:Int)] 28)).alloc (.cells #[.int .i64 size,.int .i64 (N.length:Int),.slice (some ⟨h,0,none⟩) N.length cap,.pointer (some ⟨w.heap.size+1,0,none⟩)] 135)) (w.heap.size+1) h cap size N ∧
   w.grownBy ((w.alloc (.cells #[.int .i64 size,.int .i64 (N.length:Int)] 28)).alloc (.cells #[.int .i64 size,.int .i64 (N.length:Int),.slice (some ⟨h,0,none⟩) N.length cap,.pointer (some ⟨w.heap.size+1,0,none⟩)] 135)) none):=hid (by
  have g1:=Qa (Qb w (.cells #[.int .i64 size,.int .i64 (N.length:Int)] 28)) (Qb _ (.cells #[.int .i64 size,.int .i64 (N.length:Int),.slice (some ⟨h,0,none⟩) N.length cap,.pointer (some ⟨w.heap.size+1,0,none⟩)] 135));have b1:=heap_alloc_new (w.alloc (.cells #[.int .i64 size,.int .i64 (N.length:Int)] 28)) (.cells #[.int .i64 size,.int .i64 (N.length:Int),.slice (some ⟨h,0,none⟩) N.length cap,.pointer (some ⟨w.heap.size+1,0,none⟩)] 135);rw[World.size_alloc]at b1;have r1:=hr.turn (Qc g1) id;exact⟨⟨b1,r1.row,by have:=hr.lt;omega,hr.le,hr.capm,hs,r1.lt⟩,g1⟩)
 obtain⟨L,hL⟩:∃L,N.length=L:=⟨_,rfl⟩;rw[hL]at HF HLE ⊢;clear hL hr hs;go_enter Tryz.func90,Tryz.ntmps90
 go_wp2;go_ret
 exact⟨rfl,HF.out⟩
def NewX(w:World)(size blocks:Int)(e:Ending)(w':World):Prop:=
 w.grownBy w' none∧((¬GeoOk size blocks∧e=.returned (.tuple #[.pointer none,.int .i64 2])) ∨
  ∃n:Nat,GeoOk size n∧blocks=n∧∃g h cap,e=.returned (.tuple #[.pointer (some ⟨g,0,none⟩),.int .i64 0])∧CC w' g h cap size (newC n)∧w.heap.size≤g∧w.heap.size≤h)
theorem Qkw(n i:Nat)(h:i<n):(onesC n i).set i 1=onesC n (i+1):=by
 unfold onesC;rw[List.set_append_right _ _ (by rw[List.length_replicate];exact Nat.le_refl _),List.length_replicate,Nat.sub_self,show n-i=(n-(i+1))+1 by omega,List.replicate_succ,List.set_cons_zero,List.replicate_succ',List.append_assoc]
 rfl
theorem Qlv{size blocks:Int}(h:¬GeoOk size blocks):geoE size blocks=2:=by
 unfold GeoOk at h;exact Qbc (by omega)
theorem Qcz(size blocks:Int)(w:World):Calls Tryz.prog 70 #[.agg #[.int .i64 size,.int .i64 blocks]] w (NewX w size blocks):=by
 have B0:=heap_alloc_new w (.cells #[.int .i64 size,.int .i64 blocks] 28);have G0:=Qb w (.cells #[.int .i64 size,.int .i64 blocks] 28);have HC:=hid (fun W=>QT size blocks W);have HB0:=hid B0;have HG0:=hid G0;by_cases h:GeoOk size blocks
 ·have hE:geoE size blocks=0:=(QaE _ _).2 h;rw[hE]at HC;obtain⟨n,rfl⟩:∃n:Nat,blocks=n:=Int.eq_ofNat_of_zero_le (by unfold GeoOk at h;omega);have HGE:=hid h;have hn:8≤n∧n≤4096:=by unfold GeoOk at h;omega
  have hmk:=Qig n (by omega);have HMR:=hid (fun W=>Qkr W n (by omega));have HW:=hid (fun h cap N W=>Qa6 size h cap N W);clear h hE B0 G0;go_enter Tryz.func70,Tryz.ntmps70
  go_wp2_with fail
  refine(HC.out _).mono ?_;rintro e w1 ⟨rfl,rfl⟩;have HB1:=hid (Qd HB0.out (Qb _ (.cells #[.int .i64 size,.int .i64 (n:Int)] 28)));have HG1:=hid (Qa HG0.out (Qb _ (.cells #[.int .i64 size,.int .i64 (n:Int)] 28)));obtain⟨W1,hW1⟩:∃V,(w.alloc (.cells #[.int .i64 size,.int .i64 (n:Int)] 28)).alloc (.cells #[.int .i64 size,.int .i64 (n:Int)] 28)=V:=⟨_,rfl⟩;rw[hW1]at HB1 HG1 ⊢;have hsz:w.heap.size<W1.heap.size:=by rw[←hW1];simp[World.size_alloc];omega
  clear hW1 HB0 HG0;dsimp only;have c1:W1.cell? ⟨w.heap.size,1,none⟩=some (.int .i64 n):=by rw[cell_of_row _ _ _ _ _ _ HB1.out];rfl
  have HR1:=hid (HMR.out W1);have HB2:=hid (Qd HB1.out (Qb W1 (.cells (roomH n) 136)));have HG2:=hid (Qa HG1.out (Qb W1 (.cells (roomH n) 136)));have HSZ:=hid hsz;go_wp2;clear c1 hmk
  go_loopw [15] (fun si wr=>∃k:Nat,k≤2∧si=.int .i64 k∧Hid (UR wr W1.heap.size n (onesC n k))∧Hid (Turn (W1.alloc (.cells (roomH n) 136)) wr (·=W1.heap.size))) (fun si _=>2-(intOf si).toNat)
  case atStart=>exact⟨0,by omega,rfl,hid (by unfold onesC;exact HR1.out),hid (Turn.refl _ _)⟩
  case round=>
   obtain⟨k,hk,rfl,HU,HT⟩:=hrel;by_cases hlt:k<2
   ·have q1:decide ((k:Int)<2)=true:=decide_eq_true (by omega);have hl:(onesC n k).length=n:=Qd2 n k (by omega);obtain⟨hcell,hfr⟩:=HU.out.row k (by rw[hl];omega);obtain⟨x,hx⟩:∃x,(onesC n k).getD k 0=x:=⟨_,rfl⟩;rw[hx]at hcell;have HS:=hid (HU.out.set k 1 (by rw[hl];omega));rw[Qkw n k (by omega)]at HS;have HT2:=hid (HT.out.trans (Turn.setCell wr ⟨W1.heap.size,k,none⟩ (.int .u16 1) (S:=(·=W1.heap.size)) rfl) (fun _ _ e=>e));have hkn:k<n:=by omega
    clear hl hx HU HT;go_wp2;go_roundw
    case rel=>exact⟨k+1,by omega,by go_num,HS,HT2⟩
    case measure=>simp[intOf];omega
   ·have q1:decide ((k:Int)<2)=false:=decide_eq_false (by omega);obtain rfl:k=2:=by omega
    have HGR:Hid (w.grownBy wr none):=hid (Qh HG2.out HT.out (by have:=HSZ.out;omega));have c0:wr.cell? ⟨w.heap.size,0,none⟩=some (.int .i64 size):=by
     have h1:(W1.alloc (.cells (roomH n) 136)).cell? ⟨w.heap.size,0,none⟩=some (.int .i64 size):=by rw[cell_of_row _ _ _ _ _ _ HB2.out];rfl
     exact HT.out.cell h1 (by have:=HSZ.out;show ¬w.heap.size=W1.heap.size;omega)
    have c1:wr.cell? ⟨w.heap.size,1,none⟩=some (.int .i64 n):=by
     have h1:(W1.alloc (.cells (roomH n) 136)).cell? ⟨w.heap.size,1,none⟩=some (.int .i64 n):=by rw[cell_of_row _ _ _ _ _ _ HB2.out];rfl
     exact HT.out.cell h1 (by have:=HSZ.out;show ¬w.heap.size=W1.heap.size;omega)
    have hl:(onesC n 2).length=n:=Qd2 n 2 (by omega);have HW2:=hid (HW.out W1.heap.size n (onesC n 2) wr HU.out (by rw[hl];omega));rw[hl]at HW2;have HCC:=hid (show onesC n 2=newC n from rfl);clear hl HU;go_wp2_with fail
    refine HW2.out.mono ?_;rintro e w3 ⟨rfl,hcc,hg⟩;have HX:Hid (NewX w size n (.returned (.tuple #[.pointer (some ⟨wr.heap.size+1,0,none⟩),.int .i64 0])) w3):=hid ⟨Qa HGR.out hg,.inr ⟨n,HGE.out,rfl,wr.heap.size+1,W1.heap.size,n,rfl,by rw[←HCC.out];exact hcc,by have:=HGR.out.size;omega,by have:=HSZ.out;omega⟩⟩;clear hcc hg;dsimp only;go_wp2;go_ret2
    exact HX.out
 ·have hE:geoE size blocks=2:=Qlv h;rw[hE]at HC;have HNO:=hid h;clear h hE B0 G0;go_enter Tryz.func70,Tryz.ntmps70
  go_wp2_with fail
  refine(HC.out _).mono ?_;rintro e w1 ⟨rfl,rfl⟩;have HX:Hid (NewX w size blocks (.returned (.tuple #[.pointer none,.int .i64 2])) ((w.alloc (.cells #[.int .i64 size,.int .i64 blocks] 28)).alloc (.cells #[.int .i64 size,.int .i64 blocks] 28))):=hid ⟨Qa HG0.out (Qb _ _),.inl ⟨HNO.out,rfl⟩⟩;dsimp only;go_wp2;go_ret2
  exact HX.out
end Cn
end Go.Proofs.YtgffbbdcbkikhaaGreatDoor
