/- Parts of the proof. -/
import Derived.Deep.RegionHeld3
import Derived.Test.YtgffbbdcbkikhaaGreatDoorKbI
set_option maxRecDepth 100000
set_option maxHeartbeats 8000000
open Go.Lib (hid)
namespace Go.Proofs.YtgffbbdcbkikhaaGreatDoor
namespace Cn
open Go.RowKit Bs Dv Gr
open Su (GeoOk QaE)
theorem QeG{P:Program}{w:World}{ops:Array Oper}{rest:List Oper}{o:Oper}{a:Act}{Q:Exit→Act→World→Prop}(hgd:o.guard=none)(s x:Operand)(t:TypeId)
  (ho:o.op=.call { callee:=.builtin .append,args:=#[s,x],argTypes:=#[t,t] }) (base:Nat) (e:TypeId) (i:TypeInfo) (ht:P.underlying t=some (.slice e)) (hi:P.info? e=some i) (hz:i.zero=some (.int .u16 0)) (hsize:i.size=1) (hby:i.bytes=2)
  (g n0 c0:Nat) (xs:List Value) (hs:a.eval s=.slice (some ⟨g,0,none⟩) n0 c0) (hown:w.ownsRow base e 1 (.slice (some ⟨g,0,none⟩) n0 c0) n0 xs)
  (ad:Addr) (n c:Nat) (l:List Int) (hx:a.eval x=.slice (some ad) n c) (hseg:Hs.Seg w (some ad) n c l) (hbytes:(n0+n)*2≤140737488355328) (hbase:base≤w.heap.size)
  (h:∀g' c' w',w'.ownsRow base e 1 (.slice (some ⟨g',0,none⟩) (n0+n) c') (n0+n) (xs++l.map (Value.int .u16))→w.grownBy w' (some g)→wpList P ops Q rest (a.put o.dst (.slice (some ⟨g',0,none⟩) (n0+n) c')) w'):wpList P ops Q (o :: rest) a w:=by
 refine wpList_plain hgd fun K hK=>?_
 refine wp_append_own w s x t ho base e i (.int .u16 0) 1 2 ht hi hz hsize hby rfl (by decide) _ n0 xs hs hown ad n c (l.map (Value.int .u16)) hx (by simp[hseg.len]) (hseg.at_ ad rfl) (ints_oneCell _ _) (by unfold maxLen;omega) (by omega) hbase ?_;intro v' w1 hown1 hg1 hnil;rcases hown1.2 with ⟨e1,_⟩|⟨g',c',cur,e1,_⟩
 ·exact absurd (hnil.1 e1).1 (by simp)
 ·subst e1;exact hK _ _ (h g' c' w1 hown1 hg1)
theorem QjX(ad:Addr)(n c:Nat)(l:List Int)(w:World)(hs:Hs.Seg w (some ad) n c l)(hn:n≤4096) :
  Calls Tryz.prog 91 #[.slice (some ad) n c] w fun e w'=>∃g' c',e=.returned (.slice (some ⟨g',0,none⟩) n c')∧UR w' g' c' l∧w.heap.size≤g'∧w.grownBy w' none:=by
 obtain⟨i0,hi,hz0,hz1,hz2⟩:=info_parts Qf6;have hown:=World.ownsRow_made (base:=w.heap.size) (e:=136) (size:=1) w #[] 0 (Nat.le_refl _) (by unfold maxLen;omega) rfl;have HO:=hid hown;have HG:=hid (Qb w (.cells #[] 136));have HS:=hid (hs.grown HG.out);have HL:=hid hs.len;have heq:∀W:World,(binOp .eql 133 (.slice (some ad) n c) (.slice none 0 0)).run Tryz.prog W=.ok (.bool false) W:=fun W=>by kernel_rfl
 clear hown hs;go_enter Tryz.func91,Tryz.ntmps91
 go_wp2_with (at_builtin;refine QeG rfl (.tmp 5) (.tmp 6) 133 rfl w.heap.size 136 i0 Tryz.underlying133 hi hz0 hz1 hz2 w.heap.size 0 0 [] rfl HO.out ad n c l rfl HS.out (by omega) (by simp) ?_;intro g1 c1 w1 hown1 hgrow1;simp only[Nat.zero_add,List.nil_append]at hown1 ⊢;have HO1:=hid hown1;have HG1:=hid hgrow1;clear hown1 hgrow1)
 go_ret
 have hU:UR w1 g1 c1 l:=by
  have h:=HO1.out;have hl:=HL.out;subst hl;exact UR.own h
 refine⟨g1,c1,rfl,hU,?_,?_⟩
 ·rcases HO1.out.2 with ⟨e,_⟩|⟨g',cap,cur,e,hb,_⟩
  ·cases e
  ·cases e;exact hb
 ·exact⟨HG1.out.os,HG1.out.tape,HG1.out.output,Nat.le_trans HG.out.size HG1.out.size,fun i hi _=>(HG1.out.block i (Nat.lt_of_lt_of_le hi HG.out.size) (fun e=>by have:=Option.some.inj e;omega)).trans (HG.out.block i hi (by simp))⟩
def CloneX(w:World)(size:Int)(N:List Int)(e:Ending)(w':World):Prop:=
 w.grownBy w' none∧∃g h cap,e=.returned (.pointer (some ⟨g,0,none⟩))∧CC w' g h cap size N∧w.heap.size≤g∧w.heap.size≤h
theorem Qc5       (g h cap:Nat) (size:Int) (N:List Int) (w:World) (hc:CC w g h cap size N) :
    Calls Tryz.prog 52 #[.pointer (some ⟨g,0,none⟩)] w (CloneX w size N):=by
  have HV:=hid (Ql g w hc.cells.2.2.2)
  obtain⟨c0,c1,c2,c3⟩:=hc.cells
  have HSG:=hid (fun W (k:w.grownBy W none)=>(hc.old k).seg)
  have HS:=hid hc.small
  have HCL:=hid (fun W (k:w.grownBy W none)=>QjX ⟨h,0,none⟩ N.length cap N W (HSG.out W k) hc.small)
  have HW:=hid (fun h2 cap2 W (k:UR W h2 cap2 N)=>Qa6 size h2 cap2 N W k hc.small)
  have HD:=hid (Qn w)
  obtain⟨L,hL⟩:∃L,N.length=L:=⟨_,rfl⟩
  rw[hL]at c1 c2 HCL HW
  clear hc c3 hL HSG HS
  go_enter Tryz.func52,Tryz.ntmps52
  go_wp2_with (first|(go_at_call 84;refine HV.out.mono ?_;rintro e w' ⟨rfl,rfl⟩)|fail)
  go_region_held3 (fun w'=>w'.cell? ⟨g,0,none⟩=some (.int .i64 size)∧w'.cell? ⟨g,1,none⟩=some (.int .i64 (L:Int))∧w'.cell? ⟨g,2,none⟩=some (.slice (some ⟨h,0,none⟩) L cap)) (go_keep)
    (first
      | (go_at_call 91
         (with_reducible refine(HCL.out _ HD.out).mono ?_)
         rintro e w2 ⟨h2,cap2,rfl,hu2,hlt2,hg2⟩
         have HU2:=hid hu2
         have HL2:=hid hlt2
         have HG2:=hid (Qa HD.out hg2)
         have k0:=(Qc HG2.out).cell c0 id
         have k1:=(Qc HG2.out).cell c1 id
         have k2:=(Qc HG2.out).cell c2 id
         clear hu2 hlt2 hg2)
      | (go_at_call 90
         (with_reducible refine(HW.out _ _ _ HU2.out).mono ?_)
         rintro e w3 ⟨rfl,hcc,hg3⟩
         have k0:=(Qc (Qa HG2.out hg3)).cell c0 id
         have k1:=(Qc (Qa HG2.out hg3)).cell c1 id
         have k2:=(Qc (Qa HG2.out hg3)).cell c2 id
         have HX:Hid (CloneX w size N (.returned (.pointer (some ⟨w2.heap.size+1,0,none⟩))) w3):=hid ⟨Qa HG2.out hg3,_,_,_,rfl,hcc,by have:=HG2.out.size;omega,HL2.out⟩
         clear hcc hg3)
      |fail)
  go_wp2
  go_ret
  exact HX.out
def JR(w:World)(h:Nat)(l:List Int):Prop:=∀j,j<l.length→w.cell? ⟨h,j,none⟩=some (.int .i64 (l.getD j 0))∧w.frozen? ⟨h,j,none⟩=false
theorem JR.turn{w w':World}{h:Nat}{l:List Int}{S:Nat→Prop}(hc:JR w h l)(t:Turn w w' S)(hh:¬S h):JR w' h l:=fun j hj=>by
 obtain⟨h1,h2⟩:=hc j hj;exact⟨t.cell h1 hh,(t.frozen (p:=⟨h,j,none⟩) (World.block_lt_of_cell? w _ h1) hh).trans h2⟩
theorem JR.set{w:World}{h:Nat}{l:List Int}(hc:JR w h l)(k:Nat)(x:Int)(hk:k<l.length):JR (w.setCell ⟨h,k,none⟩ (.int .i64 x)) h (l.set k x):=fun j hj=>by
 rw[List.length_set]at hj;rw[Qj l k x j hk];have hfr:(w.setCell ⟨h,k,none⟩ (.int .i64 x)).frozen? ⟨h,j,none⟩=w.frozen? ⟨h,j,none⟩:=World.frozen?_setCells h [.int .i64 x] k w _;refine⟨?_,hfr.trans (hc j hj).2⟩;by_cases e:j=k
 ·subst e;rw[if_pos rfl];have h3:=World.cell?_setCells_in h [.int .i64 x] j w (fun i hi=>by
   obtain rfl:i=0:=by simpa using hi
   rw[Nat.add_zero,(hc j hj).1];rfl) 0 (by simp)
  exact h3.trans rfl
 ·rw[if_neg e];exact(World.cell?_setCells_out h [.int .i64 x] k w ⟨h,j,none⟩ (fun _ _=>by show j<k∨k+[Value.int .i64 x].length≤j;simp;omega)).trans (hc j hj).1
theorem JR.seg{w:World}{h:Nat}{l:List Int}(hc:JR w h l)(hl:l.length≤1000000):Js.Seg w (some ⟨h,0,none⟩) l.length l.length l:=by
 refine⟨rfl,Nat.le_refl _,by unfold maxLen;omega,(fun e=>by cases e),fun ad had j u hu=>?_⟩;cases had
 rw[List.getElem?_map]at hu;cases hq:l[j]? with
 |none=>rw[hq]at hu;cases hu
 |some x=>
  rw[hq]at hu;have h2:=(hc j (List.getElem?_eq_some_iff.1 hq).1).1;rw[List.getD_eq_getElem?_getD,hq]at h2;rw[Addr.add_lit,Nat.zero_add,←Option.some.inj hu];exact h2
def roomJ(S:Nat):Array Value:=madeCells (Value.int .i64 0).cells S
theorem Qet(S:Nat)(hS:S≤1000000)(W:World):(Instr.makeSlice 98 (.int .i64 (S:Int)) (.int .i64 (S:Int))).run Tryz.prog W=.ok (.slice (some ⟨W.heap.size,0,none⟩) S S) (W.alloc (.cells (roomJ S) 3)):=by
 obtain⟨i0,hi,hz0,hz1,hz2⟩:=info_parts Js.Qkg;have h:=run_make (P:=Tryz.prog) W 98 3 i0 (.int .i64 0) Tryz.underlying98 hi hz0 .i64 .i64 (S:Int) (S:Int) (by omega) (by omega) (by rw[hz2];omega) (by omega);rw[hz1,Int.toNat_natCast,Nat.mul_one]at h;exact h
theorem Qfl(W:World)(S:Nat):JR (W.alloc (.cells (roomJ S) 3)) W.heap.size (List.replicate S 0):=fun j hj=>by
 rw[List.length_replicate]at hj;have q:=heap_alloc_new W (.cells (roomJ S) 3);refine⟨?_,by simp only[World.frozen?,q];simp⟩;rw[cell_of_row _ _ _ _ _ _ (heap_alloc_new W _)];have h1:(roomJ S).toList=List.replicate S (Value.int .i64 0):=toList_madeCells_one _ _;rw[←Array.getElem?_toList,h1];simp[List.getD,hj]
def fillC(N:List Int)(k:Nat):List Int:=N.take k++List.replicate (N.length-k) 0
theorem Qj4(N:List Int)(k:Nat)(h:k≤N.length):(fillC N k).length=N.length:=by unfold fillC;rw[List.length_append,List.length_take,List.length_replicate];omega
theorem Qj3(N:List Int):fillC N N.length=N:=by unfold fillC;rw[List.take_of_length_le (Nat.le_refl _),Nat.sub_self];exact List.append_nil _
theorem Qj5(N:List Int)(k:Nat)(h:k<N.length):(fillC N k).set k (N.getD k 0)=fillC N (k+1):=by
 unfold fillC;have ht:(N.take k).length=k:=by rw[List.length_take];omega
 rw[List.set_append_right _ _ (by omega),ht,Nat.sub_self,show N.length-k=(N.length-(k+1))+1 by omega,List.replicate_succ,List.set_cons_zero,List.take_succ_eq_append_getElem h,List.append_assoc,List.getD_eq_getElem?_getD,List.getElem?_eq_getElem h]
 rfl
def AllX(w:World)(N:List Int)(e:Ending)(w':World):Prop:=
 w.grownBy w' none∧∃h,e=.returned (.slice (some ⟨h,0,none⟩) N.length N.length)∧JR w' h N∧w.heap.size≤h
theorem Qle(g h cap:Nat)(size:Int)(N:List Int)(w:World)(hc:CC w g h cap size N)(hcn:IsC N) :
  Calls Tryz.prog 50 #[.pointer (some ⟨g,0,none⟩)] w (AllX w N):=by
 have HV:=hid (Ql g w hc.cells.2.2.2);have c2:=hc.cells.2.2.1;have hs:=hc.small;have hle:=hc.le;have hmk:=Qet N.length (by omega);obtain⟨W1,hW1⟩:∃X,w.alloc (.cells (roomJ N.length) 3)=X:=⟨_,rfl⟩;have HR0:Hid (JR W1 w.heap.size (fillC N 0)):=hid (by rw[←hW1];exact Qfl w N.length);have hg1:w.grownBy W1 none:=by rw[←hW1];exact Qb w _
 have HG1:=hid hg1;have hc2:(w.alloc (.cells (roomJ N.length) 3)).cell? ⟨g,2,none⟩=some (.slice (some ⟨h,0,none⟩) N.length cap):=by rw[hW1];exact(hc.old hg1).cells.2.2.1
 have HCR:=hid (fun j hj=>(hc.row j hj).1);have HCN:=hid hcn;have HFA:=hid (Qj3 N);have HFS:=hid (fun k (hk:k<N.length)=>Qj5 N k hk);have HFL:=hid (fun k (hk:k≤N.length)=>Qj4 N k hk);have HGT:Hid (∀j,j<N.length→0≤N.getD j 0∧N.getD j 0<65536):=hid (fun j hj=>hcn _ (by rw[List.getD_eq_getElem?_getD,List.getElem?_eq_getElem hj];exact List.getElem_mem hj));have HLT:Hid (h<w.heap.size):=hid hc.lt;have HX:Hid (∀W,JR W w.heap.size N→w.grownBy W none→AllX w N (.returned (.slice (some ⟨w.heap.size,0,none⟩) N.length N.length)) W):=hid (fun W h1 h2=>⟨h2,_,rfl,h1,Nat.le_refl _⟩);obtain⟨L,hL⟩:∃L,N.length=L:=⟨_,rfl⟩;rw[hL]at c2 hs hle hmk hW1 hc2 HCR HFA HFS HFL HGT HX;have HW1:=hid hW1;clear hc hcn hL hg1 hW1;go_enter Tryz.func50,Tryz.ntmps50
 go_wp2_with (first|(go_at_call 84;refine HV.out.mono ?_;rintro e w' ⟨rfl,rfl⟩)|fail)
 rw[HW1.out]
 go_loopw [20] (fun si wr=>∃k:Nat,k≤L∧si=.int .i64 k∧Hid (JR wr w.heap.size (fillC N k))∧Hid (w.grownBy wr none)) (fun si _=>L-(intOf si).toNat)
 case atStart=>exact⟨0,by omega,rfl,HR0,HG1⟩
 case round=>
  obtain⟨k,hk,rfl,HR,HG⟩:=hrel;by_cases hlt:k<L
  ·have hq:decide (k<L)=true:=decide_eq_true hlt;have hcell:=(Qc HG.out).cell (HCR.out k hlt) id;have hx:=HGT.out k hlt;have hl:=HFL.out k hk;obtain⟨hcell2,hfr2⟩:=HR.out k (by rw[hl];have:=HFL.out 0 (by omega);omega);have HS:=hid (HR.out.set k (N.getD k 0) (by rw[hl];have:=HFL.out 0 (by omega);omega));rw[HFS.out k hlt]at HS;obtain⟨x,hxx⟩:∃x,N.getD k 0=x:=⟨_,rfl⟩;rw[hxx]at hcell hx HS;obtain⟨y,hy⟩:∃y,(fillC N k).getD k 0=y:=⟨_,rfl⟩;rw[hy]at hcell2;have e1:IntKind.i64.wrap x=x:=IntWalk.i64_in _ (by omega);have HG2:Hid (w.grownBy (wr.setCell ⟨w.heap.size,k,none⟩ (.int .i64 x)) none):=hid (Qh HG.out (Turn.setCell wr ⟨w.heap.size,k,none⟩ (.int .i64 x) (S:=(·=w.heap.size)) rfl) (Nat.le_refl _));clear hxx hy hl hx HR HG;go_wp2;go_roundw
   case rel=>exact⟨k+1,by omega,by go_num,HS,HG2⟩
   case measure=>simp[intOf];omega
  ·have hq:decide (k<L)=false:=decide_eq_false hlt;obtain rfl:k=L:=by omega
   have HF:=hid (HX.out wr (by rw[←HFA.out];exact HR.out) HG.out);clear HR;go_wp2;go_ret
   exact HF.out
end Cn
namespace Cn
open Go.RowKit Bs Dv Gr
def TookC(H N:List Int)(g h cap:Nat)(size:Int)(w:World)(e:Ending)(w':World):Prop:=
 Turn w w' (·=h)∧((∃k,TakeR H N (some k)∧e=.returned (.tuple #[.int .u32 (k:Int),.int .i64 0])∧CC w' g h cap size (N.set k 1))∨(TakeR H N none∧e=.returned (.tuple #[.int .u32 0,.int .i64 9])∧CC w' g h cap size N))
theorem Qk5(g h cap:Nat)(size:Int)(N:List Int)(w:World)(hc:CC w g h cap size N)(ho:CnOk size N.length N) :
  Calls Tryz.prog 43 #[.pointer (some ⟨g,0,none⟩),.pointer none] w (TookC [] N g h cap size w):=by
 have HV:=hid (Ql g w hc.cells.2.2.2);have HC:=hid hc;have HCN:=hid ho.cnt;have HA0:=hid ho.at0;have HA1:=hid ho.at1;have hle:=hc.le;have hs:=hc.small;clear hc ho;go_enter Tryz.func43,Tryz.ntmps43
 go_upto_region 3 with (first|(go_at_call 84;refine HV.out.mono ?_;rintro e w' ⟨rfl,rfl⟩)|fail)
 refine Qs (by kernel_rfl) ?_
 repeat(go_big_quiet_step (fail))
 refine wpQuiet_nil ?_;rintro _ ⟨pw,rfl⟩;have HG1:Hid (w.grownBy pw.at_ none):=hid pw.grown;obtain⟨W1,hW1⟩:∃X,X=pw.at_:=⟨_,rfl⟩;rw[←hW1]at HG1 ⊢;clear hW1 pw;have HC1:=hid (HC.out.old HG1.out);have HGC:Hid (∀n:Nat,n<4294967296→Calls Tryz.prog 47 #[.pointer (some ⟨g,0,none⟩),.int .u32 (n:Int)] W1 fun e w'=>e=.returned (.int .i64 (N.getD n 0))∧W1=w'):=hid (fun n hn=>Q9 g h cap size N n W1 HC1.out hn HCN.out);have HGH:Hid (∀n:Nat,n<4294967296→Calls Tryz.prog 47 #[.pointer none,.int .u32 (n:Int)] W1 fun e w'=>e=.returned (.int .i64 (([]:List Int).getD n 0))∧W1=w'):=hid (fun n _=>Qlx n W1);have c2:=HC1.out.cells.2.2.1;have HSE:=hid (fun k x (hk:k<N.length)=>HC1.out.set k x hk);have HF:Hid (∀j,freeC [] N j↔2≤j∧j<N.length∧N.getD j 0=0∧([]:List Int).getD j 0=0):=hid (fun j=>Iff.rfl);have HTW:Hid (Turn w W1 (·=h)):=hid ((Qc HG1.out).mono (fun _ _ e=>e.elim));have HRW:=hid (fun j (hj:j<N.length)=>HC1.out.row j hj);obtain⟨L,hL⟩:∃L,N.length=L:=⟨_,rfl⟩;rw[hL]at c2 hle hs HSE HF HRW;have ew:IntKind.u32.wrap (L:Int)=(L:Int):=by rw[IntKind.wrap_u32];omega
 clear hL HC HCN;go_wp2
 go_loopw [36] (fun si wr=>∃i:Nat,i≤L∧si=.int .u32 i∧Hid (∀j,j<i→¬freeC [] N j)∧W1=wr) (fun si _=>L-(intOf si).toNat)
 case atStart=>exact⟨0,by omega,rfl,hid (fun j hj=>by omega),rfl⟩
 case round=>
  obtain⟨i,hi,rfl,HNF,rfl⟩:=hrel;by_cases hlt:i<L
  ·have hq:decide (i<L)=true:=decide_eq_true hlt;obtain⟨hcell,hfr⟩:=HRW.out i hlt;have HS2:=hid (HSE.out i 1 hlt);have HFI:=hid (HF.out i);have HG2:=hid (HGC.out i (by omega));have HGO:=hid (HGH.out i (by omega));have e1:IntKind.u32.wrap ((i:Int)+1)=(i:Int)+1:=by rw[IntKind.wrap_u32];omega
   have h2i:N.getD i 0=0→2≤i:=fun h0=>by
    rcases i with _|_|i
    ·rw[HA0.out]at h0;cases h0
    ·rw[HA1.out]at h0;cases h0
    ·omega
   have H2I:=hid h2i;obtain⟨x,hx⟩:∃x,N.getD i 0=x:=⟨_,rfl⟩;obtain⟨y,hy⟩:∃y,([]:List Int).getD i 0=y:=⟨_,rfl⟩;rw[hx]at hcell HFI HG2 H2I;rw[hy]at HFI HGO;clear hx hy h2i;by_cases h0:x=0
   ·have q0:(x==0)=true:=beq_iff_eq.2 h0;have HI2:=hid (H2I.out h0);by_cases h1:y=0
    ·have q1:(y==0)=true:=beq_iff_eq.2 h1;have HX:Hid (TookC [] N g h cap size w (.returned (.tuple #[.int .u32 (i:Int),.int .i64 0])) (W1.setCell ⟨h,i,none⟩ (.int .u16 1))):=hid ⟨HTW.out.trans HS2.out.2 (fun _ _ e=>e),.inl ⟨i,.one i (HFI.out.2 ⟨HI2.out,hlt,h0,h1⟩) HNF.out,rfl,HS2.out.1⟩⟩;clear h0 h1 HS2 HFI H2I HI2;go_wp2_with fail
     refine HG2.out.mono ?_;rintro e w' ⟨rfl,rfl⟩;dsimp only;go_wp2_with fail
     refine HGO.out.mono ?_;rintro e w' ⟨rfl,rfl⟩;dsimp only;go_wp2;go_ret2
     exact HX.out
    ·have q1:(y==0)=false:=beq_eq_false_iff_ne.2 h1;have HN2:Hid (∀j,j<i+1→¬freeC [] N j):=hid (fun j hj=>by
      by_cases e:j=i
      ·rw[e];exact fun hf=>h1 (HFI.out.1 hf).2.2.2
      ·exact HNF.out j (by omega))
     clear h0 h1 HS2 HFI HNF H2I HI2;go_wp2_with fail
     refine HG2.out.mono ?_;rintro e w' ⟨rfl,rfl⟩;dsimp only;go_wp2_with fail
     refine HGO.out.mono ?_;rintro e w' ⟨rfl,rfl⟩;dsimp only;go_wp2;go_roundw
     case rel=>exact⟨i+1,by omega,by go_num,HN2,trivial⟩
     case measure=>simp[intOf];omega
   ·have q0:(x==0)=false:=beq_eq_false_iff_ne.2 h0;have HN2:Hid (∀j,j<i+1→¬freeC [] N j):=hid (fun j hj=>by
     by_cases e:j=i
     ·rw[e];exact fun hf=>h0 (HFI.out.1 hf).2.2.1
     ·exact HNF.out j (by omega))
    clear h0 HS2 HFI HNF H2I;go_wp2_with fail
    refine HG2.out.mono ?_;rintro e w' ⟨rfl,rfl⟩;dsimp only;go_wp2;go_roundw
    case rel=>exact⟨i+1,by omega,by go_num,HN2,trivial⟩
    case measure=>simp[intOf];omega
  ·have hq:decide (i<L)=false:=decide_eq_false hlt;have HX:Hid (TookC [] N g h cap size w (.returned (.tuple #[.int .u32 0,.int .i64 9])) W1):=hid ⟨HTW.out,.inr ⟨.full fun j hf=>HNF.out j (by have:=((HF.out j).1 hf).2.1;omega) hf,rfl,HC1.out⟩⟩;clear HNF;go_wp2;go_ret2
   exact HX.out
theorem QjL(g h cap:Nat)(size:Int)(N:List Int)(g2 h2 cap2:Nat)(H:List Int)(w:World)(hc:CC w g h cap size N)(ho:CnOk size N.length N)(hd:CC w g2 h2 cap2 size H)(hhn:IsC H)(hsame:H.length=N.length) :
  Calls Tryz.prog 43 #[.pointer (some ⟨g,0,none⟩),.pointer (some ⟨g2,0,none⟩)] w (TookC H N g h cap size w):=by
 have HV:=hid (Ql g w hc.cells.2.2.2);have HC:=hid hc;have HCN:=hid ho.cnt;have HA0:=hid ho.at0;have HA1:=hid ho.at1;have hle:=hc.le;have hs:=hc.small;have HD:=hid hd;have HHN:=hid hhn;have HV2:Hid (∀q:Gw w,Calls Tryz.prog 84 #[.pointer (some ⟨g2,0,none⟩)] q.at_ fun e w'=>e=.returned (.bool true)∧q.at_.grownBy w' none):=hid (fun q=>(Ql g2 q.at_ (hd.old q.grown).cells.2.2.2).mono fun e w' h=>⟨h.1,by rw[←h.2];exact QaR _⟩);have a0:∀q:Gw w,q.at_.cell? ⟨g,0,none⟩=some (.int .i64 size):=fun q=>(hc.old q.grown).cells.1
 have a1:∀q:Gw w,q.at_.cell? ⟨g,1,none⟩=some (.int .i64 (N.length:Int)):=fun q=>(hc.old q.grown).cells.2.1
 have b0:∀q:Gw w,q.at_.cell? ⟨g2,0,none⟩=some (.int .i64 size):=fun q=>(hd.old q.grown).cells.1
 have b1:∀q:Gw w,q.at_.cell? ⟨g2,1,none⟩=some (.int .i64 (H.length:Int)):=fun q=>(hd.old q.grown).cells.2.1
 have hnq:=fun W=>Su.QlF size (H.length:Int) size (N.length:Int) W
 rw[decide_eq_true rfl,hsame,decide_eq_true rfl]at hnq;rw[hsame]at b1;obtain⟨L0,hL0⟩:∃L,N.length=L:=⟨_,rfl⟩;rw[hL0]at a1 b1 hnq;clear hsame hhn hd hL0;clear hc ho;go_enter Tryz.func43,Tryz.ntmps43
 go_upto_region 3 with (first|(go_at_call 84;refine HV.out.mono ?_;rintro e w' ⟨rfl,rfl⟩)|fail)
 refine Qs (by kernel_rfl) ?_
 repeat(go_big_quiet_step (first|(go_at_call 84;with_reducible exact Calls.QS (HV2.out _))|fail))
 refine wpQuiet_nil ?_;rintro _ ⟨pw,rfl⟩;have HG1:Hid (w.grownBy pw.at_ none):=hid pw.grown;obtain⟨W1,hW1⟩:∃X,X=pw.at_:=⟨_,rfl⟩;rw[←hW1]at HG1 ⊢;clear hW1 pw a0 a1 b0 b1 hnq HV2;have HC1:=hid (HC.out.old HG1.out);have HGC:Hid (∀n:Nat,n<4294967296→Calls Tryz.prog 47 #[.pointer (some ⟨g,0,none⟩),.int .u32 (n:Int)] W1 fun e w'=>e=.returned (.int .i64 (N.getD n 0))∧W1=w'):=hid (fun n hn=>Q9 g h cap size N n W1 HC1.out hn HCN.out);have HGH:Hid (∀n:Nat,n<4294967296→Calls Tryz.prog 47 #[.pointer (some ⟨g2,0,none⟩),.int .u32 (n:Int)] W1 fun e w'=>e=.returned (.int .i64 (H.getD n 0))∧W1=w'):=hid (fun n hn=>Q9 g2 h2 cap2 size H n W1 (HD.out.old HG1.out) hn HHN.out);have c2:=HC1.out.cells.2.2.1;have HSE:=hid (fun k x (hk:k<N.length)=>HC1.out.set k x hk);have HF:Hid (∀j,freeC H N j↔2≤j∧j<N.length∧N.getD j 0=0∧H.getD j 0=0):=hid (fun j=>Iff.rfl);have HTW:Hid (Turn w W1 (·=h)):=hid ((Qc HG1.out).mono (fun _ _ e=>e.elim));have HRW:=hid (fun j (hj:j<N.length)=>HC1.out.row j hj);obtain⟨L,hL⟩:∃L,N.length=L:=⟨_,rfl⟩;rw[hL]at c2 hle hs HSE HF HRW;have ew:IntKind.u32.wrap (L:Int)=(L:Int):=by rw[IntKind.wrap_u32];omega
 clear hL HC HCN;go_wp2
 go_loopw [36] (fun si wr=>∃i:Nat,i≤L∧si=.int .u32 i∧Hid (∀j,j<i→¬freeC H N j)∧W1=wr) (fun si _=>L-(intOf si).toNat)
 case atStart=>exact⟨0,by omega,rfl,hid (fun j hj=>by omega),rfl⟩
 case round=>
  obtain⟨i,hi,rfl,HNF,rfl⟩:=hrel;by_cases hlt:i<L
  ·have hq:decide (i<L)=true:=decide_eq_true hlt;obtain⟨hcell,hfr⟩:=HRW.out i hlt;have HS2:=hid (HSE.out i 1 hlt);have HFI:=hid (HF.out i);have HG2:=hid (HGC.out i (by omega));have HGO:=hid (HGH.out i (by omega));have e1:IntKind.u32.wrap ((i:Int)+1)=(i:Int)+1:=by rw[IntKind.wrap_u32];omega
   have h2i:N.getD i 0=0→2≤i:=fun h0=>by
    rcases i with _|_|i
    ·rw[HA0.out]at h0;cases h0
    ·rw[HA1.out]at h0;cases h0
    ·omega
   have H2I:=hid h2i;obtain⟨x,hx⟩:∃x,N.getD i 0=x:=⟨_,rfl⟩;obtain⟨y,hy⟩:∃y,H.getD i 0=y:=⟨_,rfl⟩;rw[hx]at hcell HFI HG2 H2I;rw[hy]at HFI HGO;clear hx hy h2i;by_cases h0:x=0
   ·have q0:(x==0)=true:=beq_iff_eq.2 h0;have HI2:=hid (H2I.out h0);by_cases h1:y=0
    ·have q1:(y==0)=true:=beq_iff_eq.2 h1;have HX:Hid (TookC H N g h cap size w (.returned (.tuple #[.int .u32 (i:Int),.int .i64 0])) (W1.setCell ⟨h,i,none⟩ (.int .u16 1))):=hid ⟨HTW.out.trans HS2.out.2 (fun _ _ e=>e),.inl ⟨i,.one i (HFI.out.2 ⟨HI2.out,hlt,h0,h1⟩) HNF.out,rfl,HS2.out.1⟩⟩;clear h0 h1 HS2 HFI H2I HI2;go_wp2_with fail
     refine HG2.out.mono ?_;rintro e w' ⟨rfl,rfl⟩;dsimp only;go_wp2_with fail
     refine HGO.out.mono ?_;rintro e w' ⟨rfl,rfl⟩;dsimp only;go_wp2;go_ret2
     exact HX.out
    ·have q1:(y==0)=false:=beq_eq_false_iff_ne.2 h1;have HN2:Hid (∀j,j<i+1→¬freeC H N j):=hid (fun j hj=>by
      by_cases e:j=i
      ·rw[e];exact fun hf=>h1 (HFI.out.1 hf).2.2.2
      ·exact HNF.out j (by omega))
     clear h0 h1 HS2 HFI HNF H2I HI2;go_wp2_with fail
     refine HG2.out.mono ?_;rintro e w' ⟨rfl,rfl⟩;dsimp only;go_wp2_with fail
     refine HGO.out.mono ?_;rintro e w' ⟨rfl,rfl⟩;dsimp only;go_wp2;go_roundw
     case rel=>exact⟨i+1,by omega,by go_num,HN2,trivial⟩
     case measure=>simp[intOf];omega
   ·have q0:(x==0)=false:=beq_eq_false_iff_ne.2 h0;have HN2:Hid (∀j,j<i+1→¬freeC H N j):=hid (fun j hj=>by
     by_cases e:j=i
     ·rw[e];exact fun hf=>h0 (HFI.out.1 hf).2.2.1
     ·exact HNF.out j (by omega))
    clear h0 HS2 HFI HNF H2I;go_wp2_with fail
    refine HG2.out.mono ?_;rintro e w' ⟨rfl,rfl⟩;dsimp only;go_wp2;go_roundw
    case rel=>exact⟨i+1,by omega,by go_num,HN2,trivial⟩
    case measure=>simp[intOf];omega
  ·have hq:decide (i<L)=false:=decide_eq_false hlt;have HX:Hid (TookC H N g h cap size w (.returned (.tuple #[.int .u32 0,.int .i64 9])) W1):=hid ⟨HTW.out,.inr ⟨.full fun j hf=>HNF.out j (by have:=((HF.out j).1 hf).2.1;omega) hf,rfl,HC1.out⟩⟩;clear HNF;go_wp2;go_ret2
   exact HX.out
end Cn
namespace Cn
open Go.RowKit Bs Dv Gr
open Su (GeoOk QaE)
structure CN (w0 w:World) (g h cap:Nat) (size:Int) (n:Nat) (N:List Int):Prop where
 cc:CC w g h cap size N
 ok:CnOk size n N
 new:w0.heap.size≤h
 newg:w0.heap.size≤g
 gr:w0.grownBy w none
theorem CnOk.self{size:Int}{n:Nat}{N:List Int}(h:CnOk size n N):CnOk size N.length N:=by
 have e:=h.len;subst e;exact h
theorem CN.old{w0 w w':World}{g h cap:Nat}{size:Int}{n:Nat}{N:List Int}(k:CN w0 w g h cap size n N)(t:w.grownBy w' none):CN w0 w' g h cap size n N:=⟨k.cc.old t,k.ok,k.new,k.newg,Qa k.gr t⟩
theorem CnOk.at'{size:Int}{n:Nat}{N:List Int}(h:CnOk size n N)(k:Nat):0≤N.getD k 0∧N.getD k 0<65536:=by
 rw[List.getD_eq_getElem?_getD];by_cases hk:k<N.length
 ·rw[List.getElem?_eq_getElem hk];exact h.cnt _ (List.getElem_mem hk)
 ·rw[List.getElem?_eq_none (by omega)];decide
theorem CnOk.add{size:Int}{n:Nat}{N:List Int}(h:CnOk size n N)(k:Nat):CnOk size n (addN N k):=by
 unfold addN;by_cases e:addE N k=0
 ·rw[if_pos e];unfold addE at e;by_cases h1:¬(2≤k∧k<N.length)
  ·rw[if_pos h1]at e;cases e
  ·rw[if_neg h1]at e;have h2:=Classical.not_not.1 h1;by_cases h3:N.getD k 0=0
   ·rw[if_pos h3]at e;cases e
   ·rw[if_neg h3]at e;by_cases h4:N.getD k 0=65535
    ·rw[if_pos h4]at e;cases e
    ·have:=h.at' k;exact h.set k h2.1 _ (by omega)
 ·rw[if_neg e];exact h
theorem CnOk.sub{size:Int}{n:Nat}{N:List Int}(h:CnOk size n N)(k:Nat):CnOk size n (subN N k):=by
 unfold subN;by_cases e:subE N k=0
 ·rw[if_pos e];unfold subE at e;by_cases h1:¬(2≤k∧k<N.length)
  ·rw[if_pos h1]at e;cases e
  ·rw[if_neg h1]at e;have h2:=Classical.not_not.1 h1;by_cases h3:N.getD k 0=0
   ·rw[if_pos h3]at e;cases e
   ·have:=h.at' k;exact h.set k h2.1 _ (by omega)
 ·rw[if_neg e];exact h
theorem CN.took{w0 w w':World}{g h cap:Nat}{size:Int}{n:Nat}{N H:List Int}{e:Ending}{k:Nat}(c:CN w0 w g h cap size n N)(ht:TakeR H N (some k))(hx:TookC H N g h cap size w e w') :
  e=.returned (.tuple #[.int .u32 (k:Int),.int .i64 0])∧CN w0 w' g h cap size n (N.set k 1)∧Turn w w' (·=h):=by
 obtain⟨t,⟨k',hk,he,hcc⟩|⟨hk,he,hcc⟩⟩:=hx
 ·obtain rfl:k=k':=Option.some.inj (QgL ht hk);cases ht with
  |one _ hf hl=>exact⟨he,⟨hcc,c.ok.set k hf.1 1 (by decide),c.new,c.newg,Qh c.gr t c.new⟩,t⟩
 ·cases QgL ht hk
theorem CN.take{w0 w:World}{g h cap:Nat}{size:Int}{n:Nat}{N:List Int}(c:CN w0 w g h cap size n N) :
  Calls Tryz.prog 43 #[.pointer (some ⟨g,0,none⟩),.pointer none] w (TookC [] N g h cap size w):=Qk5 g h cap size N w c.cc c.ok.self
theorem CN.takeh{w0 w0' w:World}{g h cap g2 h2 cap2:Nat}{size:Int}{n:Nat}{N H:List Int}(c:CN w0 w g h cap size n N)(d:CN w0' w g2 h2 cap2 size n H) :
  Calls Tryz.prog 43 #[.pointer (some ⟨g,0,none⟩),.pointer (some ⟨g2,0,none⟩)] w (TookC H N g h cap size w):=QjL g h cap size N g2 h2 cap2 H w c.cc c.ok.self d.cc d.ok.cnt (by rw[c.ok.len,d.ok.len])
theorem CN.add{w0 w:World}{g h cap:Nat}{size:Int}{n:Nat}{N:List Int}(c:CN w0 w g h cap size n N)(k:Nat)(hk:k<4294967296) :
  Calls Tryz.prog 65 #[.pointer (some ⟨g,0,none⟩),.int .u32 (k:Int)] w fun e w'=>e=.returned (.int .i64 (addE N k))∧CN w0 w' g h cap size n (addN N k)∧Turn w w' (·=h):=
 (Qdt g h cap size N k w c.cc hk c.ok.cnt).mono fun _ _ ⟨h1,h2,h3⟩=>⟨h1,⟨h2,c.ok.add k,c.new,c.newg,Qh c.gr h3 c.new⟩,h3⟩
theorem CN.sub{w0 w:World}{g h cap:Nat}{size:Int}{n:Nat}{N:List Int}(c:CN w0 w g h cap size n N)(k:Nat)(hk:k<4294967296) :
  Calls Tryz.prog 92 #[.pointer (some ⟨g,0,none⟩),.int .u32 (k:Int)] w fun e w'=>e=.returned (.tuple #[.int .i64 (subV N k),.int .i64 (subE N k)])∧CN w0 w' g h cap size n (subN N k)∧Turn w w' (·=h):=
 (QlZ g h cap size N k w c.cc hk c.ok.cnt).mono fun _ _ ⟨h1,h2,h3⟩=>⟨h1,⟨h2,c.ok.sub k,c.new,c.newg,Qh c.gr h3 c.new⟩,h3⟩
theorem CN.get{w0 w:World}{g h cap:Nat}{size:Int}{n:Nat}{N:List Int}(c:CN w0 w g h cap size n N)(k:Nat)(hk:k<4294967296) :
  Calls Tryz.prog 47 #[.pointer (some ⟨g,0,none⟩),.int .u32 (k:Int)] w fun e w'=>e=.returned (.int .i64 (N.getD k 0))∧w=w':=Q9 g h cap size N k w c.cc hk c.ok.cnt
theorem Qdy(size:Int)(n:Nat)(w0 w:World)(hg:w0.grownBy w none)(hok:GeoOk size n) :
  Calls Tryz.prog 70 #[.agg #[.int .i64 size,.int .i64 (n:Int)]] w fun e w'=>∃g h cap,e=.returned (.tuple #[.pointer (some ⟨g,0,none⟩),.int .i64 0])∧CN w0 w' g h cap size n (newC n)∧w.grownBy w' none∧w.heap.size≤g∧w.heap.size≤h:=by
 refine(Qcz size n w).mono ?_;rintro e w' ⟨g1,⟨hno,_⟩|⟨m,hm,he,g,h,cap,rfl,hcc,hlg,hlh⟩⟩
 ·exact absurd hok hno
 ·obtain rfl:n=m:=by omega
  exact⟨g,h,cap,rfl,⟨hcc,Qgn hm,Nat.le_trans hg.size hlh,Nat.le_trans hg.size hlg,Qa hg g1⟩,g1,hlg,hlh⟩
theorem Qgm(size blocks:Int)(w:World)(hno:¬GeoOk size blocks) :
  Calls Tryz.prog 70 #[.agg #[.int .i64 size,.int .i64 blocks]] w fun e w'=>e=.returned (.tuple #[.pointer none,.int .i64 2])∧w.grownBy w' none:=by
 refine(Qcz size blocks w).mono ?_;rintro e w' ⟨g1,⟨_,he⟩|⟨m,hm,he,_⟩⟩
 ·exact⟨he,g1⟩
 ·exact absurd (he▸hm) hno
theorem CN.clone{w0 w:World}{g h cap:Nat}{size:Int}{n:Nat}{N:List Int}(c:CN w0 w g h cap size n N) :
  Calls Tryz.prog 52 #[.pointer (some ⟨g,0,none⟩)] w fun e w'=>∃g2 h2 cap2,e=.returned (.pointer (some ⟨g2,0,none⟩))∧CN w0 w' g2 h2 cap2 size n N∧w.grownBy w' none∧w.heap.size≤g2∧w.heap.size≤h2:=
 (Qc5 g h cap size N w c.cc).mono fun _ _ ⟨hg,g2,h2,cap2,he,hcc,hl1,hl2⟩=>⟨g2,h2,cap2,he,⟨hcc,c.ok,Nat.le_trans c.gr.size hl2,Nat.le_trans c.gr.size hl1,Qa c.gr hg⟩,hg,hl1,hl2⟩
theorem CN.all{w0 w:World}{g h cap:Nat}{size:Int}{n:Nat}{N:List Int}(c:CN w0 w g h cap size n N) :
  Calls Tryz.prog 50 #[.pointer (some ⟨g,0,none⟩)] w fun e w'=>∃a,e=.returned (.slice (some ⟨a,0,none⟩) n n)∧JR w' a N∧w.heap.size≤a∧w.grownBy w' none:=by
 have e:=c.ok.len;subst e;exact(Qle g h cap size N w c.cc c.ok.cnt).mono fun _ _ ⟨h1,a,h2,h3,h4⟩=>⟨a,h2,h3,h4,h1⟩
def LightS(size blocks:Int):Bool:=decide (size<128∨4096<size∨blocks<8∨4096<blocks∨(size≤512∧blocks≤40))
theorem Qgh(size blocks:Int)(w:World) :
  Calls Tryz.prog 18 #[.agg #[.int .i64 size,.int .i64 blocks]] w fun e w'=>e=.returned (.bool (LightS size blocks))∧w.grownBy w' none:=by
 have HT:=hid (Qb w (.cells #[.int .i64 size,.int .i64 blocks] 28));obtain⟨r,hr⟩:∃r,r=LightS size blocks:=⟨_,rfl⟩;have HR:=hid hr;rw[←hr];clear hr;by_cases h1:size<128
 ·have HE:=hid (show r=true by rw[HR.out];exact decide_eq_true (by omega));go_enter Tryz.func18,Tryz.ntmps18
  go_wp2;go_ret
  exact⟨QaA HE.out.symm,HT.out⟩
 ·by_cases h2:4096<size
  ·have HE:=hid (show r=true by rw[HR.out];exact decide_eq_true (by omega));go_enter Tryz.func18,Tryz.ntmps18
   go_wp2;go_ret
   exact⟨QaA HE.out.symm,HT.out⟩
  ·by_cases h3:blocks<8
   ·have HE:=hid (show r=true by rw[HR.out];exact decide_eq_true (by omega));go_enter Tryz.func18,Tryz.ntmps18
    go_wp2;go_ret
    exact⟨QaA HE.out.symm,HT.out⟩
   ·by_cases h4:4096<blocks
    ·have HE:=hid (show r=true by rw[HR.out];exact decide_eq_true (by omega));go_enter Tryz.func18,Tryz.ntmps18
     go_wp2;go_ret
     exact⟨QaA HE.out.symm,HT.out⟩
    ·by_cases h5:size≤512
     ·by_cases h6:blocks≤40
      ·have HE:=hid (show r=true by rw[HR.out];exact decide_eq_true (by omega));go_enter Tryz.func18,Tryz.ntmps18
       go_wp2;go_ret
       exact⟨QaA HE.out.symm,HT.out⟩
      ·have HE:=hid (show r=false by rw[HR.out];exact decide_eq_false (by omega));go_enter Tryz.func18,Tryz.ntmps18
       go_wp2;go_ret
       exact⟨QaA HE.out.symm,HT.out⟩
     ·have HE:=hid (show r=false by rw[HR.out];exact decide_eq_false (by omega));go_enter Tryz.func18,Tryz.ntmps18
      go_wp2;go_ret
      exact⟨QaA HE.out.symm,HT.out⟩
theorem Qja{size:Int}{n:Nat}(h:LightS size n=true)(hg:GeoOk size n):size≤512∧n≤40:=by
 have:=of_decide_eq_true h;unfold GeoOk at hg;omega
end Cn
end Go.Proofs.YtgffbbdcbkikhaaGreatDoor
