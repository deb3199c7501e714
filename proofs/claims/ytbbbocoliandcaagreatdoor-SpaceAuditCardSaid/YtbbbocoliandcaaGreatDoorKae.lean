/- Parts of the proof. -/
import Derived.Test.YtbbbocoliandcaaGreatDoorKad
set_option maxRecDepth 100000
set_option maxHeartbeats 8000000
open Go.Lib (hid)
namespace Go.Proofs.YtbbbocoliandcaaGreatDoor
namespace Sp
open Go.RowKit Bs Dv Gr
open Cn (CN CC CnOk IsC)
open Su (Sup SupOk)
def acV(a:AcT):Array Value:=#[.int .i64 a.kind,.int .u8 a.tag,.int .i64 a.kids,.int .i64 a.n,.string (strOfNums a.data)]
def idxV(n:Int)(own:List Nat):Int:=if own=[] then -1 else(actI n own:Int)
section
variable {w0 w : World} {v : Rv} {r : Rn} {T : Nat}
theorem QB(h:RnM w0 w v r)(n:Int)(hl:r.own.length≤2000) :
  Calls Tryz.prog 37 #[.pointer (some ⟨v.rg,0,none⟩),.int .i64 n] w fun e w'=>e=.returned (.int .i64 (idxV n r.own))∧w=w':=by
 obtain⟨-,-,c2,-,-,-,-⟩:=h.box.cells;have HX:Hid (idxV n r.own=if r.own=[] then -1 else(actI n r.own:Int)):=hid rfl;by_cases h0:r.own=[]
 ·have hl0:r.own.length=0:=by rw[h0];rfl
  rw[hl0]at c2;rw[if_pos h0]at HX;clear h h0 hl0;go_enter Tryz.func37,Tryz.ntmps37
  go_wp2;go_ret
  exact⟨by rw[HX.out];rfl,rfl⟩
 ·have hl1:0<r.own.length:=List.length_pos_iff.2 h0;rw[if_neg h0]at HX;have hpr:=Qaj n (r.own.length:Int) (by omega);have HPI:Hid (pick n (r.own.length:Int)=(actI n r.own:Int)):=hid (by unfold actI;omega);have HPK:=hid (QD n (r.own.length:Int) w (by omega) (by omega));obtain⟨L,hL⟩:∃q,r.own.length=q:=⟨_,rfl⟩;rw[hL]at c2 hl1 HPK HPI;have q1:((L:Int)==0)=false:=beq_eq_false_iff_ne.2 (by omega);clear h h0 hpr hL;go_enter Tryz.func37,Tryz.ntmps37
  go_wp2_with (first|(go_at_call 40;refine HPK.out.mono ?_;rintro e w' ⟨rfl,rfl⟩)|fail)
  go_ret
  exact⟨by rw[HX.out,←HPI.out];rfl,rfl⟩
theorem Qjc{w:World}{a:Option Addr}{n c:Nat}{l:List Int}(cut:Nat)(h:Ws.Seg w a n c l)(hk:cut≤n) :
  ∃a' c',(∀W,(Instr.slice 38 (.slice a n c) (some (.int .i64 (cut:Int))) none none).run Tryz.prog W=.ok (.slice a' (n-cut) c') W)∧Ws.Seg w a' (n-cut) c' (l.drop cut)∧∀ad,a'=some ad→∃b,a=some b∧b.block=ad.block:=by
 refine⟨if c=cut then a else Option.map (fun x=>x.add cut) a,c-cut,fun W=>?_,h.from_ hk,fun ad had=>?_⟩
 ·have h1:=run_slice_l (P:=Tryz.prog) W 38 a n c (by kernel_rfl) .i64 (cut:Int) (by omega) (by omega);rw[h1];simp[sliced,go_sem]
 ·by_cases e:c=cut
  ·rw[if_pos e]at had;exact⟨ad,had,rfl⟩
  ·rw[if_neg e]at had;cases a with
   |none=>cases had
   |some b=>
    cases had
    exact⟨b,rfl,(block_add b cut).symm⟩
theorem QcS{w:World}{a:Option Addr}{n c:Nat}{l:List Int}(m:Nat)(h:Ws.Seg w a n c l)(hk:m≤n) :
  (∀W,(Instr.slice 38 (.slice a n c) none (some (.int .i64 (m:Int))) none).run Tryz.prog W=.ok (.slice a m c) W)∧Ws.Seg w a m c (l.take m):=by
 refine⟨fun W=>?_,h.take hk⟩;have h1:=run_slice_h (P:=Tryz.prog) W 38 a n c (by kernel_rfl) .i64 (m:Int) (by omega) (by have:=h.le;omega);rw[h1];simp[sliced,go_sem]
def PgX(w:World)(p:Pg)(e:Ending)(w':World):Prop:=∃g c,e=.returned (.agg (pgV p (some ⟨g,0,none⟩) p.kids.length c))∧Ws.Seg w' (some ⟨g,0,none⟩) p.kids.length c p.kids∧w.heap.size≤g∧w.grownBy w' none
theorem page_any (h:RnM w0 w v r) (a:AcT) (ha:AcOk a) (hl:r.own.length≤2000) :
    Calls Tryz.prog 38 #[.pointer (some ⟨v.rg,0,none⟩),.agg (acV a)] w (PgX w (actPg a r.own)):=by
  have hkl:=QbL (a:=a) r.own
  have hb0:=heap_alloc_new w (.cells (acV a) 64)
  have hg0:=Qb w (.cells (acV a) 64)
  obtain⟨W0,hW0⟩:∃X,w.alloc (.cells (acV a) 64)=X:=⟨_,rfl⟩
  have hsz0:W0.heap.size=w.heap.size+1:=by rw[←hW0];simp
  rw[hW0]at hb0 hg0
  have HW0:=hid hW0
  have hq1:=heap_alloc_new W0 (.cells #[.int .u8 0,.slice none 0 0,.string ⟨#[]⟩] 40)
  have hb1:=Qi hb0 (Qb W0 (.cells #[.int .u8 0,.slice none 0 0,.string ⟨#[]⟩] 40))
  have hg1:=Qa hg0 (Qb W0 (.cells #[.int .u8 0,.slice none 0 0,.string ⟨#[]⟩] 40))
  obtain⟨W1,hW1⟩:∃X,W0.alloc (.cells #[.int .u8 0,.slice none 0 0,.string ⟨#[]⟩] 40)=X:=⟨_,rfl⟩
  rw[hW1]at hq1 hb1 hg1
  have HW1:=hid hW1
  rw[hsz0]at hq1
  have HG1:=hid hg1
  have HR1:=hid (h.go hg1)
  have HB1:=hid hb1
  have HQ1:=hid hq1
  have HLT:Hid (v.rg<w.heap.size):=hid (block_lt h.box)
  obtain⟨L,hL⟩:∃q,r.own.length=q:=⟨_,rfl⟩
  have c2:=HR1.out.box.cells.2.2.1
  rw[hL]at c2
  have b1:W1.cell? ⟨w.heap.size,1,none⟩=some (.int .u8 a.tag):=by rw[cell_of_row _ _ _ _ _ _ hb1];rfl
  have b2:W1.cell? ⟨w.heap.size,2,none⟩=some (.int .i64 a.kids):=by rw[cell_of_row _ _ _ _ _ _ hb1];rfl
  have b4:W1.cell? ⟨w.heap.size,4,none⟩=some (.string (strOfNums a.data)):=by rw[cell_of_row _ _ _ _ _ _ hb1];rfl
  obtain⟨S,hS⟩:∃S,strOfNums a.data=S:=⟨_,rfl⟩
  rw[hS]at b4
  have HSS:=hid hS
  have hwl:IntKind.i64.wrap ((L:Int)+1)=(L:Int)+1:=IntWalk.i64_in _ (by omega)
  have hpr:=Qaj a.kids (min 4 ((L:Int)+1)) (by omega)
  obtain⟨k,hk⟩:∃q,actK a r.own=q:=⟨_,rfl⟩
  have HPK:Hid (∀W,Calls Tryz.prog 40 #[.int .i64 a.kids,.int .i64 (min 4 ((L:Int)+1))] W fun e w'=>e=.returned (.int .i64 (k:Int))∧W=w'):=hid (fun W=>by
    have h1:=QD a.kids (min 4 ((L:Int)+1)) W (by omega) (by omega)
    have e:pick a.kids (min 4 ((L:Int)+1))=(k:Int):=by rw[←hk];unfold actK;rw[hL];omega
    rw[e]at h1
    exact h1)
  clear h hb0 hg0 hW0 hq1 hb1 hg1 hW1 hS hpr
  go_enter Tryz.func38,Tryz.ntmps38
  go_upto_region 1 with fail
  rw[HW0.out,HW1.out]
  go_region_held3 (fun w'=>w'.cell? ⟨v.rg,2,none⟩=some (.slice v.oa L v.oc)∧w'.cell? ⟨w.heap.size,2,none⟩=some (.int .i64 a.kids)) (go_keep)
    (first
      | (go_at_call 40
         (with_reducible refine(HPK.out _).mono ?_)
         rintro e w4 ⟨rfl,rfl⟩)
      |fail)
  obtain⟨cut,hcut⟩:∃q,L-k=q:=⟨_,rfl⟩
  have hw2:IntKind.i64.wrap ((L:Int)-(k:Int))=(cut:Int):=by rw[show(L:Int)-(k:Int)=(cut:Int) by omega];exact IntWalk.i64_in _ (by omega)
  have HG2:=hid (Qa HG1.out (Qj W1))
  have HR2:=hid (HR1.out.go (Qj W1))
  have HB2:=hid (Qi HB1.out (Qj W1))
  have HQ2:=hid (Qi HQ1.out (Qj W1))
  obtain⟨W2,hW2⟩:∃X,W1.drew=X:=⟨_,rfl⟩
  rw[hW2]at HG2 HR2 HB2 HQ2 ⊢
  have hwt:IntKind.u8.wrap (3+a.tag.tmod 200)=3+a.tag % 200:=by
    have:=ha.tag
    rw[Int.tmod_eq_emod_of_nonneg (by omega)]
    unfold IntKind.wrap
    simp[IntKind.bits,IntKind.signed]
    omega
  have hne:v.rg≠w.heap.size+1:=by have:=HLT.out;omega
  have hne2:w.heap.size+1≠v.rg:=by have:=HLT.out;omega
  clear hW2 c2 b1 b2 b4 HPK HG1 HR1 HB1 HQ1 HW1
  have c2:=HR2.out.box.cells.2.2.1
  rw[hL]at c2
  have b1:W2.cell? ⟨w.heap.size,1,none⟩=some (.int .u8 a.tag):=by rw[cell_of_row _ _ _ _ _ _ HB2.out];rfl
  have b4:W2.cell? ⟨w.heap.size,4,none⟩=some (.string (strOfNums a.data)):=by rw[cell_of_row _ _ _ _ _ _ HB2.out];rfl
  rw[HSS.out]at b4
  have hseg:=HR2.out.o
  rw[hL]at hseg
  obtain⟨a',c',hsl,hsg,-⟩:=Qjc cut hseg (by omega)
  have hlc:L-cut=k:=by omega
  rw[hlc]at hsl hsg
  have hkds:(ints r.own).drop cut=(actPg a r.own).kids:=by
    show _=ints (r.own.drop (actCut a r.own))
    unfold ints actCut
    rw[hk,hL,hcut,List.map_drop]
  rw[hkds]at hsg
  have HOW:=hid (fun W (hW:W2.grownBy W none)=>QO a' k c' (actPg a r.own).kids W (hsg.grown hW) (by omega))
  have HKL:Hid ((actPg a r.own).kids.length=k):=hid hsg.len
  clear hseg hsg hkds
  go_upto_region 2 with fail
  go_region_held3 (fun w'=>w'.cell? ⟨v.rg,2,none⟩=some (.slice v.oa L v.oc)∧w'.cell? ⟨w.heap.size,1,none⟩=some (.int .u8 a.tag)∧w'.cell? ⟨w.heap.size,4,none⟩=some (.string S)) (go_keep)
    (first
      | (go_at_call 36
         (with_reducible refine(HOW.out _ (Qj W2)).mono ?_)
         rintro e w5 ⟨g5,c5,rfl,hown5,hg5⟩
         have k2:=(Qc (Qa (Qj W2) hg5)).cell c2 id
         have k1:=(Qc (Qa (Qj W2) hg5)).cell b1 id
         have k4:=(Qc (Qa (Qj W2) hg5)).cell b4 id
         have HQ5:=hid (Qi HQ2.out (Qa (Qj W2) hg5))
         have f5:∀j,w5.frozen? ⟨w.heap.size+1,j,none⟩=false:=fun j=>by have:=HQ5.out;simp[World.frozen?,this]
         have z0:w5.cell? ⟨w.heap.size+1,0,none⟩=some (.int .u8 0):=by rw[cell_of_row _ _ _ _ _ _ HQ5.out];rfl
         have z1:w5.cell? ⟨w.heap.size+1,1,none⟩=some (.slice none 0 0):=by rw[cell_of_row _ _ _ _ _ _ HQ5.out];rfl
         have z2:w5.cell? ⟨w.heap.size+1,2,none⟩=some (.string ⟨#[]⟩):=by rw[cell_of_row _ _ _ _ _ _ HQ5.out];rfl
         have HG5:=hid (Qa HG2.out (Qa (Qj W2) hg5))
         have HO5:=hid hown5
         clear hg5 hown5)
      |fail)
  have hq6:((((w5.setCell ⟨w.heap.size+1,0,none⟩ (.int .u8 (3+a.tag % 200))).setCell ⟨w.heap.size+1,1,none⟩ (.slice (some ⟨g5,0,none⟩) k c5)).setCell ⟨w.heap.size+1,2,none⟩ (.string S))).heap[w.heap.size+1]?=some (.cells #[.int .u8 (3+a.tag % 200),.slice (some ⟨g5,0,none⟩) k c5,.string S] 40 (0,0)):=heap_setCell_same _ _ 2 _ _ _ (heap_setCell_same _ _ 1 _ _ _ (heap_setCell_same w5 _ 0 _ _ _ HQ5.out))
  have ht6:=Qp (Qp (Qp (Turn.refl w5 (·=w.heap.size+1)) 0 (.int .u8 (3+a.tag % 200))) 1 (.slice (some ⟨g5,0,none⟩) k c5)) 2 (.string S)
  obtain⟨W6,hW6⟩:∃X,(((w5.setCell ⟨w.heap.size+1,0,none⟩ (.int .u8 (3+a.tag % 200))).setCell ⟨w.heap.size+1,1,none⟩ (.slice (some ⟨g5,0,none⟩) k c5)).setCell ⟨w.heap.size+1,2,none⟩ (.string S))=X:=⟨_,rfl⟩
  rw[hW6]at hq6 ht6 ⊢
  have HX:Hid (PgX w (actPg a r.own) (.returned (.agg #[.int .u8 (3+a.tag % 200),.slice (some ⟨g5,0,none⟩) k c5,.string S])) W6):=hid (by
    have hlt:=(HO5.out.lt g5 rfl)
    have h1:=HG2.out.size
    have h9:W2.drew.heap.size=W2.heap.size:=rfl
    have h0:w.heap.size+1<W2.heap.size:=block_lt HQ2.out
    have hne5:g5≠w.heap.size+1:=by omega
    refine⟨g5,c5,?_,?_,by omega,Ql HG5.out ht6 (by omega)⟩
    · rw[HKL.out,←HSS.out];rfl
    · rw[HKL.out]
      exact Qn (Ws.Seg.own HO5.out) ht6 (fun ad had=>by cases had;exact hne5))
  have HQ6:=hid hq6
  clear hq6 ht6 hW6 hsl
  go_wp2
  refine bodyPost_ret (v:=.agg #[.int .u8 (3+a.tag % 200),.slice (some ⟨g5,0,none⟩) k c5,.string S]) ?_ rfl HX.out
  exact Su.QaF rfl _ _ (w.heap.size+1) _ _ _ _ rfl HQ6.out Tryz.underlying40 rfl Qcc
end
section
variable {w0 w w2 : World} {v : Rv} {r : Rn}
structure NewS (w w2:World) (g c:Nat) (l:List Nat):Prop where
 seg:Ws.Seg w2 (some ⟨g,0,none⟩) l.length c (ints l)
 new:w.heap.size≤g
 lt:g<w2.heap.size
 gr:w.grownBy w2 none
theorem Qa2{g c n:Nat}{l:List Nat}(h:w2.ownsRow w.heap.size 35 1 (.slice (some ⟨g,0,none⟩) n c) n ((ints l).map (Value.int .u32)))(k:w.grownBy w2 none):NewS w w2 g c l:=by
 have hs:=Ws.Seg.own h;have hn:n=l.length:=by have:=hs.len;unfold ints at this;rw[List.length_map]at this;exact this.symm
 subst hn;have hl:=h.lt g rfl;exact⟨hs,hl.1,hl.2,k⟩
theorem lit32(w2:World)(m:Nat):Ws.Seg (w2.alloc (.cells #[.int .u32 (m:Int)] 35)) (some ⟨w2.heap.size,0,none⟩) 1 1 [(m:Int)]:=
 ⟨rfl,Nat.le_refl _,by unfold maxLen;omega,(fun e=>by cases e),fun ad had j u hu=>by
  cases had
  match j,hu with
  |0,hu=>
   have hu:some (Value.int .u32 (m:Int))=some u:=hu;rw[←hu];exact Su.Qan w2 _ _
  |j+1,hu=>exact absurd hu (by simp)⟩
theorem QbA{base g c n:Nat}{l:List Nat}{L:List Int}(h:w2.ownsRow base 35 1 (.slice (some ⟨g,0,none⟩) n c) n (L.map (Value.int .u32)))(k:w.grownBy w2 none)(hb:w.heap.size≤base)(hL:L=ints l):NewS w w2 g c l:=by
 subst hL;have hs:=Ws.Seg.own h;have hn:n=l.length:=by have:=hs.len;unfold ints at this;rw[List.length_map]at this;exact this.symm
 subst hn;have hl:=h.lt g rfl;exact⟨hs,by omega,hl.2,k⟩
theorem append32(W:World)(base g c n:Nat)(l:List Int)(hown:W.ownsRow base 35 1 (.slice (some ⟨g,0,none⟩) n c) n (l.map (Value.int .u32)))(ad:Addr)(m c':Nat)(l2:List Int)(hs:Ws.Seg W (some ad) m c' l2)(hn:n+m≤100000)(hb:base≤W.heap.size) :
  ∃g3 c3 w3,(Builtin.append_ #[38,38] 38 #[.slice (some ⟨g,0,none⟩) n c,.slice (some ad) m c']).run Tryz.prog W=.ok (.slice (some ⟨g3,0,none⟩) (n+m) c3) w3∧w3.ownsRow base 35 1 (.slice (some ⟨g3,0,none⟩) (n+m) c3) (n+m) ((l++l2).map (Value.int .u32))∧W.grownBy w3 (some g):=by
 obtain⟨i0,hi,hz0,hz1,hz2⟩:=info_parts Ws.Qa0;obtain⟨v',w',h1,h2,h3,h4,_⟩:=run_append_own_at (P:=Tryz.prog) W base 38 38 35 i0 (.int .u32 0) 1 4 Tryz.underlying38 hi hz0 hz1 hz2 rfl (by decide) (.slice (some ⟨g,0,none⟩) n c) n (l.map (Value.int .u32)) hown ad m c' (l2.map (Value.int .u32)) (by rw[List.length_map,hs.len,Nat.mul_one]) (hs.at_ ad rfl) (ints_oneCell _ _) (by unfold maxLen;omega) (by omega) hb;obtain⟨g3,c3,rfl⟩:=Qe8 h2 (fun e=>by
  obtain⟨q,_⟩:=h4.1 e;cases q)
 exact⟨g3,c3,w',h1,by rw[List.map_append];exact h2,h3⟩
theorem Qdi{w1 w':World}{x:Nm}{s':SpS}(k:w.grownBy w1 none)(o:Op w0 w1 x s' w'):Op w0 w x s' w':=Op.trans ((Qc k).mono (fun _ _ e=>e.elim)) rfl rfl (fun _ q=>.inl q) o
theorem RnOp.back{r':Rn}{w1 w':World}(k:w.grownBy w1 none)(o:RnOp w0 w1 v r' w'):RnOp w0 w v r' w':=RnOp.trans ((Qc k).mono (fun _ _ e=>e.elim)) rfl rfl (fun _ q=>.inl q) o
theorem NewS.ne{g c:Nat}{l:List Nat}(k:NewS w w2 g c l)(h:RnM w0 w v r):g≠v.rg:=by have:=block_lt h.box;have:=k.new;omega
theorem NewS.turn{w3:World}{g c:Nat}{l:List Nat}(k:NewS w w2 g c l)(h:RnM w0 w v r)(t:Turn w2 w3 (·=v.rg)):Ws.Seg w3 (some ⟨g,0,none⟩) l.length c (ints l):=Qn k.seg t (fun ad had=>by cases had;exact k.ne h)
theorem RnM.rows(h:RnM w0 w v r){w3:World}(t:Turn w w3 (·=v.rg)):Ws.Seg w3 v.oa r.own.length v.oc (ints r.own)∧Ws.Seg w3 v.ha r.hown.length v.hc (ints r.hown)∧Ws.Seg w3 v.ma r.mown.length v.mc (ints r.mown):=
 ⟨Qn h.o t (fun ad had=>(h.ap _ (.inl ⟨ad,had,rfl⟩)).2.2.2),Qn h.h t (fun ad had=>(h.ap _ (.inr (.inl ⟨ad,had,rfl⟩))).2.2.2),Qn h.m t (fun ad had=>(h.ap _ (.inr (.inr ⟨ad,had,rfl⟩))).2.2.2)⟩
theorem NewS.all{w3:World}{g c:Nat}{l:List Nat}(k:NewS w w2 g c l)(t:Turn w2 w3 (·=v.rg)):Turn w w3 (·=v.rg):=((Qc k.gr).mono (fun _ _ e=>e.elim)).trans t (fun _ _ e=>e)
theorem NewS.row{w3:World}{g c:Nat}{l:List Nat}(k:NewS w w2 g c l)(t:Turn w2 w3 (·=v.rg))(ad:Addr)(e:some (⟨g,0,none⟩:Addr)=some ad):w.heap.size≤ad.block∧ad.block<w3.heap.size:=by
 cases e
 exact⟨k.new,Nat.lt_of_lt_of_le k.lt t.size⟩
theorem oldrow(v:Rv)(ad:Addr):(v.oa=some ad→v.row ad.block)∧(v.ha=some ad→v.row ad.block)∧(v.ma=some ad→v.row ad.block):=⟨fun q=>.inl ⟨ad,q,rfl⟩,fun q=>.inr (.inl ⟨ad,q,rfl⟩),fun q=>.inr (.inr ⟨ad,q,rfl⟩)⟩
theorem RnM.setOwn(h:RnM w0 w v r){g c:Nat}{l:List Nat}(k:NewS w w2 g c l):RnOp w0 w v { r with own:=l } (w2.setCell ⟨v.rg,2,none⟩ (.slice (some ⟨g,0,none⟩) l.length c)):=by
 have t:=Turn.setCell w2 ⟨v.rg,2,none⟩ (.slice (some ⟨g,0,none⟩) l.length c) (S:=(·=v.rg)) rfl;obtain⟨-,e2,e3⟩:=h.rows (k.all t);exact h.reset (k.all t) (some ⟨g,0,none⟩) c v.ha v.hc v.ma v.mc l r.hown r.mown r.marked r.root ((h.go k.gr).box.s2 _) (k.turn h t) e2 e3 (fun ad had=>had.elim (fun q=>.inr (k.row t ad q)) (fun q=>.inl (q.elim (oldrow v ad).2.1 (oldrow v ad).2.2)))
theorem RnM.setOwnMark(h:RnM w0 w v r){g c:Nat}{l:List Nat}(k:NewS w w2 g c l)(b:Bool):RnOp w0 w v { r with own:=l,marked:=b } ((w2.setCell ⟨v.rg,2,none⟩ (.slice (some ⟨g,0,none⟩) l.length c)).setCell ⟨v.rg,5,none⟩ (.bool b)):=by
 have t:Turn w2 ((w2.setCell ⟨v.rg,2,none⟩ (.slice (some ⟨g,0,none⟩) l.length c)).setCell ⟨v.rg,5,none⟩ (.bool b)) (·=v.rg):=Qp (Qp (Turn.refl w2 (·=v.rg)) 2 (.slice (some ⟨g,0,none⟩) l.length c)) 5 (.bool b);obtain⟨-,e2,e3⟩:=h.rows (k.all t);exact h.reset (k.all t) (some ⟨g,0,none⟩) c v.ha v.hc v.ma v.mc l r.hown r.mown b r.root (((h.go k.gr).box.s2 _).s5 _) (k.turn h t) e2 e3 (fun ad had=>had.elim (fun q=>.inr (k.row t ad q)) (fun q=>.inl (q.elim (oldrow v ad).2.1 (oldrow v ad).2.2)))
theorem RnM.setHeld(h:RnM w0 w v r){g c:Nat}{l:List Nat}(k:NewS w w2 g c l)(n:Nat):RnOp w0 w v { r with hown:=l,marked:=false,root:=n } (((w2.setCell ⟨v.rg,3,none⟩ (.slice (some ⟨g,0,none⟩) l.length c)).setCell ⟨v.rg,5,none⟩ (.bool false)).setCell ⟨v.rg,6,none⟩ (.int .u32 (n:Int))):=by
 have t:Turn w2 (((w2.setCell ⟨v.rg,3,none⟩ (.slice (some ⟨g,0,none⟩) l.length c)).setCell ⟨v.rg,5,none⟩ (.bool false)).setCell ⟨v.rg,6,none⟩ (.int .u32 (n:Int))) (·=v.rg):=Qp (Qp (Qp (Turn.refl w2 (·=v.rg)) 3 (.slice (some ⟨g,0,none⟩) l.length c)) 5 (.bool false)) 6 (.int .u32 (n:Int));obtain⟨e1,-,e3⟩:=h.rows (k.all t);exact h.reset (k.all t) v.oa v.oc (some ⟨g,0,none⟩) c v.ma v.mc r.own l r.mown false n ((((h.go k.gr).box.s3 _).s5 _).s6 _) e1 (k.turn h t) e3 (fun ad had=>had.elim (fun q=>.inl ((oldrow v ad).1 q)) (fun q=>q.elim (fun q=>.inr (k.row t ad q)) (fun q=>.inl ((oldrow v ad).2.2 q))))
theorem RnM.setMark(h:RnM w0 w v r){g c:Nat}{l:List Nat}(k:NewS w w2 g c l):RnOp w0 w v { r with mown:=l,marked:=true } ((w2.setCell ⟨v.rg,4,none⟩ (.slice (some ⟨g,0,none⟩) l.length c)).setCell ⟨v.rg,5,none⟩ (.bool true)):=by
 have t:Turn w2 ((w2.setCell ⟨v.rg,4,none⟩ (.slice (some ⟨g,0,none⟩) l.length c)).setCell ⟨v.rg,5,none⟩ (.bool true)) (·=v.rg):=Qp (Qp (Turn.refl w2 (·=v.rg)) 4 (.slice (some ⟨g,0,none⟩) l.length c)) 5 (.bool true);obtain⟨e1,e2,-⟩:=h.rows (k.all t);exact h.reset (k.all t) v.oa v.oc v.ha v.hc (some ⟨g,0,none⟩) c r.own r.hown l true r.root (((h.go k.gr).box.s4 _).s5 _) e1 e2 (k.turn h t) (fun ad had=>had.elim (fun q=>.inl ((oldrow v ad).1 q)) (fun q=>q.elim (fun q=>.inl ((oldrow v ad).2.1 q)) (fun q=>.inr (k.row t ad q))))
theorem RnM.unmark(h:RnM w0 w v r):RnOp w0 w v { r with marked:=false } (w.setCell ⟨v.rg,5,none⟩ (.bool false)):=by
 have t:=Turn.setCell w ⟨v.rg,5,none⟩ (.bool false) (S:=(·=v.rg)) rfl;obtain⟨e1,e2,e3⟩:=h.rows t;exact h.reset t v.oa v.oc v.ha v.hc v.ma v.mc r.own r.hown r.mown false r.root (h.box.s5 _) e1 e2 e3 (fun ad had=>.inl (had.elim (oldrow v ad).1 (fun q=>q.elim (oldrow v ad).2.1 (oldrow v ad).2.2)))
theorem RnM.setSpace(h:RnM w0 w v r){g c:Nat}{l:List Nat}{w1:World}{x':Nm}{s':SpS}(hx:SpM w0 w1 x' s')(kg:w.grownBy w1 none)(eg:x'.g=v.x.g)(hf:∀k,x'.fp k→Dv.fp v.x.g v.x.b v.x.P k∨w.heap.size≤k)(k:NewS w1 w2 g c l) :
  RnOp w0 w v { r with s:=s',own:=l,marked:=false } (((w2.setCell ⟨v.rg,1,none⟩ (.pointer (some ⟨x'.sg,0,none⟩))).setCell ⟨v.rg,2,none⟩ (.slice (some ⟨g,0,none⟩) l.length c)).setCell ⟨v.rg,5,none⟩ (.bool false)):=by
 have t:Turn w2 (((w2.setCell ⟨v.rg,1,none⟩ (.pointer (some ⟨x'.sg,0,none⟩))).setCell ⟨v.rg,2,none⟩ (.slice (some ⟨g,0,none⟩) l.length c)).setCell ⟨v.rg,5,none⟩ (.bool false)) (·=v.rg):=Qp (Qp (Qp (Turn.refl w2 (·=v.rg)) 1 (.pointer (some ⟨x'.sg,0,none⟩))) 2 (.slice (some ⟨g,0,none⟩) l.length c)) 5 (.bool false);have kall:w.grownBy w2 none:=Qa kg k.gr;have tall:Turn w (((w2.setCell ⟨v.rg,1,none⟩ (.pointer (some ⟨x'.sg,0,none⟩))).setCell ⟨v.rg,2,none⟩ (.slice (some ⟨g,0,none⟩) l.length c)).setCell ⟨v.rg,5,none⟩ (.bool false)) (·=v.rg):=((Qc kall).mono (fun _ _ e=>e.elim)).trans t (fun _ _ e=>e);obtain⟨-,e2,e3⟩:=h.rows tall;have hrl:=block_lt h.box;have hnr:¬x'.fp v.rg:=fun q=>(hf _ q).elim (fun z=>h.rgn (.inl (.inr (.inr z)))) (fun z=>by omega)
 have gr:w0.grownBy (((w2.setCell ⟨v.rg,1,none⟩ (.pointer (some ⟨x'.sg,0,none⟩))).setCell ⟨v.rg,2,none⟩ (.slice (some ⟨g,0,none⟩) l.length c)).setCell ⟨v.rg,5,none⟩ (.bool false)) none:=QU (Qa h.gr kall) t (fun k e=>by have e2:k=v.rg:=e;rw[e2];exact h.new);have hz1:=kg.size;have hz2:=k.gr.size;have hz0:=h.gr.size;have hb:=((((h.go kall).box.s1 (.pointer (some ⟨x'.sg,0,none⟩))).s2 (.slice (some ⟨g,0,none⟩) l.length c)).s5 (.bool false));rw[←eg]at hb;have hgn:=k.new;have hgl:=k.lt;have htz:=t.size;refine⟨⟨v.rg,x',some ⟨g,0,none⟩,c,v.ha,v.hc,v.ma,v.mc⟩,rfl,eg,⟨(hx.go k.gr).turn t (fun k q e=>hnr (by have e2:k=v.rg:=e;rw[←e2];exact q)) gr,hb,Qn k.seg t (fun ad had=>by cases had;show g≠v.rg;omega),e2,e3,fun j q=>?_,h.new,hnr⟩,tall.mono (fun j _ e=>.inr (.inl e)),fun j q=>?_⟩
 ·rcases q with ⟨ad,a,b⟩|q|q
  ·cases a
   have b:j=g:=b;subst b;exact⟨by omega,by omega,fun y=>by have:=hx.lt y;omega,by show j≠v.rg;omega⟩
  ·obtain⟨a1,a2,a3,a4⟩:=h.ap j (.inr (.inl q));exact⟨by have:=tall.size;omega,a2,fun y=>(hf _ y).elim (fun z=>a3 (.inl (.inr (.inr z)))) (fun z=>by omega),a4⟩
  ·obtain⟨a1,a2,a3,a4⟩:=h.ap j (.inr (.inr q));exact⟨by have:=tall.size;omega,a2,fun y=>(hf _ y).elim (fun z=>a3 (.inl (.inr (.inr z)))) (fun z=>by omega),a4⟩
 ·rcases q with q|q|q
  ·exact(hf j q).imp (fun z=>.inl (.inl (.inr (.inr z)))) id
  ·exact .inl (.inr (.inl q))
  ·rcases q with ⟨ad,a,b⟩|q|q
   ·cases a
    exact .inr (by have b:j=g:=b;omega)
   ·exact .inl (.inr (.inr (.inr (.inl q))))
   ·exact .inl (.inr (.inr (.inr (.inr q))))
end
end Sp
namespace Sp
open Go.RowKit Bs Dv Gr
open Cn (CN CC CnOk IsC)
open Su (Sup SupOk T4)
def DoX(w0 w:World)(v:Rv)(r:Rn)(a:AcT)(e:Ending)(w':World):Prop:=∃n x r',e=.returned (.tuple #[.int .u32 n,.int .i64 x])∧DoR a r n x r'∧RnOp w0 w v r' w'
section
variable {w0 w : World} {v : Rv} {r : Rn} {T : Nat}
theorem Qll(h:RnM w0 w v r)(hk:RnOk r T)(hT:T≤1000)(a:AcT)(ha:AcOk a)(hK:pick a.kind 10=3):Calls Tryz.prog 39 #[.pointer (some ⟨v.rg,0,none⟩),.agg (acV a)] w (DoX w0 w v r a):=by
 have hlen:=hk.len;have hg0:=Qb w (.cells (acV a) 64);have hb0:=heap_alloc_new w (.cells (acV a) 64);obtain⟨W0,hW0⟩:∃X,w.alloc (.cells (acV a) 64)=X:=⟨_,rfl⟩;rw[hW0]at hg0 hb0;have HW0:=hid hW0;have HG0:=hid hg0;have HB0:=hid hb0;have HR0:=hid (h.go hg0);have HK:=hid hk;have HA:=hid ha;have b0:W0.cell? ⟨w.heap.size,0,none⟩=some (.int .i64 a.kind):=by rw[cell_of_row _ _ _ _ _ _ hb0];rfl
 have b3:W0.cell? ⟨w.heap.size,3,none⟩=some (.int .i64 a.n):=by rw[cell_of_row _ _ _ _ _ _ hb0];rfl
 have HPI:=hid (QB (h.go hg0) a.n (by omega));have HPK:Hid (Calls Tryz.prog 40 #[.int .i64 a.kind,.int .i64 10] W0 fun e w'=>e=.returned (.int .i64 3)∧W0=w'):=hid (by
  have h1:=QD a.kind 10 W0 (by omega) (by omega);rw[hK]at h1;exact h1)
 have HKK:=hid hK;obtain⟨rg,e1⟩:∃q,v.rg=q:=⟨_,rfl⟩;have HRG:=hid e1;rw[e1]at HPI ⊢;obtain⟨I,hI⟩:∃I,idxV a.n r.own=I:=⟨_,rfl⟩;rw[hI]at HPI;have HII:=hid hI;clear hI;clear h hg0 hb0 hW0 hK e1 hk;go_enter Tryz.func39,Tryz.ntmps39
 go_upto_region 1 with fail
 rw[HW0.out];go_upto_region 3 with (first|(go_at_call 37;refine HPI.out.mono ?_;rintro e w' ⟨rfl,rfl⟩)|(go_at_call 40;refine HPK.out.mono ?_;rintro e w' ⟨rfl,rfl⟩)|fail)
 go_wp2;go_ret2
 exact⟨0,0,r,rfl,.get HKK.out,RnOp.back HG0.out (RnOp.same HR0.out (Qaa _))⟩
theorem Qi3(h:RnM w0 w v r)(hk:RnOk r T)(hT:T≤1000)(a:AcT)(ha:AcOk a)(hK:pick a.kind 10=4)(hn:r.own=[]):Calls Tryz.prog 39 #[.pointer (some ⟨v.rg,0,none⟩),.agg (acV a)] w (DoX w0 w v r a):=by
 have hlen:=hk.len;have hg0:=Qb w (.cells (acV a) 64);have hb0:=heap_alloc_new w (.cells (acV a) 64);obtain⟨W0,hW0⟩:∃X,w.alloc (.cells (acV a) 64)=X:=⟨_,rfl⟩;rw[hW0]at hg0 hb0;have HW0:=hid hW0;have HG0:=hid hg0;have HB0:=hid hb0;have HR0:=hid (h.go hg0);have HK:=hid hk;have HA:=hid ha;have b0:W0.cell? ⟨w.heap.size,0,none⟩=some (.int .i64 a.kind):=by rw[cell_of_row _ _ _ _ _ _ hb0];rfl
 have b3:W0.cell? ⟨w.heap.size,3,none⟩=some (.int .i64 a.n):=by rw[cell_of_row _ _ _ _ _ _ hb0];rfl
 have HPI:=hid (QB (h.go hg0) a.n (by omega));have HPK:Hid (Calls Tryz.prog 40 #[.int .i64 a.kind,.int .i64 10] W0 fun e w'=>e=.returned (.int .i64 4)∧W0=w'):=hid (by
  have h1:=QD a.kind 10 W0 (by omega) (by omega);rw[hK]at h1;exact h1)
 have HKK:=hid hK;obtain⟨rg,e1⟩:∃q,v.rg=q:=⟨_,rfl⟩;have HRG:=hid e1;rw[e1]at HPI ⊢;have hI:idxV a.n r.own=-1:=if_pos hn;rw[hI]at HPI;have HNN:=hid hn;clear hI;clear h hg0 hb0 hW0 hK e1 hk;go_enter Tryz.func39,Tryz.ntmps39
 go_upto_region 1 with fail
 rw[HW0.out];go_upto_region 3 with (first|(go_at_call 37;refine HPI.out.mono ?_;rintro e w' ⟨rfl,rfl⟩)|(go_at_call 40;refine HPK.out.mono ?_;rintro e w' ⟨rfl,rfl⟩)|fail)
 go_wp2;go_ret2
 exact⟨0,0,r,rfl,.idle (.inl HKK.out) HNN.out,RnOp.back HG0.out (RnOp.same HR0.out (Qaa _))⟩
theorem Qi4(h:RnM w0 w v r)(hk:RnOk r T)(hT:T≤1000)(a:AcT)(ha:AcOk a)(hK:pick a.kind 10=5)(hn:r.own=[]):Calls Tryz.prog 39 #[.pointer (some ⟨v.rg,0,none⟩),.agg (acV a)] w (DoX w0 w v r a):=by
 have hlen:=hk.len;have hg0:=Qb w (.cells (acV a) 64);have hb0:=heap_alloc_new w (.cells (acV a) 64);obtain⟨W0,hW0⟩:∃X,w.alloc (.cells (acV a) 64)=X:=⟨_,rfl⟩;rw[hW0]at hg0 hb0;have HW0:=hid hW0;have HG0:=hid hg0;have HB0:=hid hb0;have HR0:=hid (h.go hg0);have HK:=hid hk;have HA:=hid ha;have b0:W0.cell? ⟨w.heap.size,0,none⟩=some (.int .i64 a.kind):=by rw[cell_of_row _ _ _ _ _ _ hb0];rfl
 have b3:W0.cell? ⟨w.heap.size,3,none⟩=some (.int .i64 a.n):=by rw[cell_of_row _ _ _ _ _ _ hb0];rfl
 have HPI:=hid (QB (h.go hg0) a.n (by omega));have HPK:Hid (Calls Tryz.prog 40 #[.int .i64 a.kind,.int .i64 10] W0 fun e w'=>e=.returned (.int .i64 5)∧W0=w'):=hid (by
  have h1:=QD a.kind 10 W0 (by omega) (by omega);rw[hK]at h1;exact h1)
 have HKK:=hid hK;obtain⟨rg,e1⟩:∃q,v.rg=q:=⟨_,rfl⟩;have HRG:=hid e1;rw[e1]at HPI ⊢;have hI:idxV a.n r.own=-1:=if_pos hn;rw[hI]at HPI;have HNN:=hid hn;clear hI;clear h hg0 hb0 hW0 hK e1 hk;go_enter Tryz.func39,Tryz.ntmps39
 go_upto_region 1 with fail
 rw[HW0.out];go_upto_region 3 with (first|(go_at_call 37;refine HPI.out.mono ?_;rintro e w' ⟨rfl,rfl⟩)|(go_at_call 40;refine HPK.out.mono ?_;rintro e w' ⟨rfl,rfl⟩)|fail)
 go_wp2;go_ret2
 exact⟨0,0,r,rfl,.idle (.inr HKK.out) HNN.out,RnOp.back HG0.out (RnOp.same HR0.out (Qaa _))⟩
theorem Qi2(h:RnM w0 w v r)(hk:RnOk r T)(hT:T≤1000)(a:AcT)(ha:AcOk a)(hK:pick a.kind 10=7):Calls Tryz.prog 39 #[.pointer (some ⟨v.rg,0,none⟩),.agg (acV a)] w (DoX w0 w v r a):=by
 have hlen:=hk.len;have hg0:=Qb w (.cells (acV a) 64);have hb0:=heap_alloc_new w (.cells (acV a) 64);obtain⟨W0,hW0⟩:∃X,w.alloc (.cells (acV a) 64)=X:=⟨_,rfl⟩;rw[hW0]at hg0 hb0;have HW0:=hid hW0;have HG0:=hid hg0;have HB0:=hid hb0;have HR0:=hid (h.go hg0);have HK:=hid hk;have HA:=hid ha;have b0:W0.cell? ⟨w.heap.size,0,none⟩=some (.int .i64 a.kind):=by rw[cell_of_row _ _ _ _ _ _ hb0];rfl
 have b3:W0.cell? ⟨w.heap.size,3,none⟩=some (.int .i64 a.n):=by rw[cell_of_row _ _ _ _ _ _ hb0];rfl
 have HPI:=hid (QB (h.go hg0) a.n (by omega));have HPK:Hid (Calls Tryz.prog 40 #[.int .i64 a.kind,.int .i64 10] W0 fun e w'=>e=.returned (.int .i64 7)∧W0=w'):=hid (by
  have h1:=QD a.kind 10 W0 (by omega) (by omega);rw[hK]at h1;exact h1)
 have HKK:=hid hK;obtain⟨rg,e1⟩:∃q,v.rg=q:=⟨_,rfl⟩;have HRG:=hid e1;rw[e1]at HPI ⊢;obtain⟨I,hI⟩:∃I,idxV a.n r.own=I:=⟨_,rfl⟩;rw[hI]at HPI;have HII:=hid hI;clear hI;have HAB:=hid (abort_yes HR0.out.sp);obtain⟨sg,e2⟩:∃q,v.x.sg=q:=⟨_,rfl⟩;rw[e2]at HAB;have c1:=HR0.out.box.cells.2.1;rw[e1,e2]at c1;have HSG:=hid e2;clear e2;clear h hg0 hb0 hW0 hK e1 hk;go_enter Tryz.func39,Tryz.ntmps39
 go_upto_region 1 with fail
 rw[HW0.out];go_upto_region 3 with (first|(go_at_call 37;refine HPI.out.mono ?_;rintro e w' ⟨rfl,rfl⟩)|(go_at_call 40;refine HPK.out.mono ?_;rintro e w' ⟨rfl,rfl⟩)|fail)
 clear HPI HPK;go_wp2_with fail
 refine HAB.out.mono ?_;rintro e w1 ⟨rfl,ho1⟩;obtain⟨v1,hr1,hx1,hm1,ht1,hf1⟩:=HR0.out.step ho1;have HR1:=hid hm1;have HO1:Hid (Turn W0 w1 v.fp∧v1.rg=v.rg∧v1.x.g=v.x.g∧∀k,v1.fp k→v.fp k∨W0.heap.size≤k):=hid ⟨ht1,hr1,hx1,hf1⟩;have HE1:Hid (v1.rg=rg):=hid (hr1.trans HRG.out);have c3:=HR1.out.box.cells.2.2.2.1;rw[HE1.out]at c3;have HOW:=hid (QO v1.ha r.hown.length v1.hc (ints r.hown) w1 hm1.h (by have:=hlen;omega));clear ho1 hr1 hx1 hm1 ht1 hf1 c1 b0 b3 HAB;dsimp only at c3;dsimp only;go_wp2_with fail
 refine HOW.out.mono ?_;rintro e w2 ⟨g2,c2,rfl,hown2,hg2⟩;have HN2:Hid (NewS w1 w2 g2 c2 r.hown):=hid (Qa2 hown2 hg2);have HR2:=hid (HR1.out.go hg2);have hbx:=HR2.out.box;rw[HE1.out]at hbx;obtain⟨-,-,d2,-,-,d5,-⟩:=hbx.cells;have f2:=hbx.froz 2;have f5:=hbx.froz 5;dsimp only at d2 d5;have HX:Hid (DoX w0 w v r a (.returned (.tuple #[.int .u32 0,.int .i64 0])) ((w2.setCell ⟨rg,2,none⟩ (.slice (some ⟨g2,0,none⟩) r.hown.length c2)).setCell ⟨rg,5,none⟩ (.bool false))):=hid (by
  have h1:=HR1.out.setOwnMark HN2.out false;rw[HE1.out]at h1;exact⟨0,0,_,rfl,.abort (.inl HKK.out),RnOp.back HG0.out (RnOp.trans HO1.out.1 HO1.out.2.1 HO1.out.2.2.1 HO1.out.2.2.2 h1)⟩)
 clear hown2 hg2 hbx c3 HOW;dsimp only;go_wp2;go_ret2
 exact HX.out
end
section
variable {w0 w : World} {v : Rv} {r : Rn} {T : Nat}
theorem Qkx(h:RnM w0 w v r)(hk:RnOk r T)(hT:T≤1000)(a:AcT)(ha:AcOk a)(hK:pick a.kind 10=9)(hT4:T4 w0):Calls Tryz.prog 39 #[.pointer (some ⟨v.rg,0,none⟩),.agg (acV a)] w (DoX w0 w v r a):=by
 have hlen:=hk.len;have hg0:=Qb w (.cells (acV a) 64);have hb0:=heap_alloc_new w (.cells (acV a) 64);obtain⟨W0,hW0⟩:∃X,w.alloc (.cells (acV a) 64)=X:=⟨_,rfl⟩;rw[hW0]at hg0 hb0;have HW0:=hid hW0;have HG0:=hid hg0;have HB0:=hid hb0;have HR0:=hid (h.go hg0);have HK:=hid hk;have HA:=hid ha;have b0:W0.cell? ⟨w.heap.size,0,none⟩=some (.int .i64 a.kind):=by rw[cell_of_row _ _ _ _ _ _ hb0];rfl
 have b3:W0.cell? ⟨w.heap.size,3,none⟩=some (.int .i64 a.n):=by rw[cell_of_row _ _ _ _ _ _ hb0];rfl
 have HPI:=hid (QB (h.go hg0) a.n (by omega));have HPK:Hid (Calls Tryz.prog 40 #[.int .i64 a.kind,.int .i64 10] W0 fun e w'=>e=.returned (.int .i64 9)∧W0=w'):=hid (by
  have h1:=QD a.kind 10 W0 (by omega) (by omega);rw[hK]at h1;exact h1)
 have HKK:=hid hK;obtain⟨rg,e1⟩:∃q,v.rg=q:=⟨_,rfl⟩;have HRG:=hid e1;rw[e1]at HPI ⊢;obtain⟨I,hI⟩:∃I,idxV a.n r.own=I:=⟨_,rfl⟩;rw[hI]at HPI;have HII:=hid hI;clear hI;have HOP:=hid (open_yes w0 W0 v.x.g v.x.b v.x.P r.s.dv HR0.out.sp.dev r.s.sup r.s.held r.s.slot hk.sp.kept hk.sp.held.cok hT4);have c0:=HR0.out.box.cells.1;rw[e1]at c0;clear h hg0 hb0 hW0 hK e1 hk;go_enter Tryz.func39,Tryz.ntmps39
 go_upto_region 1 with fail
 rw[HW0.out];go_upto_region 3 with (first|(go_at_call 37;refine HPI.out.mono ?_;rintro e w' ⟨rfl,rfl⟩)|(go_at_call 40;refine HPK.out.mono ?_;rintro e w' ⟨rfl,rfl⟩)|fail)
 clear HPI HPK hT4;go_wp2_with fail
 refine HOP.out.mono ?_;rintro e w1 ⟨x',rfl,eg,eb,eP,hx,hg1,-,hf1⟩;have HX1:=hid hx;have HG1:=hid hg1;have HF1:Hid (x'.g=v.x.g∧∀k,x'.fp k→Dv.fp v.x.g v.x.b v.x.P k∨W0.heap.size≤k):=hid ⟨eg,hf1⟩;have HR1:=hid (HR0.out.go hg1);have c3:=HR1.out.box.cells.2.2.2.1;rw[HRG.out]at c3;have HOW:=hid (QO v.ha r.hown.length v.hc (ints r.hown) w1 HR1.out.h (by have:=hlen;omega));clear eg eb eP hx hg1 hf1 c0 b0 b3 HOP;dsimp only;go_wp2_with fail
 refine HOW.out.mono ?_;rintro e w2 ⟨g2,c2,rfl,hown2,hg2⟩;have HN2:Hid (NewS w1 w2 g2 c2 r.hown):=hid (Qa2 hown2 hg2);have HR2:=hid (HR1.out.go hg2);have hbx:=HR2.out.box;rw[HRG.out]at hbx;obtain⟨-,d1,d2,-,-,d5,-⟩:=hbx.cells;have f1:=hbx.froz 1;have f2:=hbx.froz 2;have f5:=hbx.froz 5;obtain⟨sg,esg⟩:∃q,x'.sg=q:=⟨_,rfl⟩;rw[esg];have HX:Hid (DoX w0 w v r a (.returned (.tuple #[.int .u32 0,.int .i64 0])) (((w2.setCell ⟨rg,1,none⟩ (.pointer (some ⟨sg,0,none⟩))).setCell ⟨rg,2,none⟩ (.slice (some ⟨g2,0,none⟩) r.hown.length c2)).setCell ⟨rg,5,none⟩ (.bool false))):=hid (by
  have h1:=HR0.out.setSpace HX1.out HG1.out HF1.out.1 HF1.out.2 HN2.out;rw[HRG.out,esg]at h1;exact⟨0,0,_,rfl,.abort (.inr HKK.out),RnOp.back HG0.out h1⟩)
 clear hown2 hg2 hbx c3 HOW esg;go_wp2;go_ret2
 exact HX.out
end
section
variable {w0 w : World} {v : Rv} {r : Rn} {T : Nat}
theorem Qhs(h:RnM w0 w v r)(hl:r.own.length≤2000∧r.mown.length≤2000)(n:Int)(hm:r.marked=false)(hs:r.s.mark=none) :
  Calls Tryz.prog 107 #[.pointer (some ⟨v.rg,0,none⟩),.int .i64 n] w fun e w'=>e=.returned (.int .i64 0)∧RnOp w0 w v { r with s:={ r.s with mark:=some r.s.now },mown:=r.own,marked:=true } w':=by
 have HR0:=hid h;have HL:=hid hl;obtain⟨rg,e1⟩:∃q,v.rg=q:=⟨_,rfl⟩;have HRG:=hid e1;have c5:=h.box.cells.2.2.2.2.2.1;rw[hm,e1]at c5;rw[e1];have cs:=h.box.cells.2.2.1;rw[e1]at cs;have HOW:=hid (QO v.oa r.own.length v.oc (ints r.own) w h.o (by omega));clear h e1 hl;go_enter Tryz.func107,Tryz.ntmps107
 go_wp2_with fail
 refine HOW.out.mono ?_;rintro e w2 ⟨g2,c2,rfl,hown2,hg2⟩;have HN2:Hid (NewS w w2 g2 c2 r.own):=hid (Qa2 hown2 hg2);have HR2:=hid (HR0.out.go hg2);have hbx:=HR2.out.box;rw[HRG.out]at hbx;have d4:=hbx.cells.2.2.2.2.1;have d5:=hbx.cells.2.2.2.2.2.1;have f4:=hbx.froz 4;have f5:=hbx.froz 5;have ho1:=HR0.out.setMark HN2.out;rw[HRG.out]at ho1;obtain⟨W3,hW3⟩:∃X,(w2.setCell ⟨rg,4,none⟩ (.slice (some ⟨g2,0,none⟩) r.own.length c2)).setCell ⟨rg,5,none⟩ (.bool true)=X:=⟨_,rfl⟩;rw[hW3]at ho1;have HW3:=hid hW3;clear hown2 hg2 hbx hW3 cs c5;dsimp only;obtain⟨v1,hr1,hx1,hm1,ht1,hf1⟩:=ho1;have HR1:=hid hm1;have HO1:Hid (Turn w W3 v.fp∧v1.rg=v.rg∧v1.x.g=v.x.g∧∀k,v1.fp k→v.fp k∨w.heap.size≤k):=hid ⟨ht1,hr1,hx1,hf1⟩;have HE1:Hid (v1.rg=rg):=hid (hr1.trans HRG.out);have c1:=hm1.box.cells.2.1;rw[HE1.out]at c1;have HC:=hid (mark_yes HR1.out.sp hs);clear hr1 hx1 hm1 ht1 hf1;go_upto_region 3 with fail
 rw[HW3.out];clear d5 f5;go_wp2_with fail
 refine HC.out.mono ?_;rintro e w4 ⟨rfl,ho4⟩;have HX:Hid (RnOp w0 w v { r with s:={ r.s with mark:=some r.s.now },mown:=r.own,marked:=true } w4):=hid (RnOp.trans HO1.out.1 HO1.out.2.1 HO1.out.2.2.1 HO1.out.2.2.2 (HR1.out.step ho4));clear ho4;go_wp2;go_ret
 exact⟨rfl,HX.out⟩
theorem Qhq(h:RnM w0 w v r)(hl:r.own.length≤2000∧r.mown.length≤2000)(n:Int)(hm:r.marked=true){m:List Int}(hs:r.s.mark=some m)(he:n.tmod 2=0) :
  Calls Tryz.prog 107 #[.pointer (some ⟨v.rg,0,none⟩),.int .i64 n] w fun e w'=>e=.returned (.int .i64 0)∧RnOp w0 w v { r with s:={ r.s with now:=m,mark:=none },own:=r.mown,marked:=false } w':=by
 have HR0:=hid h;have HL:=hid hl;obtain⟨rg,e1⟩:∃q,v.rg=q:=⟨_,rfl⟩;have HRG:=hid e1;have c5:=h.box.cells.2.2.2.2.2.1;rw[hm,e1]at c5;rw[e1];have q0:(n.tmod 2==0)=true:=beq_iff_eq.2 he;have cs:=h.box.cells.2.2.2.2.1;rw[e1]at cs;have HOW:=hid (QO v.ma r.mown.length v.mc (ints r.mown) w h.m (by omega));clear h e1 hl;go_enter Tryz.func107,Tryz.ntmps107
 go_wp2_with fail
 refine HOW.out.mono ?_;rintro e w2 ⟨g2,c2,rfl,hown2,hg2⟩;have HN2:Hid (NewS w w2 g2 c2 r.mown):=hid (Qa2 hown2 hg2);have HR2:=hid (HR0.out.go hg2);have hbx:=HR2.out.box;rw[HRG.out]at hbx;have d2:=hbx.cells.2.2.1;have d5:=hbx.cells.2.2.2.2.2.1;have f2:=hbx.froz 2;have f5:=hbx.froz 5;have ho1:=HR0.out.setOwnMark HN2.out false;rw[HRG.out]at ho1;obtain⟨W3,hW3⟩:∃X,(w2.setCell ⟨rg,2,none⟩ (.slice (some ⟨g2,0,none⟩) r.mown.length c2)).setCell ⟨rg,5,none⟩ (.bool false)=X:=⟨_,rfl⟩;rw[hW3]at ho1;have HW3:=hid hW3;clear hown2 hg2 hbx hW3 cs c5;dsimp only;obtain⟨v1,hr1,hx1,hm1,ht1,hf1⟩:=ho1;have HR1:=hid hm1;have HO1:Hid (Turn w W3 v.fp∧v1.rg=v.rg∧v1.x.g=v.x.g∧∀k,v1.fp k→v.fp k∨w.heap.size≤k):=hid ⟨ht1,hr1,hx1,hf1⟩;have HE1:Hid (v1.rg=rg):=hid (hr1.trans HRG.out);have c1:=hm1.box.cells.2.1;rw[HE1.out]at c1;have HC:=hid (QiR HR1.out.sp hs);clear hr1 hx1 hm1 ht1 hf1;go_upto_region 6 with fail
 rw[HW3.out];clear d5 f5;go_wp2_with fail
 refine HC.out.mono ?_;rintro e w4 ⟨rfl,ho4⟩;have HX:Hid (RnOp w0 w v { r with s:={ r.s with now:=m,mark:=none },own:=r.mown,marked:=false } w4):=hid (RnOp.trans HO1.out.1 HO1.out.2.1 HO1.out.2.2.1 HO1.out.2.2.2 (HR1.out.step ho4));clear ho4;go_wp2;go_ret
 exact⟨rfl,HX.out⟩
theorem Qhr(h:RnM w0 w v r)(hl:r.own.length≤2000∧r.mown.length≤2000)(n:Int)(hm:r.marked=true)(hs:r.s.mark≠none)(he:n.tmod 2≠0) :
  Calls Tryz.prog 107 #[.pointer (some ⟨v.rg,0,none⟩),.int .i64 n] w fun e w'=>e=.returned (.int .i64 0)∧RnOp w0 w v { r with s:={ r.s with mark:=none },marked:=false } w':=by
 have HR0:=hid h;have HL:=hid hl;obtain⟨rg,e1⟩:∃q,v.rg=q:=⟨_,rfl⟩;have HRG:=hid e1;have c5:=h.box.cells.2.2.2.2.2.1;rw[hm,e1]at c5;rw[e1];have q0:(n.tmod 2==0)=false:=beq_eq_false_iff_ne.2 he;have d5:=c5;have f5:w.frozen? ⟨rg,5,none⟩=false:=by rw[←e1];exact h.box.froz 5
 have ho1:=h.unmark;rw[e1]at ho1;obtain⟨W3,hW3⟩:∃X,w.setCell ⟨rg,5,none⟩ (.bool false)=X:=⟨_,rfl⟩;rw[hW3]at ho1;have HW3:=hid hW3;clear h e1 hl hW3 c5;go_enter Tryz.func107,Tryz.ntmps107
 obtain⟨v1,hr1,hx1,hm1,ht1,hf1⟩:=ho1;have HR1:=hid hm1;have HO1:Hid (Turn w W3 v.fp∧v1.rg=v.rg∧v1.x.g=v.x.g∧∀k,v1.fp k→v.fp k∨w.heap.size≤k):=hid ⟨ht1,hr1,hx1,hf1⟩;have HE1:Hid (v1.rg=rg):=hid (hr1.trans HRG.out);have c1:=hm1.box.cells.2.1;rw[HE1.out]at c1;have HC:=hid (Qi5 HR1.out.sp hs);clear hr1 hx1 hm1 ht1 hf1;go_upto_region 8 with fail
 rw[HW3.out];clear d5 f5;go_wp2_with fail
 refine HC.out.mono ?_;rintro e w4 ⟨rfl,ho4⟩;have HX:Hid (RnOp w0 w v { r with s:={ r.s with mark:=none },marked:=false } w4):=hid (RnOp.trans HO1.out.1 HO1.out.2.1 HO1.out.2.2.1 HO1.out.2.2.2 (HR1.out.step ho4));clear ho4;go_wp2;go_ret
 exact⟨rfl,HX.out⟩
theorem Qkw(h:RnM w0 w v r)(hk:RnOk r T)(hT:T≤1000)(a:AcT)(ha:AcOk a)(hK:pick a.kind 10=8)(hm:r.marked=false)(hs:r.s.mark=none):Calls Tryz.prog 39 #[.pointer (some ⟨v.rg,0,none⟩),.agg (acV a)] w (DoX w0 w v r a):=by
 have hlen:=hk.len;have hg0:=Qb w (.cells (acV a) 64);have hb0:=heap_alloc_new w (.cells (acV a) 64);obtain⟨W0,hW0⟩:∃X,w.alloc (.cells (acV a) 64)=X:=⟨_,rfl⟩;rw[hW0]at hg0 hb0;have HW0:=hid hW0;have HG0:=hid hg0;have HB0:=hid hb0;have HR0:=hid (h.go hg0);have HK:=hid hk;have HA:=hid ha;have b0:W0.cell? ⟨w.heap.size,0,none⟩=some (.int .i64 a.kind):=by rw[cell_of_row _ _ _ _ _ _ hb0];rfl
 have b3:W0.cell? ⟨w.heap.size,3,none⟩=some (.int .i64 a.n):=by rw[cell_of_row _ _ _ _ _ _ hb0];rfl
 have HPI:=hid (QB (h.go hg0) a.n (by omega));have HPK:Hid (Calls Tryz.prog 40 #[.int .i64 a.kind,.int .i64 10] W0 fun e w'=>e=.returned (.int .i64 8)∧W0=w'):=hid (by
  have h1:=QD a.kind 10 W0 (by omega) (by omega);rw[hK]at h1;exact h1)
 have HKK:=hid hK;obtain⟨rg,e1⟩:∃q,v.rg=q:=⟨_,rfl⟩;have HRG:=hid e1;rw[e1]at HPI ⊢;obtain⟨I,hI⟩:∃I,idxV a.n r.own=I:=⟨_,rfl⟩;rw[hI]at HPI;have HII:=hid hI;clear hI;have HMK:=hid (Qhs HR0.out (by omega) a.n hm hs);rw[e1]at HMK;clear h hg0 hb0 hW0 hK e1 hk;go_enter Tryz.func39,Tryz.ntmps39
 go_upto_region 1 with fail
 rw[HW0.out];go_upto_region 3 with (first|(go_at_call 37;refine HPI.out.mono ?_;rintro e w' ⟨rfl,rfl⟩)|(go_at_call 40;refine HPK.out.mono ?_;rintro e w' ⟨rfl,rfl⟩)|fail)
 clear HPI HPK;go_wp2_with fail
 refine HMK.out.mono ?_;rintro e w1 ⟨rfl,ho1⟩;have HX:Hid (DoX w0 w v r a (.returned (.tuple #[.int .u32 0,.int .i64 0])) w1):=hid ⟨0,0,_,rfl,.mark HKK.out hm,RnOp.back HG0.out ho1⟩;clear ho1;go_wp2;go_ret2
 exact HX.out
theorem Qku(h:RnM w0 w v r)(hk:RnOk r T)(hT:T≤1000)(a:AcT)(ha:AcOk a)(hK:pick a.kind 10=8)(hm:r.marked=true){m:List Int}(hs:r.s.mark=some m)(he:a.n.tmod 2=0):Calls Tryz.prog 39 #[.pointer (some ⟨v.rg,0,none⟩),.agg (acV a)] w (DoX w0 w v r a):=by
 have hlen:=hk.len;have hg0:=Qb w (.cells (acV a) 64);have hb0:=heap_alloc_new w (.cells (acV a) 64);obtain⟨W0,hW0⟩:∃X,w.alloc (.cells (acV a) 64)=X:=⟨_,rfl⟩;rw[hW0]at hg0 hb0;have HW0:=hid hW0;have HG0:=hid hg0;have HB0:=hid hb0;have HR0:=hid (h.go hg0);have HK:=hid hk;have HA:=hid ha;have b0:W0.cell? ⟨w.heap.size,0,none⟩=some (.int .i64 a.kind):=by rw[cell_of_row _ _ _ _ _ _ hb0];rfl
 have b3:W0.cell? ⟨w.heap.size,3,none⟩=some (.int .i64 a.n):=by rw[cell_of_row _ _ _ _ _ _ hb0];rfl
 have HPI:=hid (QB (h.go hg0) a.n (by omega));have HPK:Hid (Calls Tryz.prog 40 #[.int .i64 a.kind,.int .i64 10] W0 fun e w'=>e=.returned (.int .i64 8)∧W0=w'):=hid (by
  have h1:=QD a.kind 10 W0 (by omega) (by omega);rw[hK]at h1;exact h1)
 have HKK:=hid hK;obtain⟨rg,e1⟩:∃q,v.rg=q:=⟨_,rfl⟩;have HRG:=hid e1;rw[e1]at HPI ⊢;obtain⟨I,hI⟩:∃I,idxV a.n r.own=I:=⟨_,rfl⟩;rw[hI]at HPI;have HII:=hid hI;clear hI;have HMK:=hid (Qhq HR0.out (by omega) a.n hm hs he);rw[e1]at HMK;clear h hg0 hb0 hW0 hK e1 hk;go_enter Tryz.func39,Tryz.ntmps39
 go_upto_region 1 with fail
 rw[HW0.out];go_upto_region 3 with (first|(go_at_call 37;refine HPI.out.mono ?_;rintro e w' ⟨rfl,rfl⟩)|(go_at_call 40;refine HPK.out.mono ?_;rintro e w' ⟨rfl,rfl⟩)|fail)
 clear HPI HPK;go_wp2_with fail
 refine HMK.out.mono ?_;rintro e w1 ⟨rfl,ho1⟩;have HX:Hid (DoX w0 w v r a (.returned (.tuple #[.int .u32 0,.int .i64 0])) w1):=hid ⟨0,0,_,rfl,.back m HKK.out hm hs he,RnOp.back HG0.out ho1⟩;clear ho1;go_wp2;go_ret2
 exact HX.out
theorem Qkv(h:RnM w0 w v r)(hk:RnOk r T)(hT:T≤1000)(a:AcT)(ha:AcOk a)(hK:pick a.kind 10=8)(hm:r.marked=true)(hs:r.s.mark≠none)(he:a.n.tmod 2≠0):Calls Tryz.prog 39 #[.pointer (some ⟨v.rg,0,none⟩),.agg (acV a)] w (DoX w0 w v r a):=by
 have hlen:=hk.len;have hg0:=Qb w (.cells (acV a) 64);have hb0:=heap_alloc_new w (.cells (acV a) 64);obtain⟨W0,hW0⟩:∃X,w.alloc (.cells (acV a) 64)=X:=⟨_,rfl⟩;rw[hW0]at hg0 hb0;have HW0:=hid hW0;have HG0:=hid hg0;have HB0:=hid hb0;have HR0:=hid (h.go hg0);have HK:=hid hk;have HA:=hid ha;have b0:W0.cell? ⟨w.heap.size,0,none⟩=some (.int .i64 a.kind):=by rw[cell_of_row _ _ _ _ _ _ hb0];rfl
 have b3:W0.cell? ⟨w.heap.size,3,none⟩=some (.int .i64 a.n):=by rw[cell_of_row _ _ _ _ _ _ hb0];rfl
 have HPI:=hid (QB (h.go hg0) a.n (by omega));have HPK:Hid (Calls Tryz.prog 40 #[.int .i64 a.kind,.int .i64 10] W0 fun e w'=>e=.returned (.int .i64 8)∧W0=w'):=hid (by
  have h1:=QD a.kind 10 W0 (by omega) (by omega);rw[hK]at h1;exact h1)
 have HKK:=hid hK;obtain⟨rg,e1⟩:∃q,v.rg=q:=⟨_,rfl⟩;have HRG:=hid e1;rw[e1]at HPI ⊢;obtain⟨I,hI⟩:∃I,idxV a.n r.own=I:=⟨_,rfl⟩;rw[hI]at HPI;have HII:=hid hI;clear hI;have HMK:=hid (Qhr HR0.out (by omega) a.n hm hs he);rw[e1]at HMK;clear h hg0 hb0 hW0 hK e1 hk;go_enter Tryz.func39,Tryz.ntmps39
 go_upto_region 1 with fail
 rw[HW0.out];go_upto_region 3 with (first|(go_at_call 37;refine HPI.out.mono ?_;rintro e w' ⟨rfl,rfl⟩)|(go_at_call 40;refine HPK.out.mono ?_;rintro e w' ⟨rfl,rfl⟩)|fail)
 clear HPI HPK;go_wp2_with fail
 refine HMK.out.mono ?_;rintro e w1 ⟨rfl,ho1⟩;have HX:Hid (DoX w0 w v r a (.returned (.tuple #[.int .u32 0,.int .i64 0])) w1):=hid ⟨0,0,_,rfl,.done HKK.out hm he,RnOp.back HG0.out ho1⟩;clear ho1;go_wp2;go_ret2
 exact HX.out
end
section
variable {w0 w : World} {v : Rv} {r : Rn} {T : Nat}
theorem QbG{x:Nm}{s:SpS}{own hown mown:List Nat}(h:SpM w0 w x s)(hok:SpOk s own hown mown T)(hT:T≤1000)(root:Nat)(hn:root<4294967296)(hr:root=0∨root∈own)(hT4:T4 w0) :
  Calls Tryz.prog 27 #[.pointer (some ⟨x.sg,0,none⟩),.int .u32 (root:Int)] w fun e w'=>e=.returned (.int .i64 0)∧Op w0 w x (commitP s root) w':=by
 have hrr:(root:Int)=0∨(0≤(root:Int)∧(root:Int).toNat∈own):=hr.imp (fun e=>by omega) (fun e=>⟨by omega,by rw[Int.toNat_natCast];exact e⟩);obtain⟨z1,z2⟩:=QiZ hok hT hrr;have hE:comE s root=0:=by
  unfold comE;by_cases e:(root:Int)=0
  ·rw[if_pos e]
  ·rw[if_neg e,Int.toNat_natCast];rcases hr with q|q
   ·omega
   ·have h2:GoodC s.dv s.sup.pages s.now (root :: own.erase root):=hok.now.perm fun n=>by rw[(List.perm_cons_erase q).count_eq]
    exact(QbR h2).1
 refine(commit_yes h (by rw[Qkp hok.fuse];exact hok) hT root hn hr hT4).mono ?_;rintro e w' (⟨q,_⟩|⟨_,rfl,q,_⟩)
 ·exact absurd hE q
 ·refine⟨by rw[z1],?_⟩;rw[←z2];exact q z1
theorem Qeb(h:RnM w0 w v r)(hk:RnOk r T)(hT:T≤1000)(a:AcT)(ha:AcOk a)(hK:pick a.kind 10=6)(hn:r.own=[])(hT4:T4 w0):Calls Tryz.prog 39 #[.pointer (some ⟨v.rg,0,none⟩),.agg (acV a)] w (DoX w0 w v r a):=by
 have hlen:=hk.len;have hg0:=Qb w (.cells (acV a) 64);have hb0:=heap_alloc_new w (.cells (acV a) 64);obtain⟨W0,hW0⟩:∃X,w.alloc (.cells (acV a) 64)=X:=⟨_,rfl⟩;rw[hW0]at hg0 hb0;have HW0:=hid hW0;have HG0:=hid hg0;have HB0:=hid hb0;have HR0:=hid (h.go hg0);have HK:=hid hk;have HA:=hid ha;have b0:W0.cell? ⟨w.heap.size,0,none⟩=some (.int .i64 a.kind):=by rw[cell_of_row _ _ _ _ _ _ hb0];rfl
 have b3:W0.cell? ⟨w.heap.size,3,none⟩=some (.int .i64 a.n):=by rw[cell_of_row _ _ _ _ _ _ hb0];rfl
 have HPI:=hid (QB (h.go hg0) a.n (by omega));have HPK:Hid (Calls Tryz.prog 40 #[.int .i64 a.kind,.int .i64 10] W0 fun e w'=>e=.returned (.int .i64 6)∧W0=w'):=hid (by
  have h1:=QD a.kind 10 W0 (by omega) (by omega);rw[hK]at h1;exact h1)
 have HKK:=hid hK;obtain⟨rg,e1⟩:∃q,v.rg=q:=⟨_,rfl⟩;have HRG:=hid e1;rw[e1]at HPI ⊢;have hI:idxV a.n r.own=-1:=if_pos hn;rw[hI]at HPI;clear hI;have hrt:actRoot a r.own=0:=if_neg (fun q=>q.1 hn);have hrt2:0=0∨0∈r.own:=by
  rw[←hrt];unfold actRoot;by_cases q:r.own≠[]∧0≤a.n
  ·rw[if_pos q];exact .inr (QaG (a:=a) q.1)
  ·rw[if_neg q];exact .inl rfl
 have hrt3:0<4294967296:=by
  rcases hrt2 with q|q
  ·omega
  ·have:=hk.lt q;omega
 have HCM:=hid (QbG HR0.out.sp hk.sp hT (0) hrt3 hrt2 hT4);have HRT:=hid hrt;obtain⟨sg,e2⟩:∃q,v.x.sg=q:=⟨_,rfl⟩;rw[e2]at HCM;have c1:=HR0.out.box.cells.2.1;rw[e1,e2]at c1;clear e2 hrt hrt2 hrt3 hn;clear h hg0 hb0 hW0 hK e1 hk;go_enter Tryz.func39,Tryz.ntmps39
 go_upto_region 1 with fail
 rw[HW0.out];go_upto_region 3 with (first|(go_at_call 37;refine HPI.out.mono ?_;rintro e w' ⟨rfl,rfl⟩)|(go_at_call 40;refine HPK.out.mono ?_;rintro e w' ⟨rfl,rfl⟩)|fail)
 clear HPI HPK hT4;go_wp2_with fail
 refine HCM.out.mono ?_;rintro e w1 ⟨rfl,ho1⟩;obtain⟨v1,hr1,hx1,hm1,ht1,hf1⟩:=HR0.out.step ho1;have HR1:=hid hm1;have HO1:Hid (Turn W0 w1 v.fp∧v1.rg=v.rg∧v1.x.g=v.x.g∧∀k,v1.fp k→v.fp k∨W0.heap.size≤k):=hid ⟨ht1,hr1,hx1,hf1⟩;have HE1:Hid (v1.rg=rg):=hid (hr1.trans HRG.out);have c2:=HR1.out.box.cells.2.2.1;rw[HE1.out]at c2;have HOW:=hid (QO v1.oa r.own.length v1.oc (ints r.own) w1 hm1.o (by have:=hlen;omega));clear ho1 hr1 hx1 hm1 ht1 hf1 c1 b0 HCM;dsimp only at c2;dsimp only;go_wp2_with fail
 refine HOW.out.mono ?_;rintro e w2 ⟨g2,k2,rfl,hown2,hg2⟩;have HN2:Hid (NewS w1 w2 g2 k2 r.own):=hid (Qa2 hown2 hg2);have HR2:=hid (HR1.out.go hg2);have hbx:=HR2.out.box;rw[HE1.out]at hbx;obtain⟨-,-,-,d3,-,d5,d6⟩:=hbx.cells;have f3:=hbx.froz 3;have f5:=hbx.froz 5;have f6:=hbx.froz 6;dsimp only at d3 d5 d6;have HX:Hid (DoX w0 w v r a (.returned (.tuple #[.int .u32 (0:Nat),.int .i64 0])) (((w2.setCell ⟨rg,3,none⟩ (.slice (some ⟨g2,0,none⟩) r.own.length k2)).setCell ⟨rg,5,none⟩ (.bool false)).setCell ⟨rg,6,none⟩ (.int .u32 (0:Nat)))):=hid (by
  have h1:=HR1.out.setHeld HN2.out (0);rw[HE1.out]at h1;have h2:DoR a r (actRoot a r.own) 0 _:=.commit HKK.out;rw[HRT.out]at h2;exact⟨_,0,_,rfl,h2,RnOp.back HG0.out (RnOp.trans HO1.out.1 HO1.out.2.1 HO1.out.2.2.1 HO1.out.2.2.2 h1)⟩)
 clear hown2 hg2 hbx c2 HOW;dsimp only;go_wp2;go_ret2
 exact HX.out
theorem Qe2(h:RnM w0 w v r)(hk:RnOk r T)(hT:T≤1000)(a:AcT)(ha:AcOk a)(hK:pick a.kind 10=6)(hn:r.own≠[])(hneg:¬0≤a.n)(hT4:T4 w0):Calls Tryz.prog 39 #[.pointer (some ⟨v.rg,0,none⟩),.agg (acV a)] w (DoX w0 w v r a):=by
 have hlen:=hk.len;have hg0:=Qb w (.cells (acV a) 64);have hb0:=heap_alloc_new w (.cells (acV a) 64);obtain⟨W0,hW0⟩:∃X,w.alloc (.cells (acV a) 64)=X:=⟨_,rfl⟩;rw[hW0]at hg0 hb0;have HW0:=hid hW0;have HG0:=hid hg0;have HB0:=hid hb0;have HR0:=hid (h.go hg0);have HK:=hid hk;have HA:=hid ha;have b0:W0.cell? ⟨w.heap.size,0,none⟩=some (.int .i64 a.kind):=by rw[cell_of_row _ _ _ _ _ _ hb0];rfl
 have b3:W0.cell? ⟨w.heap.size,3,none⟩=some (.int .i64 a.n):=by rw[cell_of_row _ _ _ _ _ _ hb0];rfl
 have HPI:=hid (QB (h.go hg0) a.n (by omega));have HPK:Hid (Calls Tryz.prog 40 #[.int .i64 a.kind,.int .i64 10] W0 fun e w'=>e=.returned (.int .i64 6)∧W0=w'):=hid (by
  have h1:=QD a.kind 10 W0 (by omega) (by omega);rw[hK]at h1;exact h1)
 have HKK:=hid hK;obtain⟨rg,e1⟩:∃q,v.rg=q:=⟨_,rfl⟩;have HRG:=hid e1;rw[e1]at HPI ⊢;have hI:idxV a.n r.own=(actI a.n r.own:Int):=if_neg hn;rw[hI]at HPI;obtain⟨i,hi⟩:∃i,actI a.n r.own=i:=⟨_,rfl⟩;have hil:i<r.own.length:=by rw[←hi];exact Qcn hn
 rw[hi]at HPI;clear hI;have q0:decide (0≤a.n)=false:=decide_eq_false hneg;have hrt:actRoot a r.own=0:=if_neg (fun q=>hneg q.2);have hrt2:0=0∨0∈r.own:=by
  rw[←hrt];unfold actRoot;by_cases q:r.own≠[]∧0≤a.n
  ·rw[if_pos q];exact .inr (QaG (a:=a) q.1)
  ·rw[if_neg q];exact .inl rfl
 have hrt3:0<4294967296:=by
  rcases hrt2 with q|q
  ·omega
  ·have:=hk.lt q;omega
 have HCM:=hid (QbG HR0.out.sp hk.sp hT (0) hrt3 hrt2 hT4);have HRT:=hid hrt;obtain⟨sg,e2⟩:∃q,v.x.sg=q:=⟨_,rfl⟩;rw[e2]at HCM;have c1:=HR0.out.box.cells.2.1;rw[e1,e2]at c1;clear e2 hrt hrt2 hrt3;clear h hg0 hb0 hW0 hK e1 hk;go_enter Tryz.func39,Tryz.ntmps39
 go_upto_region 1 with fail
 rw[HW0.out];go_upto_region 3 with (first|(go_at_call 37;refine HPI.out.mono ?_;rintro e w' ⟨rfl,rfl⟩)|(go_at_call 40;refine HPK.out.mono ?_;rintro e w' ⟨rfl,rfl⟩)|fail)
 clear HPI HPK hT4;go_wp2_with fail
 refine HCM.out.mono ?_;rintro e w1 ⟨rfl,ho1⟩;obtain⟨v1,hr1,hx1,hm1,ht1,hf1⟩:=HR0.out.step ho1;have HR1:=hid hm1;have HO1:Hid (Turn W0 w1 v.fp∧v1.rg=v.rg∧v1.x.g=v.x.g∧∀k,v1.fp k→v.fp k∨W0.heap.size≤k):=hid ⟨ht1,hr1,hx1,hf1⟩;have HE1:Hid (v1.rg=rg):=hid (hr1.trans HRG.out);have c2:=HR1.out.box.cells.2.2.1;rw[HE1.out]at c2;have HOW:=hid (QO v1.oa r.own.length v1.oc (ints r.own) w1 hm1.o (by have:=hlen;omega));clear ho1 hr1 hx1 hm1 ht1 hf1 c1 b0 HCM;dsimp only at c2;dsimp only;go_wp2_with fail
 refine HOW.out.mono ?_;rintro e w2 ⟨g2,k2,rfl,hown2,hg2⟩;have HN2:Hid (NewS w1 w2 g2 k2 r.own):=hid (Qa2 hown2 hg2);have HR2:=hid (HR1.out.go hg2);have hbx:=HR2.out.box;rw[HE1.out]at hbx;obtain⟨-,-,-,d3,-,d5,d6⟩:=hbx.cells;have f3:=hbx.froz 3;have f5:=hbx.froz 5;have f6:=hbx.froz 6;dsimp only at d3 d5 d6;have HX:Hid (DoX w0 w v r a (.returned (.tuple #[.int .u32 (0:Nat),.int .i64 0])) (((w2.setCell ⟨rg,3,none⟩ (.slice (some ⟨g2,0,none⟩) r.own.length k2)).setCell ⟨rg,5,none⟩ (.bool false)).setCell ⟨rg,6,none⟩ (.int .u32 (0:Nat)))):=hid (by
  have h1:=HR1.out.setHeld HN2.out (0);rw[HE1.out]at h1;have h2:DoR a r (actRoot a r.own) 0 _:=.commit HKK.out;rw[HRT.out]at h2;exact⟨_,0,_,rfl,h2,RnOp.back HG0.out (RnOp.trans HO1.out.1 HO1.out.2.1 HO1.out.2.2.1 HO1.out.2.2.2 h1)⟩)
 clear hown2 hg2 hbx c2 HOW;dsimp only;go_wp2;go_ret2
 exact HX.out
theorem Qe3(h:RnM w0 w v r)(hk:RnOk r T)(hT:T≤1000)(a:AcT)(ha:AcOk a)(hK:pick a.kind 10=6)(hn:r.own≠[])(hpos:0≤a.n)(hT4:T4 w0):Calls Tryz.prog 39 #[.pointer (some ⟨v.rg,0,none⟩),.agg (acV a)] w (DoX w0 w v r a):=by
 have hlen:=hk.len;have hg0:=Qb w (.cells (acV a) 64);have hb0:=heap_alloc_new w (.cells (acV a) 64);obtain⟨W0,hW0⟩:∃X,w.alloc (.cells (acV a) 64)=X:=⟨_,rfl⟩;rw[hW0]at hg0 hb0;have HW0:=hid hW0;have HG0:=hid hg0;have HB0:=hid hb0;have HR0:=hid (h.go hg0);have HK:=hid hk;have HA:=hid ha;have b0:W0.cell? ⟨w.heap.size,0,none⟩=some (.int .i64 a.kind):=by rw[cell_of_row _ _ _ _ _ _ hb0];rfl
 have b3:W0.cell? ⟨w.heap.size,3,none⟩=some (.int .i64 a.n):=by rw[cell_of_row _ _ _ _ _ _ hb0];rfl
 have HPI:=hid (QB (h.go hg0) a.n (by omega));have HPK:Hid (Calls Tryz.prog 40 #[.int .i64 a.kind,.int .i64 10] W0 fun e w'=>e=.returned (.int .i64 6)∧W0=w'):=hid (by
  have h1:=QD a.kind 10 W0 (by omega) (by omega);rw[hK]at h1;exact h1)
 have HKK:=hid hK;obtain⟨rg,e1⟩:∃q,v.rg=q:=⟨_,rfl⟩;have HRG:=hid e1;rw[e1]at HPI ⊢;have hI:idxV a.n r.own=(actI a.n r.own:Int):=if_neg hn;rw[hI]at HPI;obtain⟨i,hi⟩:∃i,actI a.n r.own=i:=⟨_,rfl⟩;have hil:i<r.own.length:=by rw[←hi];exact Qcn hn
 rw[hi]at HPI;clear hI;have q0:decide (0≤a.n)=true:=decide_eq_true hpos;have cown:=HR0.out.box.cells.2.2.1;rw[e1]at cown;obtain⟨ga,oa,ea,hca⟩:=HR0.out.o.addr (by omega:0<r.own.length);have hcell:W0.cell? ⟨ga,oa+i,none⟩=some (.int .u32 (((r.own.getD i 0:Nat):Int))):=by
  have h1:=hca i hil;have h2:(ints r.own).getD i 0=((r.own.getD i 0:Nat):Int):=by
   unfold ints;rw[List.getD_eq_getElem?_getD,List.getD_eq_getElem?_getD,List.getElem?_map,List.getElem?_eq_getElem hil]
   rfl
  rw[h2]at h1;exact h1
 rw[ea]at cown;obtain⟨rt,hrt0⟩:∃q,r.own.getD i 0=q:=⟨_,rfl⟩;rw[hrt0]at hcell;clear hca;have hrt:actRoot a r.own=rt:=(if_pos ⟨hn,hpos⟩).trans (by rw[hi];exact hrt0);have hrt2:rt=0∨rt∈r.own:=by
  rw[←hrt];unfold actRoot;by_cases q:r.own≠[]∧0≤a.n
  ·rw[if_pos q];exact .inr (QaG (a:=a) q.1)
  ·rw[if_neg q];exact .inl rfl
 have hrt3:rt<4294967296:=by
  rcases hrt2 with q|q
  ·omega
  ·have:=hk.lt q;omega
 have HCM:=hid (QbG HR0.out.sp hk.sp hT (rt) hrt3 hrt2 hT4);have HRT:=hid hrt;obtain⟨sg,e2⟩:∃q,v.x.sg=q:=⟨_,rfl⟩;rw[e2]at HCM;have c1:=HR0.out.box.cells.2.1;rw[e1,e2]at c1;clear e2 hrt hrt2 hrt3;clear h hg0 hb0 hW0 hK e1 hk;go_enter Tryz.func39,Tryz.ntmps39
 go_upto_region 1 with fail
 rw[HW0.out];go_upto_region 3 with (first|(go_at_call 37;refine HPI.out.mono ?_;rintro e w' ⟨rfl,rfl⟩)|(go_at_call 40;refine HPK.out.mono ?_;rintro e w' ⟨rfl,rfl⟩)|fail)
 clear HPI HPK hT4;go_wp2_with fail
 refine HCM.out.mono ?_;rintro e w1 ⟨rfl,ho1⟩;obtain⟨v1,hr1,hx1,hm1,ht1,hf1⟩:=HR0.out.step ho1;have HR1:=hid hm1;have HO1:Hid (Turn W0 w1 v.fp∧v1.rg=v.rg∧v1.x.g=v.x.g∧∀k,v1.fp k→v.fp k∨W0.heap.size≤k):=hid ⟨ht1,hr1,hx1,hf1⟩;have HE1:Hid (v1.rg=rg):=hid (hr1.trans HRG.out);have c2:=HR1.out.box.cells.2.2.1;rw[HE1.out]at c2;have HOW:=hid (QO v1.oa r.own.length v1.oc (ints r.own) w1 hm1.o (by have:=hlen;omega));clear ho1 hr1 hx1 hm1 ht1 hf1 c1 b0 HCM;dsimp only at c2;dsimp only;go_wp2_with fail
 refine HOW.out.mono ?_;rintro e w2 ⟨g2,k2,rfl,hown2,hg2⟩;have HN2:Hid (NewS w1 w2 g2 k2 r.own):=hid (Qa2 hown2 hg2);have HR2:=hid (HR1.out.go hg2);have hbx:=HR2.out.box;rw[HE1.out]at hbx;obtain⟨-,-,-,d3,-,d5,d6⟩:=hbx.cells;have f3:=hbx.froz 3;have f5:=hbx.froz 5;have f6:=hbx.froz 6;dsimp only at d3 d5 d6;have HX:Hid (DoX w0 w v r a (.returned (.tuple #[.int .u32 (rt:Nat),.int .i64 0])) (((w2.setCell ⟨rg,3,none⟩ (.slice (some ⟨g2,0,none⟩) r.own.length k2)).setCell ⟨rg,5,none⟩ (.bool false)).setCell ⟨rg,6,none⟩ (.int .u32 (rt:Nat)))):=hid (by
  have h1:=HR1.out.setHeld HN2.out (rt);rw[HE1.out]at h1;have h2:DoR a r (actRoot a r.own) 0 _:=.commit HKK.out;rw[HRT.out]at h2;exact⟨_,0,_,rfl,h2,RnOp.back HG0.out (RnOp.trans HO1.out.1 HO1.out.2.1 HO1.out.2.2.1 HO1.out.2.2.2 h1)⟩)
 clear hown2 hg2 hbx c2 HOW;dsimp only;go_wp2;go_ret2
 exact HX.out
end
end Sp
namespace Sp
open Go.RowKit Bs Dv Gr Dr
open Su (QP Qan QQ)
theorem VI.nxt{D S:List Nat}{V V':List Value}{M M':(Nat→Bool)→World→Prop}{a0:Act}{L:Nat→Bool}{a:Act}{w w':World}(h:VI D S V M a0 L a w)(hV:∀i,L i=true→V'.getD i undef=V.getD i undef)(hS:S.Nodup)(i:Nat)(hi:i<S.length)(hD:S.getD i 0∈D){v:Value}(hv:v=V'.getD i undef)(hM:M' (Dr.upd L i) w'):VI D S V' M' a0 (Dr.upd L i) (a.put (some (S.getD i 0)) v) w':=
 have h2:VI D S V' (fun _ _=>True) a0 L a w:=⟨h.agr,h.big,fun i hi hd hl=>by rw[hV i hl];exact h.vals i hi hd hl,trivial⟩;have r:=h2.value hS i hi hD hv (w':=w') trivial
 ⟨r.agr,r.big,r.vals,hM⟩
theorem up_no{L:Nat→Bool}{i j:Nat}(h:Dr.upd L i j=false):L j=false:=by
 cases e:L j with
 |false=>rfl
 |true=>rw[Qq e]at h;cases h
structure RI (w1:World) (rg n k:Nat) (l l2:List Int) (oi bi ci si:Nat) (g2 c2 g9 g3 c3:Nat) (L:Nat→Bool) (W:World):Prop where
 gr:L si=false→Turn w1 W (fun i=>w1.heap.size≤i)
 own:L oi=true→L ci=false→W.ownsRow w1.heap.size 35 1 (.slice (some ⟨g2,0,none⟩) n c2) n (l.map (Value.int .u32))
 lit:L bi=true→L ci=false→Ws.Seg W (some ⟨g9,0,none⟩) 1 1 l2
 own3:L ci=true→L si=false→W.ownsRow w1.heap.size 35 1 (.slice (some ⟨g3,0,none⟩) (n+k) c3) (n+k) ((l++l2).map (Value.int .u32))
 st:L si=true→∃W',Turn w1 W' (fun i=>w1.heap.size≤i)∧W'.ownsRow w1.heap.size 35 1 (.slice (some ⟨g3,0,none⟩) (n+k) c3) (n+k) ((l++l2).map (Value.int .u32))∧W=W'.setCell ⟨rg,2,none⟩ (.slice (some ⟨g3,0,none⟩) (n+k) c3)
 oc:L ci=true→L oi=true
 sc:L si=true→L ci=true
 bc:L ci=true→bi<900→L bi=true
 al:L si=true→∀j,j≤ci→L j=true
section
variable {w1 : World} {rg n k : Nat} {l l2 : List Int} {oi bi ci si g2 c2 g9 g3 c3 : Nat} {L : Nat → Bool} {W : World}
theorem RI.start(hb:W=w1.drew):RI w1 rg n k l l2 oi bi ci si g2 c2 g9 g3 c3 (fun _=>false) W:=by
 subst hb;exact⟨fun _=>Turn.drew w1 _,(fun e=>by cases e),(fun e=>by cases e),(fun e=>by cases e),(fun e=>by cases e),(fun e=>by cases e),(fun e=>by cases e),(fun e=>by cases e),(fun e=>by cases e)⟩
theorem RI.keep(h:RI w1 rg n k l l2 oi bi ci si g2 c2 g9 g3 c3 L W){i:Nat}(ho:i≠oi)(hb:i≠bi)(hc:i≠ci)(hs:i≠si):RI w1 rg n k l l2 oi bi ci si g2 c2 g9 g3 c3 (Dr.upd L i) W:=
 ⟨fun p=>h.gr (up_no p),fun p q=>h.own (Qf p ho.symm) (up_no q),fun p q=>h.lit (Qf p hb.symm) (up_no q),fun p q=>h.own3 (Qf p hc.symm) (up_no q),fun p=>h.st (Qf p hs.symm),fun p=>Qq (h.oc (Qf p hc.symm)),fun p=>Qq (h.sc (Qf p hs.symm)),fun p q=>Qq (h.bc (Qf p hc.symm) q),fun p j q=>Qq (h.al (Qf p hs.symm) j q)⟩
theorem RI.noS(h:RI w1 rg n k l l2 oi bi ci si g2 c2 g9 g3 c3 L W)(h0:L ci=false):L si=false:=by
 cases e:L si with
 |false=>rfl
 |true=>rw[h.sc e]at h0;cases h0
theorem RI.before(h:RI w1 rg n k l l2 oi bi ci si g2 c2 g9 g3 c3 L W){j:Nat}(hj:j≤ci)(h0:L j=false):L si=false:=by
 cases e:L si with
 |false=>rfl
 |true=>rw[h.al e j hj]at h0;cases h0
theorem RI.noC(h:RI w1 rg n k l l2 oi bi ci si g2 c2 g9 g3 c3 L W)(h0:L oi=false):L ci=false:=by
 cases e:L ci with
 |false=>rfl
 |true=>rw[h.oc e]at h0;cases h0
theorem RI.noC2(h:RI w1 rg n k l l2 oi bi ci si g2 c2 g9 g3 c3 L W)(hb:bi<900)(h0:L bi=false):L ci=false:=by
 cases e:L ci with
 |false=>rfl
 |true=>rw[h.bc e hb]at h0;cases h0
theorem RI.cell(h:RI w1 rg n k l l2 oi bi ci si g2 c2 g9 g3 c3 L W)(h0:L si=false){p:Addr}{v:Value}(hc:w1.cell? p=some v):W.cell? p=some v:=
 (h.gr h0).cell hc (fun e=>by have h1:=World.block_lt_of_cell? w1 _ hc;have e2:w1.heap.size≤p.block:=e;omega)
theorem RI.owned(h:RI w1 rg n k l l2 oi bi ci si g2 c2 g9 g3 c3 L W)(ob:oi≠bi)(ocn:oi≠ci)(os:oi≠si)(h0:L oi=false){w':World}{g2' c2':Nat}(hown:w'.ownsRow W.heap.size 35 1 (.slice (some ⟨g2',0,none⟩) n c2') n (l.map (Value.int .u32)))(hg:W.grownBy w' none) :
  RI w1 rg n k l l2 oi bi ci si g2' c2' g9 g3 c3 (Dr.upd L oi) w':=by
 have nC:=h.noC h0;have nS:=h.noS nC;have t:=h.gr nS;exact⟨fun _=>Turn.trans (S:=fun i=>w1.heap.size≤i) t (Qc hg) (fun _ _ e=>e.elim),fun _ _=>Bs.Qy hown t.size,fun p _=>(h.lit (Qf p ob.symm) nC).grown hg,fun p=>absurd (Qf p ocn.symm) (by rw[nC];decide),fun p=>absurd (Qf p os.symm) (by rw[nS];decide),fun p=>absurd (Qf p ocn.symm) (by rw[nC];decide),fun p=>absurd (Qf p os.symm) (by rw[nS];decide),fun p=>absurd (Qf p ocn.symm) (by rw[nC];decide),fun p=>absurd (Qf p os.symm) (by rw[nS];decide)⟩
theorem RI.made{m:Nat}(h:RI w1 rg n k l [(m:Int)] oi bi ci si g2 c2 g9 g3 c3 L W)(hb:bi<900)(ob:oi≠bi)(bcn:bi≠ci)(bs:bi≠si)(h0:L bi=false) :
  RI w1 rg n k l [(m:Int)] oi bi ci si g2 c2 W.heap.size g3 c3 (Dr.upd L bi) (W.alloc (.cells #[.int .u32 (m:Int)] 35)):=by
 have nC:=h.noC2 hb h0;have nS:=h.noS nC;have t:=h.gr nS;exact⟨fun _=>t.trans (Qc (Qb W _)) (fun _ _ e=>e.elim),fun p _=>(h.own (Qf p ob) nC).alloc _,fun _ _=>lit32 W m,fun p=>absurd (Qf p bcn.symm) (by rw[nC];decide),fun p=>absurd (Qf p bs.symm) (by rw[nS];decide),fun p=>absurd (Qf p bcn.symm) (by rw[nC];decide),fun p=>absurd (Qf p bs.symm) (by rw[nS];decide),fun p=>absurd (Qf p bcn.symm) (by rw[nC];decide),fun p=>absurd (Qf p bs.symm) (by rw[nS];decide)⟩
theorem RI.appended(h:RI w1 rg n k l l2 oi bi ci si g2 c2 g9 g3 c3 L W)(cs:ci≠si)(h0:L ci=false)(h1:L oi=true)(h2:bi<900→L bi=true){w':World}{g3' c3':Nat}(hown:w'.ownsRow w1.heap.size 35 1 (.slice (some ⟨g3',0,none⟩) (n+k) c3') (n+k) ((l++l2).map (Value.int .u32)))(hg:W.grownBy w' (some g2)) :
  RI w1 rg n k l l2 oi bi ci si g2 c2 g9 g3' c3' (Dr.upd L ci) w':=by
 have nS:=h.noS h0;have t:=h.gr nS;have hg2:=((h.own h1 h0).lt g2 rfl).1;have ht:Turn W w' (fun i=>w1.heap.size≤i):=Turn.Qk hg (fun i e _=>by cases e;exact hg2);exact⟨fun _=>t.trans ht (fun _ _ e=>e),fun _ q=>(by rw[QaN]at q;cases q),fun _ q=>(by rw[QaN]at q;cases q),fun _ _=>hown,fun p=>absurd (Qf p cs.symm) (by rw[nS];decide),fun _=>Qq h1,fun _=>QaN L ci,fun _ q=>Qq (h2 q),fun p=>absurd (Qf p cs.symm) (by rw[nS];decide)⟩
theorem RI.stored(h:RI w1 rg n k l l2 oi bi ci si g2 c2 g9 g3 c3 L W)(h0:L si=false)(h1:L ci=true)(ha:∀j,j≤ci→L j=true):RI w1 rg n k l l2 oi bi ci si g2 c2 g9 g3 c3 (Dr.upd L si) (W.setCell ⟨rg,2,none⟩ (.slice (some ⟨g3,0,none⟩) (n+k) c3)):=
 ⟨fun p=>(by rw[QaN]at p;cases p),fun _ q=>(by rw[Qq h1]at q;cases q),fun _ q=>(by rw[Qq h1]at q;cases q),fun _ q=>(by rw[QaN]at q;cases q),fun _=>⟨W,h.gr h0,h.own3 h1 h0,rfl⟩,fun _=>Qq (h.oc h1),fun _=>Qq h1,fun _ q=>Qq (h.bc h1 q),fun _ j q=>Qq (ha j q)⟩
theorem QhX{w:World}{b:Addr}{n c:Nat}{l:List Int}(cut:Nat)(h:Ws.Seg w (some b) n c l)(hk:cut≤n) :
  ∃ad c',(∀W,(Instr.slice 38 (.slice (some b) n c) (some (.int .i64 (cut:Int))) none none).run Tryz.prog W=.ok (.slice (some ad) (n-cut) c') W)∧Ws.Seg w (some ad) (n-cut) c' (l.drop cut)∧ad.block=b.block:=by
 have hs:=h.from_ hk;have hr:∀W,(Instr.slice 38 (.slice (some b) n c) (some (.int .i64 (cut:Int))) none none).run Tryz.prog W=.ok (.slice (if c=cut then some b else Option.map (fun x=>x.add cut) (some b)) (n-cut) (c-cut)) W:=fun W=>by
  have h1:=run_slice_l (P:=Tryz.prog) W 38 (some b) n c (by kernel_rfl) .i64 (cut:Int) (by omega) (by omega);rw[h1];simp[sliced,go_sem]
 by_cases e:c=cut
 ·rw[if_pos e]at hs;exact⟨b,c-cut,fun W=>by have:=hr W;rw[if_pos e]at this;exact this,hs,rfl⟩
 ·rw[if_neg e]at hs;exact⟨b.add cut,c-cut,fun W=>by have:=hr W;rw[if_neg e]at this;exact this,hs,block_add b cut⟩
theorem RIgrown{w1 W:World}(t:Turn w1 W (fun i=>w1.heap.size≤i)):w1.grownBy W none:=(Turn.trans (S:=nowhere) (Turn.refl w1 _) t (fun i hi e=>by have e2:w1.heap.size≤i:=e;omega)).grown
theorem boxAt(h:RI w1 rg n k l l2 oi bi ci si g2 c2 g9 g3 c3 L W)(h0:L si=false){v0 v1 v2 v3 v4 v5 v6:Value}(hb:Rx w1 rg v0 v1 v2 v3 v4 v5 v6):Rx W rg v0 v1 v2 v3 v4 v5 v6:=
 hb.old (h.gr h0) (by have:=block_lt hb;omega)
theorem QaO{w:World}{o:Oper}{a:Act}{K:Act→World→Prop}{Q:Exit→Act→World→Prop}(hgd:o.dst=none)(x y:Operand)(ho:o.op=.store 38 x y)
  (rg:Nat) (hx:a.eval x=.pointer (some ⟨rg,2,none⟩)) (p:Option Addr) (n c:Nat) (hy:a.eval y=.slice p n c) {v0 v1 v2 v3 v4 v5 v6:Value} (hb:Rx w rg v0 v1 v2 v3 v4 v5 v6)
  (h:K a (w.setCell ⟨rg,2,none⟩ (.slice p n c))):Oper.wp Tryz.prog o a w K Q:=by
 have e:(execOp a.eval o).run Tryz.prog w=.ok .skip (w.setCell ⟨rg,2,none⟩ (.slice p n c)):=by
  have c2:=hb.cells.2.2.1;have f2:=hb.froz 2;generalize a.eval=ev at hx hy ⊢;simp[go_sem,ho,hx,hy,c2,f2]
 unfold Oper.wp;rw[e]
 show K (a.put o.dst undef) _
 rw[hgd];exact h
theorem Qaz{w w':World}{o:Oper}{a:Act}{s x:Nat}{v1 v2 v:Value}(ho:o.op=.call { callee:=.builtin .append,args:=#[.tmp s,.tmp x],argTypes:=#[38,38] }∧o.type=38)(h1:a.tmps[s]?.getD undef=v1)(h2:a.tmps[x]?.getD undef=v2)
  (hr:(Builtin.append_ #[38,38] 38 #[v1,v2]).run Tryz.prog w=.ok v w'):(execOp a.eval o).run Tryz.prog w=.ok (.value v) w':=by
 have e1:a.eval (.tmp s)=v1:=by simp[Act.eval,h1]
 have e2:a.eval (.tmp x)=v2:=by simp[Act.eval,h2]
 unfold execOp;simp only[ho.1,ho.2,resolve,invoke,builtin,Sem.run_bind,Sem.run_pure,Result.andThen_ok,List.map_toArray,List.map_cons,List.map_nil,e1,e2,hr]
end
end Sp
end Go.Proofs.YtbbbocoliandcaaGreatDoor
