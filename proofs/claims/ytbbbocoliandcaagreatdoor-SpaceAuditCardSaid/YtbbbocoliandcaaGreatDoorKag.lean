/- Parts of the proof. -/
import Derived.Test.YtbbbocoliandcaaGreatDoorKaf
set_option maxRecDepth 100000
set_option maxHeartbeats 8000000
open Go.Lib (hid)
namespace Go.Proofs.YtbbbocoliandcaaGreatDoor
namespace Sp
open Go.RowKit Bs Dv Gr Dr
open Cn (CN CC CnOk IsC)
open Su (Sup SupOk T4)
def V15(rg ga oa L vc i m:Nat)(g2 c2 g9 g3 c3:Nat):List Value:=
 [.pointer (some ⟨rg,0,none⟩),.pointer (some ⟨rg,0,none⟩),.pointer (some ⟨rg,0,none⟩),.pointer (some ⟨rg,2,none⟩),.slice (some ⟨ga,oa,none⟩) L vc,.slice (some ⟨g2,0,none⟩) L c2,.pointer (some ⟨rg,0,none⟩),.pointer (some ⟨rg,0,none⟩),.pointer (some ⟨rg,2,none⟩),.slice (some ⟨ga,oa,none⟩) L vc,.int .i64 (i:Int),.pointer (some ⟨ga,oa+i,none⟩),.int .u32 (m:Int),.slice (some ⟨g9,0,none⟩) 1 1,.slice (some ⟨g3,0,none⟩) (L+1) c3,.pointer (some ⟨rg,0,none⟩),.pointer (some ⟨rg,2,none⟩),undef]
theorem V15_o{g2 c2 g9 g3 c3:Nat}{rg ga oa L vc i m:Nat}(x y:Nat)(j:Nat)(hj:j≠5):(V15 rg ga oa L vc i m x y g9 g3 c3).getD j undef=(V15 rg ga oa L vc i m g2 c2 g9 g3 c3).getD j undef:=by
 match j,hj with
 |0,_=>rfl
 |1,_=>rfl
 |2,_=>rfl
 |3,_=>rfl
 |4,_=>rfl
 |6,_=>rfl
 |7,_=>rfl
 |8,_=>rfl
 |9,_=>rfl
 |10,_=>rfl
 |11,_=>rfl
 |12,_=>rfl
 |13,_=>rfl
 |14,_=>rfl
 |15,_=>rfl
 |16,_=>rfl
 |17,_=>rfl
 |5,h=>exact absurd rfl h
 |j+18,_=>rfl
theorem V15_b{g2 c2 g9 g3 c3:Nat}{rg ga oa L vc i m:Nat}(x:Nat)(j:Nat)(hj:j≠13):(V15 rg ga oa L vc i m g2 c2 x g3 c3).getD j undef=(V15 rg ga oa L vc i m g2 c2 g9 g3 c3).getD j undef:=by
 match j,hj with
 |0,_=>rfl
 |1,_=>rfl
 |2,_=>rfl
 |3,_=>rfl
 |4,_=>rfl
 |5,_=>rfl
 |6,_=>rfl
 |7,_=>rfl
 |8,_=>rfl
 |9,_=>rfl
 |10,_=>rfl
 |11,_=>rfl
 |12,_=>rfl
 |14,_=>rfl
 |15,_=>rfl
 |16,_=>rfl
 |17,_=>rfl
 |13,h=>exact absurd rfl h
 |j+18,_=>rfl
theorem V15_c{g2 c2 g9 g3 c3:Nat}{rg ga oa L vc i m:Nat}(x y:Nat)(j:Nat)(hj:j≠14):(V15 rg ga oa L vc i m g2 c2 g9 x y).getD j undef=(V15 rg ga oa L vc i m g2 c2 g9 g3 c3).getD j undef:=by
 match j,hj with
 |0,_=>rfl
 |1,_=>rfl
 |2,_=>rfl
 |3,_=>rfl
 |4,_=>rfl
 |5,_=>rfl
 |6,_=>rfl
 |7,_=>rfl
 |8,_=>rfl
 |9,_=>rfl
 |10,_=>rfl
 |11,_=>rfl
 |12,_=>rfl
 |13,_=>rfl
 |15,_=>rfl
 |16,_=>rfl
 |17,_=>rfl
 |14,h=>exact absurd rfl h
 |j+18,_=>rfl
section
variable {w0 w : World} {v : Rv} {r : Rn} {T : Nat}
theorem Qiz{x:Nm}{s:SpS}{own hown mown:List Nat}(h:SpM w0 w x s)(hok:SpOk s own hown mown T)(hT:T≤1000)(m:Nat)(hm:m∈own) :
  Calls Tryz.prog 28 #[.pointer (some ⟨x.sg,0,none⟩),.int .u32 (m:Int)] w fun e w'=>e=.returned (.int .i64 0)∧Op w0 w x { s with now:=s.now.set m (s.now.getD m 0+1) } w':=by
 obtain⟨h2,hlt,hp,hpos⟩:=hok.now.at' hm;have hbk:=hok.dok.bhi;have hlow:=(hok.low m).1;have h74:=hok.Qac;have hA:accE s m=0:=by
  unfold accE;rw[if_neg (by omega),if_neg hp]
 have hE:shareE s m=0:=by
  unfold shareE;rw[if_neg (fun q=>q hA)];unfold Cn.addE;rw[if_neg (fun q=>q ⟨h2,by rw[hok.now.cok.len];exact hlt⟩),if_neg (by omega),if_neg (by omega)]
 have h1:=Qiy h m (by omega) (by omega);unfold shareN at h1;rw[hE,if_pos rfl]at h1;exact h1
theorem do_share (h:RnM w0 w v r) (hk:RnOk r T) (hT:T≤1000) (a:AcT) (ha:AcOk a) (hK:pick a.kind 10=4) (hn:r.own≠[]):Calls Tryz.prog 39 #[.pointer (some ⟨v.rg,0,none⟩),.agg (acV a)] w (DoX w0 w v r a):=by
  have hlen:=hk.len
  have hg0:=Qb w (.cells (acV a) 64)
  have hb0:=heap_alloc_new w (.cells (acV a) 64)
  obtain⟨W0,hW0⟩:∃X,w.alloc (.cells (acV a) 64)=X:=⟨_,rfl⟩
  rw[hW0]at hg0 hb0
  have HW0:=hid hW0
  have HG0:=hid hg0
  have HB0:=hid hb0
  have HR0:=hid (h.go hg0)
  have HK:=hid hk
  have HA:=hid ha
  have b0:W0.cell? ⟨w.heap.size,0,none⟩=some (.int .i64 a.kind):=by rw[cell_of_row _ _ _ _ _ _ hb0];rfl
  have b3:W0.cell? ⟨w.heap.size,3,none⟩=some (.int .i64 a.n):=by rw[cell_of_row _ _ _ _ _ _ hb0];rfl
  have HPI:=hid (QB (h.go hg0) a.n (by omega))
  have HPK:Hid (Calls Tryz.prog 40 #[.int .i64 a.kind,.int .i64 10] W0 fun e w'=>e=.returned (.int .i64 4)∧W0=w'):=hid (by
    have h1:=QD a.kind 10 W0 (by omega) (by omega)
    rw[hK]at h1
    exact h1)
  have HKK:=hid hK
  obtain⟨rg,e1⟩:∃q,v.rg=q:=⟨_,rfl⟩
  have HRG:=hid e1
  rw[e1]at HPI ⊢
  have hn0:=hn
  have hI:idxV a.n r.own=(actI a.n r.own:Int):=if_neg hn
  rw[hI]at HPI
  obtain⟨i,hi⟩:∃i,actI a.n r.own=i:=⟨_,rfl⟩
  have hil:i<r.own.length:=by rw[←hi];exact Qcn hn
  rw[hi]at HPI
  clear hI
  have cown:=HR0.out.box.cells.2.2.1
  rw[e1]at cown
  obtain⟨ga,oa,ea,hca⟩:=HR0.out.o.addr (by omega:0<r.own.length)
  have hcell:W0.cell? ⟨ga,oa+i,none⟩=some (.int .u32 (((r.own.getD i 0:Nat):Int))):=by
    have h1:=hca i hil
    have h2:(ints r.own).getD i 0=((r.own.getD i 0:Nat):Int):=by
      unfold ints
      rw[List.getD_eq_getElem?_getD,List.getD_eq_getElem?_getD,List.getElem?_map,List.getElem?_eq_getElem hil]
      rfl
    rw[h2]at h1
    exact h1
  rw[ea]at cown
  have HEA:=hid ea
  obtain⟨m,hm⟩:∃q,r.own.getD i 0=q:=⟨_,rfl⟩
  have hmem:m∈r.own:=by
    have h1:=QaG (a:=a) hn
    unfold actM at h1
    rw[hi,hm]at h1
    exact h1
  have HMM:Hid (actM a r.own=m):=hid (by unfold actM;rw[hi];exact hm)
  have hmlt:=hk.lt hmem
  rw[hm]at hcell
  have hgrow:v.row ga:=.inl ⟨_,ea,rfl⟩
  have hgap:=HR0.out.ap ga hgrow
  obtain⟨sg,e2⟩:∃q,v.x.sg=q:=⟨_,rfl⟩
  have c1:=HR0.out.box.cells.2.1
  rw[e1,e2]at c1
  have hrgn:¬v.x.fp rg:=by rw[←e1];exact HR0.out.rgn
  obtain⟨L,hL⟩:∃q,r.own.length=q:=⟨_,rfl⟩
  rw[hL]at cown hil
  have HLL:=hid hL
  have HGAP:=hid hgap.2.2.1
  have HSH:=hid (fun W (hW:Turn W0 W nowhere)=>Qiz (HR0.out.sp.go hW.grown) hk.sp hT m hmem)
  rw[e2]at HSH
  clear e2 hm hca ea hgrow hgap hL
  clear h hg0 hb0 hW0 hK e1 hk
  go_enter Tryz.func39,Tryz.ntmps39
  go_upto_region 1 with fail
  rw[HW0.out]
  go_upto_region 13 with (first|(go_at_call 37;refine HPI.out.mono ?_;rintro e w' ⟨rfl,rfl⟩)|(go_at_call 40;refine HPK.out.mono ?_;rintro e w' ⟨rfl,rfl⟩)|fail)
  clear HPI HPK
  go_region_held3 (fun w'=>w'.cell? ⟨rg,1,none⟩=some (.pointer (some ⟨sg,0,none⟩))∧w'.cell? ⟨rg,2,none⟩=some (.slice (some ⟨ga,oa,none⟩) L v.oc)∧w'.cell? ⟨ga,oa+i,none⟩=some (.int .u32 (m:Int))) (go_keep)
    (first
      | (go_at_call 28
         (with_reducible refine(HSH.out _ (Turn.drew W0 _)).mono ?_)
         rintro e w1 ⟨rfl,ho1⟩
         have HO1:Hid (Op w0 W0 v.x { r.s with now:=r.s.now.set m (r.s.now.getD m 0+1) } w1):=hid (Qdi (Qj W0) ho1)
         obtain⟨x1,a1,b1,q1,t1,f1⟩:=HO1.out
         have k1:=t1.cell c1 hrgn
         have k2:=t1.cell cown hrgn
         have k3:=t1.cell hcell HGAP.out
         clear ho1 a1 b1 q1 t1 f1)
      |fail)
  obtain⟨v1,hr1,hx1,hm1,ht1,hf1⟩:=HR0.out.step HO1.out
  have HR1:=hid hm1
  have HT1:Hid (Turn W0 w1 v.fp∧v1.rg=v.rg∧v1.x.g=v.x.g∧∀k,v1.fp k→v.fp k∨W0.heap.size≤k):=hid ⟨ht1,hr1,hx1,hf1⟩
  have HE1:Hid (v1.rg=rg):=hid (hr1.trans HRG.out)
  have hseg:=hm1.o
  have hc2:=hm1.box.cells.2.2.1
  rw[HE1.out,k2]at hc2
  have hes:some (⟨ga,oa,none⟩:Addr)=v1.oa∧L=r.own.length∧v.oc=v1.oc:=by injection hc2 with q;injection q with q1 q2 q3;exact⟨q1,q2,q3⟩
  rw[←hes.1,←hes.2.2]at hseg
  have HOW:=hid (fun W (hW:w1.grownBy W none)=>QO (some ⟨ga,oa,none⟩) r.own.length v.oc (ints r.own) W (hseg.grown hW) (by have:=hlen;omega))
  rw[HLL.out]at HOW
  clear hr1 hx1 hm1 ht1 hf1 c1 cown hcell b0 b3 HSH hseg hc2 hes
  go_upto_region 15 with fail
  have hLb:L≤1000:=by have:=HLL.out;omega
  have hbox:=HR1.out.box
  rw[HE1.out]at hbox
  have k3b:w1.cell? ⟨ga,oa+i,none⟩=some (.int .u32 (m:Int)):=k3
  have hi1:(i:Int)<(L:Int):=by omega
  refine QV               (I:=fun a0 LL X W=>∃g2 c2 g9 g3 c3,VI [83,84,85,86,87,88,89,90,91,92,93,94,95,96,97,98,99] [83,84,85,86,87,88,89,90,91,92,93,94,95,96,97,98,99,1000] (V15 rg ga oa L v.oc i m g2 c2 g9 g3 c3) (fun LL W=>RI w1 rg L 1 (ints r.own) [(m:Int)] 5 13 14 17 g2 c2 g9 g3 c3 LL W) a0 LL X W) (by kernel_rfl) (by kernel_rfl)
    ⟨0,0,0,0,0,VI.start 100 (by simp) (by decide) (RI.start rfl)⟩ ?_ ?_
  · show ∀i,i<18→_
    refine Qd (Qd (Qd (Qd (Qd (Qd (Qd (Qd (Qd (Qd (Qd (Qd (Qd (Qd (Qd (Qd (Qd (Qd all_nil ?r0) ?r1) ?r2) ?r3) ?r4) ?r5) ?r6) ?r7) ?r8) ?r9) ?r10) ?r11) ?r12) ?r13) ?r14) ?r15) ?r16) ?r17
    case r0=>
      refine StepAt.mk rfl (ns:=[]) (by kernel_rfl) rfl ?_
      intro LL X W h0 hn hI
      obtain⟨g2,c2,g9,g3,c3,hI⟩:=hI
      have e0:X.tmps[0]?.getD undef=.pointer (some ⟨rg,0,none⟩):=hI.old 0 (by decide)
      refine Qe (v:=.pointer (some ⟨rg,0,none⟩)) ?_ ⟨g2,c2,g9,g3,c3,hI.value (by decide) 0 (by decide) (by decide) rfl (hI.mem.keep (by decide) (by decide) (by decide) (by decide))⟩
      simp[go_sem,e0]
    case r1=>
      refine StepAt.mk rfl (ns:=[]) (by kernel_rfl) rfl ?_
      intro LL X W h0 hn hI
      obtain⟨g2,c2,g9,g3,c3,hI⟩:=hI
      have e0:X.tmps[0]?.getD undef=.pointer (some ⟨rg,0,none⟩):=hI.old 0 (by decide)
      refine Qe (v:=.pointer (some ⟨rg,0,none⟩)) ?_ ⟨g2,c2,g9,g3,c3,hI.value (by decide) 1 (by decide) (by decide) rfl (hI.mem.keep (by decide) (by decide) (by decide) (by decide))⟩
      simp[go_sem,e0]
    case r2=>
      refine StepAt.mk rfl (ns:=[1]) (by kernel_rfl) rfl ?_
      intro LL X W h0 hn hI
      obtain⟨g2,c2,g9,g3,c3,hI⟩:=hI
      have e84:X.tmps[84]?.getD undef=.pointer (some ⟨rg,0,none⟩):=hI.get 1 (by decide) (by decide) (hn 1 (by decide))
      refine Qe (v:=.pointer (some ⟨rg,0,none⟩)) ?_ ⟨g2,c2,g9,g3,c3,hI.value (by decide) 2 (by decide) (by decide) rfl (hI.mem.keep (by decide) (by decide) (by decide) (by decide))⟩
      simp[go_sem,e84]
    case r3=>
      refine StepAt.mk rfl (ns:=[2]) (by kernel_rfl) rfl ?_
      intro LL X W h0 hn hI
      obtain⟨g2,c2,g9,g3,c3,hI⟩:=hI
      have e85:X.tmps[85]?.getD undef=.pointer (some ⟨rg,0,none⟩):=hI.get 2 (by decide) (by decide) (hn 2 (by decide))
      refine Qe (v:=.pointer (some ⟨rg,2,none⟩)) ?_ ⟨g2,c2,g9,g3,c3,hI.value (by decide) 3 (by decide) (by decide) rfl (hI.mem.keep (by decide) (by decide) (by decide) (by decide))⟩
      simp[go_sem,e85]
    case r4=>
      refine StepAt.mk rfl (ns:=[3]) (by kernel_rfl) rfl ?_
      intro LL X W h0 hn hI
      obtain⟨g2,c2,g9,g3,c3,hI⟩:=hI
      have e86:X.tmps[86]?.getD undef=.pointer (some ⟨rg,2,none⟩):=hI.get 3 (by decide) (by decide) (hn 3 (by decide))
      have cc:=hI.mem.cell (hI.mem.before (by decide) h0) k2
      refine Qe (v:=.slice (some ⟨ga,oa,none⟩) L v.oc) ?_ ⟨g2,c2,g9,g3,c3,hI.value (by decide) 4 (by decide) (by decide) rfl (hI.mem.keep (by decide) (by decide) (by decide) (by decide))⟩
      simp[go_sem,e86,cc]
    case r5=>
      refine StepAt.mk rfl (ns:=[4]) (by kernel_rfl) rfl ?_
      intro LL X W h0 hn hI
      obtain⟨g2,c2,g9,g3,c3,hI⟩:=hI
      have e87:X.tmps[87]?.getD undef=.slice (some ⟨ga,oa,none⟩) L v.oc:=hI.get 4 (by decide) (by decide) (hn 4 (by decide))
      refine QaV (f:=36) (vs:=#[.slice (some ⟨ga,oa,none⟩) L v.oc]) (R:=fun e w2=>∃g c,e=.returned (.slice (some ⟨g,0,none⟩) L c)∧w2.ownsRow W.heap.size 35 1 (.slice (some ⟨g,0,none⟩) L c) L ((ints r.own).map (Value.int .u32))∧W.grownBy w2 none) ?_ (HOW.out W (hI.mem.gr (hI.mem.before (by decide) h0) |> fun t=>RIgrown t)) ?_
      · simp[go_sem,e87]
      · rintro e w2 ⟨g,c,rfl,hown,hg⟩
        exact⟨_,rfl,g,c,g9,g3,c3,VI.nxt hI (fun j hl=>V15_o _ _ j (fun e=>by rw[e,h0]at hl;cases hl)) (by decide) 5 (by decide) (by decide) rfl (hI.mem.owned (by decide) (by decide) (by decide) h0 hown hg)⟩
    case r6=>
      refine StepAt.mk rfl (ns:=[]) (by kernel_rfl) rfl ?_
      intro LL X W h0 hn hI
      obtain⟨g2,c2,g9,g3,c3,hI⟩:=hI
      have e0:X.tmps[0]?.getD undef=.pointer (some ⟨rg,0,none⟩):=hI.old 0 (by decide)
      refine Qe (v:=.pointer (some ⟨rg,0,none⟩)) ?_ ⟨g2,c2,g9,g3,c3,hI.value (by decide) 6 (by decide) (by decide) rfl (hI.mem.keep (by decide) (by decide) (by decide) (by decide))⟩
      simp[go_sem,e0]
    case r7=>
      refine StepAt.mk rfl (ns:=[6]) (by kernel_rfl) rfl ?_
      intro LL X W h0 hn hI
      obtain⟨g2,c2,g9,g3,c3,hI⟩:=hI
      have e89:X.tmps[89]?.getD undef=.pointer (some ⟨rg,0,none⟩):=hI.get 6 (by decide) (by decide) (hn 6 (by decide))
      refine Qe (v:=.pointer (some ⟨rg,0,none⟩)) ?_ ⟨g2,c2,g9,g3,c3,hI.value (by decide) 7 (by decide) (by decide) rfl (hI.mem.keep (by decide) (by decide) (by decide) (by decide))⟩
      simp[go_sem,e89]
    case r8=>
      refine StepAt.mk rfl (ns:=[7]) (by kernel_rfl) rfl ?_
      intro LL X W h0 hn hI
      obtain⟨g2,c2,g9,g3,c3,hI⟩:=hI
      have e90:X.tmps[90]?.getD undef=.pointer (some ⟨rg,0,none⟩):=hI.get 7 (by decide) (by decide) (hn 7 (by decide))
      refine Qe (v:=.pointer (some ⟨rg,2,none⟩)) ?_ ⟨g2,c2,g9,g3,c3,hI.value (by decide) 8 (by decide) (by decide) rfl (hI.mem.keep (by decide) (by decide) (by decide) (by decide))⟩
      simp[go_sem,e90]
    case r9=>
      refine StepAt.mk rfl (ns:=[8]) (by kernel_rfl) rfl ?_
      intro LL X W h0 hn hI
      obtain⟨g2,c2,g9,g3,c3,hI⟩:=hI
      have e91:X.tmps[91]?.getD undef=.pointer (some ⟨rg,2,none⟩):=hI.get 8 (by decide) (by decide) (hn 8 (by decide))
      have cc:=hI.mem.cell (hI.mem.before (by decide) h0) k2
      refine Qe (v:=.slice (some ⟨ga,oa,none⟩) L v.oc) ?_ ⟨g2,c2,g9,g3,c3,hI.value (by decide) 9 (by decide) (by decide) rfl (hI.mem.keep (by decide) (by decide) (by decide) (by decide))⟩
      simp[go_sem,e91,cc]
    case r10=>
      refine StepAt.mk rfl (ns:=[]) (by kernel_rfl) rfl ?_
      intro LL X W h0 hn hI
      obtain⟨g2,c2,g9,g3,c3,hI⟩:=hI
      have e6:X.tmps[6]?.getD undef=.int .i64 (i:Int):=hI.old 6 (by decide)
      refine Qe (v:=.int .i64 (i:Int)) ?_ ⟨g2,c2,g9,g3,c3,hI.value (by decide) 10 (by decide) (by decide) rfl (hI.mem.keep (by decide) (by decide) (by decide) (by decide))⟩
      simp[go_sem,e6]
    case r11=>
      refine StepAt.mk rfl (ns:=[9,10]) (by kernel_rfl) rfl ?_
      intro LL X W h0 hn hI
      obtain⟨g2,c2,g9,g3,c3,hI⟩:=hI
      have e92:X.tmps[92]?.getD undef=.slice (some ⟨ga,oa,none⟩) L v.oc:=hI.get 9 (by decide) (by decide) (hn 9 (by decide))
      have e93:X.tmps[93]?.getD undef=.int .i64 (i:Int):=hI.get 10 (by decide) (by decide) (hn 10 (by decide))
      refine Qe (v:=.pointer (some ⟨ga,oa+i,none⟩)) ?_ ⟨g2,c2,g9,g3,c3,hI.value (by decide) 11 (by decide) (by decide) rfl (hI.mem.keep (by decide) (by decide) (by decide) (by decide))⟩
      simp[go_sem,e92,e93,hi1]
    case r12=>
      refine StepAt.mk rfl (ns:=[11]) (by kernel_rfl) rfl ?_
      intro LL X W h0 hn hI
      obtain⟨g2,c2,g9,g3,c3,hI⟩:=hI
      have e94:X.tmps[94]?.getD undef=.pointer (some ⟨ga,oa+i,none⟩):=hI.get 11 (by decide) (by decide) (hn 11 (by decide))
      have cc:=hI.mem.cell (hI.mem.before (by decide) h0) k3b
      refine Qe (v:=.int .u32 (m:Int)) ?_ ⟨g2,c2,g9,g3,c3,hI.value (by decide) 12 (by decide) (by decide) rfl (hI.mem.keep (by decide) (by decide) (by decide) (by decide))⟩
      simp[go_sem,e94,cc]
    case r13=>
      refine StepAt.mk rfl (ns:=[12]) (by kernel_rfl) rfl ?_
      intro LL X W h0 hn hI
      obtain⟨g2,c2,g9,g3,c3,hI⟩:=hI
      have e95:X.tmps[95]?.getD undef=.int .u32 (m:Int):=hI.get 12 (by decide) (by decide) (hn 12 (by decide))
      refine QaD (v:=.slice (some ⟨W.heap.size,0,none⟩) 1 1) (w':=W.alloc (.cells #[.int .u32 (m:Int)] 35)) ?_ ⟨g2,c2,W.heap.size,g3,c3,VI.nxt hI (fun j hl=>V15_b _ j (fun e=>by rw[e,h0]at hl;cases hl)) (by decide) 13 (by decide) (by decide) rfl (hI.mem.made (by decide) (by decide) (by decide) (by decide) h0)⟩
      simp[go_sem,e95]
    case r14=>
      refine StepAt.mk rfl (ns:=[5,13,5]) (by kernel_rfl) rfl ?_
      intro LL X W h0 hn hI
      obtain⟨g2,c2,g9,g3,c3,hI⟩:=hI
      have e88:X.tmps[88]?.getD undef=.slice (some ⟨g2,0,none⟩) L c2:=hI.get 5 (by decide) (by decide) (hn 5 (by decide))
      have e96:X.tmps[96]?.getD undef=.slice (some ⟨g9,0,none⟩) 1 1:=hI.get 13 (by decide) (by decide) (hn 13 (by decide))
      have hbz:w1.heap.size≤W.heap.size:=(hI.mem.gr (hI.mem.noS h0)).size
      obtain⟨g',c',w',hap,hown,hgr⟩:=append32 W w1.heap.size g2 c2 L (ints r.own) (hI.mem.own (hn 5 (by decide)) h0) ⟨g9,0,none⟩ 1 1 ([(m:Int)]) (hI.mem.lit (hn 13 (by decide)) h0) (by omega) hbz
      refine QaD (v:=.slice (some ⟨g',0,none⟩) (L+1) c') (w':=w') ?_ ⟨g2,c2,g9,g',c',VI.nxt hI (fun j hl=>V15_c _ _ j (fun e=>by rw[e,h0]at hl;cases hl)) (by decide) 14 (by decide) (by decide) rfl (hI.mem.appended (by decide) h0 (hn 5 (by decide)) (fun _=>hn 13 (by decide)) hown hgr)⟩
      exact Qaz ⟨rfl,rfl⟩ e88 e96 hap
    case r15=>
      refine StepAt.mk rfl (ns:=[0,0,1,2,3,4,5,6,7,8,9,10,11,12,13,14]) (by kernel_rfl) rfl ?_
      intro LL X W h0 hn hI
      obtain⟨g2,c2,g9,g3,c3,hI⟩:=hI
      have e83:X.tmps[83]?.getD undef=.pointer (some ⟨rg,0,none⟩):=hI.get 0 (by decide) (by decide) (hn 0 (by decide))
      refine Qe (v:=.pointer (some ⟨rg,0,none⟩)) ?_ ⟨g2,c2,g9,g3,c3,hI.value (by decide) 15 (by decide) (by decide) rfl (hI.mem.keep (by decide) (by decide) (by decide) (by decide))⟩
      simp[go_sem,e83]
    case r16=>
      refine StepAt.mk rfl (ns:=[15,0,1,2,3,4,5,6,7,8,9,10,11,12,13,14]) (by kernel_rfl) rfl ?_
      intro LL X W h0 hn hI
      obtain⟨g2,c2,g9,g3,c3,hI⟩:=hI
      have e98:X.tmps[98]?.getD undef=.pointer (some ⟨rg,0,none⟩):=hI.get 15 (by decide) (by decide) (hn 15 (by decide))
      refine Qe (v:=.pointer (some ⟨rg,2,none⟩)) ?_ ⟨g2,c2,g9,g3,c3,hI.value (by decide) 16 (by decide) (by decide) rfl (hI.mem.keep (by decide) (by decide) (by decide) (by decide))⟩
      simp[go_sem,e98]
    case r17=>
      refine StepAt.mk rfl (ns:=[16,14,14,0,1,2,3,4,5,6,7,8,9,10,11,12,13,14]) (by kernel_rfl) rfl ?_
      intro LL X W h0 hn hI
      obtain⟨g2,c2,g9,g3,c3,hI⟩:=hI
      have e97:X.tmps[97]?.getD undef=.slice (some ⟨g3,0,none⟩) (L+1) c3:=hI.get 14 (by decide) (by decide) (hn 14 (by decide))
      have e99:X.tmps[99]?.getD undef=.pointer (some ⟨rg,2,none⟩):=hI.get 16 (by decide) (by decide) (hn 16 (by decide))
      refine QaO rfl (.tmp 99) (.tmp 97) rfl rg (hI.vals 16 (by decide) (by decide) (hn 16 (by decide))) _ _ _ (hI.vals 14 (by decide) (by decide) (hn 14 (by decide))) (boxAt hI.mem h0 hbox) ⟨g2,c2,g9,g3,c3,hI.other 17 (by decide) (hI.mem.stored h0 (hn 14 (by decide)) (fun j hj=>hn j (by revert hj;revert j;decide)))⟩
  · intro LL X W hL hI
    replace hL:∀i,i<18→LL i=true:=hL
    obtain⟨g2,c2,g9,g3,c3,hI⟩:=hI
    have hform:=hI.agr.form
    have v83:At X 83=.pointer (some ⟨rg,0,none⟩):=hI.vals 0 (by decide) (by decide) (hL 0 (by omega))
    have v84:At X 84=.pointer (some ⟨rg,0,none⟩):=hI.vals 1 (by decide) (by decide) (hL 1 (by omega))
    have v85:At X 85=.pointer (some ⟨rg,0,none⟩):=hI.vals 2 (by decide) (by decide) (hL 2 (by omega))
    have v86:At X 86=.pointer (some ⟨rg,2,none⟩):=hI.vals 3 (by decide) (by decide) (hL 3 (by omega))
    have v87:At X 87=.slice (some ⟨ga,oa,none⟩) L v.oc:=hI.vals 4 (by decide) (by decide) (hL 4 (by omega))
    have v88:At X 88=.slice (some ⟨g2,0,none⟩) L c2:=hI.vals 5 (by decide) (by decide) (hL 5 (by omega))
    have v89:At X 89=.pointer (some ⟨rg,0,none⟩):=hI.vals 6 (by decide) (by decide) (hL 6 (by omega))
    have v90:At X 90=.pointer (some ⟨rg,0,none⟩):=hI.vals 7 (by decide) (by decide) (hL 7 (by omega))
    have v91:At X 91=.pointer (some ⟨rg,2,none⟩):=hI.vals 8 (by decide) (by decide) (hL 8 (by omega))
    have v92:At X 92=.slice (some ⟨ga,oa,none⟩) L v.oc:=hI.vals 9 (by decide) (by decide) (hL 9 (by omega))
    have v93:At X 93=.int .i64 (i:Int):=hI.vals 10 (by decide) (by decide) (hL 10 (by omega))
    have v94:At X 94=.pointer (some ⟨ga,oa+i,none⟩):=hI.vals 11 (by decide) (by decide) (hL 11 (by omega))
    have v95:At X 95=.int .u32 (m:Int):=hI.vals 12 (by decide) (by decide) (hL 12 (by omega))
    have v96:At X 96=.slice (some ⟨g9,0,none⟩) 1 1:=hI.vals 13 (by decide) (by decide) (hL 13 (by omega))
    have v97:At X 97=.slice (some ⟨g3,0,none⟩) (L+1) c3:=hI.vals 14 (by decide) (by decide) (hL 14 (by omega))
    have v98:At X 98=.pointer (some ⟨rg,0,none⟩):=hI.vals 15 (by decide) (by decide) (hL 15 (by omega))
    have v99:At X 99=.pointer (some ⟨rg,2,none⟩):=hI.vals 16 (by decide) (by decide) (hL 16 (by omega))
    have hm:=hI.mem
    clear hI
    rw[List.foldl_cons,List.foldl_cons,List.foldl_cons,List.foldl_cons,List.foldl_cons,List.foldl_cons,List.foldl_cons,List.foldl_cons,List.foldl_cons,List.foldl_cons,List.foldl_cons,List.foldl_cons,List.foldl_cons,List.foldl_cons,List.foldl_cons,List.foldl_cons,List.foldl_cons,List.foldl_nil,v83,v84,v85,v86,v87,v88,v89,v90,v91,v92,v93,v94,v95,v96,v97,v98,v99]at hform
    clear v83 v84 v85 v86 v87 v88 v89 v90 v91 v92 v93 v94 v95 v96 v97 v98 v99
    subst hform
    obtain⟨W',ht',hown',hWW⟩:=hm.st (hL 17 (by omega))
    have HN':Hid (NewS w1 W' g3 c3 (r.own++[m])):=hid (QbA hown' (RIgrown ht') (Nat.le_refl _) (by unfold ints;rw[List.map_append];rfl))
    have HX:Hid (DoX w0 w v r a (.returned (.tuple #[.int .u32 0,.int .i64 0])) W):=hid (by
      have h1:=HR1.out.setOwn HN'.out
      have e9:(r.own++[m]).length=L+1:=by rw[List.length_append,HLL.out];rfl
      rw[HE1.out,e9,←hWW]at h1
      have h2:DoR a r 0 0 _:=.share HKK.out hn0
      rw[HMM.out]at h2
      exact⟨0,0,_,rfl,h2,RnOp.back HG0.out (RnOp.trans HT1.out.1 HT1.out.2.1 HT1.out.2.2.1 HT1.out.2.2.2 h1)⟩)
    clear hm hL hown' ht' hWW k2 k3 k3b hbox HOW
    go_wp2
    go_ret2
    exact HX.out
end
def V20(rg ga oa L vc i j1 kk cf:Nat)(ad:Addr)(g2 c2 _g9 g3 c3:Nat):List Value:=
 [.pointer (some ⟨rg,0,none⟩),.pointer (some ⟨rg,0,none⟩),.pointer (some ⟨rg,0,none⟩),.pointer (some ⟨rg,2,none⟩),.slice (some ⟨ga,oa,none⟩) L vc,.int .i64 (i:Int),.slice (some ⟨ga,oa,none⟩) i vc,.slice (some ⟨g2,0,none⟩) i c2,.pointer (some ⟨rg,0,none⟩),.pointer (some ⟨rg,0,none⟩),.pointer (some ⟨rg,2,none⟩),.slice (some ⟨ga,oa,none⟩) L vc,.int .i64 (i:Int),.int .i64 (j1:Int),.slice (some ad) kk cf,.slice (some ⟨g3,0,none⟩) (i+kk) c3,.pointer (some ⟨rg,0,none⟩),.pointer (some ⟨rg,2,none⟩),undef]
theorem V20_o{g2 c2 g9 g3 c3:Nat}{rg ga oa L vc i j1 kk cf:Nat}{ad:Addr}(x y:Nat)(j:Nat)(hj:j≠7):(V20 rg ga oa L vc i j1 kk cf ad x y g9 g3 c3).getD j undef=(V20 rg ga oa L vc i j1 kk cf ad g2 c2 g9 g3 c3).getD j undef:=by
 match j,hj with
 |0,_=>rfl
 |1,_=>rfl
 |2,_=>rfl
 |3,_=>rfl
 |4,_=>rfl
 |5,_=>rfl
 |6,_=>rfl
 |8,_=>rfl
 |9,_=>rfl
 |10,_=>rfl
 |11,_=>rfl
 |12,_=>rfl
 |13,_=>rfl
 |14,_=>rfl
 |15,_=>rfl
 |16,_=>rfl
 |17,_=>rfl
 |18,_=>rfl
 |7,h=>exact absurd rfl h
 |j+19,_=>rfl
theorem V20_c{g2 c2 g9 g3 c3:Nat}{rg ga oa L vc i j1 kk cf:Nat}{ad:Addr}(x y:Nat)(j:Nat)(hj:j≠15):(V20 rg ga oa L vc i j1 kk cf ad g2 c2 g9 x y).getD j undef=(V20 rg ga oa L vc i j1 kk cf ad g2 c2 g9 g3 c3).getD j undef:=by
 match j,hj with
 |0,_=>rfl
 |1,_=>rfl
 |2,_=>rfl
 |3,_=>rfl
 |4,_=>rfl
 |5,_=>rfl
 |6,_=>rfl
 |7,_=>rfl
 |8,_=>rfl
 |9,_=>rfl
 |10,_=>rfl
 |11,_=>rfl
 |12,_=>rfl
 |13,_=>rfl
 |14,_=>rfl
 |16,_=>rfl
 |17,_=>rfl
 |18,_=>rfl
 |15,h=>exact absurd rfl h
 |j+19,_=>rfl
section
variable {w0 w : World} {v : Rv} {r : Rn} {T : Nat}
theorem Qi6{x:Nm}{s:SpS}{own hown mown:List Nat}(h:SpM w0 w x s)(hok:SpOk s own hown mown T)(i:Nat)(hi:i<own.length) :
  Calls Tryz.prog 19 #[.pointer (some ⟨x.sg,0,none⟩),.int .u32 ((own.getD i 0:Nat):Int)] w fun e w'=>∃c,e=.returned (.int .i64 0)∧GoodC s.dv s.sup.pages c (own.eraseIdx i)∧(∀j,c.getD j 0≤s.now.getD j 0)∧Op w0 w x { s with now:=c } w':=by
 have e:own.getD i 0=own[i]:=by rw[List.getD_eq_getElem?_getD,List.getElem?_eq_getElem hi];rfl
 have hg:GoodC s.dv s.sup.pages s.now (own[i] :: own.eraseIdx i):=hok.now.perm fun n=>by
  have h1:own.count n=(own.take i).count n+(own.drop i).count n:=by rw[←List.count_append,List.take_append_drop]
  rw[List.drop_eq_getElem_cons hi,List.count_cons]at h1;rw[List.eraseIdx_eq_take_drop_succ,List.count_cons,List.count_append];omega
 have h74:=hok.Qac;rw[e];refine(Qdv h own[i] (own.eraseIdx i) (by omega) hg).mono ?_;rintro e w' ⟨c,h1,h2,h3,h4,h5⟩;exact⟨c,h1,h2,h3,⟨x,rfl,rfl,h4,h5.mono (fun _ _ e=>.inl (.inr (.inl e))),fun _ q=>.inl q⟩⟩
theorem do_drop (h:RnM w0 w v r) (hk:RnOk r T) (hT:T≤1000) (a:AcT) (ha:AcOk a) (hK:pick a.kind 10=5) (hn:r.own≠[]):Calls Tryz.prog 39 #[.pointer (some ⟨v.rg,0,none⟩),.agg (acV a)] w (DoX w0 w v r a):=by
  have hlen:=hk.len
  have hg0:=Qb w (.cells (acV a) 64)
  have hb0:=heap_alloc_new w (.cells (acV a) 64)
  obtain⟨W0,hW0⟩:∃X,w.alloc (.cells (acV a) 64)=X:=⟨_,rfl⟩
  rw[hW0]at hg0 hb0
  have HW0:=hid hW0
  have HG0:=hid hg0
  have HB0:=hid hb0
  have HR0:=hid (h.go hg0)
  have HK:=hid hk
  have HA:=hid ha
  have b0:W0.cell? ⟨w.heap.size,0,none⟩=some (.int .i64 a.kind):=by rw[cell_of_row _ _ _ _ _ _ hb0];rfl
  have b3:W0.cell? ⟨w.heap.size,3,none⟩=some (.int .i64 a.n):=by rw[cell_of_row _ _ _ _ _ _ hb0];rfl
  have HPI:=hid (QB (h.go hg0) a.n (by omega))
  have HPK:Hid (Calls Tryz.prog 40 #[.int .i64 a.kind,.int .i64 10] W0 fun e w'=>e=.returned (.int .i64 5)∧W0=w'):=hid (by
    have h1:=QD a.kind 10 W0 (by omega) (by omega)
    rw[hK]at h1
    exact h1)
  have HKK:=hid hK
  obtain⟨rg,e1⟩:∃q,v.rg=q:=⟨_,rfl⟩
  have HRG:=hid e1
  rw[e1]at HPI ⊢
  have hn0:=hn
  have hI:idxV a.n r.own=(actI a.n r.own:Int):=if_neg hn
  rw[hI]at HPI
  obtain⟨i,hi⟩:∃i,actI a.n r.own=i:=⟨_,rfl⟩
  have hil:i<r.own.length:=by rw[←hi];exact Qcn hn
  rw[hi]at HPI
  clear hI
  have cown:=HR0.out.box.cells.2.2.1
  rw[e1]at cown
  obtain⟨ga,oa,ea,hca⟩:=HR0.out.o.addr (by omega:0<r.own.length)
  have hcell:W0.cell? ⟨ga,oa+i,none⟩=some (.int .u32 (((r.own.getD i 0:Nat):Int))):=by
    have h1:=hca i hil
    have h2:(ints r.own).getD i 0=((r.own.getD i 0:Nat):Int):=by
      unfold ints
      rw[List.getD_eq_getElem?_getD,List.getD_eq_getElem?_getD,List.getElem?_map,List.getElem?_eq_getElem hil]
      rfl
    rw[h2]at h1
    exact h1
  rw[ea]at cown
  have HEA:=hid ea
  obtain⟨m,hm⟩:∃q,r.own.getD i 0=q:=⟨_,rfl⟩
  have hmem:m∈r.own:=by
    have h1:=QaG (a:=a) hn
    unfold actM at h1
    rw[hi,hm]at h1
    exact h1
  have HMM:Hid (actM a r.own=m):=hid (by unfold actM;rw[hi];exact hm)
  have hmlt:=hk.lt hmem
  rw[hm]at hcell
  have hgrow:v.row ga:=.inl ⟨_,ea,rfl⟩
  have hgap:=HR0.out.ap ga hgrow
  obtain⟨sg,e2⟩:∃q,v.x.sg=q:=⟨_,rfl⟩
  have c1:=HR0.out.box.cells.2.1
  rw[e1,e2]at c1
  have hrgn:¬v.x.fp rg:=by rw[←e1];exact HR0.out.rgn
  obtain⟨L,hL⟩:∃q,r.own.length=q:=⟨_,rfl⟩
  rw[hL]at cown hil
  have HLL:=hid hL
  have HGAP:=hid hgap.2.2.1
  have HDR:=hid (fun W (hW:Turn W0 W nowhere)=>Qi6 (HR0.out.sp.go hW.grown) hk.sp i (by omega))
  rw[e2,hm]at HDR
  have HIA:Hid (actI a.n r.own=i):=hid hi
  clear e2 hm hca ea hgrow hgap hL
  clear h hg0 hb0 hW0 hK e1 hk
  go_enter Tryz.func39,Tryz.ntmps39
  go_upto_region 1 with fail
  rw[HW0.out]
  go_upto_region 19 with (first|(go_at_call 37;refine HPI.out.mono ?_;rintro e w' ⟨rfl,rfl⟩)|(go_at_call 40;refine HPK.out.mono ?_;rintro e w' ⟨rfl,rfl⟩)|fail)
  clear HPI HPK
  go_region_held3 (fun w'=>w'.cell? ⟨rg,1,none⟩=some (.pointer (some ⟨sg,0,none⟩))∧w'.cell? ⟨rg,2,none⟩=some (.slice (some ⟨ga,oa,none⟩) L v.oc)∧w'.cell? ⟨ga,oa+i,none⟩=some (.int .u32 (m:Int))) (go_keep)
    (first
      | (go_at_call 19
         (with_reducible refine(HDR.out _ (Turn.drew W0 _)).mono ?_)
         rintro e w1 ⟨cc0,rfl,hgd,hfall,ho1⟩
         have HGD:Hid (GoodC r.s.dv r.s.sup.pages cc0 (r.own.eraseIdx i)∧∀j,cc0.getD j 0≤r.s.now.getD j 0):=hid ⟨hgd,hfall⟩
         have HO1:Hid (Op w0 W0 v.x { r.s with now:=cc0 } w1):=hid (Qdi (Qj W0) ho1)
         obtain⟨x1,a1,b1,q1,t1,f1⟩:=HO1.out
         have k1:=t1.cell c1 hrgn
         have k2:=t1.cell cown hrgn
         have k3:=t1.cell hcell HGAP.out
         clear ho1 a1 b1 q1 t1 f1 hgd hfall)
      |fail)
  obtain⟨v1,hr1,hx1,hm1,ht1,hf1⟩:=HR0.out.step HO1.out
  have HR1:=hid hm1
  have HT1:Hid (Turn W0 w1 v.fp∧v1.rg=v.rg∧v1.x.g=v.x.g∧∀k,v1.fp k→v.fp k∨W0.heap.size≤k):=hid ⟨ht1,hr1,hx1,hf1⟩
  have HE1:Hid (v1.rg=rg):=hid (hr1.trans HRG.out)
  have hseg:=hm1.o
  have hc2:=hm1.box.cells.2.2.1
  rw[HE1.out,k2]at hc2
  have hes:some (⟨ga,oa,none⟩:Addr)=v1.oa∧L=r.own.length∧v.oc=v1.oc:=by injection hc2 with q;injection q with q1 q2 q3;exact⟨q1,q2,q3⟩
  rw[←hes.1,←hes.2.2]at hseg
  have hseg:Ws.Seg w1 (some ⟨ga,oa,none⟩) L v.oc (ints r.own):=by have h9:=hseg;dsimp only at h9;rw[HLL.out]at h9;exact h9
  obtain⟨hslu,hsu⟩:=QcS i hseg (by omega)
  obtain⟨j1,hj1⟩:∃q,i+1=q:=⟨_,rfl⟩
  obtain⟨ad,cf,hslf,hsf,hadb⟩:=QhX j1 hseg (by omega)
  have hgal:ga<w1.heap.size:=World.block_lt_of_cell? w1 _ k3
  have hadl:ad.block<w1.heap.size:=by rw[hadb];exact hgal
  obtain⟨kk,hkk⟩:∃q,L-j1=q:=⟨_,rfl⟩
  rw[hkk]at hslf hsf
  have hsu:Ws.Seg w1 (some ⟨ga,oa,none⟩) i v.oc (ints (r.own.take i)):=by have h9:=hsu;unfold ints at h9 ⊢;rw[List.map_take];exact h9
  have hsf:Ws.Seg w1 (some ad) kk cf (ints (r.own.drop j1)):=by have h9:=hsf;unfold ints at h9 ⊢;rw[List.map_drop];exact h9
  have HOW:=hid (fun W (hW:w1.grownBy W none)=>QO (some ⟨ga,oa,none⟩) i v.oc (ints (r.own.take i)) W (hsu.grown hW) (by have:=hlen;omega))
  have hLb:L≤1000:=by have:=HLL.out;omega
  clear hr1 hx1 hm1 ht1 hf1 c1 cown hcell b0 b3 HDR hseg hc2 hes hsu
  go_upto_region 20 with fail
  have hbox:=HR1.out.box
  rw[HE1.out]at hbox
  have hcut:((i:Int)+1)=(j1:Int):=by omega
  have hw1:IntKind.i64.wrap ((i:Int)+1)=(j1:Int):=by rw[hcut];exact IntWalk.i64_in _ (by omega)
  refine QV               (I:=fun a0 LL X W=>∃g2 c2 g9 g3 c3,VI [117,118,119,120,121,122,123,124,125,126,127,128,129,130,131,132,133,134] [117,118,119,120,121,122,123,124,125,126,127,128,129,130,131,132,133,134,1000] (V20 rg ga oa L v.oc i j1 kk cf ad g2 c2 g9 g3 c3) (fun LL W=>RI w1 rg i kk (ints (r.own.take i)) (ints (r.own.drop j1)) 7 1000 15 18 g2 c2 g9 g3 c3 LL W) a0 LL X W) (by kernel_rfl) (by kernel_rfl)
    ⟨0,0,0,0,0,VI.start 135 (by simp) (by decide) (RI.start rfl)⟩ ?_ ?_
  · show ∀i,i<19→_
    refine Qd (Qd (Qd (Qd (Qd (Qd (Qd (Qd (Qd (Qd (Qd (Qd (Qd (Qd (Qd (Qd (Qd (Qd (Qd all_nil ?r0) ?r1) ?r2) ?r3) ?r4) ?r5) ?r6) ?r7) ?r8) ?r9) ?r10) ?r11) ?r12) ?r13) ?r14) ?r15) ?r16) ?r17) ?r18
    case r0=>
      refine StepAt.mk rfl (ns:=[]) (by kernel_rfl) rfl ?_
      intro LL X W h0 hn hI
      obtain⟨g2,c2,g9,g3,c3,hI⟩:=hI
      have e0:X.tmps[0]?.getD undef=.pointer (some ⟨rg,0,none⟩):=hI.old 0 (by decide)
      refine Qe (v:=.pointer (some ⟨rg,0,none⟩)) ?_ ⟨g2,c2,g9,g3,c3,hI.value (by decide) 0 (by decide) (by decide) rfl (hI.mem.keep (by decide) (by decide) (by decide) (by decide))⟩
      simp[go_sem,e0]
    case r1=>
      refine StepAt.mk rfl (ns:=[]) (by kernel_rfl) rfl ?_
      intro LL X W h0 hn hI
      obtain⟨g2,c2,g9,g3,c3,hI⟩:=hI
      have e0:X.tmps[0]?.getD undef=.pointer (some ⟨rg,0,none⟩):=hI.old 0 (by decide)
      refine Qe (v:=.pointer (some ⟨rg,0,none⟩)) ?_ ⟨g2,c2,g9,g3,c3,hI.value (by decide) 1 (by decide) (by decide) rfl (hI.mem.keep (by decide) (by decide) (by decide) (by decide))⟩
      simp[go_sem,e0]
    case r2=>
      refine StepAt.mk rfl (ns:=[1]) (by kernel_rfl) rfl ?_
      intro LL X W h0 hn hI
      obtain⟨g2,c2,g9,g3,c3,hI⟩:=hI
      have e118:X.tmps[118]?.getD undef=.pointer (some ⟨rg,0,none⟩):=hI.get 1 (by decide) (by decide) (hn 1 (by decide))
      refine Qe (v:=.pointer (some ⟨rg,0,none⟩)) ?_ ⟨g2,c2,g9,g3,c3,hI.value (by decide) 2 (by decide) (by decide) rfl (hI.mem.keep (by decide) (by decide) (by decide) (by decide))⟩
      simp[go_sem,e118]
    case r3=>
      refine StepAt.mk rfl (ns:=[2]) (by kernel_rfl) rfl ?_
      intro LL X W h0 hn hI
      obtain⟨g2,c2,g9,g3,c3,hI⟩:=hI
      have e119:X.tmps[119]?.getD undef=.pointer (some ⟨rg,0,none⟩):=hI.get 2 (by decide) (by decide) (hn 2 (by decide))
      refine Qe (v:=.pointer (some ⟨rg,2,none⟩)) ?_ ⟨g2,c2,g9,g3,c3,hI.value (by decide) 3 (by decide) (by decide) rfl (hI.mem.keep (by decide) (by decide) (by decide) (by decide))⟩
      simp[go_sem,e119]
    case r4=>
      refine StepAt.mk rfl (ns:=[3]) (by kernel_rfl) rfl ?_
      intro LL X W h0 hn hI
      obtain⟨g2,c2,g9,g3,c3,hI⟩:=hI
      have e120:X.tmps[120]?.getD undef=.pointer (some ⟨rg,2,none⟩):=hI.get 3 (by decide) (by decide) (hn 3 (by decide))
      have cc:=hI.mem.cell (hI.mem.before (by decide) h0) k2
      refine Qe (v:=.slice (some ⟨ga,oa,none⟩) L v.oc) ?_ ⟨g2,c2,g9,g3,c3,hI.value (by decide) 4 (by decide) (by decide) rfl (hI.mem.keep (by decide) (by decide) (by decide) (by decide))⟩
      simp[go_sem,e120,cc]
    case r5=>
      refine StepAt.mk rfl (ns:=[]) (by kernel_rfl) rfl ?_
      intro LL X W h0 hn hI
      obtain⟨g2,c2,g9,g3,c3,hI⟩:=hI
      have e6:X.tmps[6]?.getD undef=.int .i64 (i:Int):=hI.old 6 (by decide)
      refine Qe (v:=.int .i64 (i:Int)) ?_ ⟨g2,c2,g9,g3,c3,hI.value (by decide) 5 (by decide) (by decide) rfl (hI.mem.keep (by decide) (by decide) (by decide) (by decide))⟩
      simp[go_sem,e6]
    case r6=>
      refine StepAt.mk rfl (ns:=[4,5]) (by kernel_rfl) rfl ?_
      intro LL X W h0 hn hI
      obtain⟨g2,c2,g9,g3,c3,hI⟩:=hI
      have e121:X.tmps[121]?.getD undef=.slice (some ⟨ga,oa,none⟩) L v.oc:=hI.get 4 (by decide) (by decide) (hn 4 (by decide))
      have e122:X.tmps[122]?.getD undef=.int .i64 (i:Int):=hI.get 5 (by decide) (by decide) (hn 5 (by decide))
      refine Qe (v:=.slice (some ⟨ga,oa,none⟩) i v.oc) ?_ ⟨g2,c2,g9,g3,c3,hI.value (by decide) 6 (by decide) (by decide) rfl (hI.mem.keep (by decide) (by decide) (by decide) (by decide))⟩
      simp[go_sem,e121,e122,hslu]
    case r7=>
      refine StepAt.mk rfl (ns:=[6]) (by kernel_rfl) rfl ?_
      intro LL X W h0 hn hI
      obtain⟨g2,c2,g9,g3,c3,hI⟩:=hI
      have e123:X.tmps[123]?.getD undef=.slice (some ⟨ga,oa,none⟩) i v.oc:=hI.get 6 (by decide) (by decide) (hn 6 (by decide))
      refine QaV (f:=36) (vs:=#[.slice (some ⟨ga,oa,none⟩) i v.oc]) (R:=fun e w2=>∃g c,e=.returned (.slice (some ⟨g,0,none⟩) i c)∧w2.ownsRow W.heap.size 35 1 (.slice (some ⟨g,0,none⟩) i c) i ((ints (r.own.take i)).map (Value.int .u32))∧W.grownBy w2 none) ?_ (HOW.out W (RIgrown (hI.mem.gr (hI.mem.before (by decide) h0)))) ?_
      · simp[go_sem,e123]
      · rintro e w2 ⟨g,c,rfl,hown,hg⟩
        exact⟨_,rfl,g,c,g9,g3,c3,VI.nxt hI (fun j hl=>V20_o _ _ j (fun e=>by rw[e,h0]at hl;cases hl)) (by decide) 7 (by decide) (by decide) rfl (hI.mem.owned (by decide) (by decide) (by decide) h0 hown hg)⟩
    case r8=>
      refine StepAt.mk rfl (ns:=[]) (by kernel_rfl) rfl ?_
      intro LL X W h0 hn hI
      obtain⟨g2,c2,g9,g3,c3,hI⟩:=hI
      have e0:X.tmps[0]?.getD undef=.pointer (some ⟨rg,0,none⟩):=hI.old 0 (by decide)
      refine Qe (v:=.pointer (some ⟨rg,0,none⟩)) ?_ ⟨g2,c2,g9,g3,c3,hI.value (by decide) 8 (by decide) (by decide) rfl (hI.mem.keep (by decide) (by decide) (by decide) (by decide))⟩
      simp[go_sem,e0]
    case r9=>
      refine StepAt.mk rfl (ns:=[8]) (by kernel_rfl) rfl ?_
      intro LL X W h0 hn hI
      obtain⟨g2,c2,g9,g3,c3,hI⟩:=hI
      have e125:X.tmps[125]?.getD undef=.pointer (some ⟨rg,0,none⟩):=hI.get 8 (by decide) (by decide) (hn 8 (by decide))
      refine Qe (v:=.pointer (some ⟨rg,0,none⟩)) ?_ ⟨g2,c2,g9,g3,c3,hI.value (by decide) 9 (by decide) (by decide) rfl (hI.mem.keep (by decide) (by decide) (by decide) (by decide))⟩
      simp[go_sem,e125]
    case r10=>
      refine StepAt.mk rfl (ns:=[9]) (by kernel_rfl) rfl ?_
      intro LL X W h0 hn hI
      obtain⟨g2,c2,g9,g3,c3,hI⟩:=hI
      have e126:X.tmps[126]?.getD undef=.pointer (some ⟨rg,0,none⟩):=hI.get 9 (by decide) (by decide) (hn 9 (by decide))
      refine Qe (v:=.pointer (some ⟨rg,2,none⟩)) ?_ ⟨g2,c2,g9,g3,c3,hI.value (by decide) 10 (by decide) (by decide) rfl (hI.mem.keep (by decide) (by decide) (by decide) (by decide))⟩
      simp[go_sem,e126]
    case r11=>
      refine StepAt.mk rfl (ns:=[10]) (by kernel_rfl) rfl ?_
      intro LL X W h0 hn hI
      obtain⟨g2,c2,g9,g3,c3,hI⟩:=hI
      have e127:X.tmps[127]?.getD undef=.pointer (some ⟨rg,2,none⟩):=hI.get 10 (by decide) (by decide) (hn 10 (by decide))
      have cc:=hI.mem.cell (hI.mem.before (by decide) h0) k2
      refine Qe (v:=.slice (some ⟨ga,oa,none⟩) L v.oc) ?_ ⟨g2,c2,g9,g3,c3,hI.value (by decide) 11 (by decide) (by decide) rfl (hI.mem.keep (by decide) (by decide) (by decide) (by decide))⟩
      simp[go_sem,e127,cc]
    case r12=>
      refine StepAt.mk rfl (ns:=[]) (by kernel_rfl) rfl ?_
      intro LL X W h0 hn hI
      obtain⟨g2,c2,g9,g3,c3,hI⟩:=hI
      have e6:X.tmps[6]?.getD undef=.int .i64 (i:Int):=hI.old 6 (by decide)
      refine Qe (v:=.int .i64 (i:Int)) ?_ ⟨g2,c2,g9,g3,c3,hI.value (by decide) 12 (by decide) (by decide) rfl (hI.mem.keep (by decide) (by decide) (by decide) (by decide))⟩
      simp[go_sem,e6]
    case r13=>
      refine StepAt.mk rfl (ns:=[12]) (by kernel_rfl) rfl ?_
      intro LL X W h0 hn hI
      obtain⟨g2,c2,g9,g3,c3,hI⟩:=hI
      have e129:X.tmps[129]?.getD undef=.int .i64 (i:Int):=hI.get 12 (by decide) (by decide) (hn 12 (by decide))
      refine Qe (v:=.int .i64 (j1:Int)) ?_ ⟨g2,c2,g9,g3,c3,hI.value (by decide) 13 (by decide) (by decide) rfl (hI.mem.keep (by decide) (by decide) (by decide) (by decide))⟩
      simp[go_sem,e129,hw1]
    case r14=>
      refine StepAt.mk rfl (ns:=[11,13]) (by kernel_rfl) rfl ?_
      intro LL X W h0 hn hI
      obtain⟨g2,c2,g9,g3,c3,hI⟩:=hI
      have e128:X.tmps[128]?.getD undef=.slice (some ⟨ga,oa,none⟩) L v.oc:=hI.get 11 (by decide) (by decide) (hn 11 (by decide))
      have e130:X.tmps[130]?.getD undef=.int .i64 (j1:Int):=hI.get 13 (by decide) (by decide) (hn 13 (by decide))
      refine Qe (v:=.slice (some ad) kk cf) ?_ ⟨g2,c2,g9,g3,c3,hI.value (by decide) 14 (by decide) (by decide) rfl (hI.mem.keep (by decide) (by decide) (by decide) (by decide))⟩
      simp[go_sem,e128,e130,hslf]
    case r15=>
      refine StepAt.mk rfl (ns:=[7,14,7]) (by kernel_rfl) rfl ?_
      intro LL X W h0 hn hI
      obtain⟨g2,c2,g9,g3,c3,hI⟩:=hI
      have e124:X.tmps[124]?.getD undef=.slice (some ⟨g2,0,none⟩) i c2:=hI.get 7 (by decide) (by decide) (hn 7 (by decide))
      have e131:X.tmps[131]?.getD undef=.slice (some ad) kk cf:=hI.get 14 (by decide) (by decide) (hn 14 (by decide))
      have hbz:w1.heap.size≤W.heap.size:=(hI.mem.gr (hI.mem.noS h0)).size
      obtain⟨g',c',w',hap,hown,hgr⟩:=append32 W w1.heap.size g2 c2 i (ints (r.own.take i)) (hI.mem.own (hn 7 (by decide)) h0) ad kk cf (ints (r.own.drop j1)) (Qn hsf (hI.mem.gr (hI.mem.noS h0)) (fun a2 h2=>by cases h2;omega)) (by omega) hbz
      refine QaD (v:=.slice (some ⟨g',0,none⟩) (i+kk) c') (w':=w') ?_ ⟨g2,c2,g9,g',c',VI.nxt hI (fun j hl=>V20_c _ _ j (fun e=>by rw[e,h0]at hl;cases hl)) (by decide) 15 (by decide) (by decide) rfl (hI.mem.appended (by decide) h0 (hn 7 (by decide)) (fun q=>absurd q (by decide)) hown hgr)⟩
      exact Qaz ⟨rfl,rfl⟩ e124 e131 hap
    case r16=>
      refine StepAt.mk rfl (ns:=[0,0,1,2,3,4,5,6,7,8,9,10,11,12,13,14,15]) (by kernel_rfl) rfl ?_
      intro LL X W h0 hn hI
      obtain⟨g2,c2,g9,g3,c3,hI⟩:=hI
      have e117:X.tmps[117]?.getD undef=.pointer (some ⟨rg,0,none⟩):=hI.get 0 (by decide) (by decide) (hn 0 (by decide))
      refine Qe (v:=.pointer (some ⟨rg,0,none⟩)) ?_ ⟨g2,c2,g9,g3,c3,hI.value (by decide) 16 (by decide) (by decide) rfl (hI.mem.keep (by decide) (by decide) (by decide) (by decide))⟩
      simp[go_sem,e117]
    case r17=>
      refine StepAt.mk rfl (ns:=[16,0,1,2,3,4,5,6,7,8,9,10,11,12,13,14,15]) (by kernel_rfl) rfl ?_
      intro LL X W h0 hn hI
      obtain⟨g2,c2,g9,g3,c3,hI⟩:=hI
      have e133:X.tmps[133]?.getD undef=.pointer (some ⟨rg,0,none⟩):=hI.get 16 (by decide) (by decide) (hn 16 (by decide))
      refine Qe (v:=.pointer (some ⟨rg,2,none⟩)) ?_ ⟨g2,c2,g9,g3,c3,hI.value (by decide) 17 (by decide) (by decide) rfl (hI.mem.keep (by decide) (by decide) (by decide) (by decide))⟩
      simp[go_sem,e133]
    case r18=>
      refine StepAt.mk rfl (ns:=[17,15,15,0,1,2,3,4,5,6,7,8,9,10,11,12,13,14,15]) (by kernel_rfl) rfl ?_
      intro LL X W h0 hn hI
      obtain⟨g2,c2,g9,g3,c3,hI⟩:=hI
      have e132:X.tmps[132]?.getD undef=.slice (some ⟨g3,0,none⟩) (i+kk) c3:=hI.get 15 (by decide) (by decide) (hn 15 (by decide))
      have e134:X.tmps[134]?.getD undef=.pointer (some ⟨rg,2,none⟩):=hI.get 17 (by decide) (by decide) (hn 17 (by decide))
      refine QaO rfl (.tmp 134) (.tmp 132) rfl rg (hI.vals 17 (by decide) (by decide) (hn 17 (by decide))) _ _ _ (hI.vals 15 (by decide) (by decide) (hn 15 (by decide))) (boxAt hI.mem h0 hbox) ⟨g2,c2,g9,g3,c3,hI.other 18 (by decide) (hI.mem.stored h0 (hn 15 (by decide)) (fun j hj=>hn j (by revert hj;revert j;decide)))⟩
  · intro LL X W hL hI
    replace hL:∀i,i<19→LL i=true:=hL
    obtain⟨g2,c2,g9,g3,c3,hI⟩:=hI
    have hform:=hI.agr.form
    have v117:At X 117=.pointer (some ⟨rg,0,none⟩):=hI.vals 0 (by decide) (by decide) (hL 0 (by omega))
    have v118:At X 118=.pointer (some ⟨rg,0,none⟩):=hI.vals 1 (by decide) (by decide) (hL 1 (by omega))
    have v119:At X 119=.pointer (some ⟨rg,0,none⟩):=hI.vals 2 (by decide) (by decide) (hL 2 (by omega))
    have v120:At X 120=.pointer (some ⟨rg,2,none⟩):=hI.vals 3 (by decide) (by decide) (hL 3 (by omega))
    have v121:At X 121=.slice (some ⟨ga,oa,none⟩) L v.oc:=hI.vals 4 (by decide) (by decide) (hL 4 (by omega))
    have v122:At X 122=.int .i64 (i:Int):=hI.vals 5 (by decide) (by decide) (hL 5 (by omega))
    have v123:At X 123=.slice (some ⟨ga,oa,none⟩) i v.oc:=hI.vals 6 (by decide) (by decide) (hL 6 (by omega))
    have v124:At X 124=.slice (some ⟨g2,0,none⟩) i c2:=hI.vals 7 (by decide) (by decide) (hL 7 (by omega))
    have v125:At X 125=.pointer (some ⟨rg,0,none⟩):=hI.vals 8 (by decide) (by decide) (hL 8 (by omega))
    have v126:At X 126=.pointer (some ⟨rg,0,none⟩):=hI.vals 9 (by decide) (by decide) (hL 9 (by omega))
    have v127:At X 127=.pointer (some ⟨rg,2,none⟩):=hI.vals 10 (by decide) (by decide) (hL 10 (by omega))
    have v128:At X 128=.slice (some ⟨ga,oa,none⟩) L v.oc:=hI.vals 11 (by decide) (by decide) (hL 11 (by omega))
    have v129:At X 129=.int .i64 (i:Int):=hI.vals 12 (by decide) (by decide) (hL 12 (by omega))
    have v130:At X 130=.int .i64 (j1:Int):=hI.vals 13 (by decide) (by decide) (hL 13 (by omega))
    have v131:At X 131=.slice (some ad) kk cf:=hI.vals 14 (by decide) (by decide) (hL 14 (by omega))
    have v132:At X 132=.slice (some ⟨g3,0,none⟩) (i+kk) c3:=hI.vals 15 (by decide) (by decide) (hL 15 (by omega))
    have v133:At X 133=.pointer (some ⟨rg,0,none⟩):=hI.vals 16 (by decide) (by decide) (hL 16 (by omega))
    have v134:At X 134=.pointer (some ⟨rg,2,none⟩):=hI.vals 17 (by decide) (by decide) (hL 17 (by omega))
    have hm:=hI.mem
    clear hI
    rw[List.foldl_cons,List.foldl_cons,List.foldl_cons,List.foldl_cons,List.foldl_cons,List.foldl_cons,List.foldl_cons,List.foldl_cons,List.foldl_cons,List.foldl_cons,List.foldl_cons,List.foldl_cons,List.foldl_cons,List.foldl_cons,List.foldl_cons,List.foldl_cons,List.foldl_cons,List.foldl_cons,List.foldl_nil,v117,v118,v119,v120,v121,v122,v123,v124,v125,v126,v127,v128,v129,v130,v131,v132,v133,v134]at hform
    clear v117 v118 v119 v120 v121 v122 v123 v124 v125 v126 v127 v128 v129 v130 v131 v132 v133 v134
    subst hform
    obtain⟨W',ht',hown',hWW⟩:=hm.st (hL 18 (by omega))
    have HN':Hid (NewS w1 W' g3 c3 (r.own.eraseIdx i)):=hid (QbA hown' (RIgrown ht') (Nat.le_refl _) (by unfold ints;rw[←hj1,List.eraseIdx_eq_take_drop_succ,List.map_append]))
    have HX:Hid (DoX w0 w v r a (.returned (.tuple #[.int .u32 0,.int .i64 0])) W):=hid (by
      have h1:=HR1.out.setOwn HN'.out
      have e9:(r.own.eraseIdx i).length=i+kk:=by rw[List.length_eraseIdx_of_lt (by have:=HLL.out;omega),HLL.out];omega
      rw[HE1.out,e9,←hWW]at h1
      have h2:DoR a r 0 0 _:=.drop cc0 HKK.out hn0 (by rw[HIA.out];exact HGD.out.1) HGD.out.2
      rw[HIA.out]at h2
      exact⟨0,0,_,rfl,h2,RnOp.back HG0.out (RnOp.trans HT1.out.1 HT1.out.2.1 HT1.out.2.2.1 HT1.out.2.2.2 h1)⟩)
    clear hm hL hown' ht' hWW k2 k3 hbox HOW hslu hslf hsf
    go_wp2
    go_ret2
    exact HX.out
end
end Sp
namespace Sp
open Go.RowKit Bs Dv Gr
open Su (T4)
theorem Qlk{w0 w:World}{v:Rv}{r:Rn}{T:Nat}(h:RnM w0 w v r)(hk:RnOk r T)(hT:T≤1000)(a:AcT)(ha:AcOk a)(hT4:T4 w0) :
  Calls Tryz.prog 39 #[.pointer (some ⟨v.rg,0,none⟩),.agg (acV a)] w (DoX w0 w v r a):=by
 have hp:=Qaj a.kind 10 (by decide);obtain⟨K,hK⟩:∃K,pick a.kind 10=K:=⟨_,rfl⟩;rw[hK]at hp;by_cases k0:K=0
 ·subst k0;exact do_put0 h hk hT a ha hK
 by_cases k1:K=1
 ·subst k1;exact do_put1 h hk hT a ha hK
 by_cases k2:K=2
 ·subst k2;exact do_put2 h hk hT a ha hK
 by_cases k3:K=3
 ·subst k3;exact Qll h hk hT a ha hK
 by_cases k4:K=4
 ·subst k4;by_cases hn:r.own=[]
  ·exact Qi3 h hk hT a ha hK hn
  ·exact do_share h hk hT a ha hK hn
 by_cases k5:K=5
 ·subst k5;by_cases hn:r.own=[]
  ·exact Qi4 h hk hT a ha hK hn
  ·exact do_drop h hk hT a ha hK hn
 by_cases k6:K=6
 ·subst k6;by_cases hn:r.own=[]
  ·exact Qeb h hk hT a ha hK hn hT4
  ·by_cases hp:0≤a.n
   ·exact Qe3 h hk hT a ha hK hn hp hT4
   ·exact Qe2 h hk hT a ha hK hn hp hT4
 by_cases k7:K=7
 ·subst k7;exact Qi2 h hk hT a ha hK
 by_cases k8:K=8
 ·subst k8;have hm:=hk.mkd;cases hs:r.s.mark with
  |none=>
   rw[hs]at hm;exact Qkw h hk hT a ha hK hm hs
  |some m=>
   rw[hs]at hm;by_cases he:a.n.tmod 2=0
   ·exact Qku h hk hT a ha hK hm hs he
   ·exact Qkv h hk hT a ha hK hm (by rw[hs];intro e;cases e) he
 have k9:K=9:=by omega
 subst k9;exact Qkx h hk hT a ha hK hT4
end Sp
namespace Sp
open Go.RowKit Bs Dv Gr
open Cn (CN CC CnOk IsC)
open Su (Sup SupOk T4 GeoOk supE)
def MadeX(w0 w:World)(size n:Nat)(e:Ending)(w':World):Prop:=∃x:Nm,e=.returned (.tuple #[.pointer (some ⟨x.g,0,none⟩),.pointer (some ⟨x.sg,0,none⟩)])∧SpM w0 w' x (firstP size n)∧w.grownBy w' none∧∀k,x.fp k→w.heap.size≤k
theorem QfG(w0 w:World)(size n:Nat)(hw:w0.grownBy w none)(hg:GeoOk size n)(hE:supE (firstS size n)=0)(hT4:T4 w0) :
  Calls Tryz.prog 11 #[.agg #[.int .i64 (size:Int),.int .i64 (n:Int)]] w (MadeX w0 w size n):=by
 have hg0:=Qb w (.cells #[.int .i64 (size:Int),.int .i64 (n:Int)] 28);obtain⟨W0,hW0⟩:∃X,w.alloc (.cells #[.int .i64 (size:Int),.int .i64 (n:Int)] 28)=X:=⟨_,rfl⟩;have hb0:=heap_alloc_new w (.cells #[.int .i64 (size:Int),.int .i64 (n:Int)] 28);rw[hW0]at hg0 hb0;have HW0:=hid hW0;have HG0:=hid hg0;have b0:W0.cell? ⟨w.heap.size,0,none⟩=some (.int .i64 (size:Int)):=by rw[cell_of_row _ _ _ _ _ _ hb0];rfl
 have b1:W0.cell? ⟨w.heap.size,1,none⟩=some (.int .i64 (n:Int)):=by rw[cell_of_row _ _ _ _ _ _ hb0];rfl
 have HN:=hid (Qdh size n W0 (decide_eq_true hg));have HGE:=hid hg;have HEE:=hid hE;have HT4:=hid hT4;have HWG:=hid hw;clear hg0 hb0 hW0 hg hE hT4 hw;go_enter Tryz.func11,Tryz.ntmps11
 go_upto_region 1 with fail
 rw[HW0.out];go_wp2_with fail
 refine HN.out.mono ?_;rintro e w1 ⟨g,b,rfl,hd,hgl,hbl,ht1⟩;have hfp:∀k,Dv.fp g b (.slice none 0 0) k→k=g∨k=b:=fun k hk=>by
  unfold Dv.fp at hk;rcases hk with e|e|e
  ·exact .inl e
  ·exact .inr e
  ·exact nomatch e
 have HFP:Hid (∀k,Dv.fp g b (.slice none 0 0) k→W0.heap.size≤k):=hid (fun k hk=>by
  rcases hfp k hk with e|e
  ·omega
  ·omega)
 have HD1:Hid (Held w0 w1 g b (.slice none 0 0) (St.fresh size n (zeros size n))):=hid ⟨hd,(fun k hk=>by have h1:=HWG.out.size;have h2:=HG0.out.size;have h3:=HFP.out k hk;omega),Qc (Qa HWG.out (Qa HG0.out ht1.grown))⟩;have HG1:=hid (Qa HG0.out ht1.grown);have HFP2:Hid (∀k,Dv.fp g b (.slice none 0 0) k→w.heap.size≤k):=hid (fun k hk=>by have h2:=HG0.out.size;have h3:=HFP.out k hk;omega);have HF:=hid (Qg4 w0 w1 g b (.slice none 0 0) size n HD1.out HGE.out HT4.out);clear hd hgl hbl ht1 b0 b1 HN hfp;dsimp only;go_upto_region 2 with fail
 go_wp2_with fail
 refine HF.out.mono ?_;rintro e w2 (⟨_,x,rfl,hxg,hm,ht,hf⟩|⟨q,_⟩)
 rotate_left
 ·exact absurd HEE.out q
 have HX:Hid (MadeX w0 w size n (.returned (.tuple #[.pointer (some ⟨g,0,none⟩),.pointer (some ⟨x.sg,0,none⟩)])) w2):=hid (by
  refine⟨x,by rw[hxg],hm,QU HG1.out ht (fun k hk=>HFP2.out k hk),fun k hk=>(hf k hk).elim (HFP2.out k) (fun z=>by have:=HG1.out.size;omega)⟩)
 clear hxg hm ht hf;dsimp only;go_wp2;go_ret2
 exact HX.out
def firstR'(size n:Nat):Rn:=⟨firstP size n,[],[],[],false,0⟩
theorem QhU{size n:Nat}(h:GeoOk size n)(hE:supE (firstS size n)=0):RnOk (firstR' size n) 0:=⟨Qfn h hE,rfl,rfl,Nat.le_refl _,Nat.le_refl _,Nat.le_refl _⟩
def BegX(w0 w:World)(size n:Nat)(e:Ending)(w':World):Prop:=∃v:Rv,e=.returned (.pointer (some ⟨v.rg,0,none⟩))∧RnM w0 w' v (firstR' size n)∧w.grownBy w' none∧∀k,v.fp k→w.heap.size≤k
theorem QbN(w:World):Ws.Seg w none 0 0 (ints []):=⟨rfl,Nat.le_refl _,by unfold maxLen;omega,fun _=>⟨rfl,rfl⟩,fun _ h=>by cases h⟩
theorem QhI(w0 w:World)(size n:Nat)(hw:w0.grownBy w none)(hg:GeoOk size n)(hE:supE (firstS size n)=0)(hT4:T4 w0) :
  Calls Tryz.prog 35 #[.agg #[.int .i64 (size:Int),.int .i64 (n:Int)]] w (BegX w0 w size n):=by
 have hg0:=Qb w (.cells #[.int .i64 (size:Int),.int .i64 (n:Int)] 28);obtain⟨W0,hW0⟩:∃X,w.alloc (.cells #[.int .i64 (size:Int),.int .i64 (n:Int)] 28)=X:=⟨_,rfl⟩;have hb0:=heap_alloc_new w (.cells #[.int .i64 (size:Int),.int .i64 (n:Int)] 28);rw[hW0]at hg0 hb0;have HW0:=hid hW0;have HG0:=hid hg0;have b0:W0.cell? ⟨w.heap.size,0,none⟩=some (.int .i64 (size:Int)):=by rw[cell_of_row _ _ _ _ _ _ hb0];rfl
 have b1:W0.cell? ⟨w.heap.size,1,none⟩=some (.int .i64 (n:Int)):=by rw[cell_of_row _ _ _ _ _ _ hb0];rfl
 have HM:=hid (QfG w0 W0 size n (Qa hw hg0) hg hE hT4);have HWG:=hid hw;clear hg0 hb0 hW0 hg hE hT4 hw;go_enter Tryz.func35,Tryz.ntmps35
 go_upto_region 1 with fail
 rw[HW0.out];go_wp2_with fail
 refine HM.out.mono ?_;rintro e w1 ⟨x,rfl,hm,hg1,hf⟩;have HX:Hid (BegX w0 w size n (.returned (.pointer (some ⟨w1.heap.size,0,none⟩))) (w1.alloc (.cells #[.pointer (some ⟨x.g,0,none⟩),.pointer (some ⟨x.sg,0,none⟩),.slice none 0 0,.slice none 0 0,.slice none 0 0,.bool false,.int .u32 0] 67))):=hid (by
  have ga:=Qb w1 (.cells #[.pointer (some ⟨x.g,0,none⟩),.pointer (some ⟨x.sg,0,none⟩),.slice none 0 0,.slice none 0 0,.slice none 0 0,.bool false,.int .u32 0] 67);have z0:=HG0.out.size;have z1:=hg1.size;have z2:=HWG.out.size;refine⟨⟨w1.heap.size,x,none,0,none,0,none,0⟩,rfl,⟨hm.go ga,heap_alloc_new w1 _,QbN _,QbN _,QbN _,fun k q=>?_,by show w0.heap.size≤w1.heap.size;omega,fun q=>by have h9:=hm.lt q;exact absurd h9 (Nat.lt_irrefl _)⟩,Qa HG0.out (Qa hg1 ga),fun k q=>?_⟩
  ·rcases q with ⟨ad,q,_⟩|⟨ad,q,_⟩|⟨ad,q,_⟩ <;> cases q
  ·rcases q with q|q|q
   ·have:=hf k q;omega
   ·have q:k=w1.heap.size:=q;omega
   ·rcases q with ⟨ad,q,_⟩|⟨ad,q,_⟩|⟨ad,q,_⟩ <;> cases q)
 clear hm hg1 hf b0 b1 HM;dsimp only;go_wp2;go_ret
 exact HX.out
end Sp
namespace Sp
open Go.RowKit Bs Dv Gr
open Su (GeoOk)
theorem QkD(w:World):Calls Tryz.prog 66 #[.pointer none] w fun e w'=>e=.returned (.agg #[.int .i64 0,.int .i64 0])∧w.grownBy w' none:=by
 have hg0:=Qb w (.cells #[.int .i64 0,.int .i64 0] 28);have hb0:=heap_alloc_new w (.cells #[.int .i64 0,.int .i64 0] 28);obtain⟨W0,hW0⟩:∃X,w.alloc (.cells #[.int .i64 0,.int .i64 0] 28)=X:=⟨_,rfl⟩;rw[hW0]at hg0 hb0;have HW0:=hid hW0;have HV:=hid (Dv.Qda W0);have c0:W0.cell? ⟨w.heap.size,0,none⟩=some (.int .i64 0):=by rw[cell_of_row _ _ _ _ _ _ hb0];rfl
 have c1:W0.cell? ⟨w.heap.size,1,none⟩=some (.int .i64 0):=by rw[cell_of_row _ _ _ _ _ _ hb0];rfl
 have f0:∀j,W0.frozen? ⟨w.heap.size,j,none⟩=false:=fun j=>by simp[World.frozen?,hb0]
 have HX:Hid (w.grownBy ((W0.setCell ⟨w.heap.size,0,none⟩ (.int .i64 0)).setCell ⟨w.heap.size,1,none⟩ (.int .i64 0)) none):=hid (Ql hg0 (Qp (Qp (Turn.refl W0 (·=w.heap.size)) 0 (.int .i64 0)) 1 (.int .i64 0)) (Nat.le_refl _));have HQ:Hid (((W0.setCell ⟨w.heap.size,0,none⟩ (.int .i64 0)).setCell ⟨w.heap.size,1,none⟩ (.int .i64 0)).heap[w.heap.size]?=some (.cells #[.int .i64 0,.int .i64 0] 28 (0,0))):=hid (heap_setCell_same _ _ 1 _ _ _ (heap_setCell_same W0 _ 0 _ _ _ hb0));clear hg0 hb0 hW0;go_enter Tryz.func66,Tryz.ntmps66
 go_upto_region 1 with fail
 rw[HW0.out];go_wp2_with (first|(go_at_call 125;refine HV.out.mono ?_;rintro e w' ⟨rfl,rfl⟩)|fail)
 refine bodyPost_ret (v:=.agg #[.int .i64 0,.int .i64 0]) ?_ rfl ⟨rfl,HX.out⟩;exact Su.QaF rfl _ _ w.heap.size _ _ _ _ rfl HQ.out Tryz.underlying28 rfl (by kernel_rfl)
theorem QkC:geoE 0 0=2:=by decide
theorem Qg5(w:World):Calls Tryz.prog 13 #[.pointer none] w fun e w'=>e=.returned (.tuple #[.pointer none,.int .i64 1])∧w.grownBy w' none:=by
 have HG:=hid (QkD w);have HCK:Hid (∀W,Calls Tryz.prog 67 #[.agg #[.int .i64 0,.int .i64 0]] W fun e w'=>e=.returned (.int .i64 2)∧W.grownBy w' none):=hid (fun W=>(Dv.QW 0 0 W).mono fun e w' ⟨h1,h2⟩=>⟨by rw[h1,QkC],by rw[h2];exact Qb _ _⟩);go_enter Tryz.func13,Tryz.ntmps13
 go_upto_region 2 with (first|(go_at_call 66;refine HG.out.mono ?_;rintro e w1 ⟨rfl,hg1⟩)|fail)
 have hb1:=heap_alloc_new w1 (.cells #[.int .i64 0,.int .i64 0] 28);have hg2:=Qa hg1 (Qb w1 (.cells #[.int .i64 0,.int .i64 0] 28));obtain⟨W1,hW1⟩:∃X,w1.alloc (.cells #[.int .i64 0,.int .i64 0] 28)=X:=⟨_,rfl⟩;rw[hW1]at hb1 hg2 ⊢;have c0:W1.cell? ⟨w1.heap.size,0,none⟩=some (.int .i64 0):=by rw[cell_of_row _ _ _ _ _ _ hb1];rfl
 have c1:W1.cell? ⟨w1.heap.size,1,none⟩=some (.int .i64 0):=by rw[cell_of_row _ _ _ _ _ _ hb1];rfl
 have HG2:=hid hg2;clear hb1 hg2 hg1 hW1 HG;go_wp2_with (first|(go_at_call 67;refine(HCK.out _).mono ?_;rintro e w2 ⟨rfl,hg3⟩)|fail)
 go_ret2
 exact⟨rfl,Qa HG2.out hg3⟩
theorem QkL(size n:Int)(w:World)(h:¬GeoOk size n) :
  Calls Tryz.prog 11 #[.agg #[.int .i64 size,.int .i64 n]] w fun e w'=>e=.returned (.tuple #[.pointer none,.pointer none])∧w.grownBy w' none:=by
 have hg0:=Qb w (.cells #[.int .i64 size,.int .i64 n] 28);have hb0:=heap_alloc_new w (.cells #[.int .i64 size,.int .i64 n] 28);obtain⟨W0,hW0⟩:∃X,w.alloc (.cells #[.int .i64 size,.int .i64 n] 28)=X:=⟨_,rfl⟩;rw[hW0]at hg0 hb0;have HW0:=hid hW0;have HG0:=hid hg0;have b0:W0.cell? ⟨w.heap.size,0,none⟩=some (.int .i64 size):=by rw[cell_of_row _ _ _ _ _ _ hb0];rfl
 have b1:W0.cell? ⟨w.heap.size,1,none⟩=some (.int .i64 n):=by rw[cell_of_row _ _ _ _ _ _ hb0];rfl
 have HN:=hid (QfI size n W0 (decide_eq_false h));have HF:=hid Qg5;clear hg0 hb0 hW0 h;go_enter Tryz.func11,Tryz.ntmps11
 go_upto_region 1 with fail
 rw[HW0.out];go_wp2_with fail
 refine HN.out.mono ?_;rintro e w1 ⟨rfl,ht1⟩;have HG1:=hid (Qa HG0.out ht1.grown);clear ht1 b0 b1 HN;dsimp only;go_upto_region 2 with fail
 go_wp2_with fail
 refine(HF.out w1).mono ?_;rintro e w2 ⟨rfl,hg2⟩;dsimp only;go_wp2;go_ret2
 exact⟨rfl,Qa HG1.out hg2⟩
theorem QiS(size n:Int)(w:World)(h:¬GeoOk size n) :
  Calls Tryz.prog 35 #[.agg #[.int .i64 size,.int .i64 n]] w fun e w'=>e=.returned (.pointer none)∧w.grownBy w' none:=by
 have hg0:=Qb w (.cells #[.int .i64 size,.int .i64 n] 28);have hb0:=heap_alloc_new w (.cells #[.int .i64 size,.int .i64 n] 28);obtain⟨W0,hW0⟩:∃X,w.alloc (.cells #[.int .i64 size,.int .i64 n] 28)=X:=⟨_,rfl⟩;rw[hW0]at hg0 hb0;have HW0:=hid hW0;have HG0:=hid hg0;have b0:W0.cell? ⟨w.heap.size,0,none⟩=some (.int .i64 size):=by rw[cell_of_row _ _ _ _ _ _ hb0];rfl
 have b1:W0.cell? ⟨w.heap.size,1,none⟩=some (.int .i64 n):=by rw[cell_of_row _ _ _ _ _ _ hb0];rfl
 have HM:=hid (QkL size n W0 h);clear hg0 hb0 hW0 h;go_enter Tryz.func35,Tryz.ntmps35
 go_upto_region 1 with fail
 rw[HW0.out];go_wp2_with fail
 refine HM.out.mono ?_;rintro e w1 ⟨rfl,hg1⟩;dsimp only;go_wp2;go_ret
 exact⟨rfl,Qa HG0.out hg1⟩
end Sp
namespace Sp
open Go.ChangeShapes Go.WideShapes Go.ChangeAt Go.RowKit Bs Dv Gr
instance:Inhabited AcT:=⟨⟨0,0,0,0,[]⟩⟩
def acL(x:AcT):List Value:=[.int .i64 x.kind,.int .u8 x.tag,.int .i64 x.kids,.int .i64 x.n,.string (strOfNums x.data)]
structure AcIn (a:AcT):Prop where
 kind:-9223372036854775808≤a.kind∧a.kind≤9223372036854775807
 tag:0≤a.tag∧a.tag<256
 kids:-9223372036854775808≤a.kids∧a.kids≤9223372036854775807
 n:-9223372036854775808≤a.n∧a.n≤9223372036854775807
 data:Bs.IsB a.data
 len:a.data.length≤maxLen
theorem AcIn.ok{a:AcT}(h:AcIn a)(hl:a.data.length≤600):AcOk a:=⟨h.kind,h.tag,h.kids,h.n,h.data,hl⟩
structure AcSeg (w:World) (a:Option Addr) (n c:Nat) (l:List AcT):Prop where
 len:l.length=n
 le:n≤c
 cap:c≤maxLen
 nil_:a=none→n=0∧c=0
 at_:∀ad,a=some ad→∀k,k<n→∀j v,(acL (l.getD k default))[j]?=some v→w.cell? (ad.add (k*5+j))=some v
theorem AcSeg.old{w w':World}{a:Option Addr}{n c:Nat}{l:List AcT}(h:AcSeg w a n c l)(k:w.grownBy w' none):AcSeg w' a n c l:=
 ⟨h.len,h.le,h.cap,h.nil_,fun ad had i hi j v hv=>(Qc k).cell (h.at_ ad had i hi j v hv) id⟩
section
variable {H : Type} {enc : TypeId × Value → H} {w : World} {base : Nat} {spare : Nat → Bool} {held : Bool}
theorem QfN{cs:List Value}{j k:Nat}(hl:j+1≤cs.length)(hk:k=1):(cs.drop j).take k=[cs[j]'(by omega)]:=by
 subst hk;rw[List.drop_eq_getElem_cons (by omega)]
 rfl
theorem QdY{n:Nat}{t:TypeId}{kd:IntKind}{cs:List Value}{j o k:Nat}{y:Option (DataW H×List MemPlace)}(ht:Tryz.prog.underlying t=some (.int kd))(hk:k=1)(ho:o=j)(hl:j<cs.length)(hy:y.isSome=true)
  (h:DataW.trod enc Tryz.prog w base spare held n t ((cs.drop o).take k)=y):∃x,cs[j]?=some (.int kd x)∧(Lit.int kd x).wf=true:=by
 obtain⟨z,rfl⟩:=Option.isSome_iff_exists.1 hy;subst ho;rw[QfN (by omega) hk]at h;obtain⟨x,h1,_,h2⟩:=DataW.trod_int ht h;refine⟨x,?_,h2⟩;rw[List.getElem?_eq_getElem hl];have:cs[o]=.int kd x:=by simpa using h1
 rw[this]
theorem Qlq{n:Nat}{t:TypeId}{cs:List Value}{j o k:Nat}{y:Option (DataW H×List MemPlace)}(ht:Tryz.prog.underlying t=some .string)(hk:k=1)(ho:o=j)(hl:j<cs.length)(hy:y.isSome=true)
  (h:DataW.trod enc Tryz.prog w base spare held n t ((cs.drop o).take k)=y):∃x:ByteArray,cs[j]?=some (.string x)∧x.size≤maxLen:=by
 obtain⟨z,rfl⟩:=Option.isSome_iff_exists.1 hy;subst ho;rw[QfN (by omega) hk]at h;obtain⟨x,h1,_,h2⟩:=DataW.trod_string ht h;refine⟨x,?_,h2⟩;rw[List.getElem?_eq_getElem hl];have:cs[o]=.string x:=by simpa using h1
 rw[this]
theorem open_acts{r:Reach}{b0:Nat}{v:Value}{d:DataW H}{p:List MemPlace}(hv:Value.okWide Tryz.prog w r b0 52 v)(h:DataW.Trod enc Tryz.prog w base spare held 52 v d p) :
  ∃a n c l,v=.slice a n c∧AcSeg w a n c l∧∀x∈l,AcIn x:=by
 obtain⟨a',n',c',rfl⟩:=okWide_slice Tryz.underlying52 hv;obtain⟨fuel,h⟩:=h;rcases Go.Deep.open_slice Tryz.underlying52 h with ⟨h0,_⟩|⟨ad0,len,cap,m,n0,D,Pl,hcs,hb,hl,hm,hmm,_,hi⟩
 ·simp[Value.cells]at h0;obtain⟨rfl,rfl,rfl⟩:=h0;exact⟨none,0,0,[],rfl,⟨rfl,Nat.le_refl _,by unfold maxLen;omega,(fun _=>⟨rfl,rfl⟩),(fun _ e=>by cases e)⟩,fun _ e=>by cases e⟩
 ·simp[Value.cells]at hcs;obtain⟨rfl,rfl,rfl⟩:=hcs;have c3:Tryz.prog.cellsOf 64=5:=by kernel_rfl
  have hlm:n'≤m:=by rw[hmm];split <;> omega
  have hel:∀k,k<n'→∃x:AcT,(∀j v,(acL x)[j]?=some v→w.cell? (ad0.add (k*5+j))=some v)∧AcIn x:=by
   intro k hk;obtain⟨cs',hc,ht⟩:=hi k (by omega);rw[c3]at hc;obtain⟨_,hcl,hat⟩:=World.cells?_some hc;obtain⟨xs,n',_,_,_,hxl,hf⟩:=DataW.trod_struct Tryz.underlying64 ht;have hxl:xs.length=5:=hxl;obtain⟨x0,e0,w0⟩:=QdY (j:=0) Tryz.underlying3 (by kernel_rfl) rfl (by omega) (by simp[hxl]) (hf 0 _ rfl);obtain⟨x1,e1,w1⟩:=QdY (j:=1) Tryz.underlying5 (by kernel_rfl) rfl (by omega) (by simp[hxl]) (hf 1 _ rfl);obtain⟨x2,e2,w2⟩:=QdY (j:=2) Tryz.underlying3 (by kernel_rfl) rfl (by omega) (by simp[hxl]) (hf 2 _ rfl);obtain⟨x3,e3,w3⟩:=QdY (j:=3) Tryz.underlying3 (by kernel_rfl) rfl (by omega) (by simp[hxl]) (hf 3 _ rfl);obtain⟨x4,e4,w4⟩:=Qlq (j:=4) Tryz.underlying9 (by kernel_rfl) rfl (by omega) (by simp[hxl]) (hf 4 _ rfl);have b0:-9223372036854775808≤x0∧x0≤9223372036854775807:=by simpa [Lit.wf,IntKind.min,IntKind.max,IntKind.signed,IntKind.bits] using w0
   have b1:0≤x1∧x1≤255:=by simpa [Lit.wf,IntKind.min,IntKind.max,IntKind.signed,IntKind.bits] using w1
   have b2:-9223372036854775808≤x2∧x2≤9223372036854775807:=by simpa [Lit.wf,IntKind.min,IntKind.max,IntKind.signed,IntKind.bits] using w2
   have b3:-9223372036854775808≤x3∧x3≤9223372036854775807:=by simpa [Lit.wf,IntKind.min,IntKind.max,IntKind.signed,IntKind.bits] using w3
   obtain⟨l4,hl4,rfl⟩:=str_of x4;refine⟨⟨x0,x1,x2,x3,l4⟩,fun j v hj=>?_,⟨b0,by show 0≤x1∧x1<256;omega,b2,b3,hl4,by rw[strOfNums_size]at w4;exact w4⟩⟩;have hcs:cs'=acL ⟨x0,x1,x2,x3,l4⟩:=by
    apply List.ext_getElem?
    intro i
    match i with
    |0=>rw[e0];rfl
    |1=>rw[e1];rfl
    |2=>rw[e2];rfl
    |3=>rw[e3];rfl
    |4=>rw[e4];rfl
    |i+5=>rw[List.getElem?_eq_none (by omega),List.getElem?_eq_none (by simp[acL])]
   have hjl:j<5:=by
    have:=(List.getElem?_eq_some_iff.1 hj).1
    simpa [acL] using this
   have:=hat j hjl;rw[Addr.add_add,hcs,hj]at this;exact this
  let f:Nat→AcT:=fun k=>if hk:k<n' then(hel k hk).choose else default
  have hf:∀k (hk:k<n'),f k=(hel k hk).choose:=fun k hk=>dif_pos hk
  refine⟨some ad0,n',c',(List.range n').map f,rfl,⟨by simp,hl,hm,(fun e=>by cases e),fun ad had k hk j v hj=>?_⟩,fun x hx=>?_⟩
  ·cases had
   have e:((List.range n').map f).getD k default=f k:=by simp[List.getD,hk]
   rw[e,hf k hk]at hj;exact(hel k hk).choose_spec.1 j v hj
  ·obtain⟨k,hk,rfl⟩:=List.mem_map.1 hx;have hk:=List.mem_range.1 hk;rw[hf k hk];exact(hel k hk).choose_spec.2
end
end Sp
namespace Sp
open Go.RowKit Bs Dv Gr
theorem Qd5{w:World}{a:Addr}{v:Value}(h:w.cell? a=some v):a.spot=none:=by
 unfold World.cell? at h
 split at h
 ·split at h
  ·cases h
  ·rename_i h2
   simpa using h2
 ·cases h
def lightB(l:List AcT):Bool:=decide (∀i,i<l.length→(l.getD i default).data.length≤600) && decide (l.length≤60)
theorem Qic(a:Option Addr)(n c:Nat)(l:List AcT)(w:World)(hs:AcSeg w a n c l)(hi:∀x∈l,AcIn x) :
  Calls Tryz.prog 32 #[.slice a n c] w fun e w'=>e=.returned (.bool (lightB l))∧w=w':=by
 have hm:=hs.cap;have hle:=hs.le;have hln:=hs.len;have HL:=hid hln;have hmax:n≤9223372036854775807:=by unfold maxLen at hm;omega
 have HC:Hid (∀i,i<n→∃g o,a=some (⟨g,o,none⟩:Addr)∧w.cell? ⟨g,o+i*5+4,none⟩=some (.string (strOfNums (l.getD i default).data))∧(l.getD i default).data.length≤maxLen):=hid (fun i h=>by
  cases a with
  |none=>have:=(hs.nil_ rfl).1;omega
  |some ad=>
   have h0:=Qd5 (hs.at_ ad rfl 0 (by omega) 0 _ rfl);obtain⟨g,o,sp⟩:=ad;have:sp=none:=h0;subst this;have h4:=hs.at_ _ rfl i h 4 _ rfl;rw[Addr.add_lit,←Nat.add_assoc]at h4;refine⟨g,o,rfl,h4,?_⟩;have hl:i<l.length:=by omega
   rw[List.getD_eq_getElem?_getD,List.getElem?_eq_getElem hl];exact(hi _ (List.getElem_mem hl)).len)
 clear hs hi hm hle hln;go_enter Tryz.func32,Tryz.ntmps32
 go_wp2
 go_loopw [3] (fun si wr=>∃i:Nat,i≤n∧si=.int .i64 i∧w=wr∧Hid (∀j,j<i→(l.getD j default).data.length≤600)) (fun si _=>n-(intOf si).toNat)
 case atStart=>exact⟨0,Nat.zero_le _,rfl,rfl,hid (fun j h=>by omega)⟩
 case round=>
  obtain⟨i,hin,rfl,rfl,HP⟩:=hrel;by_cases hlt:i<n
  ·have hq:decide (i<n)=true:=decide_eq_true hlt;obtain⟨g,o,rfl,hcell,hdl⟩:=HC.out i hlt;obtain⟨S,hS⟩:∃S,strOfNums (l.getD i default).data=S:=⟨_,rfl⟩;have hsz:S.size=(l.getD i default).data.length:=by rw[←hS,strOfNums_size]
   rw[hS]at hcell;by_cases hb:(l.getD i default).data.length≤600
   ·have q1:decide (600<S.size)=false:=decide_eq_false (by omega);have q2:decide ((600:Int)<(S.size:Int))=false:=decide_eq_false (by omega);have HP2:Hid (∀j,j<i+1→(l.getD j default).data.length≤600):=hid (fun j h=>by
     by_cases e:j=i
     ·rw[e];exact hb
     ·exact HP.out j (by omega))
    clear HP hb hS hsz hdl;go_wp2;go_roundw
    case rel=>exact⟨i+1,by omega,by go_num,by first|rfl|trivial,HP2⟩
    case measure=>simp[intOf];omega
   ·have q1:decide (600<S.size)=true:=decide_eq_true (by omega);have q2:decide ((600:Int)<(S.size:Int))=true:=decide_eq_true (by omega);have HF:Hid (lightB l=false):=hid (by
     unfold lightB;rw[decide_eq_false (fun q=>hb (q i (by rw[HL.out];exact hlt))),Bool.false_and])
    clear hb hS hsz hdl;go_wp2;go_ret
    exact⟨by rw[HF.out];rfl,rfl⟩
  ·have hq:decide (i<n)=false:=decide_eq_false hlt;obtain rfl:i=n:=by omega
   have HF:Hid (lightB l=decide ((i:Int)≤60)):=hid (by
    unfold lightB;rw[decide_eq_true (fun j hj=>HP.out j (by rw[←HL.out];exact hj)),Bool.true_and,HL.out];exact decide_eq_decide.2 (by omega))
   go_wp2;go_ret
   exact⟨by rw[HF.out];first|rfl|(congr 2;exact decide_eq_decide.2 (by omega)),rfl⟩
end Sp
namespace Sp
open Go.RowKit Bs Dv Gr
open Su (GeoOk supE)
theorem Qgv(w:World):Calls Tryz.prog 12 #[] w fun e w'=>e=.returned (.agg #[.int .i64 128,.int .i64 12])∧w.grownBy w' none:=by
 have hb0:=heap_alloc_new w (.cells #[.int .i64 0,.int .i64 0] 28);have hg0:=Qb w (.cells #[.int .i64 0,.int .i64 0] 28);obtain⟨W0,hW0⟩:∃X,w.alloc (.cells #[.int .i64 0,.int .i64 0] 28)=X:=⟨_,rfl⟩;rw[hW0]at hg0 hb0;have HW0:=hid hW0;have c0:W0.cell? ⟨w.heap.size,0,none⟩=some (.int .i64 0):=by rw[cell_of_row _ _ _ _ _ _ hb0];rfl
 have c1:W0.cell? ⟨w.heap.size,1,none⟩=some (.int .i64 0):=by rw[cell_of_row _ _ _ _ _ _ hb0];rfl
 have f0:∀j,W0.frozen? ⟨w.heap.size,j,none⟩=false:=fun j=>by simp[World.frozen?,hb0]
 have HX:Hid (w.grownBy ((W0.setCell ⟨w.heap.size,0,none⟩ (.int .i64 128)).setCell ⟨w.heap.size,1,none⟩ (.int .i64 12)) none):=hid (Ql hg0 (Qp (Qp (Turn.refl W0 (·=w.heap.size)) 0 (.int .i64 128)) 1 (.int .i64 12)) (Nat.le_refl _));have HQ:Hid (((W0.setCell ⟨w.heap.size,0,none⟩ (.int .i64 128)).setCell ⟨w.heap.size,1,none⟩ (.int .i64 12)).heap[w.heap.size]?=some (.cells #[.int .i64 128,.int .i64 12] 28 (0,0))):=hid (heap_setCell_same _ _ 1 _ _ _ (heap_setCell_same W0 _ 0 _ _ _ hb0));clear hg0 hb0 hW0;go_enter Tryz.func12,Tryz.ntmps12
 go_upto_region 1 with fail
 rw[HW0.out];go_wp2;refine bodyPost_ret (v:=.agg #[.int .i64 128,.int .i64 12]) ?_ rfl ⟨rfl,HX.out⟩;exact Su.QaF rfl _ _ w.heap.size _ _ _ _ rfl HQ.out Tryz.underlying28 rfl (by kernel_rfl)
theorem Qbt:GeoOk ((128:Nat):Int) ((12:Nat):Int):=by unfold GeoOk;decide
theorem Qcm:supE (firstS 128 12)=0:=Qbr Qbt (by decide)
end Sp
namespace Sp
open Go.RowKit Bs Dv Gr
open Su (Sup SupOk GeoOk putS supE)
open Cn (CnOk Qm)
open Fr (blk putF Fits)
def frL(K:Nat)(now held:List Int)(mark:Option (List Int)):List Nat:=(List.range K).filter fun i=>decide (2≤i) && decide (now.getD i 0=0) && decide (held.getD i 0=0) && (match mark with|none=>true|some m=>decide (m.getD i 0=0))
theorem QeF(s:SpS):frees s=frL s.dv.blocks s.now s.held s.mark:=rfl
section
variable {s : SpS} {own hown mown : List Nat} {T : Nat} {p : Pg} {n : Nat}
theorem SpOk.use(h:SpOk s own hown mown T)(hn:n∈own):useE s n=0:=by
 obtain⟨h2,hlt,hp,hpos⟩:=h.now.at' hn;unfold useE accE;rw[if_neg (show ¬(n<2∨s.dv.blocks≤n) by omega),if_neg hp,if_neg (fun q=>q rfl),if_neg (by omega)]
theorem SpOk.fits(h:SpOk s own hown mown T):Fits (s.dv.size:Int):=by
 have:=h.dok;exact⟨by have:=this.lo;omega,by have:=this.hi;omega,by have:=this.by64;omega⟩
theorem SpOk.QcO(h:SpOk s own hown mown T)(hn:n<s.dv.blocks)(hlen:(dataP p).length+16≤s.dv.size) :
  (putP s p n).dv.size=s.dv.size∧(putP s p n).dv.blocks=s.dv.blocks∧(putP s p n).dv.fuse=-1∧∀m,(putP s p n).dv.last m=if m=n then blk s.dv.size p.tag (s.sup.gen+1) (dataP p) else s.dv.last m:=by
 have hbl:(blk s.dv.size p.tag (s.sup.gen+1) (dataP p)).length=s.dv.size:=Fr.Qt _ _ _ _ hlen;have hw:=Qay s.dv n _ h.fuse hn hbl;have hlast:=(QcH s.dv n _ hn hbl (by have:=h.fuse;omega)).2;refine⟨by unfold putP;rw[hw],by unfold putP;rw[hw],by unfold putP;rw[hw];exact h.fuse,fun m=>by unfold putP;rw[hlast m]⟩
theorem SpOk.QjG(h:SpOk s own hown mown T)(hT:T≤1000)(hn:n<s.dv.blocks)(hlen:(dataP p).length+16≤s.dv.size)(ho:PgOk p)(h3:3≤p.tag)(hkd:∀k∈p.kids,2≤k∧k<(s.dv.blocks:Int)):pageF s.dv.blocks ((putP s p n).dv.last n)=some p:=by
 have hg0:0≤s.sup.gen:=h.kept.ok.gen.1;have hgen:=h.gen;rw[(h.QcO hn hlen).2.2.2 n,if_pos rfl];exact QfS (K:=s.dv.blocks) (g:=s.sup.gen+1) ho h3 hkd h.fits hlen (by omega)
theorem SpOk.Qel(h:SpOk s own hown mown T)(h3:3≤p.tag)(hk:∀k∈p.kids,k.toNat∈own)(hkl:p.kids.length≤65535)(hd:(dataP p).length+16≤s.dv.size) :
  putErr s p=if (frees s).length≤s.sup.pages.length then 9 else 0:=by
 have h1:∀j,j<p.kids.length→useE s (p.kids.getD j 0).toNat=0:=fun j hj=>by
  rw[List.getD_eq_getElem?_getD,List.getElem?_eq_getElem hj];exact h.use (hk _ (List.getElem_mem hj))
 have h2:∀j,j<p.kids.length→accE s (p.kids.getD j 0).toNat=0:=fun j hj=>by
  have:=h1 j hj;unfold useE at this;by_cases q:accE s (p.kids.getD j 0).toNat≠0
  ·rw[if_pos q]at this;exact this
  ·exact Decidable.not_not.1 q
 have hc:checkE s p=0:=by
  unfold checkE;rw[if_neg (by omega),if_pos h2,if_pos h1]
 have hf:(putF s.dv.size (p.tag,s.sup.gen+1,dataP p)).2=0:=by
  unfold putF;have hfi:=h.fits;rw[if_neg (fun q=>q hfi),if_neg (show ¬((s.dv.size:Int)-16<((dataP p).length:Int)) by omega)]
 unfold putErr;rw[hc,hf,if_neg (fun q=>q rfl),if_neg (fun q=>q rfl)]
end
structure Cfg (s:SpS) (N H:List Int) (M:Option (List Int)) (pg:List Int) (g:Int):Prop where
 size:s.dv.size=128
 blocks:s.dv.blocks=12
 now:s.now=N
 held:s.held=H
 mark:s.mark=M
 pages:s.sup.pages=pg
 gen:s.sup.gen=g
section
variable {s : SpS} {own hown mown : List Nat} {T : Nat} {N H pg : List Int} {M : Option (List Int)} {g : Int}
theorem Cfg.frees(h:Cfg s N H M pg g):Sp.frees s=frL 12 N H M:=by rw[QeF,h.blocks,h.now,h.held,h.mark]
theorem Cfg.put(h:Cfg s N H M pg g)(hk:SpOk s own hown mown T){p:Pg}{n:Nat}(hn:n<12)(hl:(dataP p).length+16≤128):Cfg (putP s p n) (N.set n 1) H M pg g:=by
 obtain⟨a,b,_⟩:=hk.QcO (p:=p) (n:=n) (by rw[h.blocks];exact hn) (by rw[h.size];exact hl);exact⟨a.trans h.size,b.trans h.blocks,by show s.now.set n 1=_;rw[h.now],h.held,h.mark,h.pages,h.gen⟩
theorem Cfg.commit(h:Cfg s N H M pg g)(hk:SpOk s own hown mown T)(hT:T≤1000){root:Int}(hr:root=0∨(0≤root∧root.toNat∈own)){N2 pg2:List Int}(e1:commitC N (pg.map Int.toNat) ((frL 12 N H M).take pg.length)=N2)(e2:((frL 12 N H M).take pg.length).map (fun n:Nat=>(n:Int))=pg2):Cfg (commitP s root) N2 N2 none pg2 (g+1):=by
 obtain⟨-,-,-,hd⟩:=hk.Qao hT hr;have hnp:newPages s=(frL 12 N H M).take pg.length:=by unfold newPages;rw[h.frees,h.pages]
 have hnn:newNow s=N2:=by unfold newNow;rw[hnp,h.now,h.pages];exact e1
 refine⟨by rw[hd];exact h.size,by rw[hd];exact h.blocks,hnn,hnn,rfl,?_,?_⟩
 ·show(newPages s).map _=_
  rw[hnp];exact e2
 ·show s.sup.gen+1=_
  rw[h.gen]
theorem Qgh(Z K:Nat):(firstP Z K).dv=(firstR Z K).2∧(firstP Z K).now=firstC Z K∧(firstP Z K).held=firstC Z K∧(firstP Z K).mark=none∧(firstP Z K).sup.pages=ints (firstL Z K)∧(firstP Z K).sup.gen=1:=⟨rfl,rfl,rfl,rfl,rfl,rfl⟩
theorem QhT:Cfg (firstP 128 12) [1,1,1,0,0,0,0,0,0,0,0,0] [1,1,1,0,0,0,0,0,0,0,0,0] none [2] 1:=by
 obtain⟨g1,g2,-,-⟩:=Qb8 Qbt Qcm;obtain⟨e1,e2,e3,e4,e5,e6⟩:=Qgh 128 12;have hc:firstC 128 12=[1,1,1,0,0,0,0,0,0,0,0,0]:=by decide +kernel
 have hl:ints (firstL 128 12)=[2]:=by decide +kernel
 exact⟨by rw[e1];exact g1,by rw[e1];exact g2,by rw[e2];exact hc,by rw[e3];exact hc,e4,by rw[e5];exact hl,e6⟩
end
section
variable {w0 w : World} {x : Nm} {s : SpS} {own hown mown : List Nat} {T : Nat}
theorem Qr(h:SpM w0 w x s)(hk:SpOk s own hown mown T)(hT:T≤1000)(p:Pg)(a:Option Addr)(c:Nat)(ho:PgOk p)(hs:Ws.Seg w a p.kids.length c p.kids)(hdl:p.data.length≤1000000000){n:Nat}{l:List Nat}(he:putErr s p=0)(hf:frees s=n :: l) :
  Calls Tryz.prog 16 #[.pointer (some ⟨x.sg,0,none⟩),.agg #[.int .u8 p.tag,.slice a p.kids.length c,.string (strOfNums p.data)]] w fun e w'=>e=.returned (.tuple #[.int .u32 (n:Int),.int .i64 0])∧Op w0 w x (putP s p n) w':=by
 have hgen:=hk.gen;have hg0:0≤s.sup.gen:=hk.kept.ok.gen.1;have hops:=hk.ops;have hfew:=hk.few;have h74:=hk.Qac;refine(QbP h p a c ho hs hdl (by omega) (by omega) hk.fuse (by omega) (by omega)).mono fun e w' hx=>?_
 rcases hx with ⟨q,_⟩|⟨n',l',_,e1,_,e2,e3⟩
 ·exact absurd he q
 ·rw[hf]at e1;cases e1
  exact⟨e2,e3⟩
theorem Qky(h:SpM w0 w x s)(hk:SpOk s own hown mown T)(n:Nat)(own2:List Nat)(hp:∀m,(n :: own2).count m=own.count m){c:List Int}(hc:GoodC s.dv s.sup.pages c own2)(hcl:∀m,c.getD m 0≤s.now.getD m 0) :
  Calls Tryz.prog 19 #[.pointer (some ⟨x.sg,0,none⟩),.int .u32 (n:Int)] w fun e w'=>e=.returned (.int .i64 0)∧Op w0 w x { s with now:=c } w':=by
 have h74:=hk.Qac;refine(Qdv h n own2 (by omega) (hk.now.perm hp)).mono fun e w' hx=>?_
 obtain⟨c2,e1,g2,l2,m2,t2⟩:=hx;have hd:∀{c:List Int},(∀m,c.getD m 0≤s.now.getD m 0)→∀m,0<dOf s.sup.pages c m→0<dOf s.sup.pages s.now m:=fun {c} hl m hm=>by
  obtain⟨a,b,d,_⟩:=Qbi hm;unfold dOf;rw[if_pos ⟨a,b⟩];have:=hl m;omega
 obtain rfl:c2=c:=GoodC.one hk.now g2 hc (fun _=>rfl) (hd l2) (hd hcl);exact⟨e1,x,rfl,rfl,m2,t2.mono (fun _ _ e=>.inl (.inr (.inl e))),fun _ q=>.inl q⟩
end
end Sp
end Go.Proofs.YtbbbocoliandcaaGreatDoor
