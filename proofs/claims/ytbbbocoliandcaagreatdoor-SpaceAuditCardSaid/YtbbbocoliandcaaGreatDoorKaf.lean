/- Parts of the proof. -/
import Derived.Test.YtbbbocoliandcaaGreatDoorKae
set_option maxRecDepth 100000
set_option maxHeartbeats 8000000
open Go.Lib (hid)
namespace Go.Proofs.YtbbbocoliandcaaGreatDoor
namespace Sp
open Go.RowKit Bs Dv Gr Dr
open Cn (CN CC CnOk IsC)
open Su (Sup SupOk T4)
def V9(rg:Nat)(oa:Option Addr)(L vc q gk k ck cut m:Nat)(g2 c2 g9 g3 c3:Nat):List Value:=
 [.pointer (some ⟨rg,0,none⟩),.pointer (some ⟨rg,0,none⟩),.pointer (some ⟨rg,0,none⟩),.pointer (some ⟨rg,2,none⟩),.slice oa L vc,.pointer (some ⟨rg,0,none⟩),.pointer (some ⟨rg,0,none⟩),.pointer (some ⟨rg,2,none⟩),.slice oa L vc,.int .i64 (L:Int),.pointer (some ⟨q,1,none⟩),.slice (some ⟨gk,0,none⟩) k ck,.int .i64 (k:Int),.int .i64 (cut:Int),.slice oa cut vc,.slice (some ⟨g2,0,none⟩) cut c2,.int .u32 (m:Int),.slice (some ⟨g9,0,none⟩) 1 1,.slice (some ⟨g3,0,none⟩) (cut+1) c3,.pointer (some ⟨rg,0,none⟩),.pointer (some ⟨rg,2,none⟩),undef]
theorem V9_o{g2 c2 g9 g3 c3:Nat}{rg:Nat}{oa:Option Addr}{L vc q gk k ck cut m:Nat}(x y:Nat)(j:Nat)(hj:j≠15):(V9 rg oa L vc q gk k ck cut m x y g9 g3 c3).getD j undef=(V9 rg oa L vc q gk k ck cut m g2 c2 g9 g3 c3).getD j undef:=by
 match j,hj with
 |0,_=>rfl
 |1,_=>rfl
 |2,_=>rfl
 |3,_=>rfl
 |4,_=>rfl
 |5,_=>rfl
 |6,_=>rfl
 |7,_=>rfl
 |8,_=>rfl
 |9,_=>rfl
 |10,_=>rfl
 |11,_=>rfl
 |12,_=>rfl
 |13,_=>rfl
 |14,_=>rfl
 |16,_=>rfl
 |17,_=>rfl
 |18,_=>rfl
 |19,_=>rfl
 |20,_=>rfl
 |21,_=>rfl
 |15,h=>exact absurd rfl h
 |j+22,_=>rfl
theorem V9_b{g2 c2 g9 g3 c3:Nat}{rg:Nat}{oa:Option Addr}{L vc q gk k ck cut m:Nat}(x:Nat)(j:Nat)(hj:j≠17):(V9 rg oa L vc q gk k ck cut m g2 c2 x g3 c3).getD j undef=(V9 rg oa L vc q gk k ck cut m g2 c2 g9 g3 c3).getD j undef:=by
 match j,hj with
 |0,_=>rfl
 |1,_=>rfl
 |2,_=>rfl
 |3,_=>rfl
 |4,_=>rfl
 |5,_=>rfl
 |6,_=>rfl
 |7,_=>rfl
 |8,_=>rfl
 |9,_=>rfl
 |10,_=>rfl
 |11,_=>rfl
 |12,_=>rfl
 |13,_=>rfl
 |14,_=>rfl
 |15,_=>rfl
 |16,_=>rfl
 |18,_=>rfl
 |19,_=>rfl
 |20,_=>rfl
 |21,_=>rfl
 |17,h=>exact absurd rfl h
 |j+22,_=>rfl
theorem V9_c{g2 c2 g9 g3 c3:Nat}{rg:Nat}{oa:Option Addr}{L vc q gk k ck cut m:Nat}(x y:Nat)(j:Nat)(hj:j≠18):(V9 rg oa L vc q gk k ck cut m g2 c2 g9 x y).getD j undef=(V9 rg oa L vc q gk k ck cut m g2 c2 g9 g3 c3).getD j undef:=by
 match j,hj with
 |0,_=>rfl
 |1,_=>rfl
 |2,_=>rfl
 |3,_=>rfl
 |4,_=>rfl
 |5,_=>rfl
 |6,_=>rfl
 |7,_=>rfl
 |8,_=>rfl
 |9,_=>rfl
 |10,_=>rfl
 |11,_=>rfl
 |12,_=>rfl
 |13,_=>rfl
 |14,_=>rfl
 |15,_=>rfl
 |16,_=>rfl
 |17,_=>rfl
 |19,_=>rfl
 |20,_=>rfl
 |21,_=>rfl
 |18,h=>exact absurd rfl h
 |j+22,_=>rfl
section
variable {w0 w : World} {v : Rv} {r : Rn} {T : Nat}
def PutR(w0 w:World)(x:Nm)(s:SpS)(p:Pg)(n E:Int)(w':World):Prop:=
 (E≠0∧n=0∧putErr s p=E∧Op w0 w x s w')∨∃(k:Nat) (l:List Nat),E=0∧n=k∧putErr s p=0∧frees s=k :: l∧s.sup.pages.length≤l.length∧Op w0 w x (putP s p k) w'
theorem Qc6{w1 w':World}{x:Nm}{s:SpS}{p:Pg}{n E:Int}(k:w.grownBy w1 none)(h:PutR w0 w1 x s p n E w'):PutR w0 w x s p n E w':=by
 rcases h with ⟨a,b,c,d⟩|⟨i,l,a,b,c,d,e,f⟩
 ·exact .inl ⟨a,b,c,Qdi k d⟩
 ·exact .inr ⟨i,l,a,b,c,d,e,Qdi k f⟩
theorem Qem{x:Nm}{s:SpS}{own hown mown:List Nat}(h:SpM w0 w x s)(hok:SpOk s own hown mown T)(hT:T≤1000)(p:Pg)(a:Option Addr)(c:Nat)(ho:PgOk p)(hs:Ws.Seg w a p.kids.length c p.kids)(hdl:p.data.length≤1000000000) :
  Calls Tryz.prog 16 #[.pointer (some ⟨x.sg,0,none⟩),.agg #[.int .u8 p.tag,.slice a p.kids.length c,.string (strOfNums p.data)]] w fun e w'=>∃n E,e=.returned (.tuple #[.int .u32 n,.int .i64 E])∧PutR w0 w x s p n E w'∧Turn w w' x.fp:=by
 have h74:=hok.Qac;have hg:=hok.gen;have hg0:0≤s.sup.gen:=hok.kept.ok.gen.1;have hop:=hok.ops;have hfw:=hok.few;refine(QbP h p a c ho hs hdl (by omega) (by omega) hok.fuse (by omega) (by omega)).mono ?_;rintro e w' (⟨h1,rfl,h2⟩|⟨n,l,h1,h2,h3,rfl,h4⟩)
 ·exact⟨0,_,rfl,.inl ⟨h1,rfl,rfl,h2⟩,by obtain⟨_,_,_,_,t,_⟩:=h2;exact t⟩
 ·exact⟨n,0,rfl,.inr ⟨n,l,rfl,rfl,h1,h2,h3,h4⟩,by obtain⟨_,_,_,_,t,_⟩:=h4;exact t⟩
theorem do_put0 (h:RnM w0 w v r) (hk:RnOk r T) (hT:T≤1000) (a:AcT) (ha:AcOk a) (hK:pick a.kind 10=0):Calls Tryz.prog 39 #[.pointer (some ⟨v.rg,0,none⟩),.agg (acV a)] w (DoX w0 w v r a):=by
  have hlen:=hk.len
  have hg0:=Qb w (.cells (acV a) 64)
  have hb0:=heap_alloc_new w (.cells (acV a) 64)
  obtain⟨W0,hW0⟩:∃X,w.alloc (.cells (acV a) 64)=X:=⟨_,rfl⟩
  rw[hW0]at hg0 hb0
  have HW0:=hid hW0
  have HG0:=hid hg0
  have HB0:=hid hb0
  have HR0:=hid (h.go hg0)
  have HK:=hid hk
  have HA:=hid ha
  have b0:W0.cell? ⟨w.heap.size,0,none⟩=some (.int .i64 a.kind):=by rw[cell_of_row _ _ _ _ _ _ hb0];rfl
  have b3:W0.cell? ⟨w.heap.size,3,none⟩=some (.int .i64 a.n):=by rw[cell_of_row _ _ _ _ _ _ hb0];rfl
  have HPI:=hid (QB (h.go hg0) a.n (by omega))
  have HPK:Hid (Calls Tryz.prog 40 #[.int .i64 a.kind,.int .i64 10] W0 fun e w'=>e=.returned (.int .i64 0)∧W0=w'):=hid (by
    have h1:=QD a.kind 10 W0 (by omega) (by omega)
    rw[hK]at h1
    exact h1)
  have HKK:=hid hK
  obtain⟨rg,e1⟩:∃q,v.rg=q:=⟨_,rfl⟩
  have HRG:=hid e1
  rw[e1]at HPI ⊢
  obtain⟨I,hI⟩:∃I,idxV a.n r.own=I:=⟨_,rfl⟩
  rw[hI]at HPI
  have HII:=hid hI
  clear hI
  have HPGE:=hid (page_any HR0.out a ha (by omega))
  rw[e1]at HPGE
  have HPO:=hid (hk.pg ha).1
  have HKL:=hid (Qdd (a:=a) r.own)
  have HKLE:=hid (QbL (a:=a) r.own)
  have c1:=HR0.out.box.cells.2.1
  have c2:=HR0.out.box.cells.2.2.1
  have bR:W0.heap[w.heap.size]?=some (.cells (acV a) 64 (0,0)):=hb0
  obtain⟨sg,e2⟩:∃q,v.x.sg=q:=⟨_,rfl⟩
  have HSG:=hid e2
  rw[e1,e2]at c1
  rw[e1]at c2
  have hrgn:¬v.x.fp rg:=by rw[←e1];exact HR0.out.rgn
  have hrgl:rg<W0.heap.size:=by rw[←e1];exact block_lt HR0.out.box
  have HDLEN:Hid ((actPg a r.own).data.length≤1000000000):=hid (by show a.data.length≤_;have:=ha.len;omega)
  obtain⟨L,hL⟩:∃q,r.own.length=q:=⟨_,rfl⟩
  obtain⟨oa,hoa⟩:∃q,v.oa=q:=⟨_,rfl⟩
  obtain⟨vc,hvc⟩:∃q,v.oc=q:=⟨_,rfl⟩
  rw[hL,hoa,hvc]at c2
  have HLL:=hid hL
  have b1:W0.cell? ⟨w.heap.size,1,none⟩=some (.int .u8 a.tag):=by rw[cell_of_row _ _ _ _ _ _ hb0];rfl
  have b2:W0.cell? ⟨w.heap.size,2,none⟩=some (.int .i64 a.kids):=by rw[cell_of_row _ _ _ _ _ _ hb0];rfl
  have b4:W0.cell? ⟨w.heap.size,4,none⟩=some (.string (strOfNums a.data)):=by rw[cell_of_row _ _ _ _ _ _ hb0];rfl
  clear e2 hL bR
  clear h hg0 hb0 hW0 hK e1 hk
  go_enter Tryz.func39,Tryz.ntmps39
  go_upto_region 1 with fail
  rw[HW0.out]
  go_upto_region 6 with (first|(go_at_call 37;refine HPI.out.mono ?_;rintro e w' ⟨rfl,rfl⟩)|(go_at_call 40;refine HPK.out.mono ?_;rintro e w' ⟨rfl,rfl⟩)|fail)
  clear HPI HPK
  go_wp2_with fail
  refine HPGE.out.mono ?_
  rintro e w2 ⟨gk,ck,rfl,hseg2,hgl2,hg2⟩
  have HPUT:=hid (fun W (hW:w2.grownBy W none)=>Qem ((HR0.out.sp.go hg2).go hW) HK.out.sp hT (actPg a r.own) (some ⟨gk,0,none⟩) ck HPO.out (hseg2.grown hW) HDLEN.out)
  obtain⟨tg,htg⟩:∃q,(actPg a r.own).tag=q:=⟨_,rfl⟩
  obtain⟨S,hS⟩:∃q,strOfNums (actPg a r.own).data=q:=⟨_,rfl⟩
  obtain⟨k,hk⟩:∃q,(actPg a r.own).kids.length=q:=⟨_,rfl⟩
  unfold pgV
  rw[htg,hS,hk]
  rw[htg,hS,hk,HSG.out]at HPUT
  have HKK2:=hid hk
  have HG2:=hid hg2
  have hz2:=hg2.size
  have c1:=hg2.cell c1 (by simp)
  have c2:=hg2.cell c2 (by simp)
  clear hseg2 htg hS hk hg2 b0 b1 b2 b3 b4 HPGE
  dsimp only
  go_upto_region 7 with fail
  have hb3:=heap_alloc_new w2 (.cells #[.int .u8 tg,.slice (some ⟨gk,0,none⟩) k ck,.string S] 40)
  have hg3:=Qb w2 (.cells #[.int .u8 tg,.slice (some ⟨gk,0,none⟩) k ck,.string S] 40)
  obtain⟨W3,hW3⟩:∃X,w2.alloc (.cells #[.int .u8 tg,.slice (some ⟨gk,0,none⟩) k ck,.string S] 40)=X:=⟨_,rfl⟩
  rw[hW3]at hb3 hg3 ⊢
  obtain⟨q,hq⟩:∃q,w2.heap.size=q:=⟨_,rfl⟩
  rw[hq]at hb3 ⊢
  have HG3:=hid hg3
  have HG03:=hid (Qa HG2.out hg3)
  have HR3:=hid (HR0.out.go HG03.out)
  have q0:W3.cell? ⟨q,0,none⟩=some (.int .u8 tg):=by rw[cell_of_row _ _ _ _ _ _ hb3];rfl
  have q1:W3.cell? ⟨q,1,none⟩=some (.slice (some ⟨gk,0,none⟩) k ck):=by rw[cell_of_row _ _ _ _ _ _ hb3];rfl
  have q2:W3.cell? ⟨q,2,none⟩=some (.string S):=by rw[cell_of_row _ _ _ _ _ _ hb3];rfl
  have c1:=hg3.cell c1 (by simp)
  have c2:=hg3.cell c2 (by simp)
  have hqn:¬v.x.fp q:=fun z=>by have:=HR0.out.sp.lt z;omega
  clear hW3 hq hb3 hg3
  go_region_held3 (fun w'=>w'.cell? ⟨rg,1,none⟩=some (.pointer (some ⟨sg,0,none⟩))∧w'.cell? ⟨q,0,none⟩=some (.int .u8 tg)∧w'.cell? ⟨q,1,none⟩=some (.slice (some ⟨gk,0,none⟩) k ck)∧w'.cell? ⟨q,2,none⟩=some (.string S)) (go_keep)
    (first
      | (go_at_call 16
         (with_reducible refine(HPUT.out _ (Qa HG3.out (Qj W3))).mono ?_)
         rintro e w1 ⟨n,E,rfl,hpr,ht1⟩
         have HPR:Hid (PutR w0 W3 v.x r.s (actPg a r.own) n E w1):=hid (Qc6 (Qj W3) hpr)
         have HT1:Hid (Turn W3 w1 v.x.fp):=hid ((Turn.drew W3 _).trans ht1 (fun _ _ e=>e))
         have k1:=HT1.out.cell c1 hrgn
         have k2:=HT1.out.cell c2 hrgn
         have z0:=HT1.out.cell q0 hqn
         have kq:=HT1.out.cell q1 hqn
         have z2:=HT1.out.cell q2 hqn
         clear hpr ht1)
      |fail)
  rcases HPR.out with ⟨hE,hn0,hpe,ho⟩|⟨m,l,hE,hn0,hpe,hfr,hll,ho⟩
  · have qE:(E==0)=false:=beq_eq_false_iff_ne.2 hE
    subst hn0
    have HX:Hid (DoX w0 w v r a (.returned (.tuple #[.int .u32 0,.int .i64 E])) w1):=hid (by
      have h2:DoR a r 0 _ r:=.Qal (by rw[HKK.out];decide) (by rw[hpe];exact hE)
      rw[hpe]at h2
      exact⟨0,E,r,rfl,h2,RnOp.back HG0.out (RnOp.back HG03.out (HR3.out.step ho))⟩)
    clear hE hpe ho HPR k1 k2 z0 kq z2
    go_wp2
    go_ret2
    exact HX.out
  · subst hE hn0
    obtain⟨v1,hr1,hx1,hm1,ht1,hf1⟩:=HR3.out.step ho
    have HR1:=hid hm1
    have HTT:Hid (Turn W3 w1 v.fp∧v1.rg=v.rg∧v1.x.g=v.x.g∧∀k,v1.fp k→v.fp k∨W3.heap.size≤k):=hid ⟨ht1,hr1,hx1,hf1⟩
    have HE1:Hid (v1.rg=rg):=hid (hr1.trans HRG.out)
    have HPF:Hid (putErr r.s (actPg a r.own)=0∧frees r.s=m :: l∧r.s.sup.pages.length≤l.length):=hid ⟨hpe,hfr,hll⟩
    obtain⟨cut,hcut⟩:∃q,L-k=q:=⟨_,rfl⟩
    have hkl:k=actK a r.own:=HKK2.out.symm.trans HKL.out
    have hkle:=HKLE.out
    have hLl:=HLL.out
    have hLb:L≤1000:=by omega
    have hcl:cut≤L:=by omega
    have hwc:IntKind.i64.wrap ((L:Int)-(k:Int))=(cut:Int):=by rw[show(L:Int)-(k:Int)=(cut:Int) by omega];exact IntWalk.i64_in _ (by omega)
    have HCU:Hid (actCut a r.own=cut):=hid (by unfold actCut;omega)
    have hseg:=hm1.o
    have hc2:=hm1.box.cells.2.2.1
    rw[HE1.out,k2]at hc2
    have hes:oa=v1.oa∧L=r.own.length∧vc=v1.oc:=by injection hc2 with z;injection z with z1 z2 z3;exact⟨z1,z2,z3⟩
    rw[←hes.1,←hes.2.2]at hseg
    have hseg:Ws.Seg w1 oa L vc (ints r.own):=by have h9:=hseg;dsimp only at h9;rw[HLL.out]at h9;exact h9
    obtain⟨hslu,hsu⟩:=QcS cut hseg hcl
    have hsu:Ws.Seg w1 oa cut vc (ints (r.own.take cut)):=by have h9:=hsu;unfold ints at h9 ⊢;rw[List.map_take];exact h9
    have HOW:=hid (fun W (hW:w1.grownBy W none)=>QO oa cut vc (ints (r.own.take cut)) W (hsu.grown hW) (by omega))
    have hbox:=HR1.out.box
    rw[HE1.out]at hbox
    clear hr1 hx1 hm1 ht1 hf1 c1 c2 hseg hc2 hes hsu hpe hfr hll ho HPR HPUT q0 q1 q2
    go_upto_region 9 with fail
    refine QV               (I:=fun a0 LL X W=>∃g2 c2 g9 g3 c3,VI [42,43,44,45,46,47,48,49,50,51,52,53,54,55,56,57,58,59,60,61,62] [42,43,44,45,46,47,48,49,50,51,52,53,54,55,56,57,58,59,60,61,62,1000] (V9 rg oa L vc q gk k ck cut m g2 c2 g9 g3 c3) (fun LL W=>RI w1 rg cut 1 (ints (r.own.take cut)) [(m:Int)] 15 17 18 21 g2 c2 g9 g3 c3 LL W) a0 LL X W) (by kernel_rfl) (by kernel_rfl)
      ⟨0,0,0,0,0,VI.start 63 (by simp) (by decide) (RI.start rfl)⟩ ?_ ?_
    · show ∀i,i<22→_
      refine Qd (Qd (Qd (Qd (Qd (Qd (Qd (Qd (Qd (Qd (Qd (Qd (Qd (Qd (Qd (Qd (Qd (Qd (Qd (Qd (Qd (Qd all_nil ?r0) ?r1) ?r2) ?r3) ?r4) ?r5) ?r6) ?r7) ?r8) ?r9) ?r10) ?r11) ?r12) ?r13) ?r14) ?r15) ?r16) ?r17) ?r18) ?r19) ?r20) ?r21
      case r0=>
        refine StepAt.mk rfl (ns:=[]) (by kernel_rfl) rfl ?_
        intro LL X W h0 hn hI
        obtain⟨g2,c2,g9,g3,c3,hI⟩:=hI
        have e0:X.tmps[0]?.getD undef=.pointer (some ⟨rg,0,none⟩):=hI.old 0 (by decide)
        refine Qe (v:=.pointer (some ⟨rg,0,none⟩)) ?_ ⟨g2,c2,g9,g3,c3,hI.value (by decide) 0 (by decide) (by decide) rfl (hI.mem.keep (by decide) (by decide) (by decide) (by decide))⟩
        simp[go_sem,e0]
      case r1=>
        refine StepAt.mk rfl (ns:=[]) (by kernel_rfl) rfl ?_
        intro LL X W h0 hn hI
        obtain⟨g2,c2,g9,g3,c3,hI⟩:=hI
        have e0:X.tmps[0]?.getD undef=.pointer (some ⟨rg,0,none⟩):=hI.old 0 (by decide)
        refine Qe (v:=.pointer (some ⟨rg,0,none⟩)) ?_ ⟨g2,c2,g9,g3,c3,hI.value (by decide) 1 (by decide) (by decide) rfl (hI.mem.keep (by decide) (by decide) (by decide) (by decide))⟩
        simp[go_sem,e0]
      case r2=>
        refine StepAt.mk rfl (ns:=[1]) (by kernel_rfl) rfl ?_
        intro LL X W h0 hn hI
        obtain⟨g2,c2,g9,g3,c3,hI⟩:=hI
        have e43:X.tmps[43]?.getD undef=.pointer (some ⟨rg,0,none⟩):=hI.get 1 (by decide) (by decide) (hn 1 (by decide))
        refine Qe (v:=.pointer (some ⟨rg,0,none⟩)) ?_ ⟨g2,c2,g9,g3,c3,hI.value (by decide) 2 (by decide) (by decide) rfl (hI.mem.keep (by decide) (by decide) (by decide) (by decide))⟩
        simp[go_sem,e43]
      case r3=>
        refine StepAt.mk rfl (ns:=[2]) (by kernel_rfl) rfl ?_
        intro LL X W h0 hn hI
        obtain⟨g2,c2,g9,g3,c3,hI⟩:=hI
        have e44:X.tmps[44]?.getD undef=.pointer (some ⟨rg,0,none⟩):=hI.get 2 (by decide) (by decide) (hn 2 (by decide))
        refine Qe (v:=.pointer (some ⟨rg,2,none⟩)) ?_ ⟨g2,c2,g9,g3,c3,hI.value (by decide) 3 (by decide) (by decide) rfl (hI.mem.keep (by decide) (by decide) (by decide) (by decide))⟩
        simp[go_sem,e44]
      case r4=>
        refine StepAt.mk rfl (ns:=[3]) (by kernel_rfl) rfl ?_
        intro LL X W h0 hn hI
        obtain⟨g2,c2,g9,g3,c3,hI⟩:=hI
        have e45:X.tmps[45]?.getD undef=.pointer (some ⟨rg,2,none⟩):=hI.get 3 (by decide) (by decide) (hn 3 (by decide))
        have cc:=hI.mem.cell (hI.mem.before (by decide) h0) k2
        refine Qe (v:=.slice oa L vc) ?_ ⟨g2,c2,g9,g3,c3,hI.value (by decide) 4 (by decide) (by decide) rfl (hI.mem.keep (by decide) (by decide) (by decide) (by decide))⟩
        simp[go_sem,e45,cc]
      case r5=>
        refine StepAt.mk rfl (ns:=[]) (by kernel_rfl) rfl ?_
        intro LL X W h0 hn hI
        obtain⟨g2,c2,g9,g3,c3,hI⟩:=hI
        have e0:X.tmps[0]?.getD undef=.pointer (some ⟨rg,0,none⟩):=hI.old 0 (by decide)
        refine Qe (v:=.pointer (some ⟨rg,0,none⟩)) ?_ ⟨g2,c2,g9,g3,c3,hI.value (by decide) 5 (by decide) (by decide) rfl (hI.mem.keep (by decide) (by decide) (by decide) (by decide))⟩
        simp[go_sem,e0]
      case r6=>
        refine StepAt.mk rfl (ns:=[5]) (by kernel_rfl) rfl ?_
        intro LL X W h0 hn hI
        obtain⟨g2,c2,g9,g3,c3,hI⟩:=hI
        have e47:X.tmps[47]?.getD undef=.pointer (some ⟨rg,0,none⟩):=hI.get 5 (by decide) (by decide) (hn 5 (by decide))
        refine Qe (v:=.pointer (some ⟨rg,0,none⟩)) ?_ ⟨g2,c2,g9,g3,c3,hI.value (by decide) 6 (by decide) (by decide) rfl (hI.mem.keep (by decide) (by decide) (by decide) (by decide))⟩
        simp[go_sem,e47]
      case r7=>
        refine StepAt.mk rfl (ns:=[6]) (by kernel_rfl) rfl ?_
        intro LL X W h0 hn hI
        obtain⟨g2,c2,g9,g3,c3,hI⟩:=hI
        have e48:X.tmps[48]?.getD undef=.pointer (some ⟨rg,0,none⟩):=hI.get 6 (by decide) (by decide) (hn 6 (by decide))
        refine Qe (v:=.pointer (some ⟨rg,2,none⟩)) ?_ ⟨g2,c2,g9,g3,c3,hI.value (by decide) 7 (by decide) (by decide) rfl (hI.mem.keep (by decide) (by decide) (by decide) (by decide))⟩
        simp[go_sem,e48]
      case r8=>
        refine StepAt.mk rfl (ns:=[7]) (by kernel_rfl) rfl ?_
        intro LL X W h0 hn hI
        obtain⟨g2,c2,g9,g3,c3,hI⟩:=hI
        have e49:X.tmps[49]?.getD undef=.pointer (some ⟨rg,2,none⟩):=hI.get 7 (by decide) (by decide) (hn 7 (by decide))
        have cc:=hI.mem.cell (hI.mem.before (by decide) h0) k2
        refine Qe (v:=.slice oa L vc) ?_ ⟨g2,c2,g9,g3,c3,hI.value (by decide) 8 (by decide) (by decide) rfl (hI.mem.keep (by decide) (by decide) (by decide) (by decide))⟩
        simp[go_sem,e49,cc]
      case r9=>
        refine StepAt.mk rfl (ns:=[8]) (by kernel_rfl) rfl ?_
        intro LL X W h0 hn hI
        obtain⟨g2,c2,g9,g3,c3,hI⟩:=hI
        have e50:X.tmps[50]?.getD undef=.slice oa L vc:=hI.get 8 (by decide) (by decide) (hn 8 (by decide))
        refine Qe (v:=.int .i64 (L:Int)) ?_ ⟨g2,c2,g9,g3,c3,hI.value (by decide) 9 (by decide) (by decide) rfl (hI.mem.keep (by decide) (by decide) (by decide) (by decide))⟩
        simp[go_sem,e50]
      case r10=>
        refine StepAt.mk rfl (ns:=[]) (by kernel_rfl) rfl ?_
        intro LL X W h0 hn hI
        obtain⟨g2,c2,g9,g3,c3,hI⟩:=hI
        have e7:X.tmps[7]?.getD undef=.pointer (some ⟨q,0,none⟩):=hI.old 7 (by decide)
        refine Qe (v:=.pointer (some ⟨q,1,none⟩)) ?_ ⟨g2,c2,g9,g3,c3,hI.value (by decide) 10 (by decide) (by decide) rfl (hI.mem.keep (by decide) (by decide) (by decide) (by decide))⟩
        simp[go_sem,e7]
      case r11=>
        refine StepAt.mk rfl (ns:=[10]) (by kernel_rfl) rfl ?_
        intro LL X W h0 hn hI
        obtain⟨g2,c2,g9,g3,c3,hI⟩:=hI
        have e52:X.tmps[52]?.getD undef=.pointer (some ⟨q,1,none⟩):=hI.get 10 (by decide) (by decide) (hn 10 (by decide))
        have cc:=hI.mem.cell (hI.mem.before (by decide) h0) kq
        refine Qe (v:=.slice (some ⟨gk,0,none⟩) k ck) ?_ ⟨g2,c2,g9,g3,c3,hI.value (by decide) 11 (by decide) (by decide) rfl (hI.mem.keep (by decide) (by decide) (by decide) (by decide))⟩
        simp[go_sem,e52,cc]
      case r12=>
        refine StepAt.mk rfl (ns:=[11]) (by kernel_rfl) rfl ?_
        intro LL X W h0 hn hI
        obtain⟨g2,c2,g9,g3,c3,hI⟩:=hI
        have e53:X.tmps[53]?.getD undef=.slice (some ⟨gk,0,none⟩) k ck:=hI.get 11 (by decide) (by decide) (hn 11 (by decide))
        refine Qe (v:=.int .i64 (k:Int)) ?_ ⟨g2,c2,g9,g3,c3,hI.value (by decide) 12 (by decide) (by decide) rfl (hI.mem.keep (by decide) (by decide) (by decide) (by decide))⟩
        simp[go_sem,e53]
      case r13=>
        refine StepAt.mk rfl (ns:=[9,12]) (by kernel_rfl) rfl ?_
        intro LL X W h0 hn hI
        obtain⟨g2,c2,g9,g3,c3,hI⟩:=hI
        have e51:X.tmps[51]?.getD undef=.int .i64 (L:Int):=hI.get 9 (by decide) (by decide) (hn 9 (by decide))
        have e54:X.tmps[54]?.getD undef=.int .i64 (k:Int):=hI.get 12 (by decide) (by decide) (hn 12 (by decide))
        refine Qe (v:=.int .i64 (cut:Int)) ?_ ⟨g2,c2,g9,g3,c3,hI.value (by decide) 13 (by decide) (by decide) rfl (hI.mem.keep (by decide) (by decide) (by decide) (by decide))⟩
        simp[go_sem,e51,e54,hwc]
      case r14=>
        refine StepAt.mk rfl (ns:=[4,13]) (by kernel_rfl) rfl ?_
        intro LL X W h0 hn hI
        obtain⟨g2,c2,g9,g3,c3,hI⟩:=hI
        have e46:X.tmps[46]?.getD undef=.slice oa L vc:=hI.get 4 (by decide) (by decide) (hn 4 (by decide))
        have e55:X.tmps[55]?.getD undef=.int .i64 (cut:Int):=hI.get 13 (by decide) (by decide) (hn 13 (by decide))
        refine Qe (v:=.slice oa cut vc) ?_ ⟨g2,c2,g9,g3,c3,hI.value (by decide) 14 (by decide) (by decide) rfl (hI.mem.keep (by decide) (by decide) (by decide) (by decide))⟩
        simp[go_sem,e46,e55,hslu]
      case r15=>
        refine StepAt.mk rfl (ns:=[14]) (by kernel_rfl) rfl ?_
        intro LL X W h0 hn hI
        obtain⟨g2,c2,g9,g3,c3,hI⟩:=hI
        have e56:X.tmps[56]?.getD undef=.slice oa cut vc:=hI.get 14 (by decide) (by decide) (hn 14 (by decide))
        refine QaV (f:=36) (vs:=#[.slice oa cut vc]) (R:=fun e w2=>∃g c,e=.returned (.slice (some ⟨g,0,none⟩) cut c)∧w2.ownsRow W.heap.size 35 1 (.slice (some ⟨g,0,none⟩) cut c) cut ((ints (r.own.take cut)).map (Value.int .u32))∧W.grownBy w2 none) ?_ (HOW.out W (RIgrown (hI.mem.gr (hI.mem.before (by decide) h0)))) ?_
        · simp[go_sem,e56]
        · rintro e w2 ⟨g,c,rfl,hown,hg⟩
          exact⟨_,rfl,g,c,g9,g3,c3,VI.nxt hI (fun j hl=>V9_o _ _ j (fun e=>by rw[e,h0]at hl;cases hl)) (by decide) 15 (by decide) (by decide) rfl (hI.mem.owned (by decide) (by decide) (by decide) h0 hown hg)⟩
      case r16=>
        refine StepAt.mk rfl (ns:=[]) (by kernel_rfl) rfl ?_
        intro LL X W h0 hn hI
        obtain⟨g2,c2,g9,g3,c3,hI⟩:=hI
        have e8:X.tmps[8]?.getD undef=.int .u32 (m:Int):=hI.old 8 (by decide)
        refine Qe (v:=.int .u32 (m:Int)) ?_ ⟨g2,c2,g9,g3,c3,hI.value (by decide) 16 (by decide) (by decide) rfl (hI.mem.keep (by decide) (by decide) (by decide) (by decide))⟩
        simp[go_sem,e8]
      case r17=>
        refine StepAt.mk rfl (ns:=[16]) (by kernel_rfl) rfl ?_
        intro LL X W h0 hn hI
        obtain⟨g2,c2,g9,g3,c3,hI⟩:=hI
        have e58:X.tmps[58]?.getD undef=.int .u32 (m:Int):=hI.get 16 (by decide) (by decide) (hn 16 (by decide))
        refine QaD (v:=.slice (some ⟨W.heap.size,0,none⟩) 1 1) (w':=W.alloc (.cells #[.int .u32 (m:Int)] 35)) ?_ ⟨g2,c2,W.heap.size,g3,c3,VI.nxt hI (fun j hl=>V9_b _ j (fun e=>by rw[e,h0]at hl;cases hl)) (by decide) 17 (by decide) (by decide) rfl (hI.mem.made (by decide) (by decide) (by decide) (by decide) h0)⟩
        simp[go_sem,e58]
      case r18=>
        refine StepAt.mk rfl (ns:=[15,17,15]) (by kernel_rfl) rfl ?_
        intro LL X W h0 hn hI
        obtain⟨g2,c2,g9,g3,c3,hI⟩:=hI
        have e57:X.tmps[57]?.getD undef=.slice (some ⟨g2,0,none⟩) cut c2:=hI.get 15 (by decide) (by decide) (hn 15 (by decide))
        have e59:X.tmps[59]?.getD undef=.slice (some ⟨g9,0,none⟩) 1 1:=hI.get 17 (by decide) (by decide) (hn 17 (by decide))
        have hbz:w1.heap.size≤W.heap.size:=(hI.mem.gr (hI.mem.noS h0)).size
        obtain⟨g',c',w',hap,hown,hgr⟩:=append32 W w1.heap.size g2 c2 cut (ints (r.own.take cut)) (hI.mem.own (hn 15 (by decide)) h0) ⟨g9,0,none⟩ 1 1 ([(m:Int)]) (hI.mem.lit (hn 17 (by decide)) h0) (by omega) hbz
        refine QaD (v:=.slice (some ⟨g',0,none⟩) (cut+1) c') (w':=w') ?_ ⟨g2,c2,g9,g',c',VI.nxt hI (fun j hl=>V9_c _ _ j (fun e=>by rw[e,h0]at hl;cases hl)) (by decide) 18 (by decide) (by decide) rfl (hI.mem.appended (by decide) h0 (hn 15 (by decide)) (fun _=>hn 17 (by decide)) hown hgr)⟩
        exact Qaz ⟨rfl,rfl⟩ e57 e59 hap
      case r19=>
        refine StepAt.mk rfl (ns:=[0,0,1,2,3,4,5,6,7,8,9,10,11,12,13,14,15,16,17,18]) (by kernel_rfl) rfl ?_
        intro LL X W h0 hn hI
        obtain⟨g2,c2,g9,g3,c3,hI⟩:=hI
        have e42:X.tmps[42]?.getD undef=.pointer (some ⟨rg,0,none⟩):=hI.get 0 (by decide) (by decide) (hn 0 (by decide))
        refine Qe (v:=.pointer (some ⟨rg,0,none⟩)) ?_ ⟨g2,c2,g9,g3,c3,hI.value (by decide) 19 (by decide) (by decide) rfl (hI.mem.keep (by decide) (by decide) (by decide) (by decide))⟩
        simp[go_sem,e42]
      case r20=>
        refine StepAt.mk rfl (ns:=[19,0,1,2,3,4,5,6,7,8,9,10,11,12,13,14,15,16,17,18]) (by kernel_rfl) rfl ?_
        intro LL X W h0 hn hI
        obtain⟨g2,c2,g9,g3,c3,hI⟩:=hI
        have e61:X.tmps[61]?.getD undef=.pointer (some ⟨rg,0,none⟩):=hI.get 19 (by decide) (by decide) (hn 19 (by decide))
        refine Qe (v:=.pointer (some ⟨rg,2,none⟩)) ?_ ⟨g2,c2,g9,g3,c3,hI.value (by decide) 20 (by decide) (by decide) rfl (hI.mem.keep (by decide) (by decide) (by decide) (by decide))⟩
        simp[go_sem,e61]
      case r21=>
        refine StepAt.mk rfl (ns:=[20,18,18,0,1,2,3,4,5,6,7,8,9,10,11,12,13,14,15,16,17,18]) (by kernel_rfl) rfl ?_
        intro LL X W h0 hn hI
        obtain⟨g2,c2,g9,g3,c3,hI⟩:=hI
        have e60:X.tmps[60]?.getD undef=.slice (some ⟨g3,0,none⟩) (cut+1) c3:=hI.get 18 (by decide) (by decide) (hn 18 (by decide))
        have e62:X.tmps[62]?.getD undef=.pointer (some ⟨rg,2,none⟩):=hI.get 20 (by decide) (by decide) (hn 20 (by decide))
        refine QaO rfl (.tmp 62) (.tmp 60) rfl rg (hI.vals 20 (by decide) (by decide) (hn 20 (by decide))) _ _ _ (hI.vals 18 (by decide) (by decide) (hn 18 (by decide))) (boxAt hI.mem h0 hbox) ⟨g2,c2,g9,g3,c3,hI.other 21 (by decide) (hI.mem.stored h0 (hn 18 (by decide)) (fun j hj=>hn j (by revert hj;revert j;decide)))⟩
    · intro LL X W hL hI
      replace hL:∀i,i<22→LL i=true:=hL
      obtain⟨g2,c2,g9,g3,c3,hI⟩:=hI
      have hform:=hI.agr.form
      have v42:At X 42=.pointer (some ⟨rg,0,none⟩):=hI.vals 0 (by decide) (by decide) (hL 0 (by omega))
      have v43:At X 43=.pointer (some ⟨rg,0,none⟩):=hI.vals 1 (by decide) (by decide) (hL 1 (by omega))
      have v44:At X 44=.pointer (some ⟨rg,0,none⟩):=hI.vals 2 (by decide) (by decide) (hL 2 (by omega))
      have v45:At X 45=.pointer (some ⟨rg,2,none⟩):=hI.vals 3 (by decide) (by decide) (hL 3 (by omega))
      have v46:At X 46=.slice oa L vc:=hI.vals 4 (by decide) (by decide) (hL 4 (by omega))
      have v47:At X 47=.pointer (some ⟨rg,0,none⟩):=hI.vals 5 (by decide) (by decide) (hL 5 (by omega))
      have v48:At X 48=.pointer (some ⟨rg,0,none⟩):=hI.vals 6 (by decide) (by decide) (hL 6 (by omega))
      have v49:At X 49=.pointer (some ⟨rg,2,none⟩):=hI.vals 7 (by decide) (by decide) (hL 7 (by omega))
      have v50:At X 50=.slice oa L vc:=hI.vals 8 (by decide) (by decide) (hL 8 (by omega))
      have v51:At X 51=.int .i64 (L:Int):=hI.vals 9 (by decide) (by decide) (hL 9 (by omega))
      have v52:At X 52=.pointer (some ⟨q,1,none⟩):=hI.vals 10 (by decide) (by decide) (hL 10 (by omega))
      have v53:At X 53=.slice (some ⟨gk,0,none⟩) k ck:=hI.vals 11 (by decide) (by decide) (hL 11 (by omega))
      have v54:At X 54=.int .i64 (k:Int):=hI.vals 12 (by decide) (by decide) (hL 12 (by omega))
      have v55:At X 55=.int .i64 (cut:Int):=hI.vals 13 (by decide) (by decide) (hL 13 (by omega))
      have v56:At X 56=.slice oa cut vc:=hI.vals 14 (by decide) (by decide) (hL 14 (by omega))
      have v57:At X 57=.slice (some ⟨g2,0,none⟩) cut c2:=hI.vals 15 (by decide) (by decide) (hL 15 (by omega))
      have v58:At X 58=.int .u32 (m:Int):=hI.vals 16 (by decide) (by decide) (hL 16 (by omega))
      have v59:At X 59=.slice (some ⟨g9,0,none⟩) 1 1:=hI.vals 17 (by decide) (by decide) (hL 17 (by omega))
      have v60:At X 60=.slice (some ⟨g3,0,none⟩) (cut+1) c3:=hI.vals 18 (by decide) (by decide) (hL 18 (by omega))
      have v61:At X 61=.pointer (some ⟨rg,0,none⟩):=hI.vals 19 (by decide) (by decide) (hL 19 (by omega))
      have v62:At X 62=.pointer (some ⟨rg,2,none⟩):=hI.vals 20 (by decide) (by decide) (hL 20 (by omega))
      have hm:=hI.mem
      clear hI
      rw[List.foldl_cons,List.foldl_cons,List.foldl_cons,List.foldl_cons,List.foldl_cons,List.foldl_cons,List.foldl_cons,List.foldl_cons,List.foldl_cons,List.foldl_cons,List.foldl_cons,List.foldl_cons,List.foldl_cons,List.foldl_cons,List.foldl_cons,List.foldl_cons,List.foldl_cons,List.foldl_cons,List.foldl_cons,List.foldl_cons,List.foldl_cons,List.foldl_nil,v42,v43,v44,v45,v46,v47,v48,v49,v50,v51,v52,v53,v54,v55,v56,v57,v58,v59,v60,v61,v62]at hform
      clear v42 v43 v44 v45 v46 v47 v48 v49 v50 v51 v52 v53 v54 v55 v56 v57 v58 v59 v60 v61 v62
      subst hform
      obtain⟨W',ht',hown',hWW⟩:=hm.st (hL 21 (by omega))
      have HN':Hid (NewS w1 W' g3 c3 (r.own.take cut++[m])):=hid (QbA hown' (RIgrown ht') (Nat.le_refl _) (by unfold ints;rw[List.map_append];rfl))
      have HX:Hid (DoX w0 w v r a (.returned (.tuple #[.int .u32 (m:Int),.int .i64 0])) W):=hid (by
        have h1:=HR1.out.setOwn HN'.out
        have e9:(r.own.take cut++[m]).length=cut+1:=by rw[List.length_append,List.length_take];have:[m].length=1:=rfl;have:=HLL.out;omega
        rw[HE1.out,e9,←hWW]at h1
        have h2:DoR a r m 0 _:=.Qr m l (by rw[HKK.out];decide) HPF.out.1 HPF.out.2.1 HPF.out.2.2
        rw[HCU.out]at h2
        exact⟨m,0,_,rfl,h2,RnOp.back HG0.out (RnOp.back HG03.out (RnOp.trans HTT.out.1 HTT.out.2.1 HTT.out.2.2.1 HTT.out.2.2.2 h1))⟩)
      clear hm hL hown' ht' hWW k1 k2 z0 kq z2 hbox HOW hslu hwc
      go_wp2
      go_ret2
      exact HX.out
theorem do_put1 (h:RnM w0 w v r) (hk:RnOk r T) (hT:T≤1000) (a:AcT) (ha:AcOk a) (hK:pick a.kind 10=1):Calls Tryz.prog 39 #[.pointer (some ⟨v.rg,0,none⟩),.agg (acV a)] w (DoX w0 w v r a):=by
  have hlen:=hk.len
  have hg0:=Qb w (.cells (acV a) 64)
  have hb0:=heap_alloc_new w (.cells (acV a) 64)
  obtain⟨W0,hW0⟩:∃X,w.alloc (.cells (acV a) 64)=X:=⟨_,rfl⟩
  rw[hW0]at hg0 hb0
  have HW0:=hid hW0
  have HG0:=hid hg0
  have HB0:=hid hb0
  have HR0:=hid (h.go hg0)
  have HK:=hid hk
  have HA:=hid ha
  have b0:W0.cell? ⟨w.heap.size,0,none⟩=some (.int .i64 a.kind):=by rw[cell_of_row _ _ _ _ _ _ hb0];rfl
  have b3:W0.cell? ⟨w.heap.size,3,none⟩=some (.int .i64 a.n):=by rw[cell_of_row _ _ _ _ _ _ hb0];rfl
  have HPI:=hid (QB (h.go hg0) a.n (by omega))
  have HPK:Hid (Calls Tryz.prog 40 #[.int .i64 a.kind,.int .i64 10] W0 fun e w'=>e=.returned (.int .i64 1)∧W0=w'):=hid (by
    have h1:=QD a.kind 10 W0 (by omega) (by omega)
    rw[hK]at h1
    exact h1)
  have HKK:=hid hK
  obtain⟨rg,e1⟩:∃q,v.rg=q:=⟨_,rfl⟩
  have HRG:=hid e1
  rw[e1]at HPI ⊢
  obtain⟨I,hI⟩:∃I,idxV a.n r.own=I:=⟨_,rfl⟩
  rw[hI]at HPI
  have HII:=hid hI
  clear hI
  have HPGE:=hid (page_any HR0.out a ha (by omega))
  rw[e1]at HPGE
  have HPO:=hid (hk.pg ha).1
  have HKL:=hid (Qdd (a:=a) r.own)
  have HKLE:=hid (QbL (a:=a) r.own)
  have c1:=HR0.out.box.cells.2.1
  have c2:=HR0.out.box.cells.2.2.1
  have bR:W0.heap[w.heap.size]?=some (.cells (acV a) 64 (0,0)):=hb0
  obtain⟨sg,e2⟩:∃q,v.x.sg=q:=⟨_,rfl⟩
  have HSG:=hid e2
  rw[e1,e2]at c1
  rw[e1]at c2
  have hrgn:¬v.x.fp rg:=by rw[←e1];exact HR0.out.rgn
  have hrgl:rg<W0.heap.size:=by rw[←e1];exact block_lt HR0.out.box
  have HDLEN:Hid ((actPg a r.own).data.length≤1000000000):=hid (by show a.data.length≤_;have:=ha.len;omega)
  obtain⟨L,hL⟩:∃q,r.own.length=q:=⟨_,rfl⟩
  obtain⟨oa,hoa⟩:∃q,v.oa=q:=⟨_,rfl⟩
  obtain⟨vc,hvc⟩:∃q,v.oc=q:=⟨_,rfl⟩
  rw[hL,hoa,hvc]at c2
  have HLL:=hid hL
  have b1:W0.cell? ⟨w.heap.size,1,none⟩=some (.int .u8 a.tag):=by rw[cell_of_row _ _ _ _ _ _ hb0];rfl
  have b2:W0.cell? ⟨w.heap.size,2,none⟩=some (.int .i64 a.kids):=by rw[cell_of_row _ _ _ _ _ _ hb0];rfl
  have b4:W0.cell? ⟨w.heap.size,4,none⟩=some (.string (strOfNums a.data)):=by rw[cell_of_row _ _ _ _ _ _ hb0];rfl
  clear e2 hL bR
  clear h hg0 hb0 hW0 hK e1 hk
  go_enter Tryz.func39,Tryz.ntmps39
  go_upto_region 1 with fail
  rw[HW0.out]
  go_upto_region 6 with (first|(go_at_call 37;refine HPI.out.mono ?_;rintro e w' ⟨rfl,rfl⟩)|(go_at_call 40;refine HPK.out.mono ?_;rintro e w' ⟨rfl,rfl⟩)|fail)
  clear HPI HPK
  go_wp2_with fail
  refine HPGE.out.mono ?_
  rintro e w2 ⟨gk,ck,rfl,hseg2,hgl2,hg2⟩
  have HPUT:=hid (fun W (hW:w2.grownBy W none)=>Qem ((HR0.out.sp.go hg2).go hW) HK.out.sp hT (actPg a r.own) (some ⟨gk,0,none⟩) ck HPO.out (hseg2.grown hW) HDLEN.out)
  obtain⟨tg,htg⟩:∃q,(actPg a r.own).tag=q:=⟨_,rfl⟩
  obtain⟨S,hS⟩:∃q,strOfNums (actPg a r.own).data=q:=⟨_,rfl⟩
  obtain⟨k,hk⟩:∃q,(actPg a r.own).kids.length=q:=⟨_,rfl⟩
  unfold pgV
  rw[htg,hS,hk]
  rw[htg,hS,hk,HSG.out]at HPUT
  have HKK2:=hid hk
  have HG2:=hid hg2
  have hz2:=hg2.size
  have c1:=hg2.cell c1 (by simp)
  have c2:=hg2.cell c2 (by simp)
  clear hseg2 htg hS hk hg2 b0 b1 b2 b3 b4 HPGE
  dsimp only
  go_upto_region 7 with fail
  have hb3:=heap_alloc_new w2 (.cells #[.int .u8 tg,.slice (some ⟨gk,0,none⟩) k ck,.string S] 40)
  have hg3:=Qb w2 (.cells #[.int .u8 tg,.slice (some ⟨gk,0,none⟩) k ck,.string S] 40)
  obtain⟨W3,hW3⟩:∃X,w2.alloc (.cells #[.int .u8 tg,.slice (some ⟨gk,0,none⟩) k ck,.string S] 40)=X:=⟨_,rfl⟩
  rw[hW3]at hb3 hg3 ⊢
  obtain⟨q,hq⟩:∃q,w2.heap.size=q:=⟨_,rfl⟩
  rw[hq]at hb3 ⊢
  have HG3:=hid hg3
  have HG03:=hid (Qa HG2.out hg3)
  have HR3:=hid (HR0.out.go HG03.out)
  have q0:W3.cell? ⟨q,0,none⟩=some (.int .u8 tg):=by rw[cell_of_row _ _ _ _ _ _ hb3];rfl
  have q1:W3.cell? ⟨q,1,none⟩=some (.slice (some ⟨gk,0,none⟩) k ck):=by rw[cell_of_row _ _ _ _ _ _ hb3];rfl
  have q2:W3.cell? ⟨q,2,none⟩=some (.string S):=by rw[cell_of_row _ _ _ _ _ _ hb3];rfl
  have c1:=hg3.cell c1 (by simp)
  have c2:=hg3.cell c2 (by simp)
  have hqn:¬v.x.fp q:=fun z=>by have:=HR0.out.sp.lt z;omega
  clear hW3 hq hb3 hg3
  go_region_held3 (fun w'=>w'.cell? ⟨rg,1,none⟩=some (.pointer (some ⟨sg,0,none⟩))∧w'.cell? ⟨q,0,none⟩=some (.int .u8 tg)∧w'.cell? ⟨q,1,none⟩=some (.slice (some ⟨gk,0,none⟩) k ck)∧w'.cell? ⟨q,2,none⟩=some (.string S)) (go_keep)
    (first
      | (go_at_call 16
         (with_reducible refine(HPUT.out _ (Qa HG3.out (Qj W3))).mono ?_)
         rintro e w1 ⟨n,E,rfl,hpr,ht1⟩
         have HPR:Hid (PutR w0 W3 v.x r.s (actPg a r.own) n E w1):=hid (Qc6 (Qj W3) hpr)
         have HT1:Hid (Turn W3 w1 v.x.fp):=hid ((Turn.drew W3 _).trans ht1 (fun _ _ e=>e))
         have k1:=HT1.out.cell c1 hrgn
         have k2:=HT1.out.cell c2 hrgn
         have z0:=HT1.out.cell q0 hqn
         have kq:=HT1.out.cell q1 hqn
         have z2:=HT1.out.cell q2 hqn
         clear hpr ht1)
      |fail)
  rcases HPR.out with ⟨hE,hn0,hpe,ho⟩|⟨m,l,hE,hn0,hpe,hfr,hll,ho⟩
  · have qE:(E==0)=false:=beq_eq_false_iff_ne.2 hE
    subst hn0
    have HX:Hid (DoX w0 w v r a (.returned (.tuple #[.int .u32 0,.int .i64 E])) w1):=hid (by
      have h2:DoR a r 0 _ r:=.Qal (by rw[HKK.out];decide) (by rw[hpe];exact hE)
      rw[hpe]at h2
      exact⟨0,E,r,rfl,h2,RnOp.back HG0.out (RnOp.back HG03.out (HR3.out.step ho))⟩)
    clear hE hpe ho HPR k1 k2 z0 kq z2
    go_wp2
    go_ret2
    exact HX.out
  · subst hE hn0
    obtain⟨v1,hr1,hx1,hm1,ht1,hf1⟩:=HR3.out.step ho
    have HR1:=hid hm1
    have HTT:Hid (Turn W3 w1 v.fp∧v1.rg=v.rg∧v1.x.g=v.x.g∧∀k,v1.fp k→v.fp k∨W3.heap.size≤k):=hid ⟨ht1,hr1,hx1,hf1⟩
    have HE1:Hid (v1.rg=rg):=hid (hr1.trans HRG.out)
    have HPF:Hid (putErr r.s (actPg a r.own)=0∧frees r.s=m :: l∧r.s.sup.pages.length≤l.length):=hid ⟨hpe,hfr,hll⟩
    obtain⟨cut,hcut⟩:∃q,L-k=q:=⟨_,rfl⟩
    have hkl:k=actK a r.own:=HKK2.out.symm.trans HKL.out
    have hkle:=HKLE.out
    have hLl:=HLL.out
    have hLb:L≤1000:=by omega
    have hcl:cut≤L:=by omega
    have hwc:IntKind.i64.wrap ((L:Int)-(k:Int))=(cut:Int):=by rw[show(L:Int)-(k:Int)=(cut:Int) by omega];exact IntWalk.i64_in _ (by omega)
    have HCU:Hid (actCut a r.own=cut):=hid (by unfold actCut;omega)
    have hseg:=hm1.o
    have hc2:=hm1.box.cells.2.2.1
    rw[HE1.out,k2]at hc2
    have hes:oa=v1.oa∧L=r.own.length∧vc=v1.oc:=by injection hc2 with z;injection z with z1 z2 z3;exact⟨z1,z2,z3⟩
    rw[←hes.1,←hes.2.2]at hseg
    have hseg:Ws.Seg w1 oa L vc (ints r.own):=by have h9:=hseg;dsimp only at h9;rw[HLL.out]at h9;exact h9
    obtain⟨hslu,hsu⟩:=QcS cut hseg hcl
    have hsu:Ws.Seg w1 oa cut vc (ints (r.own.take cut)):=by have h9:=hsu;unfold ints at h9 ⊢;rw[List.map_take];exact h9
    have HOW:=hid (fun W (hW:w1.grownBy W none)=>QO oa cut vc (ints (r.own.take cut)) W (hsu.grown hW) (by omega))
    have hbox:=HR1.out.box
    rw[HE1.out]at hbox
    clear hr1 hx1 hm1 ht1 hf1 c1 c2 hseg hc2 hes hsu hpe hfr hll ho HPR HPUT q0 q1 q2
    go_upto_region 9 with fail
    refine QV               (I:=fun a0 LL X W=>∃g2 c2 g9 g3 c3,VI [42,43,44,45,46,47,48,49,50,51,52,53,54,55,56,57,58,59,60,61,62] [42,43,44,45,46,47,48,49,50,51,52,53,54,55,56,57,58,59,60,61,62,1000] (V9 rg oa L vc q gk k ck cut m g2 c2 g9 g3 c3) (fun LL W=>RI w1 rg cut 1 (ints (r.own.take cut)) [(m:Int)] 15 17 18 21 g2 c2 g9 g3 c3 LL W) a0 LL X W) (by kernel_rfl) (by kernel_rfl)
      ⟨0,0,0,0,0,VI.start 63 (by simp) (by decide) (RI.start rfl)⟩ ?_ ?_
    · show ∀i,i<22→_
      refine Qd (Qd (Qd (Qd (Qd (Qd (Qd (Qd (Qd (Qd (Qd (Qd (Qd (Qd (Qd (Qd (Qd (Qd (Qd (Qd (Qd (Qd all_nil ?r0) ?r1) ?r2) ?r3) ?r4) ?r5) ?r6) ?r7) ?r8) ?r9) ?r10) ?r11) ?r12) ?r13) ?r14) ?r15) ?r16) ?r17) ?r18) ?r19) ?r20) ?r21
      case r0=>
        refine StepAt.mk rfl (ns:=[]) (by kernel_rfl) rfl ?_
        intro LL X W h0 hn hI
        obtain⟨g2,c2,g9,g3,c3,hI⟩:=hI
        have e0:X.tmps[0]?.getD undef=.pointer (some ⟨rg,0,none⟩):=hI.old 0 (by decide)
        refine Qe (v:=.pointer (some ⟨rg,0,none⟩)) ?_ ⟨g2,c2,g9,g3,c3,hI.value (by decide) 0 (by decide) (by decide) rfl (hI.mem.keep (by decide) (by decide) (by decide) (by decide))⟩
        simp[go_sem,e0]
      case r1=>
        refine StepAt.mk rfl (ns:=[]) (by kernel_rfl) rfl ?_
        intro LL X W h0 hn hI
        obtain⟨g2,c2,g9,g3,c3,hI⟩:=hI
        have e0:X.tmps[0]?.getD undef=.pointer (some ⟨rg,0,none⟩):=hI.old 0 (by decide)
        refine Qe (v:=.pointer (some ⟨rg,0,none⟩)) ?_ ⟨g2,c2,g9,g3,c3,hI.value (by decide) 1 (by decide) (by decide) rfl (hI.mem.keep (by decide) (by decide) (by decide) (by decide))⟩
        simp[go_sem,e0]
      case r2=>
        refine StepAt.mk rfl (ns:=[1]) (by kernel_rfl) rfl ?_
        intro LL X W h0 hn hI
        obtain⟨g2,c2,g9,g3,c3,hI⟩:=hI
        have e43:X.tmps[43]?.getD undef=.pointer (some ⟨rg,0,none⟩):=hI.get 1 (by decide) (by decide) (hn 1 (by decide))
        refine Qe (v:=.pointer (some ⟨rg,0,none⟩)) ?_ ⟨g2,c2,g9,g3,c3,hI.value (by decide) 2 (by decide) (by decide) rfl (hI.mem.keep (by decide) (by decide) (by decide) (by decide))⟩
        simp[go_sem,e43]
      case r3=>
        refine StepAt.mk rfl (ns:=[2]) (by kernel_rfl) rfl ?_
        intro LL X W h0 hn hI
        obtain⟨g2,c2,g9,g3,c3,hI⟩:=hI
        have e44:X.tmps[44]?.getD undef=.pointer (some ⟨rg,0,none⟩):=hI.get 2 (by decide) (by decide) (hn 2 (by decide))
        refine Qe (v:=.pointer (some ⟨rg,2,none⟩)) ?_ ⟨g2,c2,g9,g3,c3,hI.value (by decide) 3 (by decide) (by decide) rfl (hI.mem.keep (by decide) (by decide) (by decide) (by decide))⟩
        simp[go_sem,e44]
      case r4=>
        refine StepAt.mk rfl (ns:=[3]) (by kernel_rfl) rfl ?_
        intro LL X W h0 hn hI
        obtain⟨g2,c2,g9,g3,c3,hI⟩:=hI
        have e45:X.tmps[45]?.getD undef=.pointer (some ⟨rg,2,none⟩):=hI.get 3 (by decide) (by decide) (hn 3 (by decide))
        have cc:=hI.mem.cell (hI.mem.before (by decide) h0) k2
        refine Qe (v:=.slice oa L vc) ?_ ⟨g2,c2,g9,g3,c3,hI.value (by decide) 4 (by decide) (by decide) rfl (hI.mem.keep (by decide) (by decide) (by decide) (by decide))⟩
        simp[go_sem,e45,cc]
      case r5=>
        refine StepAt.mk rfl (ns:=[]) (by kernel_rfl) rfl ?_
        intro LL X W h0 hn hI
        obtain⟨g2,c2,g9,g3,c3,hI⟩:=hI
        have e0:X.tmps[0]?.getD undef=.pointer (some ⟨rg,0,none⟩):=hI.old 0 (by decide)
        refine Qe (v:=.pointer (some ⟨rg,0,none⟩)) ?_ ⟨g2,c2,g9,g3,c3,hI.value (by decide) 5 (by decide) (by decide) rfl (hI.mem.keep (by decide) (by decide) (by decide) (by decide))⟩
        simp[go_sem,e0]
      case r6=>
        refine StepAt.mk rfl (ns:=[5]) (by kernel_rfl) rfl ?_
        intro LL X W h0 hn hI
        obtain⟨g2,c2,g9,g3,c3,hI⟩:=hI
        have e47:X.tmps[47]?.getD undef=.pointer (some ⟨rg,0,none⟩):=hI.get 5 (by decide) (by decide) (hn 5 (by decide))
        refine Qe (v:=.pointer (some ⟨rg,0,none⟩)) ?_ ⟨g2,c2,g9,g3,c3,hI.value (by decide) 6 (by decide) (by decide) rfl (hI.mem.keep (by decide) (by decide) (by decide) (by decide))⟩
        simp[go_sem,e47]
      case r7=>
        refine StepAt.mk rfl (ns:=[6]) (by kernel_rfl) rfl ?_
        intro LL X W h0 hn hI
        obtain⟨g2,c2,g9,g3,c3,hI⟩:=hI
        have e48:X.tmps[48]?.getD undef=.pointer (some ⟨rg,0,none⟩):=hI.get 6 (by decide) (by decide) (hn 6 (by decide))
        refine Qe (v:=.pointer (some ⟨rg,2,none⟩)) ?_ ⟨g2,c2,g9,g3,c3,hI.value (by decide) 7 (by decide) (by decide) rfl (hI.mem.keep (by decide) (by decide) (by decide) (by decide))⟩
        simp[go_sem,e48]
      case r8=>
        refine StepAt.mk rfl (ns:=[7]) (by kernel_rfl) rfl ?_
        intro LL X W h0 hn hI
        obtain⟨g2,c2,g9,g3,c3,hI⟩:=hI
        have e49:X.tmps[49]?.getD undef=.pointer (some ⟨rg,2,none⟩):=hI.get 7 (by decide) (by decide) (hn 7 (by decide))
        have cc:=hI.mem.cell (hI.mem.before (by decide) h0) k2
        refine Qe (v:=.slice oa L vc) ?_ ⟨g2,c2,g9,g3,c3,hI.value (by decide) 8 (by decide) (by decide) rfl (hI.mem.keep (by decide) (by decide) (by decide) (by decide))⟩
        simp[go_sem,e49,cc]
      case r9=>
        refine StepAt.mk rfl (ns:=[8]) (by kernel_rfl) rfl ?_
        intro LL X W h0 hn hI
        obtain⟨g2,c2,g9,g3,c3,hI⟩:=hI
        have e50:X.tmps[50]?.getD undef=.slice oa L vc:=hI.get 8 (by decide) (by decide) (hn 8 (by decide))
        refine Qe (v:=.int .i64 (L:Int)) ?_ ⟨g2,c2,g9,g3,c3,hI.value (by decide) 9 (by decide) (by decide) rfl (hI.mem.keep (by decide) (by decide) (by decide) (by decide))⟩
        simp[go_sem,e50]
      case r10=>
        refine StepAt.mk rfl (ns:=[]) (by kernel_rfl) rfl ?_
        intro LL X W h0 hn hI
        obtain⟨g2,c2,g9,g3,c3,hI⟩:=hI
        have e7:X.tmps[7]?.getD undef=.pointer (some ⟨q,0,none⟩):=hI.old 7 (by decide)
        refine Qe (v:=.pointer (some ⟨q,1,none⟩)) ?_ ⟨g2,c2,g9,g3,c3,hI.value (by decide) 10 (by decide) (by decide) rfl (hI.mem.keep (by decide) (by decide) (by decide) (by decide))⟩
        simp[go_sem,e7]
      case r11=>
        refine StepAt.mk rfl (ns:=[10]) (by kernel_rfl) rfl ?_
        intro LL X W h0 hn hI
        obtain⟨g2,c2,g9,g3,c3,hI⟩:=hI
        have e52:X.tmps[52]?.getD undef=.pointer (some ⟨q,1,none⟩):=hI.get 10 (by decide) (by decide) (hn 10 (by decide))
        have cc:=hI.mem.cell (hI.mem.before (by decide) h0) kq
        refine Qe (v:=.slice (some ⟨gk,0,none⟩) k ck) ?_ ⟨g2,c2,g9,g3,c3,hI.value (by decide) 11 (by decide) (by decide) rfl (hI.mem.keep (by decide) (by decide) (by decide) (by decide))⟩
        simp[go_sem,e52,cc]
      case r12=>
        refine StepAt.mk rfl (ns:=[11]) (by kernel_rfl) rfl ?_
        intro LL X W h0 hn hI
        obtain⟨g2,c2,g9,g3,c3,hI⟩:=hI
        have e53:X.tmps[53]?.getD undef=.slice (some ⟨gk,0,none⟩) k ck:=hI.get 11 (by decide) (by decide) (hn 11 (by decide))
        refine Qe (v:=.int .i64 (k:Int)) ?_ ⟨g2,c2,g9,g3,c3,hI.value (by decide) 12 (by decide) (by decide) rfl (hI.mem.keep (by decide) (by decide) (by decide) (by decide))⟩
        simp[go_sem,e53]
      case r13=>
        refine StepAt.mk rfl (ns:=[9,12]) (by kernel_rfl) rfl ?_
        intro LL X W h0 hn hI
        obtain⟨g2,c2,g9,g3,c3,hI⟩:=hI
        have e51:X.tmps[51]?.getD undef=.int .i64 (L:Int):=hI.get 9 (by decide) (by decide) (hn 9 (by decide))
        have e54:X.tmps[54]?.getD undef=.int .i64 (k:Int):=hI.get 12 (by decide) (by decide) (hn 12 (by decide))
        refine Qe (v:=.int .i64 (cut:Int)) ?_ ⟨g2,c2,g9,g3,c3,hI.value (by decide) 13 (by decide) (by decide) rfl (hI.mem.keep (by decide) (by decide) (by decide) (by decide))⟩
        simp[go_sem,e51,e54,hwc]
      case r14=>
        refine StepAt.mk rfl (ns:=[4,13]) (by kernel_rfl) rfl ?_
        intro LL X W h0 hn hI
        obtain⟨g2,c2,g9,g3,c3,hI⟩:=hI
        have e46:X.tmps[46]?.getD undef=.slice oa L vc:=hI.get 4 (by decide) (by decide) (hn 4 (by decide))
        have e55:X.tmps[55]?.getD undef=.int .i64 (cut:Int):=hI.get 13 (by decide) (by decide) (hn 13 (by decide))
        refine Qe (v:=.slice oa cut vc) ?_ ⟨g2,c2,g9,g3,c3,hI.value (by decide) 14 (by decide) (by decide) rfl (hI.mem.keep (by decide) (by decide) (by decide) (by decide))⟩
        simp[go_sem,e46,e55,hslu]
      case r15=>
        refine StepAt.mk rfl (ns:=[14]) (by kernel_rfl) rfl ?_
        intro LL X W h0 hn hI
        obtain⟨g2,c2,g9,g3,c3,hI⟩:=hI
        have e56:X.tmps[56]?.getD undef=.slice oa cut vc:=hI.get 14 (by decide) (by decide) (hn 14 (by decide))
        refine QaV (f:=36) (vs:=#[.slice oa cut vc]) (R:=fun e w2=>∃g c,e=.returned (.slice (some ⟨g,0,none⟩) cut c)∧w2.ownsRow W.heap.size 35 1 (.slice (some ⟨g,0,none⟩) cut c) cut ((ints (r.own.take cut)).map (Value.int .u32))∧W.grownBy w2 none) ?_ (HOW.out W (RIgrown (hI.mem.gr (hI.mem.before (by decide) h0)))) ?_
        · simp[go_sem,e56]
        · rintro e w2 ⟨g,c,rfl,hown,hg⟩
          exact⟨_,rfl,g,c,g9,g3,c3,VI.nxt hI (fun j hl=>V9_o _ _ j (fun e=>by rw[e,h0]at hl;cases hl)) (by decide) 15 (by decide) (by decide) rfl (hI.mem.owned (by decide) (by decide) (by decide) h0 hown hg)⟩
      case r16=>
        refine StepAt.mk rfl (ns:=[]) (by kernel_rfl) rfl ?_
        intro LL X W h0 hn hI
        obtain⟨g2,c2,g9,g3,c3,hI⟩:=hI
        have e8:X.tmps[8]?.getD undef=.int .u32 (m:Int):=hI.old 8 (by decide)
        refine Qe (v:=.int .u32 (m:Int)) ?_ ⟨g2,c2,g9,g3,c3,hI.value (by decide) 16 (by decide) (by decide) rfl (hI.mem.keep (by decide) (by decide) (by decide) (by decide))⟩
        simp[go_sem,e8]
      case r17=>
        refine StepAt.mk rfl (ns:=[16]) (by kernel_rfl) rfl ?_
        intro LL X W h0 hn hI
        obtain⟨g2,c2,g9,g3,c3,hI⟩:=hI
        have e58:X.tmps[58]?.getD undef=.int .u32 (m:Int):=hI.get 16 (by decide) (by decide) (hn 16 (by decide))
        refine QaD (v:=.slice (some ⟨W.heap.size,0,none⟩) 1 1) (w':=W.alloc (.cells #[.int .u32 (m:Int)] 35)) ?_ ⟨g2,c2,W.heap.size,g3,c3,VI.nxt hI (fun j hl=>V9_b _ j (fun e=>by rw[e,h0]at hl;cases hl)) (by decide) 17 (by decide) (by decide) rfl (hI.mem.made (by decide) (by decide) (by decide) (by decide) h0)⟩
        simp[go_sem,e58]
      case r18=>
        refine StepAt.mk rfl (ns:=[15,17,15]) (by kernel_rfl) rfl ?_
        intro LL X W h0 hn hI
        obtain⟨g2,c2,g9,g3,c3,hI⟩:=hI
        have e57:X.tmps[57]?.getD undef=.slice (some ⟨g2,0,none⟩) cut c2:=hI.get 15 (by decide) (by decide) (hn 15 (by decide))
        have e59:X.tmps[59]?.getD undef=.slice (some ⟨g9,0,none⟩) 1 1:=hI.get 17 (by decide) (by decide) (hn 17 (by decide))
        have hbz:w1.heap.size≤W.heap.size:=(hI.mem.gr (hI.mem.noS h0)).size
        obtain⟨g',c',w',hap,hown,hgr⟩:=append32 W w1.heap.size g2 c2 cut (ints (r.own.take cut)) (hI.mem.own (hn 15 (by decide)) h0) ⟨g9,0,none⟩ 1 1 ([(m:Int)]) (hI.mem.lit (hn 17 (by decide)) h0) (by omega) hbz
        refine QaD (v:=.slice (some ⟨g',0,none⟩) (cut+1) c') (w':=w') ?_ ⟨g2,c2,g9,g',c',VI.nxt hI (fun j hl=>V9_c _ _ j (fun e=>by rw[e,h0]at hl;cases hl)) (by decide) 18 (by decide) (by decide) rfl (hI.mem.appended (by decide) h0 (hn 15 (by decide)) (fun _=>hn 17 (by decide)) hown hgr)⟩
        exact Qaz ⟨rfl,rfl⟩ e57 e59 hap
      case r19=>
        refine StepAt.mk rfl (ns:=[0,0,1,2,3,4,5,6,7,8,9,10,11,12,13,14,15,16,17,18]) (by kernel_rfl) rfl ?_
        intro LL X W h0 hn hI
        obtain⟨g2,c2,g9,g3,c3,hI⟩:=hI
        have e42:X.tmps[42]?.getD undef=.pointer (some ⟨rg,0,none⟩):=hI.get 0 (by decide) (by decide) (hn 0 (by decide))
        refine Qe (v:=.pointer (some ⟨rg,0,none⟩)) ?_ ⟨g2,c2,g9,g3,c3,hI.value (by decide) 19 (by decide) (by decide) rfl (hI.mem.keep (by decide) (by decide) (by decide) (by decide))⟩
        simp[go_sem,e42]
      case r20=>
        refine StepAt.mk rfl (ns:=[19,0,1,2,3,4,5,6,7,8,9,10,11,12,13,14,15,16,17,18]) (by kernel_rfl) rfl ?_
        intro LL X W h0 hn hI
        obtain⟨g2,c2,g9,g3,c3,hI⟩:=hI
        have e61:X.tmps[61]?.getD undef=.pointer (some ⟨rg,0,none⟩):=hI.get 19 (by decide) (by decide) (hn 19 (by decide))
        refine Qe (v:=.pointer (some ⟨rg,2,none⟩)) ?_ ⟨g2,c2,g9,g3,c3,hI.value (by decide) 20 (by decide) (by decide) rfl (hI.mem.keep (by decide) (by decide) (by decide) (by decide))⟩
        simp[go_sem,e61]
      case r21=>
        refine StepAt.mk rfl (ns:=[20,18,18,0,1,2,3,4,5,6,7,8,9,10,11,12,13,14,15,16,17,18]) (by kernel_rfl) rfl ?_
        intro LL X W h0 hn hI
        obtain⟨g2,c2,g9,g3,c3,hI⟩:=hI
        have e60:X.tmps[60]?.getD undef=.slice (some ⟨g3,0,none⟩) (cut+1) c3:=hI.get 18 (by decide) (by decide) (hn 18 (by decide))
        have e62:X.tmps[62]?.getD undef=.pointer (some ⟨rg,2,none⟩):=hI.get 20 (by decide) (by decide) (hn 20 (by decide))
        refine QaO rfl (.tmp 62) (.tmp 60) rfl rg (hI.vals 20 (by decide) (by decide) (hn 20 (by decide))) _ _ _ (hI.vals 18 (by decide) (by decide) (hn 18 (by decide))) (boxAt hI.mem h0 hbox) ⟨g2,c2,g9,g3,c3,hI.other 21 (by decide) (hI.mem.stored h0 (hn 18 (by decide)) (fun j hj=>hn j (by revert hj;revert j;decide)))⟩
    · intro LL X W hL hI
      replace hL:∀i,i<22→LL i=true:=hL
      obtain⟨g2,c2,g9,g3,c3,hI⟩:=hI
      have hform:=hI.agr.form
      have v42:At X 42=.pointer (some ⟨rg,0,none⟩):=hI.vals 0 (by decide) (by decide) (hL 0 (by omega))
      have v43:At X 43=.pointer (some ⟨rg,0,none⟩):=hI.vals 1 (by decide) (by decide) (hL 1 (by omega))
      have v44:At X 44=.pointer (some ⟨rg,0,none⟩):=hI.vals 2 (by decide) (by decide) (hL 2 (by omega))
      have v45:At X 45=.pointer (some ⟨rg,2,none⟩):=hI.vals 3 (by decide) (by decide) (hL 3 (by omega))
      have v46:At X 46=.slice oa L vc:=hI.vals 4 (by decide) (by decide) (hL 4 (by omega))
      have v47:At X 47=.pointer (some ⟨rg,0,none⟩):=hI.vals 5 (by decide) (by decide) (hL 5 (by omega))
      have v48:At X 48=.pointer (some ⟨rg,0,none⟩):=hI.vals 6 (by decide) (by decide) (hL 6 (by omega))
      have v49:At X 49=.pointer (some ⟨rg,2,none⟩):=hI.vals 7 (by decide) (by decide) (hL 7 (by omega))
      have v50:At X 50=.slice oa L vc:=hI.vals 8 (by decide) (by decide) (hL 8 (by omega))
      have v51:At X 51=.int .i64 (L:Int):=hI.vals 9 (by decide) (by decide) (hL 9 (by omega))
      have v52:At X 52=.pointer (some ⟨q,1,none⟩):=hI.vals 10 (by decide) (by decide) (hL 10 (by omega))
      have v53:At X 53=.slice (some ⟨gk,0,none⟩) k ck:=hI.vals 11 (by decide) (by decide) (hL 11 (by omega))
      have v54:At X 54=.int .i64 (k:Int):=hI.vals 12 (by decide) (by decide) (hL 12 (by omega))
      have v55:At X 55=.int .i64 (cut:Int):=hI.vals 13 (by decide) (by decide) (hL 13 (by omega))
      have v56:At X 56=.slice oa cut vc:=hI.vals 14 (by decide) (by decide) (hL 14 (by omega))
      have v57:At X 57=.slice (some ⟨g2,0,none⟩) cut c2:=hI.vals 15 (by decide) (by decide) (hL 15 (by omega))
      have v58:At X 58=.int .u32 (m:Int):=hI.vals 16 (by decide) (by decide) (hL 16 (by omega))
      have v59:At X 59=.slice (some ⟨g9,0,none⟩) 1 1:=hI.vals 17 (by decide) (by decide) (hL 17 (by omega))
      have v60:At X 60=.slice (some ⟨g3,0,none⟩) (cut+1) c3:=hI.vals 18 (by decide) (by decide) (hL 18 (by omega))
      have v61:At X 61=.pointer (some ⟨rg,0,none⟩):=hI.vals 19 (by decide) (by decide) (hL 19 (by omega))
      have v62:At X 62=.pointer (some ⟨rg,2,none⟩):=hI.vals 20 (by decide) (by decide) (hL 20 (by omega))
      have hm:=hI.mem
      clear hI
      rw[List.foldl_cons,List.foldl_cons,List.foldl_cons,List.foldl_cons,List.foldl_cons,List.foldl_cons,List.foldl_cons,List.foldl_cons,List.foldl_cons,List.foldl_cons,List.foldl_cons,List.foldl_cons,List.foldl_cons,List.foldl_cons,List.foldl_cons,List.foldl_cons,List.foldl_cons,List.foldl_cons,List.foldl_cons,List.foldl_cons,List.foldl_cons,List.foldl_nil,v42,v43,v44,v45,v46,v47,v48,v49,v50,v51,v52,v53,v54,v55,v56,v57,v58,v59,v60,v61,v62]at hform
      clear v42 v43 v44 v45 v46 v47 v48 v49 v50 v51 v52 v53 v54 v55 v56 v57 v58 v59 v60 v61 v62
      subst hform
      obtain⟨W',ht',hown',hWW⟩:=hm.st (hL 21 (by omega))
      have HN':Hid (NewS w1 W' g3 c3 (r.own.take cut++[m])):=hid (QbA hown' (RIgrown ht') (Nat.le_refl _) (by unfold ints;rw[List.map_append];rfl))
      have HX:Hid (DoX w0 w v r a (.returned (.tuple #[.int .u32 (m:Int),.int .i64 0])) W):=hid (by
        have h1:=HR1.out.setOwn HN'.out
        have e9:(r.own.take cut++[m]).length=cut+1:=by rw[List.length_append,List.length_take];have:[m].length=1:=rfl;have:=HLL.out;omega
        rw[HE1.out,e9,←hWW]at h1
        have h2:DoR a r m 0 _:=.Qr m l (by rw[HKK.out];decide) HPF.out.1 HPF.out.2.1 HPF.out.2.2
        rw[HCU.out]at h2
        exact⟨m,0,_,rfl,h2,RnOp.back HG0.out (RnOp.back HG03.out (RnOp.trans HTT.out.1 HTT.out.2.1 HTT.out.2.2.1 HTT.out.2.2.2 h1))⟩)
      clear hm hL hown' ht' hWW k1 k2 z0 kq z2 hbox HOW hslu hwc
      go_wp2
      go_ret2
      exact HX.out
theorem do_put2 (h:RnM w0 w v r) (hk:RnOk r T) (hT:T≤1000) (a:AcT) (ha:AcOk a) (hK:pick a.kind 10=2):Calls Tryz.prog 39 #[.pointer (some ⟨v.rg,0,none⟩),.agg (acV a)] w (DoX w0 w v r a):=by
  have hlen:=hk.len
  have hg0:=Qb w (.cells (acV a) 64)
  have hb0:=heap_alloc_new w (.cells (acV a) 64)
  obtain⟨W0,hW0⟩:∃X,w.alloc (.cells (acV a) 64)=X:=⟨_,rfl⟩
  rw[hW0]at hg0 hb0
  have HW0:=hid hW0
  have HG0:=hid hg0
  have HB0:=hid hb0
  have HR0:=hid (h.go hg0)
  have HK:=hid hk
  have HA:=hid ha
  have b0:W0.cell? ⟨w.heap.size,0,none⟩=some (.int .i64 a.kind):=by rw[cell_of_row _ _ _ _ _ _ hb0];rfl
  have b3:W0.cell? ⟨w.heap.size,3,none⟩=some (.int .i64 a.n):=by rw[cell_of_row _ _ _ _ _ _ hb0];rfl
  have HPI:=hid (QB (h.go hg0) a.n (by omega))
  have HPK:Hid (Calls Tryz.prog 40 #[.int .i64 a.kind,.int .i64 10] W0 fun e w'=>e=.returned (.int .i64 2)∧W0=w'):=hid (by
    have h1:=QD a.kind 10 W0 (by omega) (by omega)
    rw[hK]at h1
    exact h1)
  have HKK:=hid hK
  obtain⟨rg,e1⟩:∃q,v.rg=q:=⟨_,rfl⟩
  have HRG:=hid e1
  rw[e1]at HPI ⊢
  obtain⟨I,hI⟩:∃I,idxV a.n r.own=I:=⟨_,rfl⟩
  rw[hI]at HPI
  have HII:=hid hI
  clear hI
  have HPGE:=hid (page_any HR0.out a ha (by omega))
  rw[e1]at HPGE
  have HPO:=hid (hk.pg ha).1
  have HKL:=hid (Qdd (a:=a) r.own)
  have HKLE:=hid (QbL (a:=a) r.own)
  have c1:=HR0.out.box.cells.2.1
  have c2:=HR0.out.box.cells.2.2.1
  have bR:W0.heap[w.heap.size]?=some (.cells (acV a) 64 (0,0)):=hb0
  obtain⟨sg,e2⟩:∃q,v.x.sg=q:=⟨_,rfl⟩
  have HSG:=hid e2
  rw[e1,e2]at c1
  rw[e1]at c2
  have hrgn:¬v.x.fp rg:=by rw[←e1];exact HR0.out.rgn
  have hrgl:rg<W0.heap.size:=by rw[←e1];exact block_lt HR0.out.box
  have HDLEN:Hid ((actPg a r.own).data.length≤1000000000):=hid (by show a.data.length≤_;have:=ha.len;omega)
  obtain⟨L,hL⟩:∃q,r.own.length=q:=⟨_,rfl⟩
  obtain⟨oa,hoa⟩:∃q,v.oa=q:=⟨_,rfl⟩
  obtain⟨vc,hvc⟩:∃q,v.oc=q:=⟨_,rfl⟩
  rw[hL,hoa,hvc]at c2
  have HLL:=hid hL
  have b1:W0.cell? ⟨w.heap.size,1,none⟩=some (.int .u8 a.tag):=by rw[cell_of_row _ _ _ _ _ _ hb0];rfl
  have b2:W0.cell? ⟨w.heap.size,2,none⟩=some (.int .i64 a.kids):=by rw[cell_of_row _ _ _ _ _ _ hb0];rfl
  have b4:W0.cell? ⟨w.heap.size,4,none⟩=some (.string (strOfNums a.data)):=by rw[cell_of_row _ _ _ _ _ _ hb0];rfl
  clear e2 hL bR
  clear h hg0 hb0 hW0 hK e1 hk
  go_enter Tryz.func39,Tryz.ntmps39
  go_upto_region 1 with fail
  rw[HW0.out]
  go_upto_region 6 with (first|(go_at_call 37;refine HPI.out.mono ?_;rintro e w' ⟨rfl,rfl⟩)|(go_at_call 40;refine HPK.out.mono ?_;rintro e w' ⟨rfl,rfl⟩)|fail)
  clear HPI HPK
  go_wp2_with fail
  refine HPGE.out.mono ?_
  rintro e w2 ⟨gk,ck,rfl,hseg2,hgl2,hg2⟩
  have HPUT:=hid (fun W (hW:w2.grownBy W none)=>Qem ((HR0.out.sp.go hg2).go hW) HK.out.sp hT (actPg a r.own) (some ⟨gk,0,none⟩) ck HPO.out (hseg2.grown hW) HDLEN.out)
  obtain⟨tg,htg⟩:∃q,(actPg a r.own).tag=q:=⟨_,rfl⟩
  obtain⟨S,hS⟩:∃q,strOfNums (actPg a r.own).data=q:=⟨_,rfl⟩
  obtain⟨k,hk⟩:∃q,(actPg a r.own).kids.length=q:=⟨_,rfl⟩
  unfold pgV
  rw[htg,hS,hk]
  rw[htg,hS,hk,HSG.out]at HPUT
  have HKK2:=hid hk
  have HG2:=hid hg2
  have hz2:=hg2.size
  have c1:=hg2.cell c1 (by simp)
  have c2:=hg2.cell c2 (by simp)
  clear hseg2 htg hS hk hg2 b0 b1 b2 b3 b4 HPGE
  dsimp only
  go_upto_region 7 with fail
  have hb3:=heap_alloc_new w2 (.cells #[.int .u8 tg,.slice (some ⟨gk,0,none⟩) k ck,.string S] 40)
  have hg3:=Qb w2 (.cells #[.int .u8 tg,.slice (some ⟨gk,0,none⟩) k ck,.string S] 40)
  obtain⟨W3,hW3⟩:∃X,w2.alloc (.cells #[.int .u8 tg,.slice (some ⟨gk,0,none⟩) k ck,.string S] 40)=X:=⟨_,rfl⟩
  rw[hW3]at hb3 hg3 ⊢
  obtain⟨q,hq⟩:∃q,w2.heap.size=q:=⟨_,rfl⟩
  rw[hq]at hb3 ⊢
  have HG3:=hid hg3
  have HG03:=hid (Qa HG2.out hg3)
  have HR3:=hid (HR0.out.go HG03.out)
  have q0:W3.cell? ⟨q,0,none⟩=some (.int .u8 tg):=by rw[cell_of_row _ _ _ _ _ _ hb3];rfl
  have q1:W3.cell? ⟨q,1,none⟩=some (.slice (some ⟨gk,0,none⟩) k ck):=by rw[cell_of_row _ _ _ _ _ _ hb3];rfl
  have q2:W3.cell? ⟨q,2,none⟩=some (.string S):=by rw[cell_of_row _ _ _ _ _ _ hb3];rfl
  have c1:=hg3.cell c1 (by simp)
  have c2:=hg3.cell c2 (by simp)
  have hqn:¬v.x.fp q:=fun z=>by have:=HR0.out.sp.lt z;omega
  clear hW3 hq hb3 hg3
  go_region_held3 (fun w'=>w'.cell? ⟨rg,1,none⟩=some (.pointer (some ⟨sg,0,none⟩))∧w'.cell? ⟨q,0,none⟩=some (.int .u8 tg)∧w'.cell? ⟨q,1,none⟩=some (.slice (some ⟨gk,0,none⟩) k ck)∧w'.cell? ⟨q,2,none⟩=some (.string S)) (go_keep)
    (first
      | (go_at_call 16
         (with_reducible refine(HPUT.out _ (Qa HG3.out (Qj W3))).mono ?_)
         rintro e w1 ⟨n,E,rfl,hpr,ht1⟩
         have HPR:Hid (PutR w0 W3 v.x r.s (actPg a r.own) n E w1):=hid (Qc6 (Qj W3) hpr)
         have HT1:Hid (Turn W3 w1 v.x.fp):=hid ((Turn.drew W3 _).trans ht1 (fun _ _ e=>e))
         have k1:=HT1.out.cell c1 hrgn
         have k2:=HT1.out.cell c2 hrgn
         have z0:=HT1.out.cell q0 hqn
         have kq:=HT1.out.cell q1 hqn
         have z2:=HT1.out.cell q2 hqn
         clear hpr ht1)
      |fail)
  rcases HPR.out with ⟨hE,hn0,hpe,ho⟩|⟨m,l,hE,hn0,hpe,hfr,hll,ho⟩
  · have qE:(E==0)=false:=beq_eq_false_iff_ne.2 hE
    subst hn0
    have HX:Hid (DoX w0 w v r a (.returned (.tuple #[.int .u32 0,.int .i64 E])) w1):=hid (by
      have h2:DoR a r 0 _ r:=.Qal (by rw[HKK.out];decide) (by rw[hpe];exact hE)
      rw[hpe]at h2
      exact⟨0,E,r,rfl,h2,RnOp.back HG0.out (RnOp.back HG03.out (HR3.out.step ho))⟩)
    clear hE hpe ho HPR k1 k2 z0 kq z2
    go_wp2
    go_ret2
    exact HX.out
  · subst hE hn0
    obtain⟨v1,hr1,hx1,hm1,ht1,hf1⟩:=HR3.out.step ho
    have HR1:=hid hm1
    have HTT:Hid (Turn W3 w1 v.fp∧v1.rg=v.rg∧v1.x.g=v.x.g∧∀k,v1.fp k→v.fp k∨W3.heap.size≤k):=hid ⟨ht1,hr1,hx1,hf1⟩
    have HE1:Hid (v1.rg=rg):=hid (hr1.trans HRG.out)
    have HPF:Hid (putErr r.s (actPg a r.own)=0∧frees r.s=m :: l∧r.s.sup.pages.length≤l.length):=hid ⟨hpe,hfr,hll⟩
    obtain⟨cut,hcut⟩:∃q,L-k=q:=⟨_,rfl⟩
    have hkl:k=actK a r.own:=HKK2.out.symm.trans HKL.out
    have hkle:=HKLE.out
    have hLl:=HLL.out
    have hLb:L≤1000:=by omega
    have hcl:cut≤L:=by omega
    have hwc:IntKind.i64.wrap ((L:Int)-(k:Int))=(cut:Int):=by rw[show(L:Int)-(k:Int)=(cut:Int) by omega];exact IntWalk.i64_in _ (by omega)
    have HCU:Hid (actCut a r.own=cut):=hid (by unfold actCut;omega)
    have hseg:=hm1.o
    have hc2:=hm1.box.cells.2.2.1
    rw[HE1.out,k2]at hc2
    have hes:oa=v1.oa∧L=r.own.length∧vc=v1.oc:=by injection hc2 with z;injection z with z1 z2 z3;exact⟨z1,z2,z3⟩
    rw[←hes.1,←hes.2.2]at hseg
    have hseg:Ws.Seg w1 oa L vc (ints r.own):=by have h9:=hseg;dsimp only at h9;rw[HLL.out]at h9;exact h9
    obtain⟨hslu,hsu⟩:=QcS cut hseg hcl
    have hsu:Ws.Seg w1 oa cut vc (ints (r.own.take cut)):=by have h9:=hsu;unfold ints at h9 ⊢;rw[List.map_take];exact h9
    have HOW:=hid (fun W (hW:w1.grownBy W none)=>QO oa cut vc (ints (r.own.take cut)) W (hsu.grown hW) (by omega))
    have hbox:=HR1.out.box
    rw[HE1.out]at hbox
    clear hr1 hx1 hm1 ht1 hf1 c1 c2 hseg hc2 hes hsu hpe hfr hll ho HPR HPUT q0 q1 q2
    go_upto_region 9 with fail
    refine QV               (I:=fun a0 LL X W=>∃g2 c2 g9 g3 c3,VI [42,43,44,45,46,47,48,49,50,51,52,53,54,55,56,57,58,59,60,61,62] [42,43,44,45,46,47,48,49,50,51,52,53,54,55,56,57,58,59,60,61,62,1000] (V9 rg oa L vc q gk k ck cut m g2 c2 g9 g3 c3) (fun LL W=>RI w1 rg cut 1 (ints (r.own.take cut)) [(m:Int)] 15 17 18 21 g2 c2 g9 g3 c3 LL W) a0 LL X W) (by kernel_rfl) (by kernel_rfl)
      ⟨0,0,0,0,0,VI.start 63 (by simp) (by decide) (RI.start rfl)⟩ ?_ ?_
    · show ∀i,i<22→_
      refine Qd (Qd (Qd (Qd (Qd (Qd (Qd (Qd (Qd (Qd (Qd (Qd (Qd (Qd (Qd (Qd (Qd (Qd (Qd (Qd (Qd (Qd all_nil ?r0) ?r1) ?r2) ?r3) ?r4) ?r5) ?r6) ?r7) ?r8) ?r9) ?r10) ?r11) ?r12) ?r13) ?r14) ?r15) ?r16) ?r17) ?r18) ?r19) ?r20) ?r21
      case r0=>
        refine StepAt.mk rfl (ns:=[]) (by kernel_rfl) rfl ?_
        intro LL X W h0 hn hI
        obtain⟨g2,c2,g9,g3,c3,hI⟩:=hI
        have e0:X.tmps[0]?.getD undef=.pointer (some ⟨rg,0,none⟩):=hI.old 0 (by decide)
        refine Qe (v:=.pointer (some ⟨rg,0,none⟩)) ?_ ⟨g2,c2,g9,g3,c3,hI.value (by decide) 0 (by decide) (by decide) rfl (hI.mem.keep (by decide) (by decide) (by decide) (by decide))⟩
        simp[go_sem,e0]
      case r1=>
        refine StepAt.mk rfl (ns:=[]) (by kernel_rfl) rfl ?_
        intro LL X W h0 hn hI
        obtain⟨g2,c2,g9,g3,c3,hI⟩:=hI
        have e0:X.tmps[0]?.getD undef=.pointer (some ⟨rg,0,none⟩):=hI.old 0 (by decide)
        refine Qe (v:=.pointer (some ⟨rg,0,none⟩)) ?_ ⟨g2,c2,g9,g3,c3,hI.value (by decide) 1 (by decide) (by decide) rfl (hI.mem.keep (by decide) (by decide) (by decide) (by decide))⟩
        simp[go_sem,e0]
      case r2=>
        refine StepAt.mk rfl (ns:=[1]) (by kernel_rfl) rfl ?_
        intro LL X W h0 hn hI
        obtain⟨g2,c2,g9,g3,c3,hI⟩:=hI
        have e43:X.tmps[43]?.getD undef=.pointer (some ⟨rg,0,none⟩):=hI.get 1 (by decide) (by decide) (hn 1 (by decide))
        refine Qe (v:=.pointer (some ⟨rg,0,none⟩)) ?_ ⟨g2,c2,g9,g3,c3,hI.value (by decide) 2 (by decide) (by decide) rfl (hI.mem.keep (by decide) (by decide) (by decide) (by decide))⟩
        simp[go_sem,e43]
      case r3=>
        refine StepAt.mk rfl (ns:=[2]) (by kernel_rfl) rfl ?_
        intro LL X W h0 hn hI
        obtain⟨g2,c2,g9,g3,c3,hI⟩:=hI
        have e44:X.tmps[44]?.getD undef=.pointer (some ⟨rg,0,none⟩):=hI.get 2 (by decide) (by decide) (hn 2 (by decide))
        refine Qe (v:=.pointer (some ⟨rg,2,none⟩)) ?_ ⟨g2,c2,g9,g3,c3,hI.value (by decide) 3 (by decide) (by decide) rfl (hI.mem.keep (by decide) (by decide) (by decide) (by decide))⟩
        simp[go_sem,e44]
      case r4=>
        refine StepAt.mk rfl (ns:=[3]) (by kernel_rfl) rfl ?_
        intro LL X W h0 hn hI
        obtain⟨g2,c2,g9,g3,c3,hI⟩:=hI
        have e45:X.tmps[45]?.getD undef=.pointer (some ⟨rg,2,none⟩):=hI.get 3 (by decide) (by decide) (hn 3 (by decide))
        have cc:=hI.mem.cell (hI.mem.before (by decide) h0) k2
        refine Qe (v:=.slice oa L vc) ?_ ⟨g2,c2,g9,g3,c3,hI.value (by decide) 4 (by decide) (by decide) rfl (hI.mem.keep (by decide) (by decide) (by decide) (by decide))⟩
        simp[go_sem,e45,cc]
      case r5=>
        refine StepAt.mk rfl (ns:=[]) (by kernel_rfl) rfl ?_
        intro LL X W h0 hn hI
        obtain⟨g2,c2,g9,g3,c3,hI⟩:=hI
        have e0:X.tmps[0]?.getD undef=.pointer (some ⟨rg,0,none⟩):=hI.old 0 (by decide)
        refine Qe (v:=.pointer (some ⟨rg,0,none⟩)) ?_ ⟨g2,c2,g9,g3,c3,hI.value (by decide) 5 (by decide) (by decide) rfl (hI.mem.keep (by decide) (by decide) (by decide) (by decide))⟩
        simp[go_sem,e0]
      case r6=>
        refine StepAt.mk rfl (ns:=[5]) (by kernel_rfl) rfl ?_
        intro LL X W h0 hn hI
        obtain⟨g2,c2,g9,g3,c3,hI⟩:=hI
        have e47:X.tmps[47]?.getD undef=.pointer (some ⟨rg,0,none⟩):=hI.get 5 (by decide) (by decide) (hn 5 (by decide))
        refine Qe (v:=.pointer (some ⟨rg,0,none⟩)) ?_ ⟨g2,c2,g9,g3,c3,hI.value (by decide) 6 (by decide) (by decide) rfl (hI.mem.keep (by decide) (by decide) (by decide) (by decide))⟩
        simp[go_sem,e47]
      case r7=>
        refine StepAt.mk rfl (ns:=[6]) (by kernel_rfl) rfl ?_
        intro LL X W h0 hn hI
        obtain⟨g2,c2,g9,g3,c3,hI⟩:=hI
        have e48:X.tmps[48]?.getD undef=.pointer (some ⟨rg,0,none⟩):=hI.get 6 (by decide) (by decide) (hn 6 (by decide))
        refine Qe (v:=.pointer (some ⟨rg,2,none⟩)) ?_ ⟨g2,c2,g9,g3,c3,hI.value (by decide) 7 (by decide) (by decide) rfl (hI.mem.keep (by decide) (by decide) (by decide) (by decide))⟩
        simp[go_sem,e48]
      case r8=>
        refine StepAt.mk rfl (ns:=[7]) (by kernel_rfl) rfl ?_
        intro LL X W h0 hn hI
        obtain⟨g2,c2,g9,g3,c3,hI⟩:=hI
        have e49:X.tmps[49]?.getD undef=.pointer (some ⟨rg,2,none⟩):=hI.get 7 (by decide) (by decide) (hn 7 (by decide))
        have cc:=hI.mem.cell (hI.mem.before (by decide) h0) k2
        refine Qe (v:=.slice oa L vc) ?_ ⟨g2,c2,g9,g3,c3,hI.value (by decide) 8 (by decide) (by decide) rfl (hI.mem.keep (by decide) (by decide) (by decide) (by decide))⟩
        simp[go_sem,e49,cc]
      case r9=>
        refine StepAt.mk rfl (ns:=[8]) (by kernel_rfl) rfl ?_
        intro LL X W h0 hn hI
        obtain⟨g2,c2,g9,g3,c3,hI⟩:=hI
        have e50:X.tmps[50]?.getD undef=.slice oa L vc:=hI.get 8 (by decide) (by decide) (hn 8 (by decide))
        refine Qe (v:=.int .i64 (L:Int)) ?_ ⟨g2,c2,g9,g3,c3,hI.value (by decide) 9 (by decide) (by decide) rfl (hI.mem.keep (by decide) (by decide) (by decide) (by decide))⟩
        simp[go_sem,e50]
      case r10=>
        refine StepAt.mk rfl (ns:=[]) (by kernel_rfl) rfl ?_
        intro LL X W h0 hn hI
        obtain⟨g2,c2,g9,g3,c3,hI⟩:=hI
        have e7:X.tmps[7]?.getD undef=.pointer (some ⟨q,0,none⟩):=hI.old 7 (by decide)
        refine Qe (v:=.pointer (some ⟨q,1,none⟩)) ?_ ⟨g2,c2,g9,g3,c3,hI.value (by decide) 10 (by decide) (by decide) rfl (hI.mem.keep (by decide) (by decide) (by decide) (by decide))⟩
        simp[go_sem,e7]
      case r11=>
        refine StepAt.mk rfl (ns:=[10]) (by kernel_rfl) rfl ?_
        intro LL X W h0 hn hI
        obtain⟨g2,c2,g9,g3,c3,hI⟩:=hI
        have e52:X.tmps[52]?.getD undef=.pointer (some ⟨q,1,none⟩):=hI.get 10 (by decide) (by decide) (hn 10 (by decide))
        have cc:=hI.mem.cell (hI.mem.before (by decide) h0) kq
        refine Qe (v:=.slice (some ⟨gk,0,none⟩) k ck) ?_ ⟨g2,c2,g9,g3,c3,hI.value (by decide) 11 (by decide) (by decide) rfl (hI.mem.keep (by decide) (by decide) (by decide) (by decide))⟩
        simp[go_sem,e52,cc]
      case r12=>
        refine StepAt.mk rfl (ns:=[11]) (by kernel_rfl) rfl ?_
        intro LL X W h0 hn hI
        obtain⟨g2,c2,g9,g3,c3,hI⟩:=hI
        have e53:X.tmps[53]?.getD undef=.slice (some ⟨gk,0,none⟩) k ck:=hI.get 11 (by decide) (by decide) (hn 11 (by decide))
        refine Qe (v:=.int .i64 (k:Int)) ?_ ⟨g2,c2,g9,g3,c3,hI.value (by decide) 12 (by decide) (by decide) rfl (hI.mem.keep (by decide) (by decide) (by decide) (by decide))⟩
        simp[go_sem,e53]
      case r13=>
        refine StepAt.mk rfl (ns:=[9,12]) (by kernel_rfl) rfl ?_
        intro LL X W h0 hn hI
        obtain⟨g2,c2,g9,g3,c3,hI⟩:=hI
        have e51:X.tmps[51]?.getD undef=.int .i64 (L:Int):=hI.get 9 (by decide) (by decide) (hn 9 (by decide))
        have e54:X.tmps[54]?.getD undef=.int .i64 (k:Int):=hI.get 12 (by decide) (by decide) (hn 12 (by decide))
        refine Qe (v:=.int .i64 (cut:Int)) ?_ ⟨g2,c2,g9,g3,c3,hI.value (by decide) 13 (by decide) (by decide) rfl (hI.mem.keep (by decide) (by decide) (by decide) (by decide))⟩
        simp[go_sem,e51,e54,hwc]
      case r14=>
        refine StepAt.mk rfl (ns:=[4,13]) (by kernel_rfl) rfl ?_
        intro LL X W h0 hn hI
        obtain⟨g2,c2,g9,g3,c3,hI⟩:=hI
        have e46:X.tmps[46]?.getD undef=.slice oa L vc:=hI.get 4 (by decide) (by decide) (hn 4 (by decide))
        have e55:X.tmps[55]?.getD undef=.int .i64 (cut:Int):=hI.get 13 (by decide) (by decide) (hn 13 (by decide))
        refine Qe (v:=.slice oa cut vc) ?_ ⟨g2,c2,g9,g3,c3,hI.value (by decide) 14 (by decide) (by decide) rfl (hI.mem.keep (by decide) (by decide) (by decide) (by decide))⟩
        simp[go_sem,e46,e55,hslu]
      case r15=>
        refine StepAt.mk rfl (ns:=[14]) (by kernel_rfl) rfl ?_
        intro LL X W h0 hn hI
        obtain⟨g2,c2,g9,g3,c3,hI⟩:=hI
        have e56:X.tmps[56]?.getD undef=.slice oa cut vc:=hI.get 14 (by decide) (by decide) (hn 14 (by decide))
        refine QaV (f:=36) (vs:=#[.slice oa cut vc]) (R:=fun e w2=>∃g c,e=.returned (.slice (some ⟨g,0,none⟩) cut c)∧w2.ownsRow W.heap.size 35 1 (.slice (some ⟨g,0,none⟩) cut c) cut ((ints (r.own.take cut)).map (Value.int .u32))∧W.grownBy w2 none) ?_ (HOW.out W (RIgrown (hI.mem.gr (hI.mem.before (by decide) h0)))) ?_
        · simp[go_sem,e56]
        · rintro e w2 ⟨g,c,rfl,hown,hg⟩
          exact⟨_,rfl,g,c,g9,g3,c3,VI.nxt hI (fun j hl=>V9_o _ _ j (fun e=>by rw[e,h0]at hl;cases hl)) (by decide) 15 (by decide) (by decide) rfl (hI.mem.owned (by decide) (by decide) (by decide) h0 hown hg)⟩
      case r16=>
        refine StepAt.mk rfl (ns:=[]) (by kernel_rfl) rfl ?_
        intro LL X W h0 hn hI
        obtain⟨g2,c2,g9,g3,c3,hI⟩:=hI
        have e8:X.tmps[8]?.getD undef=.int .u32 (m:Int):=hI.old 8 (by decide)
        refine Qe (v:=.int .u32 (m:Int)) ?_ ⟨g2,c2,g9,g3,c3,hI.value (by decide) 16 (by decide) (by decide) rfl (hI.mem.keep (by decide) (by decide) (by decide) (by decide))⟩
        simp[go_sem,e8]
      case r17=>
        refine StepAt.mk rfl (ns:=[16]) (by kernel_rfl) rfl ?_
        intro LL X W h0 hn hI
        obtain⟨g2,c2,g9,g3,c3,hI⟩:=hI
        have e58:X.tmps[58]?.getD undef=.int .u32 (m:Int):=hI.get 16 (by decide) (by decide) (hn 16 (by decide))
        refine QaD (v:=.slice (some ⟨W.heap.size,0,none⟩) 1 1) (w':=W.alloc (.cells #[.int .u32 (m:Int)] 35)) ?_ ⟨g2,c2,W.heap.size,g3,c3,VI.nxt hI (fun j hl=>V9_b _ j (fun e=>by rw[e,h0]at hl;cases hl)) (by decide) 17 (by decide) (by decide) rfl (hI.mem.made (by decide) (by decide) (by decide) (by decide) h0)⟩
        simp[go_sem,e58]
      case r18=>
        refine StepAt.mk rfl (ns:=[15,17,15]) (by kernel_rfl) rfl ?_
        intro LL X W h0 hn hI
        obtain⟨g2,c2,g9,g3,c3,hI⟩:=hI
        have e57:X.tmps[57]?.getD undef=.slice (some ⟨g2,0,none⟩) cut c2:=hI.get 15 (by decide) (by decide) (hn 15 (by decide))
        have e59:X.tmps[59]?.getD undef=.slice (some ⟨g9,0,none⟩) 1 1:=hI.get 17 (by decide) (by decide) (hn 17 (by decide))
        have hbz:w1.heap.size≤W.heap.size:=(hI.mem.gr (hI.mem.noS h0)).size
        obtain⟨g',c',w',hap,hown,hgr⟩:=append32 W w1.heap.size g2 c2 cut (ints (r.own.take cut)) (hI.mem.own (hn 15 (by decide)) h0) ⟨g9,0,none⟩ 1 1 ([(m:Int)]) (hI.mem.lit (hn 17 (by decide)) h0) (by omega) hbz
        refine QaD (v:=.slice (some ⟨g',0,none⟩) (cut+1) c') (w':=w') ?_ ⟨g2,c2,g9,g',c',VI.nxt hI (fun j hl=>V9_c _ _ j (fun e=>by rw[e,h0]at hl;cases hl)) (by decide) 18 (by decide) (by decide) rfl (hI.mem.appended (by decide) h0 (hn 15 (by decide)) (fun _=>hn 17 (by decide)) hown hgr)⟩
        exact Qaz ⟨rfl,rfl⟩ e57 e59 hap
      case r19=>
        refine StepAt.mk rfl (ns:=[0,0,1,2,3,4,5,6,7,8,9,10,11,12,13,14,15,16,17,18]) (by kernel_rfl) rfl ?_
        intro LL X W h0 hn hI
        obtain⟨g2,c2,g9,g3,c3,hI⟩:=hI
        have e42:X.tmps[42]?.getD undef=.pointer (some ⟨rg,0,none⟩):=hI.get 0 (by decide) (by decide) (hn 0 (by decide))
        refine Qe (v:=.pointer (some ⟨rg,0,none⟩)) ?_ ⟨g2,c2,g9,g3,c3,hI.value (by decide) 19 (by decide) (by decide) rfl (hI.mem.keep (by decide) (by decide) (by decide) (by decide))⟩
        simp[go_sem,e42]
      case r20=>
        refine StepAt.mk rfl (ns:=[19,0,1,2,3,4,5,6,7,8,9,10,11,12,13,14,15,16,17,18]) (by kernel_rfl) rfl ?_
        intro LL X W h0 hn hI
        obtain⟨g2,c2,g9,g3,c3,hI⟩:=hI
        have e61:X.tmps[61]?.getD undef=.pointer (some ⟨rg,0,none⟩):=hI.get 19 (by decide) (by decide) (hn 19 (by decide))
        refine Qe (v:=.pointer (some ⟨rg,2,none⟩)) ?_ ⟨g2,c2,g9,g3,c3,hI.value (by decide) 20 (by decide) (by decide) rfl (hI.mem.keep (by decide) (by decide) (by decide) (by decide))⟩
        simp[go_sem,e61]
      case r21=>
        refine StepAt.mk rfl (ns:=[20,18,18,0,1,2,3,4,5,6,7,8,9,10,11,12,13,14,15,16,17,18]) (by kernel_rfl) rfl ?_
        intro LL X W h0 hn hI
        obtain⟨g2,c2,g9,g3,c3,hI⟩:=hI
        have e60:X.tmps[60]?.getD undef=.slice (some ⟨g3,0,none⟩) (cut+1) c3:=hI.get 18 (by decide) (by decide) (hn 18 (by decide))
        have e62:X.tmps[62]?.getD undef=.pointer (some ⟨rg,2,none⟩):=hI.get 20 (by decide) (by decide) (hn 20 (by decide))
        refine QaO rfl (.tmp 62) (.tmp 60) rfl rg (hI.vals 20 (by decide) (by decide) (hn 20 (by decide))) _ _ _ (hI.vals 18 (by decide) (by decide) (hn 18 (by decide))) (boxAt hI.mem h0 hbox) ⟨g2,c2,g9,g3,c3,hI.other 21 (by decide) (hI.mem.stored h0 (hn 18 (by decide)) (fun j hj=>hn j (by revert hj;revert j;decide)))⟩
    · intro LL X W hL hI
      replace hL:∀i,i<22→LL i=true:=hL
      obtain⟨g2,c2,g9,g3,c3,hI⟩:=hI
      have hform:=hI.agr.form
      have v42:At X 42=.pointer (some ⟨rg,0,none⟩):=hI.vals 0 (by decide) (by decide) (hL 0 (by omega))
      have v43:At X 43=.pointer (some ⟨rg,0,none⟩):=hI.vals 1 (by decide) (by decide) (hL 1 (by omega))
      have v44:At X 44=.pointer (some ⟨rg,0,none⟩):=hI.vals 2 (by decide) (by decide) (hL 2 (by omega))
      have v45:At X 45=.pointer (some ⟨rg,2,none⟩):=hI.vals 3 (by decide) (by decide) (hL 3 (by omega))
      have v46:At X 46=.slice oa L vc:=hI.vals 4 (by decide) (by decide) (hL 4 (by omega))
      have v47:At X 47=.pointer (some ⟨rg,0,none⟩):=hI.vals 5 (by decide) (by decide) (hL 5 (by omega))
      have v48:At X 48=.pointer (some ⟨rg,0,none⟩):=hI.vals 6 (by decide) (by decide) (hL 6 (by omega))
      have v49:At X 49=.pointer (some ⟨rg,2,none⟩):=hI.vals 7 (by decide) (by decide) (hL 7 (by omega))
      have v50:At X 50=.slice oa L vc:=hI.vals 8 (by decide) (by decide) (hL 8 (by omega))
      have v51:At X 51=.int .i64 (L:Int):=hI.vals 9 (by decide) (by decide) (hL 9 (by omega))
      have v52:At X 52=.pointer (some ⟨q,1,none⟩):=hI.vals 10 (by decide) (by decide) (hL 10 (by omega))
      have v53:At X 53=.slice (some ⟨gk,0,none⟩) k ck:=hI.vals 11 (by decide) (by decide) (hL 11 (by omega))
      have v54:At X 54=.int .i64 (k:Int):=hI.vals 12 (by decide) (by decide) (hL 12 (by omega))
      have v55:At X 55=.int .i64 (cut:Int):=hI.vals 13 (by decide) (by decide) (hL 13 (by omega))
      have v56:At X 56=.slice oa cut vc:=hI.vals 14 (by decide) (by decide) (hL 14 (by omega))
      have v57:At X 57=.slice (some ⟨g2,0,none⟩) cut c2:=hI.vals 15 (by decide) (by decide) (hL 15 (by omega))
      have v58:At X 58=.int .u32 (m:Int):=hI.vals 16 (by decide) (by decide) (hL 16 (by omega))
      have v59:At X 59=.slice (some ⟨g9,0,none⟩) 1 1:=hI.vals 17 (by decide) (by decide) (hL 17 (by omega))
      have v60:At X 60=.slice (some ⟨g3,0,none⟩) (cut+1) c3:=hI.vals 18 (by decide) (by decide) (hL 18 (by omega))
      have v61:At X 61=.pointer (some ⟨rg,0,none⟩):=hI.vals 19 (by decide) (by decide) (hL 19 (by omega))
      have v62:At X 62=.pointer (some ⟨rg,2,none⟩):=hI.vals 20 (by decide) (by decide) (hL 20 (by omega))
      have hm:=hI.mem
      clear hI
      rw[List.foldl_cons,List.foldl_cons,List.foldl_cons,List.foldl_cons,List.foldl_cons,List.foldl_cons,List.foldl_cons,List.foldl_cons,List.foldl_cons,List.foldl_cons,List.foldl_cons,List.foldl_cons,List.foldl_cons,List.foldl_cons,List.foldl_cons,List.foldl_cons,List.foldl_cons,List.foldl_cons,List.foldl_cons,List.foldl_cons,List.foldl_cons,List.foldl_nil,v42,v43,v44,v45,v46,v47,v48,v49,v50,v51,v52,v53,v54,v55,v56,v57,v58,v59,v60,v61,v62]at hform
      clear v42 v43 v44 v45 v46 v47 v48 v49 v50 v51 v52 v53 v54 v55 v56 v57 v58 v59 v60 v61 v62
      subst hform
      obtain⟨W',ht',hown',hWW⟩:=hm.st (hL 21 (by omega))
      have HN':Hid (NewS w1 W' g3 c3 (r.own.take cut++[m])):=hid (QbA hown' (RIgrown ht') (Nat.le_refl _) (by unfold ints;rw[List.map_append];rfl))
      have HX:Hid (DoX w0 w v r a (.returned (.tuple #[.int .u32 (m:Int),.int .i64 0])) W):=hid (by
        have h1:=HR1.out.setOwn HN'.out
        have e9:(r.own.take cut++[m]).length=cut+1:=by rw[List.length_append,List.length_take];have:[m].length=1:=rfl;have:=HLL.out;omega
        rw[HE1.out,e9,←hWW]at h1
        have h2:DoR a r m 0 _:=.Qr m l (by rw[HKK.out];decide) HPF.out.1 HPF.out.2.1 HPF.out.2.2
        rw[HCU.out]at h2
        exact⟨m,0,_,rfl,h2,RnOp.back HG0.out (RnOp.back HG03.out (RnOp.trans HTT.out.1 HTT.out.2.1 HTT.out.2.2.1 HTT.out.2.2.2 h1))⟩)
      clear hm hL hown' ht' hWW k1 k2 z0 kq z2 hbox HOW hslu hwc
      go_wp2
      go_ret2
      exact HX.out
end
end Sp
end Go.Proofs.YtbbbocoliandcaaGreatDoor
