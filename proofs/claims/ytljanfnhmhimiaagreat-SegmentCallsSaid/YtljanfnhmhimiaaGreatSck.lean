/- Parts of the proof. -/
import Derived.Test.YtljanfnhmhimiaaGreatScj
set_option maxRecDepth 100000
set_option maxHeartbeats 8000000
open Go.Lib (hid)
namespace Go.Proofs.YtljanfnhmhimiaaGreat
namespace Sg
open Go.RowKit Go.Joins Zn Zr Dv
open Oct (Rd)
open In (At)
open Nu (getN cnt resN)
def OneIs(kind:Int)(o:Option (Cel×List Int))(c:Cel)(r:List Int):Prop:=match o with
 |some (x,rest)=>c=x∧r=rest
 |none=>¬CelOk kind c
def HeadTwo(w:World)(k:Int)(nl:List Bool)(m C:Nat)(r0:List Int)(e:Ending)(w':World):Prop:=
 ∃c1 r1 c2 r2,OneIs k (readCell k r0) c1 r1∧OneIs k (readCell k r1) c2 r2∧(checkE ⟨(m:Int),(C:Int),c1,c2⟩ k=0→HeadYes w k nl m ⟨(m:Int),(C:Int),c1,c2⟩ r2 e w')∧(checkE ⟨(m:Int),(C:Int),c1,c2⟩ k≠0→HeadNo w e w')
theorem Qcl{b g:Nat}{kind:Int}{w w':World}{o:Option (Cel×List Int)}{e:Ending}(h:CellX b g kind w o e w'):Turn w w' (At b)∧∃c r,e=.returned (.agg #[.int .i64 c.k,.int .i64 c.n,.string c.s])∧Rd w' b g r∧Oct.IsB r∧r.length≤100000000∧OneIs kind o c r:=by
 obtain⟨h1,c,r,h2,h3,h4,h5,h6⟩:=h;refine⟨h1,c,r,h2,h3,h4,h5,?_⟩;cases o with
 |none=>exact h6
 |some p=>obtain⟨x,y⟩:=p;exact h6
theorem Qgb(w:World)(g:Nat)(c:Cel):Turn w (((w.setCell ⟨g,4,none⟩ (.int .i64 c.k)).setCell ⟨g,5,none⟩ (.int .i64 c.n)).setCell ⟨g,6,none⟩ (.string c.s)) (·=g):=Q8 w g 4 5 6 _ _ _
theorem QfR(w:World)(g:Nat)(c:Cel):Turn w (((w.setCell ⟨g,7,none⟩ (.int .i64 c.k)).setCell ⟨g,8,none⟩ (.int .i64 c.n)).setCell ⟨g,9,none⟩ (.string c.s)) (·=g):=Q8 w g 7 8 9 _ _ _
theorem Qii(k0:Int)(t r0:List Int)(nl:List Bool)(m C M:Nat)(hb:Bs.IsB (k0 :: t))(hl:(k0 :: t).length≤100000000)(hkk:k0=1)(hg:getN t=some (nl,r0))(hm:nl.length=m)(hc:cnt nl=C)(hM:m=C+M)(hM0:0<M)(w:World) :
  Calls Tryz.prog 34 #[.string (strOfNums (k0 :: t))] w (HeadTwo w k0 nl m C r0):=by
 have k1:1≤k0:=by omega
 have k3:k0≤3:=by omega
 have hk0:=hb k0 (List.mem_cons_self ..);have hidx:=Qa3 k0 t hk0;have hwr:IntKind.i64.wrap k0=k0:=IntWalk.i64_in _ (by omega);have hne:(strOfNums (k0 :: t)).toList.isEmpty=false:=by rw[Go.ByteArray.toList_eq];rfl
 have hex1:(strOfNums (k0 :: t)).extract 1 (strOfNums (k0 :: t)).size=strOfNums t:=by
  rw[QX,strOfNums_size,List.drop_succ_cons,List.drop_zero,List.take_of_length_le (by simp)]
 have hsz:0<(strOfNums (k0 :: t)).size:=by rw[strOfNums_size];exact Nat.zero_lt_succ _
 have hsz1:(1:Int)≤((strOfNums (k0 :: t)).size:Int):=by omega
 have HC:=hid (fun W=>QJ k0 W k1 k3);have hZ:=hid (hb_new w);have HT:=hid (Turn.alloc w (.cells #[.int .i64 0,.slice none 0 0,.int .i64 0,.int .i64 0,.int .i64 0,.int .i64 0,.string ⟨#[]⟩,.int .i64 0,.int .i64 0,.string ⟨#[]⟩] 69) nowhere);have hbt:Oct.IsB t:=fun x hx=>hb x (List.mem_cons_of_mem _ hx)
 have hlt:t.length≤100000000:=by rw[List.length_cons]at hl;omega
 obtain⟨S,hS⟩:∃S,strOfNums (k0 :: t)=S:=⟨_,rfl⟩;obtain⟨S1,hS1⟩:∃S1,strOfNums t=S1:=⟨_,rfl⟩;rw[hS]at hidx hne hex1 hsz hsz1 ⊢;rw[hS1]at hex1;have HCV:=hid (fun W=>Qag t hbt (by omega) W);rw[hS1]at HCV;have HBT:=hid hbt;obtain⟨hn4,ht⟩:=Nu.Qa4 hbt hg;obtain⟨q,hq⟩:∃q,(Nu.encN nl).length=q:=⟨_,rfl⟩;have hrl:t.length=q+r0.length:=by rw[ht,List.length_append,hq]
 have hrb:Oct.IsB r0:=fun x hx=>hbt x (by rw[ht];exact List.mem_append_right _ hx)
 have HRB:=hid hrb;have HCN:=hid hc;have hrl2:r0.length≤100000000:=by omega
 have hwq:IntKind.i64.wrap (1+(q:Int))=1+(q:Int):=IntWalk.i64_in _ (by omega);have HGN:=hid (fun a n c W hs=>Nu.QaP (bs:=t) (L:=nl) (z:=(q:Int)) (E:=0) (m:=m) (by rw[hg];show(nl,(t.length:Int)-(r0.length:Int),(0:Int))=_;rw[hrl];exact congrArg (fun x=>(nl,x,(0:Int))) (by omega)) hm hbt hlt a n c W hs);have hm4:m≤4096:=by rw[←hm];exact hn4
 have hMm:(m:Int)-(C:Int)=(M:Int):=by omega
 have HMM:=hid hMm;have hMp:(0:Int)<(M:Int):=by omega
 have hM5:M≤4096:=by omega
 have HC2:=hid (fun W=>QJ k0 W k1 k3);have hex2:S.extract (1+q) S.size=strOfNums r0:=by
  rw[←hS,QX,strOfNums_size,Nat.add_comm 1 q,List.drop_succ_cons,ht,←hq,List.drop_left,List.take_of_length_le (by simp)]
 obtain⟨S2,hS2⟩:∃S2,strOfNums r0=S2:=⟨_,rfl⟩;have HCV2:=hid (fun W=>Qag r0 hrb (by omega) W);rw[hS2]at HCV2 hex2;have hsz2:1+(q:Int)≤(S.size:Int):=by rw[←hS,strOfNums_size,List.length_cons];omega
 have HKK:=hid hkk;clear hS hS1 hS2 hb hl hg hbt ht hq hrl hm hc hn4 hrb hM hM0 hMm hkk;go_enter Tryz.func34,Tryz.ntmps34
 go_wp2_with fail
 refine(HC.out _).mono ?_;rintro e w1 ⟨v,rfl,hv,ht1⟩;have hnn:=Qde hv;have hng:=Qby hv;have Z1:=hid (hZ.out.old ht1);have T1:=hid (HT.out.trans ht1 (fun _ _ h=>h));clear hv ht1 hZ HT HC;dsimp only;go_upto_region 4 with (fail)
 clear hnn hng;obtain⟨W3,hW3⟩:∃V,w1.alloc (.cells #[.int .i64 k0,.slice none 0 0,.int .i64 0,.int .i64 0,.int .i64 0,.int .i64 0,.string ⟨#[]⟩,.int .i64 0,.int .i64 0,.string ⟨#[]⟩] 69)=V:=⟨_,rfl⟩;obtain⟨hb3,hhb3⟩:∃g,g=w1.heap.size:=⟨_,rfl⟩;rw[hW3,←hhb3];have H3:Hid (HB W3 hb3 ⟨k0,none,0,0,zeroZ⟩):=hid (by rw[←hW3,hhb3];exact heap_alloc_new w1 _);have T3:Hid (Turn w W3 nowhere):=hid (by rw[←hW3];exact T1.out.trans (Turn.alloc _ _ _) (fun _ _ h=>h));have Z3:Hid (HB W3 w.heap.size zeroH):=hid (by rw[←hW3];exact Z1.out.old (Turn.alloc _ _ _));have hlt3:w.heap.size<hb3:=by have:=QP Z1.out;omega
 clear hW3 hhb3 Z1 T1;obtain⟨cap,w4,hrun,hs4,ht4⟩:=HCV.out W3;have HS4:=hid hs4;have H4:=hid (H3.out.old ht4);have T4:=hid (T3.out.trans ht4 (fun _ _ h=>h));have Z4:=hid (Z3.out.old ht4);clear hs4 ht4 H3 T3 Z3 HCV;go_wp2_with fail
 refine(HGN.out _ _ _ _ HS4.out).mono ?_;rintro e w5 ⟨a5,c5,rfl,hs5,ht5⟩;have T5:=hid (T4.out.trans ht5 (fun _ _ h=>h));have Z5:=hid (Z4.out.old ht5);have H5:=hid (H4.out.old ht5);have S5:=hid hs5;clear hs5 ht5 T4 Z4 H4 HS4 hrun;dsimp only;obtain⟨cap2,w6,hrun2,hs6,ht6⟩:=HCV2.out w5;have T6:=hid (T5.out.trans ht6 (fun _ _ h=>h));have Z6:=hid (Z5.out.old ht6);have H6:=hid (H5.out.old ht6);have S6:=hid (S5.out.grown ht6.grown);have HNR:=hid (In.Qah _ _ cap2 r0 w6 (In.oseg hs6) (by omega));clear hs6 ht6 T5 Z5 H5 S5 HCV2;go_wp2_with fail
 refine HNR.out.mono ?_;rintro e w7 ⟨rb,rg,rfl,hrb1,hrg1,hrb2,hrg2,hrd,hg7⟩;have t7:=Pk.Qc hg7;have TT7:Hid (Turn w6 w7 (·=hb3)):=hid (t7.mono (fun _ _ e=>e.elim));have H7:=hid (H6.out.old t7);have S7:=hid (S6.out.grown hg7);have R7:=hid hrd;have h36:hb3<w6.heap.size:=QP H6.out;have h06:w.heap.size≤w6.heap.size:=T6.out.size;clear hg7 t7 hrd HNR hrun2;dsimp only;have HCT:=hid (Nu.QdB a5 m c5 nl w7 S7.out);go_wp2_with fail
 refine HCT.out.mono ?_;rw[HCN.out];rintro e w8 ⟨rfl,ht8⟩;have TT8:=hid (TT7.out.trans ht8 (fun _ _ e=>e.elim));have H8:=hid (H7.out.old ht8);have R8:=hid (In.Turn.rd ht8 R7.out id id);have h78:=ht8.size;clear ht8 TT7 H7 S7 R7 HCT;dsimp only;obtain⟨d0,d1,d2,d3,d4,d5,d6,d7,d8,d9⟩:=H8.out.cellsAt;have f1:=H8.out.froz 1;have f2:=H8.out.froz 2;have f3:=H8.out.froz 3;have f4:=H8.out.froz 4;have f5:=H8.out.froz 5;have f6:=H8.out.froz 6;have f7:=H8.out.froz 7;have f8:=H8.out.froz 8;have f9:=H8.out.froz 9;go_upto_region 9 with (fail)
 have H9a:=HB.setZone (HB.set1 H8.out a5 m c5) ⟨(m:Int),(C:Int),zeroC,zeroC⟩;have T9a:=(Qer w8 hb3 1 (.slice a5 m c5)).trans (Qdz _ hb3 ⟨(m:Int),(C:Int),zeroC,zeroC⟩) (fun _ _ h=>h);obtain⟨W9,hW9⟩:∃V,((((((((w8.setCell ⟨hb3,1,none⟩ (.slice a5 m c5)).setCell ⟨hb3,2,none⟩ (.int .i64 (m:Int))).setCell ⟨hb3,3,none⟩ (.int .i64 (C:Int))).setCell ⟨hb3,4,none⟩ (.int .i64 0)).setCell ⟨hb3,5,none⟩ (.int .i64 0)).setCell ⟨hb3,6,none⟩ (.string ⟨#[]⟩)).setCell ⟨hb3,7,none⟩ (.int .i64 0)).setCell ⟨hb3,8,none⟩ (.int .i64 0)).setCell ⟨hb3,9,none⟩ (.string ⟨#[]⟩)=V:=⟨_,rfl⟩;have H9:Hid (HB W9 hb3 ⟨k0,a5,m,c5,⟨(m:Int),(C:Int),zeroC,zeroC⟩⟩):=hid (by rw[←hW9];exact H9a);have t9:Turn w8 W9 (·=hb3):=by rw[←hW9];exact T9a
 have TT9:=hid (TT8.out.trans t9 (fun _ _ h=>h));have R9:=hid (In.Turn.rd t9 R8.out (by omega) (by omega));have h89:=t9.size;rw[hW9];clear hW9 H9a T9a t9 TT8 H8 R8 d0 d1 d2 d3 d4 d5 d6 d7 d8 d9 f1 f2 f3 f4 f5 f6 f7 f8 f9;obtain⟨d0,d1,d2,d3,d4,d5,d6,d7,d8,d9⟩:=H9.out.cellsAt;have HVA:=hid (QM ⟨k0,a5,m,c5,⟨(m:Int),(C:Int),zeroC,zeroC⟩⟩ (M:Int) HMM.out (by omega) W9);go_wp2_with fail
 refine HVA.out.mono ?_;rintro e w10 ⟨rfl,hg10⟩;have t10:=Pk.Qc hg10;have TT10:=hid (TT9.out.trans t10 (fun _ _ e=>e.elim));have H10:=hid (H9.out.old t10);have R10:=hid (In.Turn.rd t10 R9.out id id);have h910:=t10.size;clear hg10 t10 TT9 H9 R9 HVA d0 d1 d2 d3 d4 d5 d6 d7 d8 d9;dsimp only;obtain⟨d0,d1,d2,d3,d4,d5,d6,d7,d8,d9⟩:=H10.out.cellsAt;go_wp2_with fail
 refine(HC2.out _).mono ?_;rintro e w11 ⟨v2,rfl,hv,ht11⟩;have TT11:=hid (TT10.out.trans ht11 (fun _ _ e=>e.elim));have H11:=hid (H10.out.old ht11);have R11:=hid (In.Turn.rd ht11 R10.out id id);have h1011:=ht11.size;have hkk:=HKK.out;obtain⟨cb,rfl⟩:∃cb,v2=.iface 99 (.agg #[.func (.func 89) #[] #[],.func (.func 90) #[] #[],.func (.func 91) #[] #[],.func (.func 93) #[] #[],.func (.func 95) #[] #[],.func (.func 140) #[] #[.pointer (some ⟨cb,0,none⟩)]]):=by
  rcases hv with ⟨h,b,e1,_⟩|⟨h,e1⟩|⟨h,b,e1,_⟩
  ·exact⟨b,e1⟩
  ·omega
  ·omega
 clear hv ht11 TT10 H10 R10 HC2 d0 d1 d2 d3 d4 d5 d6 d7 d8 d9 hkk;dsimp only;have hmeth:=fun W=>QgX cb W
 have HG1:=hid (QhG cb rb rg r0 w11 R11.out (by omega) HRB.out hrl2);rw[←HKK.out]at HG1;go_wp2_with fail
 refine HG1.out.mono ?_;intro e w12 hx;obtain⟨ht12,x1,r1,rfl,hr12,hb12,hl12,ho1⟩:=Qcl hx;have TT12:=hid (TT11.out.trans ht12 (fun i hi e=>by have e2:i=rb:=e;omega));have H12:=hid (H11.out.turn ht12 (by omega));have R12:=hid hr12;have O1:=hid ho1;have B12:=hid hb12;have h1112:=ht12.size;clear ht12 hr12 ho1 hb12 hx HG1 TT11 H11 R11;dsimp only;obtain⟨d0,d1,d2,d3,d4,d5,d6,d7,d8,d9⟩:=H12.out.cellsAt;have f4:=H12.out.froz 4;have f5:=H12.out.froz 5;have f6:=H12.out.froz 6;go_upto_region 12 with (fail)
 have H13a:=HB.setMin H12.out x1;have T13a:=Qgb w12 hb3 x1;obtain⟨W13,hW13⟩:∃V,((w12.setCell ⟨hb3,4,none⟩ (.int .i64 x1.k)).setCell ⟨hb3,5,none⟩ (.int .i64 x1.n)).setCell ⟨hb3,6,none⟩ (.string x1.s)=V:=⟨_,rfl⟩;rw[hW13]at H13a T13a ⊢;have H13:Hid (HB W13 hb3 ⟨k0,a5,m,c5,⟨(m:Int),(C:Int),x1,zeroC⟩⟩):=hid H13a;have TT13:=hid (TT12.out.trans T13a (fun _ _ h=>h));have R13:=hid (In.Turn.rd T13a R12.out (by omega) (by omega));have h1213:=T13a.size;clear hW13 H13a T13a TT12 H12 R12 d0 d1 d2 d3 d4 d5 d6 d7 d8 d9 f4 f5 f6;have HG2:=hid (QhG cb rb rg r1 W13 R13.out (by omega) B12.out hl12);rw[←HKK.out]at HG2;go_wp2_with fail
 refine HG2.out.mono ?_;intro e w14 hx;obtain⟨ht14,x2,r2,rfl,hr14,hb14,hl14,ho2⟩:=Qcl hx;have TT14:=hid (TT13.out.trans ht14 (fun i hi e=>by have e2:i=rb:=e;omega));have H14:=hid (H13.out.turn ht14 (by omega));have R14:=hid hr14;have O2:=hid ho2;have B14:=hid hb14;have h1314:=ht14.size;clear ht14 hr14 ho2 hb14 hx HG2 TT13 H13 R13 hmeth;dsimp only;obtain⟨d0,d1,d2,d3,d4,d5,d6,d7,d8,d9⟩:=H14.out.cellsAt;have f7:=H14.out.froz 7;have f8:=H14.out.froz 8;have f9:=H14.out.froz 9;go_upto_region 13 with (fail)
 have H15a:=HB.setMax H14.out x2;have T15a:=QfR w14 hb3 x2;obtain⟨W15,hW15⟩:∃V,((w14.setCell ⟨hb3,7,none⟩ (.int .i64 x2.k)).setCell ⟨hb3,8,none⟩ (.int .i64 x2.n)).setCell ⟨hb3,9,none⟩ (.string x2.s)=V:=⟨_,rfl⟩;rw[hW15]at H15a T15a ⊢;have H15:Hid (HB W15 hb3 ⟨k0,a5,m,c5,⟨(m:Int),(C:Int),x1,x2⟩⟩):=hid H15a;have TT15:=hid (TT14.out.trans T15a (fun _ _ h=>h));have R15:=hid (In.Turn.rd T15a R14.out (by omega) (by omega));have h1415:=T15a.size;clear hW15 H15a T15a TT14 H14 R14 d0 d1 d2 d3 d4 d5 d6 d7 d8 d9 f7 f8 f9;obtain⟨d0,d1,d2,d3,d4,d5,d6,d7,d8,d9⟩:=H15.out.cellsAt;have HCK:=hid (Zn.QbB ⟨(m:Int),(C:Int),x1,x2⟩ k0 W15);obtain⟨E,hE⟩:∃E,E=checkE ⟨(m:Int),(C:Int),x1,x2⟩ k0:=⟨_,rfl⟩;rw[←hE]at HCK;have HE:=hid hE;clear hE;go_wp2_with fail
 refine HCK.out.mono ?_;rintro e w16 ⟨rfl,hg16⟩;have t16:=Pk.Qc hg16;have TT16:=hid (TT15.out.trans t16 (fun _ _ e=>e.elim));have H16:=hid (H15.out.old t16);have R16:=hid (In.Turn.rd t16 R15.out id id);have h1516:=t16.size;clear hg16 t16 TT15 H15 R15 HCK d0 d1 d2 d3 d4 d5 d6 d7 d8 d9;dsimp only;have Z16:Hid (HB w16 w.heap.size zeroH):=hid (Z6.out.turn TT16.out (by omega));by_cases hE0:E=0
 ·have q0:(E != 0)=false:=by rw[hE0];rfl
  have HE0:=hid hE0;obtain⟨d0,d1,d2,d3,d4,d5,d6,d7,d8,d9⟩:=H16.out.cellsAt;clear hE0;go_wp2_with (first
   |(with_reducible refine QK rfl (.tmp 2) (.tmp 73) rfl w.heap.size rfl ⟨k0,a5,m,c5,⟨(m:Int),(C:Int),x1,x2⟩⟩ rfl zeroH Z16.out ?_;intro w17 hz17 ht17)
   |fail)
  have S16:=QaU S6.out H6.out TT16.out;have S17:=QaU S16 Z16.out ht17;refine bodyPost_ret (QO rfl _ _ _ ⟨k0,a5,m,c5,⟨(m:Int),(C:Int),x1,x2⟩⟩ _ _ rfl hz17 rfl rfl) rfl ⟨x1,r1,x2,r2,O1.out,O2.out,fun _=>⟨a5,c5,rb,rg,rfl,S17,In.Turn.rd ht17 R16.out (by omega) (by omega),B14.out,hl14,by omega,by have:=ht17.size;omega,(fun ad e hn0=>by have:=Qbu S6.out ad e hn0;omega),?_⟩,fun h=>absurd (HE.out.symm.trans HE0.out) h⟩;exact Turn.trans (Turn.trans T6.out TT16.out (fun i hi e=>by omega)) ht17 (fun i hi e=>by omega)
 ·have q0:(E != 0)=true:=bne_iff_ne.2 hE0;have HE0:=hid hE0;clear hE0;go_wp2_with (first
   |(with_reducible refine QK rfl (.tmp 2) (.tmp 72) rfl w.heap.size rfl zeroH rfl zeroH Z16.out ?_;intro w17 hz17 ht17)
   |fail)
  refine bodyPost_ret (QO rfl _ _ _ zeroH _ _ rfl hz17 rfl rfl) rfl ⟨x1,r1,x2,r2,O1.out,O2.out,fun h=>absurd (HE.out.trans h) HE0.out,fun _=>⟨rfl,?_⟩⟩;exact Turn.trans (Turn.trans T6.out TT16.out (fun i hi e=>by omega)) ht17 (fun i hi e=>by omega)
theorem Qij(k0:Int)(t r0:List Int)(nl:List Bool)(m C M:Nat)(hb:Bs.IsB (k0 :: t))(hl:(k0 :: t).length≤100000000)(hkk:k0=2)(hg:getN t=some (nl,r0))(hm:nl.length=m)(hc:cnt nl=C)(hM:m=C+M)(hM0:0<M)(w:World) :
  Calls Tryz.prog 34 #[.string (strOfNums (k0 :: t))] w (HeadTwo w k0 nl m C r0):=by
 have k1:1≤k0:=by omega
 have k3:k0≤3:=by omega
 have hk0:=hb k0 (List.mem_cons_self ..);have hidx:=Qa3 k0 t hk0;have hwr:IntKind.i64.wrap k0=k0:=IntWalk.i64_in _ (by omega);have hne:(strOfNums (k0 :: t)).toList.isEmpty=false:=by rw[Go.ByteArray.toList_eq];rfl
 have hex1:(strOfNums (k0 :: t)).extract 1 (strOfNums (k0 :: t)).size=strOfNums t:=by
  rw[QX,strOfNums_size,List.drop_succ_cons,List.drop_zero,List.take_of_length_le (by simp)]
 have hsz:0<(strOfNums (k0 :: t)).size:=by rw[strOfNums_size];exact Nat.zero_lt_succ _
 have hsz1:(1:Int)≤((strOfNums (k0 :: t)).size:Int):=by omega
 have HC:=hid (fun W=>QJ k0 W k1 k3);have hZ:=hid (hb_new w);have HT:=hid (Turn.alloc w (.cells #[.int .i64 0,.slice none 0 0,.int .i64 0,.int .i64 0,.int .i64 0,.int .i64 0,.string ⟨#[]⟩,.int .i64 0,.int .i64 0,.string ⟨#[]⟩] 69) nowhere);have hbt:Oct.IsB t:=fun x hx=>hb x (List.mem_cons_of_mem _ hx)
 have hlt:t.length≤100000000:=by rw[List.length_cons]at hl;omega
 obtain⟨S,hS⟩:∃S,strOfNums (k0 :: t)=S:=⟨_,rfl⟩;obtain⟨S1,hS1⟩:∃S1,strOfNums t=S1:=⟨_,rfl⟩;rw[hS]at hidx hne hex1 hsz hsz1 ⊢;rw[hS1]at hex1;have HCV:=hid (fun W=>Qag t hbt (by omega) W);rw[hS1]at HCV;have HBT:=hid hbt;obtain⟨hn4,ht⟩:=Nu.Qa4 hbt hg;obtain⟨q,hq⟩:∃q,(Nu.encN nl).length=q:=⟨_,rfl⟩;have hrl:t.length=q+r0.length:=by rw[ht,List.length_append,hq]
 have hrb:Oct.IsB r0:=fun x hx=>hbt x (by rw[ht];exact List.mem_append_right _ hx)
 have HRB:=hid hrb;have HCN:=hid hc;have hrl2:r0.length≤100000000:=by omega
 have hwq:IntKind.i64.wrap (1+(q:Int))=1+(q:Int):=IntWalk.i64_in _ (by omega);have HGN:=hid (fun a n c W hs=>Nu.QaP (bs:=t) (L:=nl) (z:=(q:Int)) (E:=0) (m:=m) (by rw[hg];show(nl,(t.length:Int)-(r0.length:Int),(0:Int))=_;rw[hrl];exact congrArg (fun x=>(nl,x,(0:Int))) (by omega)) hm hbt hlt a n c W hs);have hm4:m≤4096:=by rw[←hm];exact hn4
 have hMm:(m:Int)-(C:Int)=(M:Int):=by omega
 have HMM:=hid hMm;have hMp:(0:Int)<(M:Int):=by omega
 have hM5:M≤4096:=by omega
 have HC2:=hid (fun W=>QJ k0 W k1 k3);have hex2:S.extract (1+q) S.size=strOfNums r0:=by
  rw[←hS,QX,strOfNums_size,Nat.add_comm 1 q,List.drop_succ_cons,ht,←hq,List.drop_left,List.take_of_length_le (by simp)]
 obtain⟨S2,hS2⟩:∃S2,strOfNums r0=S2:=⟨_,rfl⟩;have HCV2:=hid (fun W=>Qag r0 hrb (by omega) W);rw[hS2]at HCV2 hex2;have hsz2:1+(q:Int)≤(S.size:Int):=by rw[←hS,strOfNums_size,List.length_cons];omega
 have HKK:=hid hkk;clear hS hS1 hS2 hb hl hg hbt ht hq hrl hm hc hn4 hrb hM hM0 hMm hkk;go_enter Tryz.func34,Tryz.ntmps34
 go_wp2_with fail
 refine(HC.out _).mono ?_;rintro e w1 ⟨v,rfl,hv,ht1⟩;have hnn:=Qde hv;have hng:=Qby hv;have Z1:=hid (hZ.out.old ht1);have T1:=hid (HT.out.trans ht1 (fun _ _ h=>h));clear hv ht1 hZ HT HC;dsimp only;go_upto_region 4 with (fail)
 clear hnn hng;obtain⟨W3,hW3⟩:∃V,w1.alloc (.cells #[.int .i64 k0,.slice none 0 0,.int .i64 0,.int .i64 0,.int .i64 0,.int .i64 0,.string ⟨#[]⟩,.int .i64 0,.int .i64 0,.string ⟨#[]⟩] 69)=V:=⟨_,rfl⟩;obtain⟨hb3,hhb3⟩:∃g,g=w1.heap.size:=⟨_,rfl⟩;rw[hW3,←hhb3];have H3:Hid (HB W3 hb3 ⟨k0,none,0,0,zeroZ⟩):=hid (by rw[←hW3,hhb3];exact heap_alloc_new w1 _);have T3:Hid (Turn w W3 nowhere):=hid (by rw[←hW3];exact T1.out.trans (Turn.alloc _ _ _) (fun _ _ h=>h));have Z3:Hid (HB W3 w.heap.size zeroH):=hid (by rw[←hW3];exact Z1.out.old (Turn.alloc _ _ _));have hlt3:w.heap.size<hb3:=by have:=QP Z1.out;omega
 clear hW3 hhb3 Z1 T1;obtain⟨cap,w4,hrun,hs4,ht4⟩:=HCV.out W3;have HS4:=hid hs4;have H4:=hid (H3.out.old ht4);have T4:=hid (T3.out.trans ht4 (fun _ _ h=>h));have Z4:=hid (Z3.out.old ht4);clear hs4 ht4 H3 T3 Z3 HCV;go_wp2_with fail
 refine(HGN.out _ _ _ _ HS4.out).mono ?_;rintro e w5 ⟨a5,c5,rfl,hs5,ht5⟩;have T5:=hid (T4.out.trans ht5 (fun _ _ h=>h));have Z5:=hid (Z4.out.old ht5);have H5:=hid (H4.out.old ht5);have S5:=hid hs5;clear hs5 ht5 T4 Z4 H4 HS4 hrun;dsimp only;obtain⟨cap2,w6,hrun2,hs6,ht6⟩:=HCV2.out w5;have T6:=hid (T5.out.trans ht6 (fun _ _ h=>h));have Z6:=hid (Z5.out.old ht6);have H6:=hid (H5.out.old ht6);have S6:=hid (S5.out.grown ht6.grown);have HNR:=hid (In.Qah _ _ cap2 r0 w6 (In.oseg hs6) (by omega));clear hs6 ht6 T5 Z5 H5 S5 HCV2;go_wp2_with fail
 refine HNR.out.mono ?_;rintro e w7 ⟨rb,rg,rfl,hrb1,hrg1,hrb2,hrg2,hrd,hg7⟩;have t7:=Pk.Qc hg7;have TT7:Hid (Turn w6 w7 (·=hb3)):=hid (t7.mono (fun _ _ e=>e.elim));have H7:=hid (H6.out.old t7);have S7:=hid (S6.out.grown hg7);have R7:=hid hrd;have h36:hb3<w6.heap.size:=QP H6.out;have h06:w.heap.size≤w6.heap.size:=T6.out.size;clear hg7 t7 hrd HNR hrun2;dsimp only;have HCT:=hid (Nu.QdB a5 m c5 nl w7 S7.out);go_wp2_with fail
 refine HCT.out.mono ?_;rw[HCN.out];rintro e w8 ⟨rfl,ht8⟩;have TT8:=hid (TT7.out.trans ht8 (fun _ _ e=>e.elim));have H8:=hid (H7.out.old ht8);have R8:=hid (In.Turn.rd ht8 R7.out id id);have h78:=ht8.size;clear ht8 TT7 H7 S7 R7 HCT;dsimp only;obtain⟨d0,d1,d2,d3,d4,d5,d6,d7,d8,d9⟩:=H8.out.cellsAt;have f1:=H8.out.froz 1;have f2:=H8.out.froz 2;have f3:=H8.out.froz 3;have f4:=H8.out.froz 4;have f5:=H8.out.froz 5;have f6:=H8.out.froz 6;have f7:=H8.out.froz 7;have f8:=H8.out.froz 8;have f9:=H8.out.froz 9;go_upto_region 9 with (fail)
 have H9a:=HB.setZone (HB.set1 H8.out a5 m c5) ⟨(m:Int),(C:Int),zeroC,zeroC⟩;have T9a:=(Qer w8 hb3 1 (.slice a5 m c5)).trans (Qdz _ hb3 ⟨(m:Int),(C:Int),zeroC,zeroC⟩) (fun _ _ h=>h);obtain⟨W9,hW9⟩:∃V,((((((((w8.setCell ⟨hb3,1,none⟩ (.slice a5 m c5)).setCell ⟨hb3,2,none⟩ (.int .i64 (m:Int))).setCell ⟨hb3,3,none⟩ (.int .i64 (C:Int))).setCell ⟨hb3,4,none⟩ (.int .i64 0)).setCell ⟨hb3,5,none⟩ (.int .i64 0)).setCell ⟨hb3,6,none⟩ (.string ⟨#[]⟩)).setCell ⟨hb3,7,none⟩ (.int .i64 0)).setCell ⟨hb3,8,none⟩ (.int .i64 0)).setCell ⟨hb3,9,none⟩ (.string ⟨#[]⟩)=V:=⟨_,rfl⟩;have H9:Hid (HB W9 hb3 ⟨k0,a5,m,c5,⟨(m:Int),(C:Int),zeroC,zeroC⟩⟩):=hid (by rw[←hW9];exact H9a);have t9:Turn w8 W9 (·=hb3):=by rw[←hW9];exact T9a
 have TT9:=hid (TT8.out.trans t9 (fun _ _ h=>h));have R9:=hid (In.Turn.rd t9 R8.out (by omega) (by omega));have h89:=t9.size;rw[hW9];clear hW9 H9a T9a t9 TT8 H8 R8 d0 d1 d2 d3 d4 d5 d6 d7 d8 d9 f1 f2 f3 f4 f5 f6 f7 f8 f9;obtain⟨d0,d1,d2,d3,d4,d5,d6,d7,d8,d9⟩:=H9.out.cellsAt;have HVA:=hid (QM ⟨k0,a5,m,c5,⟨(m:Int),(C:Int),zeroC,zeroC⟩⟩ (M:Int) HMM.out (by omega) W9);go_wp2_with fail
 refine HVA.out.mono ?_;rintro e w10 ⟨rfl,hg10⟩;have t10:=Pk.Qc hg10;have TT10:=hid (TT9.out.trans t10 (fun _ _ e=>e.elim));have H10:=hid (H9.out.old t10);have R10:=hid (In.Turn.rd t10 R9.out id id);have h910:=t10.size;clear hg10 t10 TT9 H9 R9 HVA d0 d1 d2 d3 d4 d5 d6 d7 d8 d9;dsimp only;obtain⟨d0,d1,d2,d3,d4,d5,d6,d7,d8,d9⟩:=H10.out.cellsAt;go_wp2_with fail
 refine(HC2.out _).mono ?_;rintro e w11 ⟨v2,rfl,hv,ht11⟩;have TT11:=hid (TT10.out.trans ht11 (fun _ _ e=>e.elim));have H11:=hid (H10.out.old ht11);have R11:=hid (In.Turn.rd ht11 R10.out id id);have h1011:=ht11.size;have hkk:=HKK.out;obtain rfl:v2=.iface 108 (.agg #[.func (.func 98) #[] #[],.func (.func 99) #[] #[],.func (.func 100) #[] #[],.func (.func 101) #[] #[],.func (.func 102) #[] #[],.func (.func 103) #[] #[]]):=by
  rcases hv with ⟨h,_⟩|⟨h,e1⟩|⟨h,_⟩
  ·omega
  ·exact e1
  ·omega
 clear hv ht11 TT10 H10 R10 HC2 d0 d1 d2 d3 d4 d5 d6 d7 d8 d9 hkk;dsimp only;have hmeth:=fun W=>QgV W
 have HG1:=hid (QhM rb rg r0 w11 R11.out (by omega) HRB.out hrl2);rw[←HKK.out]at HG1;go_wp2_with fail
 refine HG1.out.mono ?_;intro e w12 hx;obtain⟨ht12,x1,r1,rfl,hr12,hb12,hl12,ho1⟩:=Qcl hx;have TT12:=hid (TT11.out.trans ht12 (fun i hi e=>by have e2:i=rb:=e;omega));have H12:=hid (H11.out.turn ht12 (by omega));have R12:=hid hr12;have O1:=hid ho1;have B12:=hid hb12;have h1112:=ht12.size;clear ht12 hr12 ho1 hb12 hx HG1 TT11 H11 R11;dsimp only;obtain⟨d0,d1,d2,d3,d4,d5,d6,d7,d8,d9⟩:=H12.out.cellsAt;have f4:=H12.out.froz 4;have f5:=H12.out.froz 5;have f6:=H12.out.froz 6;go_upto_region 12 with (fail)
 have H13a:=HB.setMin H12.out x1;have T13a:=Qgb w12 hb3 x1;obtain⟨W13,hW13⟩:∃V,((w12.setCell ⟨hb3,4,none⟩ (.int .i64 x1.k)).setCell ⟨hb3,5,none⟩ (.int .i64 x1.n)).setCell ⟨hb3,6,none⟩ (.string x1.s)=V:=⟨_,rfl⟩;rw[hW13]at H13a T13a ⊢;have H13:Hid (HB W13 hb3 ⟨k0,a5,m,c5,⟨(m:Int),(C:Int),x1,zeroC⟩⟩):=hid H13a;have TT13:=hid (TT12.out.trans T13a (fun _ _ h=>h));have R13:=hid (In.Turn.rd T13a R12.out (by omega) (by omega));have h1213:=T13a.size;clear hW13 H13a T13a TT12 H12 R12 d0 d1 d2 d3 d4 d5 d6 d7 d8 d9 f4 f5 f6;have HG2:=hid (QhM rb rg r1 W13 R13.out (by omega) B12.out hl12);rw[←HKK.out]at HG2;go_wp2_with fail
 refine HG2.out.mono ?_;intro e w14 hx;obtain⟨ht14,x2,r2,rfl,hr14,hb14,hl14,ho2⟩:=Qcl hx;have TT14:=hid (TT13.out.trans ht14 (fun i hi e=>by have e2:i=rb:=e;omega));have H14:=hid (H13.out.turn ht14 (by omega));have R14:=hid hr14;have O2:=hid ho2;have B14:=hid hb14;have h1314:=ht14.size;clear ht14 hr14 ho2 hb14 hx HG2 TT13 H13 R13 hmeth;dsimp only;obtain⟨d0,d1,d2,d3,d4,d5,d6,d7,d8,d9⟩:=H14.out.cellsAt;have f7:=H14.out.froz 7;have f8:=H14.out.froz 8;have f9:=H14.out.froz 9;go_upto_region 13 with (fail)
 have H15a:=HB.setMax H14.out x2;have T15a:=QfR w14 hb3 x2;obtain⟨W15,hW15⟩:∃V,((w14.setCell ⟨hb3,7,none⟩ (.int .i64 x2.k)).setCell ⟨hb3,8,none⟩ (.int .i64 x2.n)).setCell ⟨hb3,9,none⟩ (.string x2.s)=V:=⟨_,rfl⟩;rw[hW15]at H15a T15a ⊢;have H15:Hid (HB W15 hb3 ⟨k0,a5,m,c5,⟨(m:Int),(C:Int),x1,x2⟩⟩):=hid H15a;have TT15:=hid (TT14.out.trans T15a (fun _ _ h=>h));have R15:=hid (In.Turn.rd T15a R14.out (by omega) (by omega));have h1415:=T15a.size;clear hW15 H15a T15a TT14 H14 R14 d0 d1 d2 d3 d4 d5 d6 d7 d8 d9 f7 f8 f9;obtain⟨d0,d1,d2,d3,d4,d5,d6,d7,d8,d9⟩:=H15.out.cellsAt;have HCK:=hid (Zn.QbB ⟨(m:Int),(C:Int),x1,x2⟩ k0 W15);obtain⟨E,hE⟩:∃E,E=checkE ⟨(m:Int),(C:Int),x1,x2⟩ k0:=⟨_,rfl⟩;rw[←hE]at HCK;have HE:=hid hE;clear hE;go_wp2_with fail
 refine HCK.out.mono ?_;rintro e w16 ⟨rfl,hg16⟩;have t16:=Pk.Qc hg16;have TT16:=hid (TT15.out.trans t16 (fun _ _ e=>e.elim));have H16:=hid (H15.out.old t16);have R16:=hid (In.Turn.rd t16 R15.out id id);have h1516:=t16.size;clear hg16 t16 TT15 H15 R15 HCK d0 d1 d2 d3 d4 d5 d6 d7 d8 d9;dsimp only;have Z16:Hid (HB w16 w.heap.size zeroH):=hid (Z6.out.turn TT16.out (by omega));by_cases hE0:E=0
 ·have q0:(E != 0)=false:=by rw[hE0];rfl
  have HE0:=hid hE0;obtain⟨d0,d1,d2,d3,d4,d5,d6,d7,d8,d9⟩:=H16.out.cellsAt;clear hE0;go_wp2_with (first
   |(with_reducible refine QK rfl (.tmp 2) (.tmp 73) rfl w.heap.size rfl ⟨k0,a5,m,c5,⟨(m:Int),(C:Int),x1,x2⟩⟩ rfl zeroH Z16.out ?_;intro w17 hz17 ht17)
   |fail)
  have S16:=QaU S6.out H6.out TT16.out;have S17:=QaU S16 Z16.out ht17;refine bodyPost_ret (QO rfl _ _ _ ⟨k0,a5,m,c5,⟨(m:Int),(C:Int),x1,x2⟩⟩ _ _ rfl hz17 rfl rfl) rfl ⟨x1,r1,x2,r2,O1.out,O2.out,fun _=>⟨a5,c5,rb,rg,rfl,S17,In.Turn.rd ht17 R16.out (by omega) (by omega),B14.out,hl14,by omega,by have:=ht17.size;omega,(fun ad e hn0=>by have:=Qbu S6.out ad e hn0;omega),?_⟩,fun h=>absurd (HE.out.symm.trans HE0.out) h⟩;exact Turn.trans (Turn.trans T6.out TT16.out (fun i hi e=>by omega)) ht17 (fun i hi e=>by omega)
 ·have q0:(E != 0)=true:=bne_iff_ne.2 hE0;have HE0:=hid hE0;clear hE0;go_wp2_with (first
   |(with_reducible refine QK rfl (.tmp 2) (.tmp 72) rfl w.heap.size rfl zeroH rfl zeroH Z16.out ?_;intro w17 hz17 ht17)
   |fail)
  refine bodyPost_ret (QO rfl _ _ _ zeroH _ _ rfl hz17 rfl rfl) rfl ⟨x1,r1,x2,r2,O1.out,O2.out,fun h=>absurd (HE.out.trans h) HE0.out,fun _=>⟨rfl,?_⟩⟩;exact Turn.trans (Turn.trans T6.out TT16.out (fun i hi e=>by omega)) ht17 (fun i hi e=>by omega)
theorem Qh7(k0:Int)(t r0:List Int)(nl:List Bool)(m C M:Nat)(hb:Bs.IsB (k0 :: t))(hl:(k0 :: t).length≤100000000)(hkk:k0=3)(hg:getN t=some (nl,r0))(hm:nl.length=m)(hc:cnt nl=C)(hM:m=C+M)(hM0:0<M)(w:World) :
  Calls Tryz.prog 34 #[.string (strOfNums (k0 :: t))] w (HeadTwo w k0 nl m C r0):=by
 have k1:1≤k0:=by omega
 have k3:k0≤3:=by omega
 have hk0:=hb k0 (List.mem_cons_self ..);have hidx:=Qa3 k0 t hk0;have hwr:IntKind.i64.wrap k0=k0:=IntWalk.i64_in _ (by omega);have hne:(strOfNums (k0 :: t)).toList.isEmpty=false:=by rw[Go.ByteArray.toList_eq];rfl
 have hex1:(strOfNums (k0 :: t)).extract 1 (strOfNums (k0 :: t)).size=strOfNums t:=by
  rw[QX,strOfNums_size,List.drop_succ_cons,List.drop_zero,List.take_of_length_le (by simp)]
 have hsz:0<(strOfNums (k0 :: t)).size:=by rw[strOfNums_size];exact Nat.zero_lt_succ _
 have hsz1:(1:Int)≤((strOfNums (k0 :: t)).size:Int):=by omega
 have HC:=hid (fun W=>QJ k0 W k1 k3);have hZ:=hid (hb_new w);have HT:=hid (Turn.alloc w (.cells #[.int .i64 0,.slice none 0 0,.int .i64 0,.int .i64 0,.int .i64 0,.int .i64 0,.string ⟨#[]⟩,.int .i64 0,.int .i64 0,.string ⟨#[]⟩] 69) nowhere);have hbt:Oct.IsB t:=fun x hx=>hb x (List.mem_cons_of_mem _ hx)
 have hlt:t.length≤100000000:=by rw[List.length_cons]at hl;omega
 obtain⟨S,hS⟩:∃S,strOfNums (k0 :: t)=S:=⟨_,rfl⟩;obtain⟨S1,hS1⟩:∃S1,strOfNums t=S1:=⟨_,rfl⟩;rw[hS]at hidx hne hex1 hsz hsz1 ⊢;rw[hS1]at hex1;have HCV:=hid (fun W=>Qag t hbt (by omega) W);rw[hS1]at HCV;have HBT:=hid hbt;obtain⟨hn4,ht⟩:=Nu.Qa4 hbt hg;obtain⟨q,hq⟩:∃q,(Nu.encN nl).length=q:=⟨_,rfl⟩;have hrl:t.length=q+r0.length:=by rw[ht,List.length_append,hq]
 have hrb:Oct.IsB r0:=fun x hx=>hbt x (by rw[ht];exact List.mem_append_right _ hx)
 have HRB:=hid hrb;have HCN:=hid hc;have hrl2:r0.length≤100000000:=by omega
 have hwq:IntKind.i64.wrap (1+(q:Int))=1+(q:Int):=IntWalk.i64_in _ (by omega);have HGN:=hid (fun a n c W hs=>Nu.QaP (bs:=t) (L:=nl) (z:=(q:Int)) (E:=0) (m:=m) (by rw[hg];show(nl,(t.length:Int)-(r0.length:Int),(0:Int))=_;rw[hrl];exact congrArg (fun x=>(nl,x,(0:Int))) (by omega)) hm hbt hlt a n c W hs);have hm4:m≤4096:=by rw[←hm];exact hn4
 have hMm:(m:Int)-(C:Int)=(M:Int):=by omega
 have HMM:=hid hMm;have hMp:(0:Int)<(M:Int):=by omega
 have hM5:M≤4096:=by omega
 have HC2:=hid (fun W=>QJ k0 W k1 k3);have hex2:S.extract (1+q) S.size=strOfNums r0:=by
  rw[←hS,QX,strOfNums_size,Nat.add_comm 1 q,List.drop_succ_cons,ht,←hq,List.drop_left,List.take_of_length_le (by simp)]
 obtain⟨S2,hS2⟩:∃S2,strOfNums r0=S2:=⟨_,rfl⟩;have HCV2:=hid (fun W=>Qag r0 hrb (by omega) W);rw[hS2]at HCV2 hex2;have hsz2:1+(q:Int)≤(S.size:Int):=by rw[←hS,strOfNums_size,List.length_cons];omega
 have HKK:=hid hkk;clear hS hS1 hS2 hb hl hg hbt ht hq hrl hm hc hn4 hrb hM hM0 hMm hkk;go_enter Tryz.func34,Tryz.ntmps34
 go_wp2_with fail
 refine(HC.out _).mono ?_;rintro e w1 ⟨v,rfl,hv,ht1⟩;have hnn:=Qde hv;have hng:=Qby hv;have Z1:=hid (hZ.out.old ht1);have T1:=hid (HT.out.trans ht1 (fun _ _ h=>h));clear hv ht1 hZ HT HC;dsimp only;go_upto_region 4 with (fail)
 clear hnn hng;obtain⟨W3,hW3⟩:∃V,w1.alloc (.cells #[.int .i64 k0,.slice none 0 0,.int .i64 0,.int .i64 0,.int .i64 0,.int .i64 0,.string ⟨#[]⟩,.int .i64 0,.int .i64 0,.string ⟨#[]⟩] 69)=V:=⟨_,rfl⟩;obtain⟨hb3,hhb3⟩:∃g,g=w1.heap.size:=⟨_,rfl⟩;rw[hW3,←hhb3];have H3:Hid (HB W3 hb3 ⟨k0,none,0,0,zeroZ⟩):=hid (by rw[←hW3,hhb3];exact heap_alloc_new w1 _);have T3:Hid (Turn w W3 nowhere):=hid (by rw[←hW3];exact T1.out.trans (Turn.alloc _ _ _) (fun _ _ h=>h));have Z3:Hid (HB W3 w.heap.size zeroH):=hid (by rw[←hW3];exact Z1.out.old (Turn.alloc _ _ _));have hlt3:w.heap.size<hb3:=by have:=QP Z1.out;omega
 clear hW3 hhb3 Z1 T1;obtain⟨cap,w4,hrun,hs4,ht4⟩:=HCV.out W3;have HS4:=hid hs4;have H4:=hid (H3.out.old ht4);have T4:=hid (T3.out.trans ht4 (fun _ _ h=>h));have Z4:=hid (Z3.out.old ht4);clear hs4 ht4 H3 T3 Z3 HCV;go_wp2_with fail
 refine(HGN.out _ _ _ _ HS4.out).mono ?_;rintro e w5 ⟨a5,c5,rfl,hs5,ht5⟩;have T5:=hid (T4.out.trans ht5 (fun _ _ h=>h));have Z5:=hid (Z4.out.old ht5);have H5:=hid (H4.out.old ht5);have S5:=hid hs5;clear hs5 ht5 T4 Z4 H4 HS4 hrun;dsimp only;obtain⟨cap2,w6,hrun2,hs6,ht6⟩:=HCV2.out w5;have T6:=hid (T5.out.trans ht6 (fun _ _ h=>h));have Z6:=hid (Z5.out.old ht6);have H6:=hid (H5.out.old ht6);have S6:=hid (S5.out.grown ht6.grown);have HNR:=hid (In.Qah _ _ cap2 r0 w6 (In.oseg hs6) (by omega));clear hs6 ht6 T5 Z5 H5 S5 HCV2;go_wp2_with fail
 refine HNR.out.mono ?_;rintro e w7 ⟨rb,rg,rfl,hrb1,hrg1,hrb2,hrg2,hrd,hg7⟩;have t7:=Pk.Qc hg7;have TT7:Hid (Turn w6 w7 (·=hb3)):=hid (t7.mono (fun _ _ e=>e.elim));have H7:=hid (H6.out.old t7);have S7:=hid (S6.out.grown hg7);have R7:=hid hrd;have h36:hb3<w6.heap.size:=QP H6.out;have h06:w.heap.size≤w6.heap.size:=T6.out.size;clear hg7 t7 hrd HNR hrun2;dsimp only;have HCT:=hid (Nu.QdB a5 m c5 nl w7 S7.out);go_wp2_with fail
 refine HCT.out.mono ?_;rw[HCN.out];rintro e w8 ⟨rfl,ht8⟩;have TT8:=hid (TT7.out.trans ht8 (fun _ _ e=>e.elim));have H8:=hid (H7.out.old ht8);have R8:=hid (In.Turn.rd ht8 R7.out id id);have h78:=ht8.size;clear ht8 TT7 H7 S7 R7 HCT;dsimp only;obtain⟨d0,d1,d2,d3,d4,d5,d6,d7,d8,d9⟩:=H8.out.cellsAt;have f1:=H8.out.froz 1;have f2:=H8.out.froz 2;have f3:=H8.out.froz 3;have f4:=H8.out.froz 4;have f5:=H8.out.froz 5;have f6:=H8.out.froz 6;have f7:=H8.out.froz 7;have f8:=H8.out.froz 8;have f9:=H8.out.froz 9;go_upto_region 9 with (fail)
 have H9a:=HB.setZone (HB.set1 H8.out a5 m c5) ⟨(m:Int),(C:Int),zeroC,zeroC⟩;have T9a:=(Qer w8 hb3 1 (.slice a5 m c5)).trans (Qdz _ hb3 ⟨(m:Int),(C:Int),zeroC,zeroC⟩) (fun _ _ h=>h);obtain⟨W9,hW9⟩:∃V,((((((((w8.setCell ⟨hb3,1,none⟩ (.slice a5 m c5)).setCell ⟨hb3,2,none⟩ (.int .i64 (m:Int))).setCell ⟨hb3,3,none⟩ (.int .i64 (C:Int))).setCell ⟨hb3,4,none⟩ (.int .i64 0)).setCell ⟨hb3,5,none⟩ (.int .i64 0)).setCell ⟨hb3,6,none⟩ (.string ⟨#[]⟩)).setCell ⟨hb3,7,none⟩ (.int .i64 0)).setCell ⟨hb3,8,none⟩ (.int .i64 0)).setCell ⟨hb3,9,none⟩ (.string ⟨#[]⟩)=V:=⟨_,rfl⟩;have H9:Hid (HB W9 hb3 ⟨k0,a5,m,c5,⟨(m:Int),(C:Int),zeroC,zeroC⟩⟩):=hid (by rw[←hW9];exact H9a);have t9:Turn w8 W9 (·=hb3):=by rw[←hW9];exact T9a
 have TT9:=hid (TT8.out.trans t9 (fun _ _ h=>h));have R9:=hid (In.Turn.rd t9 R8.out (by omega) (by omega));have h89:=t9.size;rw[hW9];clear hW9 H9a T9a t9 TT8 H8 R8 d0 d1 d2 d3 d4 d5 d6 d7 d8 d9 f1 f2 f3 f4 f5 f6 f7 f8 f9;obtain⟨d0,d1,d2,d3,d4,d5,d6,d7,d8,d9⟩:=H9.out.cellsAt;have HVA:=hid (QM ⟨k0,a5,m,c5,⟨(m:Int),(C:Int),zeroC,zeroC⟩⟩ (M:Int) HMM.out (by omega) W9);go_wp2_with fail
 refine HVA.out.mono ?_;rintro e w10 ⟨rfl,hg10⟩;have t10:=Pk.Qc hg10;have TT10:=hid (TT9.out.trans t10 (fun _ _ e=>e.elim));have H10:=hid (H9.out.old t10);have R10:=hid (In.Turn.rd t10 R9.out id id);have h910:=t10.size;clear hg10 t10 TT9 H9 R9 HVA d0 d1 d2 d3 d4 d5 d6 d7 d8 d9;dsimp only;obtain⟨d0,d1,d2,d3,d4,d5,d6,d7,d8,d9⟩:=H10.out.cellsAt;go_wp2_with fail
 refine(HC2.out _).mono ?_;rintro e w11 ⟨v2,rfl,hv,ht11⟩;have TT11:=hid (TT10.out.trans ht11 (fun _ _ e=>e.elim));have H11:=hid (H10.out.old ht11);have R11:=hid (In.Turn.rd ht11 R10.out id id);have h1011:=ht11.size;have hkk:=HKK.out;obtain⟨cb,rfl⟩:∃cb,v2=.iface 117 (.agg #[.func (.func 105) #[] #[],.func (.func 106) #[] #[],.func (.func 107) #[] #[],.func (.func 108) #[] #[],.func (.func 109) #[] #[],.func (.func 146) #[] #[.pointer (some ⟨cb,0,none⟩)]]):=by
  rcases hv with ⟨h,b,e1,_⟩|⟨h,e1⟩|⟨h,b,e1,_⟩
  ·omega
  ·omega
  ·exact⟨b,e1⟩
 clear hv ht11 TT10 H10 R10 HC2 d0 d1 d2 d3 d4 d5 d6 d7 d8 d9 hkk;dsimp only;have hmeth:=fun W=>Qhb cb W
 have HG1:=hid (QhC cb rb rg r0 w11 R11.out (by omega) HRB.out hrl2);rw[←HKK.out]at HG1;go_wp2_with fail
 refine HG1.out.mono ?_;intro e w12 hx;obtain⟨ht12,x1,r1,rfl,hr12,hb12,hl12,ho1⟩:=Qcl hx;have TT12:=hid (TT11.out.trans ht12 (fun i hi e=>by have e2:i=rb:=e;omega));have H12:=hid (H11.out.turn ht12 (by omega));have R12:=hid hr12;have O1:=hid ho1;have B12:=hid hb12;have h1112:=ht12.size;clear ht12 hr12 ho1 hb12 hx HG1 TT11 H11 R11;dsimp only;obtain⟨d0,d1,d2,d3,d4,d5,d6,d7,d8,d9⟩:=H12.out.cellsAt;have f4:=H12.out.froz 4;have f5:=H12.out.froz 5;have f6:=H12.out.froz 6;go_upto_region 12 with (fail)
 have H13a:=HB.setMin H12.out x1;have T13a:=Qgb w12 hb3 x1;obtain⟨W13,hW13⟩:∃V,((w12.setCell ⟨hb3,4,none⟩ (.int .i64 x1.k)).setCell ⟨hb3,5,none⟩ (.int .i64 x1.n)).setCell ⟨hb3,6,none⟩ (.string x1.s)=V:=⟨_,rfl⟩;rw[hW13]at H13a T13a ⊢;have H13:Hid (HB W13 hb3 ⟨k0,a5,m,c5,⟨(m:Int),(C:Int),x1,zeroC⟩⟩):=hid H13a;have TT13:=hid (TT12.out.trans T13a (fun _ _ h=>h));have R13:=hid (In.Turn.rd T13a R12.out (by omega) (by omega));have h1213:=T13a.size;clear hW13 H13a T13a TT12 H12 R12 d0 d1 d2 d3 d4 d5 d6 d7 d8 d9 f4 f5 f6;have HG2:=hid (QhC cb rb rg r1 W13 R13.out (by omega) B12.out hl12);rw[←HKK.out]at HG2;go_wp2_with fail
 refine HG2.out.mono ?_;intro e w14 hx;obtain⟨ht14,x2,r2,rfl,hr14,hb14,hl14,ho2⟩:=Qcl hx;have TT14:=hid (TT13.out.trans ht14 (fun i hi e=>by have e2:i=rb:=e;omega));have H14:=hid (H13.out.turn ht14 (by omega));have R14:=hid hr14;have O2:=hid ho2;have B14:=hid hb14;have h1314:=ht14.size;clear ht14 hr14 ho2 hb14 hx HG2 TT13 H13 R13 hmeth;dsimp only;obtain⟨d0,d1,d2,d3,d4,d5,d6,d7,d8,d9⟩:=H14.out.cellsAt;have f7:=H14.out.froz 7;have f8:=H14.out.froz 8;have f9:=H14.out.froz 9;go_upto_region 13 with (fail)
 have H15a:=HB.setMax H14.out x2;have T15a:=QfR w14 hb3 x2;obtain⟨W15,hW15⟩:∃V,((w14.setCell ⟨hb3,7,none⟩ (.int .i64 x2.k)).setCell ⟨hb3,8,none⟩ (.int .i64 x2.n)).setCell ⟨hb3,9,none⟩ (.string x2.s)=V:=⟨_,rfl⟩;rw[hW15]at H15a T15a ⊢;have H15:Hid (HB W15 hb3 ⟨k0,a5,m,c5,⟨(m:Int),(C:Int),x1,x2⟩⟩):=hid H15a;have TT15:=hid (TT14.out.trans T15a (fun _ _ h=>h));have R15:=hid (In.Turn.rd T15a R14.out (by omega) (by omega));have h1415:=T15a.size;clear hW15 H15a T15a TT14 H14 R14 d0 d1 d2 d3 d4 d5 d6 d7 d8 d9 f7 f8 f9;obtain⟨d0,d1,d2,d3,d4,d5,d6,d7,d8,d9⟩:=H15.out.cellsAt;have HCK:=hid (Zn.QbB ⟨(m:Int),(C:Int),x1,x2⟩ k0 W15);obtain⟨E,hE⟩:∃E,E=checkE ⟨(m:Int),(C:Int),x1,x2⟩ k0:=⟨_,rfl⟩;rw[←hE]at HCK;have HE:=hid hE;clear hE;go_wp2_with fail
 refine HCK.out.mono ?_;rintro e w16 ⟨rfl,hg16⟩;have t16:=Pk.Qc hg16;have TT16:=hid (TT15.out.trans t16 (fun _ _ e=>e.elim));have H16:=hid (H15.out.old t16);have R16:=hid (In.Turn.rd t16 R15.out id id);have h1516:=t16.size;clear hg16 t16 TT15 H15 R15 HCK d0 d1 d2 d3 d4 d5 d6 d7 d8 d9;dsimp only;have Z16:Hid (HB w16 w.heap.size zeroH):=hid (Z6.out.turn TT16.out (by omega));by_cases hE0:E=0
 ·have q0:(E != 0)=false:=by rw[hE0];rfl
  have HE0:=hid hE0;obtain⟨d0,d1,d2,d3,d4,d5,d6,d7,d8,d9⟩:=H16.out.cellsAt;clear hE0;go_wp2_with (first
   |(with_reducible refine QK rfl (.tmp 2) (.tmp 73) rfl w.heap.size rfl ⟨k0,a5,m,c5,⟨(m:Int),(C:Int),x1,x2⟩⟩ rfl zeroH Z16.out ?_;intro w17 hz17 ht17)
   |fail)
  have S16:=QaU S6.out H6.out TT16.out;have S17:=QaU S16 Z16.out ht17;refine bodyPost_ret (QO rfl _ _ _ ⟨k0,a5,m,c5,⟨(m:Int),(C:Int),x1,x2⟩⟩ _ _ rfl hz17 rfl rfl) rfl ⟨x1,r1,x2,r2,O1.out,O2.out,fun _=>⟨a5,c5,rb,rg,rfl,S17,In.Turn.rd ht17 R16.out (by omega) (by omega),B14.out,hl14,by omega,by have:=ht17.size;omega,(fun ad e hn0=>by have:=Qbu S6.out ad e hn0;omega),?_⟩,fun h=>absurd (HE.out.symm.trans HE0.out) h⟩;exact Turn.trans (Turn.trans T6.out TT16.out (fun i hi e=>by omega)) ht17 (fun i hi e=>by omega)
 ·have q0:(E != 0)=true:=bne_iff_ne.2 hE0;have HE0:=hid hE0;clear hE0;go_wp2_with (first
   |(with_reducible refine QK rfl (.tmp 2) (.tmp 72) rfl w.heap.size rfl zeroH rfl zeroH Z16.out ?_;intro w17 hz17 ht17)
   |fail)
  refine bodyPost_ret (QO rfl _ _ _ zeroH _ _ rfl hz17 rfl rfl) rfl ⟨x1,r1,x2,r2,O1.out,O2.out,fun h=>absurd (HE.out.trans h) HE0.out,fun _=>⟨rfl,?_⟩⟩;exact Turn.trans (Turn.trans T6.out TT16.out (fun i hi e=>by omega)) ht17 (fun i hi e=>by omega)
end Sg
namespace Sg
open Go.RowKit Go.Joins Zn Zr Dv
open Is (IsI)
theorem QgZ{w:World}{base e s n:Nat}{v:Value}{xs:List Value}(h:w.ownsRow base e s v n xs){g:Nat}{cs:Array Value}{t:Nat}{fr:Nat×Nat}(hg:w.heap[g]?=some (.cells cs t fr))(hne:t≠e):v.ownBlock≠some g:=by
 intro e1;rcases h.2 with ⟨rfl,_⟩|⟨g1,cap1,cur1,rfl,_,hg1,_⟩
 ·cases e1
 ·obtain rfl:g1=g:=Option.some.inj e1;rw[hg1]at hg
  injection hg with hg
  injection hg with _ h3 _
  exact hne h3.symm
theorem QnW{l:List Int}{E:Int}{B:List Int}{m:Nat}(hR:Pk.putR l 1=(E,B))(hm:B.length=m)(hu:Pk.IsU l)(a:Option Addr)(n c:Nat)(w:World)(hs:Us.Seg w a n c l) :
  Calls Tryz.prog 102 #[.slice a n c] w (Pk.PutF w m E B):=by
 have HP:=hid (Pk.Qbd hR hm hu a n c w hs);clear hR hm hu hs;go_enter Tryz.func102,Tryz.ntmps102
 go_wp2_with fail
 refine HP.out.mono ?_;rintro e w1 ⟨a1,k1,rfl,hs1,ht1⟩;have HF:Hid (Pk.PutF w m E B (.returned (.tuple #[.slice a1 m k1,.int .i64 E])) w1):=hid ⟨_,_,rfl,hs1,ht1⟩;clear hs1 ht1;go_wp2;go_ret2
 exact HF.out
theorem QpC(S:Nat)(hS:S≤1000000)(W:World):(Instr.makeSlice 131 (.int .i64 0) (.int .i64 (S:Int))).run Tryz.prog W=.ok (.slice (some ⟨W.heap.size,0,none⟩) 0 S) (W.alloc (.cells (madeCells (Value.cells (.int .i64 0)) S) 2)):=by
 obtain⟨i0,hi,hz0,hz1,hz2⟩:=info_parts Is.Qax;have h:=run_make (P:=Tryz.prog) W 131 2 i0 (.int .i64 0) Tryz.underlying131 hi hz0 .i64 .i64 0 (S:Int) (by omega) (by omega) (by rw[hz2];omega) (by omega);rw[hz1,Int.toNat_natCast,Nat.mul_one]at h;exact h
theorem QkN(b:Nat)(a:Option Addr)(n c m:Nat)(l:List Cel)(w:World)(hs:CSeg w a n c l)(hn:n≤4096)(hi:IntOk l)(hm:(In.bestB (l.map (·.n))).length=m) :
  Calls Tryz.prog 238 #[.agg #[.func (.func 89) #[] #[],.func (.func 90) #[] #[],.func (.func 91) #[] #[],.func (.func 93) #[] #[],.func (.func 95) #[] #[],.func (.func 140) #[] #[.pointer (some ⟨b,0,none⟩)]],.slice a n c] w (BytesX w m (In.bestB (l.map (·.n)))):=by
 obtain⟨i0,ii,iz0,iz1,iz2⟩:=info_parts Is.Qax;have HS:=hid hs;have HL:=hid hs.len;have HV:=hid (fun c W=>QkG c W);have hmk:=QpC n (by omega);have hcod:=heap_alloc_new w (.cells #[.func (.func 89) #[] #[],.func (.func 90) #[] #[],.func (.func 91) #[] #[],.func (.func 93) #[] #[],.func (.func 95) #[] #[],.func (.func 140) #[] #[.pointer (some ⟨b,0,none⟩)]] 99);have hmade:=World.ownsRow_made (base:=w.heap.size) (e:=2) (size:=1) (w.alloc (.cells #[.func (.func 89) #[] #[],.func (.func 90) #[] #[],.func (.func 91) #[] #[],.func (.func 93) #[] #[],.func (.func 95) #[] #[],.func (.func 140) #[] #[.pointer (some ⟨b,0,none⟩)]] 99)) (madeCells (Value.cells (.int .i64 0)) n) n (by simp) (by unfold maxLen;omega) (by rw[size_madeCells];omega);have hcod2:=(Below.heap_alloc (w.alloc (.cells #[.func (.func 89) #[] #[],.func (.func 90) #[] #[],.func (.func 91) #[] #[],.func (.func 93) #[] #[],.func (.func 95) #[] #[],.func (.func 140) #[] #[.pointer (some ⟨b,0,none⟩)]] 99)) (.cells (madeCells (Value.cells (.int .i64 0)) n) 2) w.heap.size (by simp)).trans hcod;have HC0:=hid hcod2;have HM0:=hid hmade;clear hs hcod hmade hcod2;go_enter Tryz.func238,Tryz.ntmps238
 go_wp2
 go_loopw [5,15] (fun vv iv wx=>∃(k gv cv:Nat),iv=.int .i64 k∧k≤n∧vv=.slice (some ⟨gv,0,none⟩) k cv∧wx.ownsRow w.heap.size 2 1 (.slice (some ⟨gv,0,none⟩) k cv) k ((l.take k).map intV)∧wx.heap[w.heap.size]?=some (.cells #[.func (.func 89) #[] #[],.func (.func 90) #[] #[],.func (.func 91) #[] #[],.func (.func 93) #[] #[],.func (.func 95) #[] #[],.func (.func 140) #[] #[.pointer (some ⟨b,0,none⟩)]] 99 (0,0))∧w.grownBy wx none) (fun _ iv _=>n-(intOf iv).toNat)
 case atStart=>exact⟨0,_,_,rfl,Nat.zero_le _,rfl,(by have h:=HM0.out;rw[World.size_alloc]at h;exact h),HC0.out,Qa (Qb _ _) (Qb _ _)⟩
 case round=>
  obtain⟨k,gv,cv,rfl,hk,rfl,r1,hcd,hg⟩:=hrel;have HG:=hid hg;have R1:=hid r1;have HC:=hid hcd;have hgs:=hg.size;clear r1 hcd hg HM0 HC0 hmk;by_cases hlt:k<n
  ·obtain⟨B,O,rfl,hcs⟩:=(HS.out.old HG.out).form (by omega);obtain⟨x,hx⟩:∃x,x=l.getD k zeroC:=⟨_,rfl⟩;have HXE:=hid hx;have M1:=hid (Qci (f:=intV) (l:=l) (k:=k) (by rw[HL.out];exact hlt));rw[←hx]at M1;have f0:wr.cell? ⟨w.heap.size,0,none⟩=some (.func (.func 89) #[] #[]):=by rw[cell_of_row _ _ _ _ _ _ HC.out];rfl
   have hwlt:w.heap.size<wr.heap.size:=QP HC.out;have hlt2:(k:Int)<(n:Int):=by omega
   clear hcs hx;obtain⟨c0,c1,c2⟩:=Qp (HS.out.old HG.out) hlt HXE.out;go_wp2_with fail
   refine(HV.out x _).mono ?_;rintro e wv ⟨rfl,hgv⟩;have GV:=hid (Qa (Qb wr _) hgv);have HGV:=hid (Qa HG.out GV.out);have RV:=hid (Qi R1.out GV.out);have CV:=hid (Qae HC.out GV.out);have hvs:=HGV.out.size;clear hgv GV HG R1 HC c0 c1 c2 f0;dsimp only;go_wp2_with (at_builtin;refine wpList_append_own _ rfl _ _ 131 rfl w.heap.size 2 i0 (.int .i64 0) 1 8 Tryz.underlying131 ii iz0 iz1 iz2 rfl (by decide) _ k _ rfl (RV.out.alloc _) ⟨wv.heap.size,0,none⟩ 1 1 [.int .i64 x.n] rfl rfl (by intro y u hy;match y,hy with|0,hy=>simp at hy;subst hy;simp[Addr.add]) (by intro u hu;simp at hu;subst hu;rfl) (by unfold maxLen;omega) (by omega) (by simp;omega) ?_;intro V4 w4 hown4 hg4 hnil4)
   obtain⟨g4,c4,rfl⟩:=Nu.ownsRow_form hown4 (by omega);have HG4:=hid (Bs.grownBy_trans (Qa HGV.out (Qb _ _)) hg4 (fun i e=>(RV.out.lt i e).1));have R14:Hid (w4.ownsRow w.heap.size 2 1 (.slice (some ⟨g4,0,none⟩) (k+1) c4) (k+1) ((l.take (k+1)).map intV)):=hid (by rw[M1.out];exact hown4);have C4:Hid (w4.heap[w.heap.size]?=some (.cells #[.func (.func 89) #[] #[],.func (.func 90) #[] #[],.func (.func 91) #[] #[],.func (.func 93) #[] #[],.func (.func 95) #[] #[],.func (.func 140) #[] #[.pointer (some ⟨b,0,none⟩)]] 99 (0,0))):=hid (by
    rw[hg4.block _ (by have:=QP CV.out;simp;omega) (fun e=>?_),Below.heap_alloc _ _ _ (QP CV.out)]
    ·exact CV.out
    ·exact QgZ RV.out CV.out (by decide) e.symm)
   clear hown4 hg4 hnil4 RV CV M1 HGV;go_wp2;go_roundw
   case rel=>exact⟨k+1,_,_,by go_num,by omega,by go_num,R14.out,C4.out,HG4.out⟩
   case measure=>simp[intOf];omega
  ·obtain rfl:k=n:=by omega
   have hT:l.take k=l:=List.take_of_length_le (by rw[HL.out];exact Nat.le_refl _);rw[hT,Qks]at R1;have f4:wr.cell? ⟨w.heap.size,4,none⟩=some (.func (.func 95) #[] #[]):=by rw[cell_of_row _ _ _ _ _ _ HC.out];rfl
   have HI:Hid (IsI (l.map (·.n))):=hid (fun y hy=>by
    obtain⟨z,hz,rfl⟩:=List.mem_map.1 hy;exact hi z hz)
   have hR:In.tooMany (l.map (·.n)) (In.bestB (l.map (·.n)))=(0,In.bestB (l.map (·.n))):=In.Qe1 (by rw[List.length_map,HL.out];exact hn);have hc:=In.Qbd hR hm HI.out (some ⟨gv,0,none⟩) k cv wr (Is.Seg.own R1.out);clear hR;have HP:=hid hc;clear hc hT hlt R1 HC;go_wp2_with fail
   refine HP.out.mono ?_;rintro e w9 ⟨a9,k9,rfl,hs9,ht9⟩;have HF:Hid (BytesX w m (In.bestB (l.map (·.n))) (.returned (.slice a9 m k9)) w9):=hid ⟨a9,k9,rfl,hs9,(Pk.Qc HG.out).trans ht9 (fun _ _ h=>h)⟩;clear hs9 ht9 HP;dsimp only;go_wp2;go_ret
   exact HF.out
theorem QpA(S:Nat)(hS:S≤1000000)(W:World):(Instr.makeSlice 88 (.int .i64 0) (.int .i64 (S:Int))).run Tryz.prog W=.ok (.slice (some ⟨W.heap.size,0,none⟩) 0 S) (W.alloc (.cells (madeCells (Value.cells (.int .u64 0)) S) 85)):=by
 obtain⟨i0,hi,hz0,hz1,hz2⟩:=info_parts Us.Qak;have h:=run_make (P:=Tryz.prog) W 88 85 i0 (.int .u64 0) Tryz.underlying88 hi hz0 .i64 .i64 0 (S:Int) (by omega) (by omega) (by rw[hz2];omega) (by omega);rw[hz1,Int.toNat_natCast,Nat.mul_one]at h;exact h
theorem Qld(a:Option Addr)(n c m:Nat)(l:List Cel)(w:World)(hs:CSeg w a n c l)(hn:n≤4096)(h2:∀x∈l,0≤x.n∧x.n<2)(hm:((Pk.putR (l.map (·.n)) 1).2).length=m) :
  Calls Tryz.prog 242 #[.agg #[.func (.func 98) #[] #[],.func (.func 99) #[] #[],.func (.func 100) #[] #[],.func (.func 101) #[] #[],.func (.func 102) #[] #[],.func (.func 103) #[] #[]],.slice a n c] w (BytesX w m ((Pk.putR (l.map (·.n)) 1).2)):=by
 obtain⟨i0,ii,iz0,iz1,iz2⟩:=info_parts Us.Qak;have HS:=hid hs;have HL:=hid hs.len;have HV:=hid (fun c W=>Qku c W);have hmk:=QpA n (by omega);have hcod:=heap_alloc_new w (.cells #[.func (.func 98) #[] #[],.func (.func 99) #[] #[],.func (.func 100) #[] #[],.func (.func 101) #[] #[],.func (.func 102) #[] #[],.func (.func 103) #[] #[]] 108);have hmade:=World.ownsRow_made (base:=w.heap.size) (e:=85) (size:=1) (w.alloc (.cells #[.func (.func 98) #[] #[],.func (.func 99) #[] #[],.func (.func 100) #[] #[],.func (.func 101) #[] #[],.func (.func 102) #[] #[],.func (.func 103) #[] #[]] 108)) (madeCells (Value.cells (.int .u64 0)) n) n (by simp) (by unfold maxLen;omega) (by rw[size_madeCells];omega);have hcod2:=(Below.heap_alloc (w.alloc (.cells #[.func (.func 98) #[] #[],.func (.func 99) #[] #[],.func (.func 100) #[] #[],.func (.func 101) #[] #[],.func (.func 102) #[] #[],.func (.func 103) #[] #[]] 108)) (.cells (madeCells (Value.cells (.int .u64 0)) n) 85) w.heap.size (by simp)).trans hcod;have HC0:=hid hcod2;have HM0:=hid hmade;clear hs hcod hmade hcod2;go_enter Tryz.func242,Tryz.ntmps242
 go_wp2
 go_loopw [5,15] (fun vv iv wx=>∃(k gv cv:Nat),iv=.int .i64 k∧k≤n∧vv=.slice (some ⟨gv,0,none⟩) k cv∧wx.ownsRow w.heap.size 85 1 (.slice (some ⟨gv,0,none⟩) k cv) k ((l.take k).map bitV)∧wx.heap[w.heap.size]?=some (.cells #[.func (.func 98) #[] #[],.func (.func 99) #[] #[],.func (.func 100) #[] #[],.func (.func 101) #[] #[],.func (.func 102) #[] #[],.func (.func 103) #[] #[]] 108 (0,0))∧w.grownBy wx none) (fun _ iv _=>n-(intOf iv).toNat)
 case atStart=>exact⟨0,_,_,rfl,Nat.zero_le _,rfl,(by have h:=HM0.out;rw[World.size_alloc]at h;exact h),HC0.out,Qa (Qb _ _) (Qb _ _)⟩
 case round=>
  obtain⟨k,gv,cv,rfl,hk,rfl,r1,hcd,hg⟩:=hrel;have HG:=hid hg;have R1:=hid r1;have HC:=hid hcd;have hgs:=hg.size;clear r1 hcd hg HM0 HC0 hmk;by_cases hlt:k<n
  ·obtain⟨B,O,rfl,hcs⟩:=(HS.out.old HG.out).form (by omega);obtain⟨x,hx⟩:∃x,x=l.getD k zeroC:=⟨_,rfl⟩;have HXE:=hid hx;have M1:=hid (Qci (f:=bitV) (l:=l) (k:=k) (by rw[HL.out];exact hlt));rw[←hx]at M1;have f0:wr.cell? ⟨w.heap.size,0,none⟩=some (.func (.func 98) #[] #[]):=by rw[cell_of_row _ _ _ _ _ _ HC.out];rfl
   have hwlt:w.heap.size<wr.heap.size:=QP HC.out;have hlt2:(k:Int)<(n:Int):=by omega
   clear hcs hx;obtain⟨c0,c1,c2⟩:=Qp (HS.out.old HG.out) hlt HXE.out;go_wp2_with fail
   refine(HV.out x _).mono ?_;rintro e wv ⟨rfl,hgv⟩;have GV:=hid (Qa (Qb wr _) hgv);have HGV:=hid (Qa HG.out GV.out);have RV:=hid (Qi R1.out GV.out);have CV:=hid (Qae HC.out GV.out);have hvs:=HGV.out.size;clear hgv GV HG R1 HC c0 c1 c2 f0;dsimp only;go_wp2_with (at_builtin;refine wpList_append_own _ rfl _ _ 88 rfl w.heap.size 85 i0 (.int .u64 0) 1 8 Tryz.underlying88 ii iz0 iz1 iz2 rfl (by decide) _ k _ rfl (RV.out.alloc _) ⟨wv.heap.size,0,none⟩ 1 1 [.int .u64 (In.u x.n)] rfl rfl (by intro y u hy;match y,hy with|0,hy=>simp at hy;subst hy;simp[Addr.add]) (by intro u hu;simp at hu;subst hu;rfl) (by unfold maxLen;omega) (by omega) (by simp;omega) ?_;intro V4 w4 hown4 hg4 hnil4)
   obtain⟨g4,c4,rfl⟩:=Nu.ownsRow_form hown4 (by omega);have HG4:=hid (Bs.grownBy_trans (Qa HGV.out (Qb _ _)) hg4 (fun i e=>(RV.out.lt i e).1));have R14:Hid (w4.ownsRow w.heap.size 85 1 (.slice (some ⟨g4,0,none⟩) (k+1) c4) (k+1) ((l.take (k+1)).map bitV)):=hid (by rw[M1.out];exact hown4);have C4:Hid (w4.heap[w.heap.size]?=some (.cells #[.func (.func 98) #[] #[],.func (.func 99) #[] #[],.func (.func 100) #[] #[],.func (.func 101) #[] #[],.func (.func 102) #[] #[],.func (.func 103) #[] #[]] 108 (0,0))):=hid (by
    rw[hg4.block _ (by have:=QP CV.out;simp;omega) (fun e=>?_),Below.heap_alloc _ _ _ (QP CV.out)]
    ·exact CV.out
    ·exact QgZ RV.out CV.out (by decide) e.symm)
   clear hown4 hg4 hnil4 RV CV M1 HGV;go_wp2;go_roundw
   case rel=>exact⟨k+1,_,_,by go_num,by omega,by go_num,R14.out,C4.out,HG4.out⟩
   case measure=>simp[intOf];omega
  ·obtain rfl:k=n:=by omega
   have hT:l.take k=l:=List.take_of_length_le (by rw[HL.out];exact Nat.le_refl _);rw[hT,QkH]at R1;have f4:wr.cell? ⟨w.heap.size,4,none⟩=some (.func (.func 102) #[] #[]):=by rw[cell_of_row _ _ _ _ _ _ HC.out];rfl
   have hM:(l.map fun c=>In.u c.n)=l.map (·.n):=List.map_congr_left fun y hy=>by
    have:=h2 y hy;unfold In.u;omega
   rw[hM]at R1;have hU:Pk.IsU (l.map (·.n)):=fun y hy=>by
    obtain⟨z,hz,rfl⟩:=List.mem_map.1 hy;have:=h2 z hz;omega
   obtain⟨E,hE⟩:∃E,E=(Pk.putR (l.map (·.n)) 1).1:=⟨_,rfl⟩;have hR:Pk.putR (l.map (·.n)) 1=(E,(Pk.putR (l.map (·.n)) 1).2):=by rw[hE]
   have hc:=QnW hR hm hU (some ⟨gv,0,none⟩) k cv wr (Us.Seg.own R1.out);clear hE hR;have HP:=hid hc;clear hc hT hlt R1 HC;go_wp2_with fail
   refine HP.out.mono ?_;rintro e w9 ⟨a9,k9,rfl,hs9,ht9⟩;have HF:Hid (BytesX w m ((Pk.putR (l.map (·.n)) 1).2) (.returned (.slice a9 m k9)) w9):=hid ⟨a9,k9,rfl,hs9,(Pk.Qc HG.out).trans ht9 (fun _ _ h=>h)⟩;clear hs9 ht9 HP;dsimp only;go_wp2;go_ret
   exact HF.out
theorem QpE(S:Nat)(hS:S≤1000000)(W:World):(Instr.makeSlice 132 (.int .i64 0) (.int .i64 (S:Int))).run Tryz.prog W=.ok (.slice (some ⟨W.heap.size,0,none⟩) 0 S) (W.alloc (.cells (madeCells (Value.cells (.string ⟨#[]⟩)) S) 9)):=by
 obtain⟨i0,hi,hz0,hz1,hz2⟩:=info_parts Ss.Q4;have h:=run_make (P:=Tryz.prog) W 132 9 i0 (.string ⟨#[]⟩) Tryz.underlying132 hi hz0 .i64 .i64 0 (S:Int) (by omega) (by omega) (by rw[hz2];omega) (by omega);rw[hz1,Int.toNat_natCast,Nat.mul_one]at h;exact h
theorem Qk5(b:Nat)(a:Option Addr)(n c m:Nat)(l:List Cel)(w:World)(hs:CSeg w a n c l)(hn:n≤4096)(ht:∀x∈l,x.s.size≤65536)(hm:(Tx.bestT (l.map fun c=>nm c.s)).length=m) :
  Calls Tryz.prog 246 #[.agg #[.func (.func 105) #[] #[],.func (.func 106) #[] #[],.func (.func 107) #[] #[],.func (.func 108) #[] #[],.func (.func 109) #[] #[],.func (.func 146) #[] #[.pointer (some ⟨b,0,none⟩)]],.slice a n c] w (BytesX w m (Tx.bestT (l.map fun c=>nm c.s))):=by
 obtain⟨i0,ii,iz0,iz1,iz2⟩:=info_parts Ss.Q4;have HS:=hid hs;have HL:=hid hs.len;have HV:=hid (fun c W=>Qke c W);have hmk:=QpE n (by omega);have hcod:=heap_alloc_new w (.cells #[.func (.func 105) #[] #[],.func (.func 106) #[] #[],.func (.func 107) #[] #[],.func (.func 108) #[] #[],.func (.func 109) #[] #[],.func (.func 146) #[] #[.pointer (some ⟨b,0,none⟩)]] 117);have hmade:=World.ownsRow_made (base:=w.heap.size) (e:=9) (size:=1) (w.alloc (.cells #[.func (.func 105) #[] #[],.func (.func 106) #[] #[],.func (.func 107) #[] #[],.func (.func 108) #[] #[],.func (.func 109) #[] #[],.func (.func 146) #[] #[.pointer (some ⟨b,0,none⟩)]] 117)) (madeCells (Value.cells (.string ⟨#[]⟩)) n) n (by simp) (by unfold maxLen;omega) (by rw[size_madeCells];omega);have hcod2:=(Below.heap_alloc (w.alloc (.cells #[.func (.func 105) #[] #[],.func (.func 106) #[] #[],.func (.func 107) #[] #[],.func (.func 108) #[] #[],.func (.func 109) #[] #[],.func (.func 146) #[] #[.pointer (some ⟨b,0,none⟩)]] 117)) (.cells (madeCells (Value.cells (.string ⟨#[]⟩)) n) 9) w.heap.size (by simp)).trans hcod;have HC0:=hid hcod2;have HM0:=hid hmade;clear hs hcod hmade hcod2;go_enter Tryz.func246,Tryz.ntmps246
 go_wp2
 go_loopw [5,15] (fun vv iv wx=>∃(k gv cv:Nat),iv=.int .i64 k∧k≤n∧vv=.slice (some ⟨gv,0,none⟩) k cv∧wx.ownsRow w.heap.size 9 1 (.slice (some ⟨gv,0,none⟩) k cv) k ((l.take k).map strV)∧wx.heap[w.heap.size]?=some (.cells #[.func (.func 105) #[] #[],.func (.func 106) #[] #[],.func (.func 107) #[] #[],.func (.func 108) #[] #[],.func (.func 109) #[] #[],.func (.func 146) #[] #[.pointer (some ⟨b,0,none⟩)]] 117 (0,0))∧w.grownBy wx none) (fun _ iv _=>n-(intOf iv).toNat)
 case atStart=>exact⟨0,_,_,rfl,Nat.zero_le _,rfl,(by have h:=HM0.out;rw[World.size_alloc]at h;exact h),HC0.out,Qa (Qb _ _) (Qb _ _)⟩
 case round=>
  obtain⟨k,gv,cv,rfl,hk,rfl,r1,hcd,hg⟩:=hrel;have HG:=hid hg;have R1:=hid r1;have HC:=hid hcd;have hgs:=hg.size;clear r1 hcd hg HM0 HC0 hmk;by_cases hlt:k<n
  ·obtain⟨B,O,rfl,hcs⟩:=(HS.out.old HG.out).form (by omega);obtain⟨x,hx⟩:∃x,x=l.getD k zeroC:=⟨_,rfl⟩;have HXE:=hid hx;have M1:=hid (Qci (f:=strV) (l:=l) (k:=k) (by rw[HL.out];exact hlt));rw[←hx]at M1;have f0:wr.cell? ⟨w.heap.size,0,none⟩=some (.func (.func 105) #[] #[]):=by rw[cell_of_row _ _ _ _ _ _ HC.out];rfl
   have hwlt:w.heap.size<wr.heap.size:=QP HC.out;have hlt2:(k:Int)<(n:Int):=by omega
   clear hcs hx;obtain⟨c0,c1,c2⟩:=Qp (HS.out.old HG.out) hlt HXE.out;go_wp2_with fail
   refine(HV.out x _).mono ?_;rintro e wv ⟨rfl,hgv⟩;have GV:=hid (Qa (Qb wr _) hgv);have HGV:=hid (Qa HG.out GV.out);have RV:=hid (Qi R1.out GV.out);have CV:=hid (Qae HC.out GV.out);have hvs:=HGV.out.size;clear hgv GV HG R1 HC c0 c1 c2 f0;dsimp only;go_wp2_with (at_builtin;refine wpList_append_own _ rfl _ _ 132 rfl w.heap.size 9 i0 (.string ⟨#[]⟩) 1 16 Tryz.underlying132 ii iz0 iz1 iz2 rfl (by decide) _ k _ rfl (RV.out.alloc _) ⟨wv.heap.size,0,none⟩ 1 1 [.string x.s] rfl rfl (by intro y u hy;match y,hy with|0,hy=>simp at hy;subst hy;simp[Addr.add]) (by intro u hu;simp at hu;subst hu;rfl) (by unfold maxLen;omega) (by omega) (by simp;omega) ?_;intro V4 w4 hown4 hg4 hnil4)
   obtain⟨g4,c4,rfl⟩:=Nu.ownsRow_form hown4 (by omega);have HG4:=hid (Bs.grownBy_trans (Qa HGV.out (Qb _ _)) hg4 (fun i e=>(RV.out.lt i e).1));have R14:Hid (w4.ownsRow w.heap.size 9 1 (.slice (some ⟨g4,0,none⟩) (k+1) c4) (k+1) ((l.take (k+1)).map strV)):=hid (by rw[M1.out];exact hown4);have C4:Hid (w4.heap[w.heap.size]?=some (.cells #[.func (.func 105) #[] #[],.func (.func 106) #[] #[],.func (.func 107) #[] #[],.func (.func 108) #[] #[],.func (.func 109) #[] #[],.func (.func 146) #[] #[.pointer (some ⟨b,0,none⟩)]] 117 (0,0))):=hid (by
    rw[hg4.block _ (by have:=QP CV.out;simp;omega) (fun e=>?_),Below.heap_alloc _ _ _ (QP CV.out)]
    ·exact CV.out
    ·exact QgZ RV.out CV.out (by decide) e.symm)
   clear hown4 hg4 hnil4 RV CV M1 HGV;go_wp2;go_roundw
   case rel=>exact⟨k+1,_,_,by go_num,by omega,by go_num,R14.out,C4.out,HG4.out⟩
   case measure=>simp[intOf];omega
  ·obtain rfl:k=n:=by omega
   have hT:l.take k=l:=List.take_of_length_le (by rw[HL.out];exact Nat.le_refl _);rw[hT,Qkw]at R1;have f4:wr.cell? ⟨w.heap.size,4,none⟩=some (.func (.func 109) #[] #[]):=by rw[cell_of_row _ _ _ _ _ _ HC.out];rfl
   have hOk:Tx.okB (l.map fun c=>nm c.s)=true:=(Tx.QaJ _).2 ⟨by rw[List.length_map,HL.out];exact hn,fun y hy=>by
    obtain⟨z,hz,rfl⟩:=List.mem_map.1 hy;rw[Qb7];exact ht z hz⟩
   have hA:Tx.AllB (l.map fun c=>nm c.s):=fun y hy=>by
    obtain⟨z,hz,rfl⟩:=List.mem_map.1 hy;exact Qd1 _
   have hR:Tx.formR (Tx.bestT (l.map fun c=>nm c.s)) (l.map fun c=>nm c.s)=(0,Tx.bestT (l.map fun c=>nm c.s)):=by unfold Tx.formR;rw[if_pos hOk]
   have hc:=Tx.Qbd hR hm hA (some ⟨gv,0,none⟩) k cv wr (Ss.Seg.own R1.out);clear hR;have HP:=hid hc;clear hc hT hlt R1 HC;go_wp2_with fail
   refine HP.out.mono ?_;rintro e w9 ⟨a9,k9,rfl,hs9,ht9⟩;have HF:Hid (BytesX w m (Tx.bestT (l.map fun c=>nm c.s)) (.returned (.slice a9 m k9)) w9):=hid ⟨a9,k9,rfl,hs9,(Pk.Qc HG.out).trans ht9 (fun _ _ h=>h)⟩;clear hs9 ht9 HP;dsimp only;go_wp2;go_ret
   exact HF.out
end Sg
end Go.Proofs.YtljanfnhmhimiaaGreat
