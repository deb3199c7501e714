/- Parts of the proof. -/
import Derived.Test.YtgffbbdcbkikhaaGreatDoorKbY
import Derived.Test.YtgffbbdcbkikhaaGreatDoorKba
set_option maxRecDepth 100000
set_option maxHeartbeats 8000000
open Go.Lib (hid)
namespace Go.Proofs.YtgffbbdcbkikhaaGreatDoor
namespace Sp
open Go.RowKit Bs Dv Gr
open Cn (CN CC CnOk IsC Qj pagesL eachC PagesX)
open Su (Sup SupOk SB putS supE T4)
open Fr (strE putF Fits blk)
def wr1(d:Dv.St)(q:Nat×List Int):Int×Dv.St:=d.write (q.1:Int) q.2
def tryW(d:Dv.St):List (Nat×List Int)→Int×Dv.St
 | []=>(0,d)
 |q :: l=>if (wr1 d q).1≠0 then wr1 d q else tryW (wr1 d q).2 l
def at2(W:List (Nat×List Int))(j:Nat):Nat×List Int:=W.getD j (0,[])
theorem Qfw:∀(W:List (Nat×List Int)) (d:Dv.St) (i:Nat),i<W.length→(∀j,j<i→(wr1 (writesD d (W.take j)) (at2 W j)).1=0)→(wr1 (writesD d (W.take i)) (at2 W i)).1≠0→tryW d W=wr1 (writesD d (W.take i)) (at2 W i)
 | [],_,_,h,_,_=>by cases h
 |q :: l,d,0,_,_,h=>if_pos h
 |q :: l,d,i+1,hi,h1,h2=>by
  have h0:(wr1 d q).1=0:=h1 0 (by omega);rw[tryW,if_neg (by rw[h0];exact fun z=>z rfl)];exact Qfw l (wr1 d q).2 i (by simpa using hi) (fun j hj=>h1 (j+1) (by omega)) h2
theorem Qec:∀(W:List (Nat×List Int)) (d:Dv.St),(∀j,j<W.length→(wr1 (writesD d (W.take j)) (at2 W j)).1=0)→tryW d W=(0,writesD d W)
 | [],_,_=>rfl
 |q :: l,d,h=>by
  have h0:(wr1 d q).1=0:=h 0 (by simp);rw[tryW,if_neg (by rw[h0];exact fun z=>z rfl)];exact Qec l (wr1 d q).2 (fun j hj=>h (j+1) (by simpa using hj))
theorem QgR(d:Dv.St)(W:List (Nat×List Int)){i:Nat}(hi:i<W.length):writesD d (W.take (i+1))=(wr1 (writesD d (W.take i)) (at2 W i)).2:=by
 unfold writesD;rw[List.take_succ_eq_append_getElem hi,List.foldl_append];unfold at2;rw[List.getD_eq_getElem?_getD,List.getElem?_eq_getElem hi]
 rfl
theorem QbC(d:Dv.St)(b:Int)(l:List Int):(d.write b l).2.size=d.size∧(d.write b l).2.blocks=d.blocks∧(d.write b l).2.ops≤d.ops+1∧(d.write b l).2.pend.length≤d.pend.length+1:=by
 unfold Dv.St.write;by_cases q:¬(d.hasB b∧l.length=d.size)
 ·rw[if_pos q];exact⟨rfl,rfl,Nat.le_succ _,Nat.le_succ _⟩
 ·rw[if_neg q];by_cases z:d.fuse=0
  ·rw[if_pos z];exact⟨rfl,rfl,Nat.le_succ _,Nat.le_succ _⟩
  ·rw[if_neg z];exact⟨rfl,rfl,Nat.le_refl _,by show(d.pend++[_]).length≤_;rw[List.length_append];exact Nat.le_refl _⟩
theorem Qcs(d:Dv.St):d.flush.2.size=d.size∧d.flush.2.blocks=d.blocks∧d.flush.2.ops≤d.ops+1∧d.flush.2.pend.length≤d.pend.length:=by
 unfold Dv.St.flush;by_cases z:d.fuse=0
 ·rw[if_pos z];exact⟨rfl,rfl,Nat.le_succ _,Nat.le_refl _⟩
 ·rw[if_neg z];exact⟨rfl,rfl,Nat.le_refl _,Nat.zero_le _⟩
theorem QbK:∀(W:List (Nat×List Int)) (d:Dv.St),(writesD d W).size=d.size∧(writesD d W).blocks=d.blocks∧(writesD d W).ops≤d.ops+W.length∧(writesD d W).pend.length≤d.pend.length+W.length
 | [],d=>⟨rfl,rfl,Nat.le_refl _,Nat.le_refl _⟩
 |q :: l,d=>by
  obtain⟨a,b,c,e⟩:=QbC d (q.1:Int) q.2;obtain⟨a2,b2,c2,e2⟩:=QbK l (d.write (q.1:Int) q.2).2;rw[List.length_cons];exact⟨a2.trans a,b2.trans b,by show(writesD (d.write (q.1:Int) q.2).2 l).ops≤_;omega,by show(writesD (d.write (q.1:Int) q.2).2 l).pend.length≤_;omega⟩
def saveR(d:Dv.St)(W:List (Nat×List Int))(o:Nat)(sb:List Int):Int×Dv.St:=
 if (tryW d W).1≠0 then tryW d W
 else if ((tryW d W).2.flush).1≠0 then(tryW d W).2.flush
 else if (((tryW d W).2.flush).2.write (o:Int) sb).1≠0 then((tryW d W).2.flush).2.write (o:Int) sb
 else((((tryW d W).2.flush).2.write (o:Int) sb).2).flush
theorem QeE:∀(W:List (Nat×List Int)) (d:Dv.St),(tryW d W).2.size=d.size∧(tryW d W).2.blocks=d.blocks
 | [],d=>⟨rfl,rfl⟩
 |q :: l,d=>by
  obtain⟨a,b,c,e⟩:=QbC d (q.1:Int) q.2;rw[tryW];by_cases z:(wr1 d q).1≠0
  ·rw[if_pos z];exact⟨a,b⟩
  ·rw[if_neg z];obtain⟨a2,b2⟩:=QeE l (wr1 d q).2;exact⟨a2.trans a,b2.trans b⟩
theorem Qha(d:Dv.St)(W:List (Nat×List Int))(o:Nat)(sb:List Int):(saveR d W o sb).2.size=d.size∧(saveR d W o sb).2.blocks=d.blocks:=by
 obtain⟨a,b⟩:=QeE W d;obtain⟨a1,b1,_,_⟩:=Qcs (tryW d W).2;obtain⟨a2,b2,_,_⟩:=QbC ((tryW d W).2.flush).2 (o:Int) sb;obtain⟨a3,b3,_,_⟩:=Qcs (((tryW d W).2.flush).2.write (o:Int) sb).2;unfold saveR;by_cases h1:(tryW d W).1≠0
 ·rw[if_pos h1];exact⟨a,b⟩
 ·rw[if_neg h1];by_cases h2:((tryW d W).2.flush).1≠0
  ·rw[if_pos h2];exact⟨a1.trans a,b1.trans b⟩
  ·rw[if_neg h2];by_cases h3:(((tryW d W).2.flush).2.write (o:Int) sb).1≠0
   ·rw[if_pos h3];exact⟨a2.trans (a1.trans a),b2.trans (b1.trans b)⟩
   ·rw[if_neg h3];exact⟨a3.trans (a2.trans (a1.trans a)),b3.trans (b2.trans (b1.trans b))⟩
def cntW(sup:Sup)(L:List (List Int)):List (Nat×List Int):=(List.range L.length).map fun i=>((sup.pages.getD i 0).toNat,blk sup.size.toNat 2 sup.gen (L.getD i []))
theorem QfM(sup:Sup)(L:List (List Int)):(cntW sup L).length=L.length:=by unfold cntW;rw[List.length_map,List.length_range]
theorem Qlo(sup:Sup)(L:List (List Int)){i:Nat}(hi:i<L.length):at2 (cntW sup L) i=((sup.pages.getD i 0).toNat,blk sup.size.toNat 2 sup.gen (L.getD i [])):=by
 unfold at2 cntW;rw[List.getD_eq_getElem?_getD,List.getElem?_map,List.getElem?_range hi]
 rfl
def SaveX(w0 w:World)(dg db:Nat)(P:Value)(r:Int×Dv.St)(e:Ending)(w':World):Prop:=
 ∃P',e=.returned (.int .i64 r.1)∧Held w0 w' dg db P' r.2∧Turn w w' (Dv.fp dg db P)∧∀k,Dv.fp dg db P' k→Dv.fp dg db P k∨w.heap.size≤k
theorem fp_lt{w0 w:World}{g b:Nat}{P:Value}{s:Dv.St}(h:Held w0 w g b P s){k:Nat}(hk:Dv.fp g b P k):k<w.heap.size:=h.dev.lt k hk
theorem saved{w0 w w1:World}{dg db:Nat}{P P1:Value}{d1:Dv.St}{r:Int×Dv.St}{e:Ending}{w':World}(h1:Held w0 w1 dg db P1 d1)(ht:Turn w w1 (Dv.fp dg db P))(hf:∀k,Dv.fp dg db P1 k→Dv.fp dg db P k∨w.heap.size≤k)(k:Wrote dg db P1 r w1 e w') :
  SaveX w0 w dg db P r e w':=by
 obtain⟨P',he,hd,ht2,hf2⟩:=h1.wrote k;refine⟨P',he,hd,ht.trans ht2 (fun i hi q=>(hf i q).elim id fun z=>by omega),fun k q=>?_⟩;rcases hf2 k q with z|z
 ·exact hf k z
 ·exact .inr (Nat.le_trans ht.size z)
theorem QgE(w0 w:World)(dg db:Nat)(P:Value)(d:Dv.St)(g h cap n:Nat)(N:List Int)(sup:Sup)(ap:Option Addr)(cp:Nat)(slot:Nat)
  (hd:Held w0 w dg db P d) (hc:CN w0 w g h cap d.size n N) (hs:Ws.Seg w ap sup.pages.length cp sup.pages) (hap:∀ad,ap=some ad→ad.block<w.heap.size∧¬Dv.fp dg db P ad.block) (ho:SupOk sup) (hT:T4 w)
  (hsz:sup.size=d.size) (hE:supE sup=0) (hln:(pagesL (eachC d.size) n N).length=sup.pages.length)
  (hfit:∀i,i<sup.pages.length→(((pagesL (eachC d.size) n N).getD i []).length:Int)+16≤d.size∧IsB ((pagesL (eachC d.size) n N).getD i []))
  (hops:d.ops+sup.pages.length+10≤1000000) (hpd:d.pend.length+sup.pages.length+10≤1000000) (hT4:¬Dv.fp dg db P 0) (hp74:sup.pages.length≤74) :
  Calls Tryz.prog 56 #[.pointer (some ⟨dg,0,none⟩),.int .i64 (slot:Int),.agg #[.int .u64 sup.gen,.int .i64 sup.size,.int .i64 sup.blocks,.int .u32 sup.root,.slice ap sup.pages.length cp],.pointer (some ⟨g,0,none⟩)] w
   (SaveX w0 w dg db P (saveR d (cntW sup (pagesL (eachC d.size) n N)) slot (putS sup).1)):=by
 obtain⟨L,hL⟩:∃L,pagesL (eachC d.size) n N=L:=⟨_,rfl⟩;have hdm:=hd.dev.ok;have hfits:Fits d.size:=⟨by have:=hdm.lo;omega,by have:=hdm.hi;omega,by have:=hdm.by64;omega⟩;have hA:=Qb w (.cells #[.int .u64 sup.gen,.int .i64 sup.size,.int .i64 sup.blocks,.int .u32 sup.root,.slice ap sup.pages.length cp] 92);have HS0:=hid (SB.new w sup ap sup.pages.length cp);obtain⟨W0,hW0⟩:∃X,w.alloc (.cells #[.int .u64 sup.gen,.int .i64 sup.size,.int .i64 sup.blocks,.int .u32 sup.root,.slice ap sup.pages.length cp] 92)=X:=⟨_,rfl⟩;rw[hW0]at HS0 hA;have HW0:=hid hW0;have HG0:=hid hA;have HPG:Hid (Calls Tryz.prog 93 #[.pointer (some ⟨g,0,none⟩)] W0 (PagesX W0 L)):=hid (by
  rw[←hL];exact Cn.Qah g h cap d.size n N W0 (hc.old hA).cc hc.ok)
 rw[hL]at hln hfit ⊢;have HD0:=hid (hd.go (Qc hA));have HSEG:=hid hs;have HAP:=hid hap;have HT0:=hid (hT.grown hA);have HFIT:Hid (∀i,i<L.length→putF (d.size:Int) (2,sup.gen,L.getD i [])=(blk d.size 2 sup.gen (L.getD i []),0)∧IsB (L.getD i [])∧(blk d.size 2 sup.gen (L.getD i [])).length=d.size∧IsB (blk d.size 2 sup.gen (L.getD i []))):=hid (fun i hi=>by
  obtain⟨h1,h2⟩:=hfit i (by omega);refine⟨?_,h2,Fr.Qo _ _ _ _ (by omega),Fr.QaD _ _ _ _ (by decide) h2⟩;unfold putF;rw[if_neg (fun q=>q hfits),if_neg (by show ¬(d.size:Int)-16<((L.getD i []).length:Int);omega)]
  rfl)
 have HGEN:Hid (0≤sup.gen∧sup.gen<18446744073709551616):=hid ho.gen;have HPP:Hid (∀i,i<L.length→0≤sup.pages.getD i 0∧sup.pages.getD i 0<4294967296):=hid (fun i hi=>by
  refine ho.pages _ ?_;rw[List.getD_eq_getElem?_getD,List.getElem?_eq_getElem (show i<sup.pages.length by omega)];exact List.getElem_mem _)
 have HWL:Hid ((cntW sup L).length=L.length):=hid (QfM sup L);have HWA:Hid (∀i,i<L.length→at2 (cntW sup L) i=((sup.pages.getD i 0).toNat,blk d.size 2 sup.gen (L.getD i []))):=hid (fun i hi=>by rw[Qlo sup L hi,hsz];rfl);have HPS:Hid (putS sup=((putS sup).1,0)):=hid (by rw[←Su.put_e sup]at hE;rw[←hE]);have HPI:Hid (IsB (putS sup).1∧(putS sup).1.length≤100000000):=hid ⟨Su.QlN,by have:=Su.Qju sup;omega⟩;have HSP:=hid (fun W (k:W0.grownBy W none∨True) (hg:Ws.Seg W ap sup.pages.length cp sup.pages) (ht:T4 W)=>Su.QlP sup ap sup.pages.length cp W hg ho ht);have HDF:Hid (∀i,i≤L.length→(writesD d ((cntW sup L).take i)).ops+10≤1000000∧(writesD d ((cntW sup L).take i)).pend.length+10≤1000000):=hid (fun i hi=>by
  obtain⟨a,b,c,e⟩:=QbK ((cntW sup L).take i) d;have:((cntW sup L).take i).length≤L.length:=by rw[List.length_take,QfM];omega
  constructor <;> omega)
 have HFP:Hid (∀k,Dv.fp dg db P k→k<w.heap.size):=hid (fun k hk=>fp_lt hd hk);have HLN:=hid hln;have HT4N:=hid hT4;have HL74:Hid (L.length≤74):=hid (by omega);obtain⟨z0,z1,z2,z3,z4⟩:=HS0.out.cells;have hw0:w.heap.size<W0.heap.size:=HS0.out.lt;have HWL0:=hid hw0;have HSZ:=hid hsz;obtain⟨R,hR⟩:∃R,saveR d (cntW sup L) slot (putS sup).1=R:=⟨_,rfl⟩;rw[hR];have HR:Hid (saveR d (cntW sup L) slot (putS sup).1=R):=hid hR;clear hL hA hW0 hR hd hc hs hap ho hT hsz hE hln hfit hops hpd hdm hfits hw0 hT4;go_enter Tryz.func56,Tryz.ntmps56
 go_wp2_with fail
 rw[HW0.out];refine HPG.out.mono ?_;rintro e w1 ⟨hg1,pa,pc,rfl,hps,hpa⟩;have HG1:=hid (Qa HG0.out hg1);have HD1:=hid (HD0.out.go (Qc hg1));have HS1:=hid (HS0.out.old hg1);have HT1:=hid (HT0.out.grown hg1);have HPSG:=hid hps;have HPA:Hid (W0.heap.size≤pa):=hid hpa;have HL1:Hid (W0.heap.size≤w1.heap.size):=hid hg1.size;obtain⟨l,hl⟩:∃l,L.length=l:=⟨_,rfl⟩;have HLL:=hid hl;rw[hl]at HPSG ⊢;have hl74:l≤74:=by rw[←hl];exact HL74.out
 clear hg1 hps hpa hl HG0 HD0 HS0 HT0 HPG z0 z1 z2 z3 z4 HW0;dsimp only;go_wp2
 go_loopw [21] (fun si wr=>∃(i:Nat) (Pi:Value),i≤l∧si=.int .i64 i∧Hid (Held w0 wr dg db Pi (writesD d ((cntW sup L).take i)))∧Hid (Turn w1 wr (Dv.fp dg db P))∧Hid (∀k,Dv.fp dg db Pi k→Dv.fp dg db P k∨w1.heap.size≤k)∧Hid (∀j,j<i→(wr1 (writesD d ((cntW sup L).take j)) (at2 (cntW sup L) j)).1=0)) (fun si _=>l-(intOf si).toNat)
 case atStart=>exact⟨0,P,Nat.zero_le _,rfl,HD1,hid (Turn.refl _ _),hid (fun k q=>.inl q),hid (fun j hj=>by omega)⟩
 case round=>
  clear HD1;obtain⟨i,Pi,hil,rfl,HD,HT,HF,HOK⟩:=hrel;have HSB:Hid (SB wr w.heap.size sup ap sup.pages.length cp):=hid (Fr.Qg HS1.out HT.out (fun q=>by have:=HFP.out _ q;omega));have HSW:Hid (Ws.Seg wr ap sup.pages.length cp sup.pages):=hid (Qp (HSEG.out.grown HG1.out) HT.out (fun ad had=>(HAP.out ad had).2));have HTW:Hid (Turn w wr (Dv.fp dg db P)):=hid (((Qc HG1.out).mono (fun _ _ e=>e.elim)).trans HT.out (fun _ _ e=>e));have HFW:Hid (∀k,Dv.fp dg db Pi k→Dv.fp dg db P k∨w.heap.size≤k):=hid (fun k q=>(HF.out k q).imp id fun z=>by have:=HL1.out;have:=HWL0.out;omega);obtain⟨b0,b1,b2,b3,b4⟩:=HSB.out.cells;rw[HSZ.out]at b1;by_cases hlt:i<l
  ·have hq:decide (i<l)=true:=decide_eq_true hlt;have hiL:i<L.length:=by rw[HLL.out];exact hlt
   obtain⟨ga,oa,e1,hc1⟩:=HPSG.out.addr (by omega);have hck:wr.cell? ⟨pa,i,none⟩=some (.string (strOfNums (L.getD i []))):=by
    cases e1
    have h2:=hc1 i hlt;rw[Nat.zero_add]at h2;exact HT.out.cell h2 (fun q=>by have:=HFP.out _ q;have:=HPA.out;have:=HWL0.out;have h9:pa<w.heap.size:=HFP.out _ q;omega)
   obtain⟨gp,op,hap2,hcp⟩:=HSW.out.addr (by have:=HLN.out;omega);have hcpi:=hcp i (by have:=HLN.out;omega);rw[hap2]at b4;obtain⟨hf1,hf2,hf3,hf4⟩:=HFIT.out i hiL;have hpp:=HPP.out i hiL;have HPUT:Hid (∀W,Calls Tryz.prog 83 #[.int .i64 (d.size:Int),.agg #[.int .u8 2,.int .u64 sup.gen,.string (strOfNums (L.getD i []))]] W fun e w'=>e=strE (blk d.size 2 sup.gen (L.getD i []),0)∧W.grownBy w' none):=hid (fun W=>by
    have:=QfW d.size 2 sup.gen (L.getD i []) W (by decide) HGEN.out hf2;rw[hf1]at this;exact this)
   have HWI:=hid (HWA.out i hiL);have HB4:=hid (⟨hf3,hf4⟩:(blk d.size 2 sup.gen (L.getD i [])).length=d.size∧IsB (blk d.size 2 sup.gen (L.getD i [])));have HDI:=hid (HDF.out i (by omega));obtain⟨S,hS⟩:∃S,strOfNums (L.getD i [])=S:=⟨_,rfl⟩;obtain⟨B,hB⟩:∃B,blk d.size 2 sup.gen (L.getD i [])=B:=⟨_,rfl⟩;obtain⟨pg,hpg⟩:∃q,sup.pages.getD i 0=q:=⟨_,rfl⟩;rw[hS]at hck HPUT;rw[hB]at HPUT HWI HB4;rw[hpg]at hcpi hpp HWI;obtain⟨pn,rfl⟩:∃q:Nat,pg=q:=⟨pg.toNat,by omega⟩;rw[Int.toNat_natCast]at HWI;have w1':IntKind.i64.wrap (pn:Int)=(pn:Int):=IntWalk.i64_in _ (by omega);have hbl:i<sup.pages.length:=by have:=HLN.out;omega
   have hcle:sup.pages.length≤cp:=HSW.out.le;obtain⟨np,hnp⟩:∃q,sup.pages.length=q:=⟨_,rfl⟩;rw[hnp]at b4 hbl hcle;have HNP:=hid hnp;have HSL:Hid (l≤pc):=hid HPSG.out.le;have hlpc:l≤pc:=HSL.out;clear e1 hc1 hcp hf1 hf2 hf3 hf4 hpp hS hB hpg hnp;go_upto_region 4 with fail
   go_wp2_with fail
   refine(HPUT.out wr).mono ?_;rintro e w2 ⟨rfl,hg2⟩;have HD2:=hid (HD.out.go (Qc hg2));have HTW2:Hid (Turn w w2 (Dv.fp dg db P)):=hid (HTW.out.trans (Qc hg2) (fun _ _ e=>e.elim));have HT2:Hid (Turn w1 w2 (Dv.fp dg db P)):=hid (HT.out.trans (Qc hg2) (fun _ _ e=>e.elim));have c4:=(Qc hg2).cell b4 id;have cpi:=(Qc hg2).cell hcpi id;have HWR:=hid (Dv.write_any dg db Pi (writesD d ((cntW sup L).take i)) (pn:Int) B w2 HD2.out.dev HB4.out.2 (by have h9:=HB4.out.1;have:=HD2.out.dev.ok.hi;have h8:=(QbK ((cntW sup L).take i) d).1;rw[h9];omega) (by have:=HDI.out;omega) (by have:=HDI.out;omega));have HW1E:Hid ((writesD d ((cntW sup L).take i)).write (pn:Int) B=wr1 (writesD d ((cntW sup L).take i)) (at2 (cntW sup L) i)):=hid (by rw[HWI.out];rfl);obtain⟨S2,hS2⟩:∃S2,strOfNums B=S2:=⟨_,rfl⟩;dsimp only[strE];rw[hS2]at HWR ⊢;clear hg2 b0 b1 b2 b3 b4 hck hcpi hS2 HPUT;go_wp2_with fail
   refine HWR.out.mono ?_;intro e w3 hw3;rw[HW1E.out]at hw3;obtain⟨P3,rfl,hd3,ht3,hf3⟩:=HD2.out.wrote hw3;obtain⟨r,hr⟩:∃r,wr1 (writesD d ((cntW sup L).take i)) (at2 (cntW sup L) i)=r:=⟨_,rfl⟩;have HRR:=hid hr;by_cases h0:r.1=0
   ·have r0:(r.1 != 0)=false:=by rw[h0];rfl
    have HD3:Hid (Held w0 w3 dg db P3 (writesD d ((cntW sup L).take (i+1)))):=hid (by rw[QgR d (cntW sup L) (by rw[HWL.out,HLL.out];exact hlt)];exact hd3);have HT3:Hid (Turn w1 w3 (Dv.fp dg db P)):=hid (HT2.out.trans ht3 (fun k hk q=>(HF.out k q).elim id fun z=>by omega));have HF3:Hid (∀k,Dv.fp dg db P3 k→Dv.fp dg db P k∨w1.heap.size≤k):=hid (fun k q=>by
     rcases hf3 k q with z|z
     ·exact HF.out k z
     ·exact .inr (Nat.le_trans HT2.out.size z))
    have HOK3:Hid (∀j,j<i+1→(wr1 (writesD d ((cntW sup L).take j)) (at2 (cntW sup L) j)).1=0):=hid (fun j hj=>by
     by_cases q:j<i
     ·exact HOK.out j q
     ·obtain rfl:j=i:=by omega
      rw[HRR.out];exact h0)
    rw[hr,h0];clear hw3 hd3 ht3 hf3 hr HD HT HF HOK HWR h0 r0 c4 cpi HW1E HRR;dsimp only;go_wp2;go_roundw
    case rel=>exact⟨i+1,P3,by omega,by go_num,HD3,HT3,HF3,HOK3⟩
    case measure=>simp[intOf];omega
   ·have r0:(r.1 != 0)=true:=bne_iff_ne.2 h0;have HX:Hid (SaveX w0 w dg db P R (.returned (.int .i64 r.1)) w3):=hid (by
     have e1:R=r:=by
      have h5:=Qfw (cntW sup L) d i (by rw[HWL.out,HLL.out];exact hlt) HOK.out (by rw[hr];exact h0);rw[hr]at h5;rw[←HR.out];unfold saveR;rw[h5,if_pos h0]
     rw[e1,←hr];exact saved HD2.out HTW2.out HFW.out hw3)
    rw[hr];clear hw3 hd3 ht3 hf3 hr HD HT HF HOK HWR h0 c4 cpi HW1E HRR;dsimp only;go_wp2;go_ret
    exact HX.out
  ·have hq:decide (i<l)=false:=decide_eq_false hlt;obtain rfl:i=l:=by omega
   have HAL:Hid (tryW d (cntW sup L)=(0,writesD d (cntW sup L))):=hid (Qec (cntW sup L) d (fun j hj=>HOK.out j (by rw[HWL.out,HLL.out]at hj;exact hj)));have HDL:Hid (Held w0 wr dg db Pi (writesD d (cntW sup L))):=hid (by
    have h1:=HD.out;rw[List.take_of_length_le (by rw[HWL.out,HLL.out];exact Nat.le_refl _)]at h1;exact h1)
   have HDB:Hid ((writesD d (cntW sup L)).ops+10≤1000000∧(writesD d (cntW sup L)).pend.length+10≤1000000):=hid (by
    have h1:=HDF.out i (by rw[HLL.out];exact Nat.le_refl _);rw[List.take_of_length_le (by rw[HWL.out,HLL.out];exact Nat.le_refl _)]at h1;exact h1)
   have HTTT:Hid (T4 wr):=hid (fun j hj=>HT.out.cell (HT1.out j hj) HT4N.out);obtain⟨D1,hD1⟩:∃D1,writesD d (cntW sup L)=D1:=⟨_,rfl⟩;rw[hD1]at HAL HDL HDB;have HFL:=hid (Dv.flush_any dg db Pi D1 wr HDL.out.dev (by have:=HDB.out;omega));clear HD hD1 HOK HDF;go_wp2_with fail
   refine HFL.out.mono ?_;intro e w2 hw2;obtain⟨P2,rfl,hd2,ht2,hf2⟩:=HDL.out.wrote hw2;have hff:=Qcs D1;obtain⟨r,hr⟩:∃r,D1.flush=r:=⟨_,rfl⟩;rw[hr]at hd2 hff ⊢;by_cases h0:r.1=0
   ·have r0:(r.1 != 0)=false:=by rw[h0];rfl
    have HT2:Hid (Turn w1 w2 (Dv.fp dg db P)):=hid (HT.out.trans ht2 (fun k hk q=>(HF.out k q).elim id fun z=>by omega));have HF2:Hid (∀k,Dv.fp dg db P2 k→Dv.fp dg db P k∨w1.heap.size≤k):=hid (fun k q=>by
     rcases hf2 k q with z|z
     ·exact HF.out k z
     ·exact .inr (Nat.le_trans HT.out.size z))
    have HD2:=hid hd2;have HB2:Hid (r.2.ops+9≤1000000∧r.2.pend.length+9≤1000000):=hid (by have:=HDB.out;omega);have HSB2:Hid (SB w2 w.heap.size sup ap sup.pages.length cp):=hid (Fr.Qg HS1.out HT2.out (fun q=>by have:=HFP.out _ q;omega));have HPUT:=hid (HSP.out w2 (.inr trivial) (Qp (HSEG.out.grown HG1.out) HT2.out (fun ad had=>(HAP.out ad had).2)) (fun j hj=>HT2.out.cell (HT1.out j hj) HT4N.out));rw[HPS.out]at HPUT;have HR1:Hid (R=if (r.2.write (slot:Int) (putS sup).1).1≠0 then r.2.write (slot:Int) (putS sup).1 else((r.2.write (slot:Int) (putS sup).1).2).flush):=hid (by
     rw[←HR.out];unfold saveR;rw[HAL.out,if_neg (fun q=>q rfl),hr,if_neg (fun q=>q h0)])
    obtain⟨c0,c1,c2,c3,c4⟩:=HSB2.out.cells;obtain⟨sb,hsb⟩:∃q,(putS sup).1=q:=⟨_,rfl⟩;rw[hsb]at HPUT HR1 HPI;clear b0 b1 b2 b3 b4 hw2 hd2 ht2 hf2 hff hr h0 HFL HT HF HTW HFW HSB HSW HDL HDB HAL HR HTTT;dsimp only;go_wp2_with fail
    refine HPUT.out.mono ?_;rintro e w3 ⟨rfl,hg3⟩;have HD3:=hid (HD2.out.go (Qc hg3));have HT3:Hid (Turn w1 w3 (Dv.fp dg db P)):=hid (HT2.out.trans (Qc hg3) (fun _ _ e=>e.elim));have HTW3:Hid (Turn w w3 (Dv.fp dg db P)):=hid (((Qc HG1.out).mono (fun _ _ e=>e.elim)).trans HT3.out (fun _ _ e=>e));have HFW3:Hid (∀k,Dv.fp dg db P2 k→Dv.fp dg db P k∨w.heap.size≤k):=hid (fun k q=>(HF2.out k q).imp id fun z=>by have:=HL1.out;have:=HWL0.out;omega);have HWR:=hid (Dv.write_any dg db P2 r.2 (slot:Int) sb w3 HD3.out.dev HPI.out.1 HPI.out.2 (by have:=HB2.out;omega) (by have:=HB2.out;omega));obtain⟨S3,hS3⟩:∃q,strOfNums sb=q:=⟨_,rfl⟩;dsimp only[strE];rw[hS3]at HWR ⊢;clear c0 c1 c2 c3 c4 hg3 HPUT hS3 hsb;go_wp2_with fail
    refine HWR.out.mono ?_;intro e w4 hw4;obtain⟨P4,rfl,hd4,ht4,hf4⟩:=HD3.out.wrote hw4;have hwf:=QbC r.2 (slot:Int) sb;obtain⟨r4,hr4⟩:∃q,r.2.write (slot:Int) sb=q:=⟨_,rfl⟩;rw[hr4]at hd4 hwf HR1 ⊢;by_cases h4:r4.1=0
    ·have q4:(r4.1 != 0)=false:=by rw[h4];rfl
     have HR2:Hid (R=r4.2.flush):=hid (by rw[HR1.out,if_neg (fun q=>q h4)]);have HD4:=hid hd4;have HTW4:Hid (Turn w w4 (Dv.fp dg db P)):=hid (HTW3.out.trans ht4 (fun k hk q=>(HFW3.out k q).elim id fun z=>by omega));have HFW4:Hid (∀k,Dv.fp dg db P4 k→Dv.fp dg db P k∨w.heap.size≤k):=hid (fun k q=>by
      rcases hf4 k q with z|z
      ·exact HFW3.out k z
      ·exact .inr (Nat.le_trans HTW3.out.size z))
     have HFL:=hid (Dv.flush_any dg db P4 r4.2 w4 HD4.out.dev (by have:=HB2.out;omega));clear hw4 hd4 ht4 hf4 hwf hr4 h4 HWR;dsimp only;go_wp2_with fail
     refine HFL.out.mono ?_;intro e w5 hw5;have hx:=saved HD4.out HTW4.out HFW4.out hw5;rw[←HR2.out]at hx;obtain⟨P5,he5,hx2⟩:=hx;have HX:Hid (SaveX w0 w dg db P R (.returned (.int .i64 R.1)) w5):=hid ⟨P5,rfl,hx2⟩;subst he5;clear hw5 hx2;dsimp only;go_wp2;go_ret
     exact HX.out
    ·have q4:(r4.1 != 0)=true:=bne_iff_ne.2 h4;have HX:Hid (SaveX w0 w dg db P R (.returned (.int .i64 r4.1)) w4):=hid (by
      have e1:R=r4:=by rw[HR1.out,if_pos h4]
      rw[e1,←hr4];exact saved HD3.out HTW3.out HFW3.out hw4)
     clear hw4 hd4 ht4 hf4 hwf hr4 h4 HWR;dsimp only;go_wp2;go_ret
     exact HX.out
   ·have r0:(r.1 != 0)=true:=bne_iff_ne.2 h0;have HX:Hid (SaveX w0 w dg db P R (.returned (.int .i64 r.1)) w2):=hid (by
     have e1:R=r:=by
      rw[←HR.out];unfold saveR;rw[HAL.out,if_neg (fun q=>q rfl),hr,if_pos h0]
     rw[e1,←hr];exact saved HDL.out HTW.out HFW.out hw2)
    clear hw2 hd2 ht2 hf2 hff hr h0 HFL;dsimp only;go_wp2;go_ret
    exact HX.out
end Sp
namespace Sp
open Go.RowKit Bs Dv Gr
open Cn (CN CC CnOk IsC)
open Su (Sup SupOk SB)
def Bx(w:World)(sg:Nat)(v0 v1 v2 v3 v4 v5 v6 v7 v8 v9 v10 v11:Value):Prop:=w.heap[sg]?=some (.cells #[v0,v1,v2,v3,v4,v5,v6,v7,v8,v9,v10,v11] 95 (0,0))
section
variable {w w' : World} {sg : Nat} {v0 v1 v2 v3 v4 v5 v6 v7 v8 v9 v10 v11 : Value}
theorem Bx.cells(h:Bx w sg v0 v1 v2 v3 v4 v5 v6 v7 v8 v9 v10 v11):w.cell? ⟨sg,0,none⟩=some v0∧w.cell? ⟨sg,1,none⟩=some v1∧w.cell? ⟨sg,2,none⟩=some v2∧w.cell? ⟨sg,3,none⟩=some v3∧w.cell? ⟨sg,4,none⟩=some v4∧w.cell? ⟨sg,5,none⟩=some v5 ∧
  w.cell? ⟨sg,6,none⟩=some v6∧w.cell? ⟨sg,7,none⟩=some v7∧w.cell? ⟨sg,8,none⟩=some v8∧w.cell? ⟨sg,9,none⟩=some v9∧w.cell? ⟨sg,10,none⟩=some v10∧w.cell? ⟨sg,11,none⟩=some v11:=by
 refine⟨?_,?_,?_,?_,?_,?_,?_,?_,?_,?_,?_,?_⟩ <;> rw[cell_of_row _ _ _ _ _ _ h] <;> rfl
theorem Bx.froz(h:Bx w sg v0 v1 v2 v3 v4 v5 v6 v7 v8 v9 v10 v11)(j:Nat):w.frozen? ⟨sg,j,none⟩=false:=by
 unfold Bx at h;simp[World.frozen?,h]
theorem Bx.old{S:Nat→Prop}(h:Bx w sg v0 v1 v2 v3 v4 v5 v6 v7 v8 v9 v10 v11)(t:Turn w w' S)(hS:¬S sg):Bx w' sg v0 v1 v2 v3 v4 v5 v6 v7 v8 v9 v10 v11:=Fr.Qg h t hS
theorem Bx.s1(h:Bx w sg v0 v1 v2 v3 v4 v5 v6 v7 v8 v9 v10 v11)(u:Value):Bx (w.setCell ⟨sg,1,none⟩ u) sg v0 u v2 v3 v4 v5 v6 v7 v8 v9 v10 v11:=heap_setCell_same w sg 1 _ _ u h
theorem Bx.s2(h:Bx w sg v0 v1 v2 v3 v4 v5 v6 v7 v8 v9 v10 v11)(u:Value):Bx (w.setCell ⟨sg,2,none⟩ u) sg v0 v1 u v3 v4 v5 v6 v7 v8 v9 v10 v11:=heap_setCell_same w sg 2 _ _ u h
theorem Bx.s3(h:Bx w sg v0 v1 v2 v3 v4 v5 v6 v7 v8 v9 v10 v11)(u:Value):Bx (w.setCell ⟨sg,3,none⟩ u) sg v0 v1 v2 u v4 v5 v6 v7 v8 v9 v10 v11:=heap_setCell_same w sg 3 _ _ u h
theorem Bx.s4(h:Bx w sg v0 v1 v2 v3 v4 v5 v6 v7 v8 v9 v10 v11)(u:Value):Bx (w.setCell ⟨sg,4,none⟩ u) sg v0 v1 v2 v3 u v5 v6 v7 v8 v9 v10 v11:=heap_setCell_same w sg 4 _ _ u h
theorem Bx.s5(h:Bx w sg v0 v1 v2 v3 v4 v5 v6 v7 v8 v9 v10 v11)(u:Value):Bx (w.setCell ⟨sg,5,none⟩ u) sg v0 v1 v2 v3 v4 u v6 v7 v8 v9 v10 v11:=heap_setCell_same w sg 5 _ _ u h
theorem Bx.s6(h:Bx w sg v0 v1 v2 v3 v4 v5 v6 v7 v8 v9 v10 v11)(u:Value):Bx (w.setCell ⟨sg,6,none⟩ u) sg v0 v1 v2 v3 v4 v5 u v7 v8 v9 v10 v11:=heap_setCell_same w sg 6 _ _ u h
theorem Bx.s7(h:Bx w sg v0 v1 v2 v3 v4 v5 v6 v7 v8 v9 v10 v11)(u:Value):Bx (w.setCell ⟨sg,7,none⟩ u) sg v0 v1 v2 v3 v4 v5 v6 u v8 v9 v10 v11:=heap_setCell_same w sg 7 _ _ u h
theorem Bx.s8(h:Bx w sg v0 v1 v2 v3 v4 v5 v6 v7 v8 v9 v10 v11)(u:Value):Bx (w.setCell ⟨sg,8,none⟩ u) sg v0 v1 v2 v3 v4 v5 v6 v7 u v9 v10 v11:=heap_setCell_same w sg 8 _ _ u h
theorem Bx.s9(h:Bx w sg v0 v1 v2 v3 v4 v5 v6 v7 v8 v9 v10 v11)(u:Value):Bx (w.setCell ⟨sg,9,none⟩ u) sg v0 v1 v2 v3 v4 v5 v6 v7 v8 u v10 v11:=heap_setCell_same w sg 9 _ _ u h
theorem Bx.s10(h:Bx w sg v0 v1 v2 v3 v4 v5 v6 v7 v8 v9 v10 v11)(u:Value):Bx (w.setCell ⟨sg,10,none⟩ u) sg v0 v1 v2 v3 v4 v5 v6 v7 v8 v9 u v11:=heap_setCell_same w sg 10 _ _ u h
theorem Bx.s11(h:Bx w sg v0 v1 v2 v3 v4 v5 v6 v7 v8 v9 v10 v11)(u:Value):Bx (w.setCell ⟨sg,11,none⟩ u) sg v0 v1 v2 v3 v4 v5 v6 v7 v8 v9 v10 u:=heap_setCell_same w sg 11 _ _ u h
theorem QaB{W0 W:World}(t:Turn W0 W (·=sg))(j:Nat)(u:Value):Turn W0 (W.setCell ⟨sg,j,none⟩ u) (·=sg):=t.trans (Turn.setCell W ⟨sg,j,none⟩ u (S:=(·=sg)) rfl) (fun _ _ e=>e)
theorem Qip{v7':Option Addr}(h:Bx w sg v0 v1 v2 v3 v4 v5 v6 (.pointer v7') v8 v9 v10 v11) :
  Calls Tryz.prog 96 #[.pointer (some ⟨sg,0,none⟩)] w fun e w'=>e=.returned (.tuple #[])∧Bx w' sg v0 v1 v2 v3 v4 v5 v6 (.pointer v7') v8 (.pointer none) (.pointer v7') v11∧Turn w w' (·=sg):=by
 have c7:=h.cells.2.2.2.2.2.2.2.1;have c9:=h.cells.2.2.2.2.2.2.2.2.2.1;have c10:=h.cells.2.2.2.2.2.2.2.2.2.2.1;have f9:=h.froz 9;have f10:=h.froz 10;have HF:Hid (Bx ((w.setCell ⟨sg,9,none⟩ (.pointer none)).setCell ⟨sg,10,none⟩ (.pointer v7')) sg v0 v1 v2 v3 v4 v5 v6 (.pointer v7') v8 (.pointer none) (.pointer v7') v11∧Turn w ((w.setCell ⟨sg,9,none⟩ (.pointer none)).setCell ⟨sg,10,none⟩ (.pointer v7')) (·=sg)):=hid ⟨(h.s9 _).s10 _,(Turn.setCell w ⟨sg,9,none⟩ (.pointer none) (S:=(·=sg)) rfl).trans (Turn.setCell _ ⟨sg,10,none⟩ (.pointer v7') (S:=(·=sg)) rfl) (fun _ _ e=>e)⟩;clear h;go_enter Tryz.func96,Tryz.ntmps96
 go_wp2
 go_end0
 exact⟨rfl,HF.out⟩
theorem Qf3(w0:World)(sup:Sup)(a:Option Addr)(n c:Nat)(slot:Int)(gh hh ch:Nat)(size:Int)(m:Nat)(N:List Int)(h:Bx w sg v0 v1 v2 v3 v4 v5 v6 v7 v8 v9 v10 v11)(hc:CN w0 w gh hh ch size m N)(hne:gh≠sg)(hne2:hh≠sg)(hsg0:w0.heap.size≤sg) :
  Calls Tryz.prog 57 #[.pointer (some ⟨sg,0,none⟩),.int .i64 slot,.agg #[.int .u64 sup.gen,.int .i64 sup.size,.int .i64 sup.blocks,.int .u32 sup.root,.slice a n c],.pointer (some ⟨gh,0,none⟩)] w fun e w'=>∃gn hn cn,e=.returned (.tuple #[]) ∧
   Bx w' sg v0 (.int .u64 sup.gen) (.int .i64 sup.size) (.int .i64 sup.blocks) (.int .u32 sup.root) (.slice a n c) (.int .i64 slot) (.pointer (some ⟨gh,0,none⟩)) (.pointer (some ⟨gn,0,none⟩)) (.pointer none) (.pointer (some ⟨gh,0,none⟩)) v11 ∧
   CN w0 w' gn hn cn size m N∧w.heap.size≤gn∧w.heap.size≤hn∧Turn w w' (·=sg):=by
 have hA:=Qb w (.cells #[.int .u64 sup.gen,.int .i64 sup.size,.int .i64 sup.blocks,.int .u32 sup.root,.slice a n c] 92);have HS0:=hid (SB.new w sup a n c);obtain⟨W0,hW0⟩:∃X,w.alloc (.cells #[.int .u64 sup.gen,.int .i64 sup.size,.int .i64 sup.blocks,.int .u32 sup.root,.slice a n c] 92)=X:=⟨_,rfl⟩;rw[hW0]at HS0 hA;have HW0:=hid hW0;have HSG0:=hid hsg0;have HGA:=hid hA;have HB0:=hid (h.old (Qc hA) id);have HC0:=hid (hc.old hA);have HNE:=hid (⟨hne,hne2⟩:gh≠sg∧hh≠sg);obtain⟨z0,z1,z2,z3,z4⟩:=HS0.out.cells;obtain⟨c0,c1,c2,c3,c4,c5,c6,c7,c8,c9,c10,c11⟩:=HB0.out.cells;have f1:=HB0.out.froz 1;have f2:=HB0.out.froz 2;have f3:=HB0.out.froz 3;have f4:=HB0.out.froz 4;have f5:=HB0.out.froz 5;have f6:=HB0.out.froz 6;have f7:=HB0.out.froz 7;have hslt:sg≠w.heap.size:=by have:=block_lt h;omega
 clear hW0 hA h hc hne hne2 hsg0;go_enter Tryz.func57,Tryz.ntmps57
 go_upto_region 1 with fail
 rw[HW0.out];go_region
 have hb1:=((((((HB0.out.s6 (.int .i64 slot)).s1 (.int .u64 sup.gen)).s2 (.int .i64 sup.size)).s3 (.int .i64 sup.blocks)).s4 (.int .u32 sup.root)).s5 (.slice a n c)).s7 (.pointer (some ⟨gh,0,none⟩));have ht1:Turn W0 (((((((W0.setCell ⟨sg,6,none⟩ (.int .i64 slot)).setCell ⟨sg,1,none⟩ (.int .u64 sup.gen)).setCell ⟨sg,2,none⟩ (.int .i64 sup.size)).setCell ⟨sg,3,none⟩ (.int .i64 sup.blocks)).setCell ⟨sg,4,none⟩ (.int .u32 sup.root)).setCell ⟨sg,5,none⟩ (.slice a n c)).setCell ⟨sg,7,none⟩ (.pointer (some ⟨gh,0,none⟩))) (·=sg):=
  QaB (QaB (QaB (QaB (QaB (QaB (QaB (Turn.refl W0 (·=sg)) 6 (.int .i64 slot)) 1 (.int .u64 sup.gen)) 2 (.int .i64 sup.size)) 3 (.int .i64 sup.blocks)) 4 (.int .u32 sup.root)) 5 (.slice a n c)) 7 (.pointer (some ⟨gh,0,none⟩))
 obtain⟨W1,hW1⟩:∃X,(((((((W0.setCell ⟨sg,6,none⟩ (.int .i64 slot)).setCell ⟨sg,1,none⟩ (.int .u64 sup.gen)).setCell ⟨sg,2,none⟩ (.int .i64 sup.size)).setCell ⟨sg,3,none⟩ (.int .i64 sup.blocks)).setCell ⟨sg,4,none⟩ (.int .u32 sup.root)).setCell ⟨sg,5,none⟩ (.slice a n c)).setCell ⟨sg,7,none⟩ (.pointer (some ⟨gh,0,none⟩)))=X:=⟨_,rfl⟩;rw[hW1]at hb1 ht1 ⊢;have HB1:Hid (Bx W1.drew sg v0 (.int .u64 sup.gen) (.int .i64 sup.size) (.int .i64 sup.blocks) (.int .u32 sup.root) (.slice a n c) (.int .i64 slot) (.pointer (some ⟨gh,0,none⟩)) v8 v9 v10 v11):=hid hb1;have HT1:Hid (Turn W0 W1.drew (·=sg)):=hid (ht1.trans (Turn.drew W1 _) (fun _ _ e=>e));obtain⟨W2,hW2⟩:∃X,W1.drew=X:=⟨_,rfl⟩;rw[hW2]at HB1 HT1 ⊢;have HC1:Hid (CN w0 W2 gh hh ch size m N):=hid (QJ HC0.out HT1.out (Qao HC0.out.gr HT1.out (fun k e=>by have e2:k=sg:=e;rw[e2];exact HSG0.out)) HNE.out.1 HNE.out.2);have HCL:=hid HC1.out.clone;clear hb1 ht1 hW1 hW2 c0 c1 c2 c3 c4 c5 c6 c7 c8 c9 c10 c11 f1 f2 f3 f4 f5 f6 f7 z0 z1 z2 z3 z4;go_wp2_with fail
 refine HCL.out.mono ?_;rintro e w3 ⟨gn,hn,cn,rfl,hc3,hg3,hl1,hl2⟩;have HB3:=hid (HB1.out.old (Qc hg3) id);have f8:=HB3.out.froz 8;obtain⟨-,-,-,-,-,-,-,-,c8,-,-,-⟩:=HB3.out.cells;have HC3:=hid hc3;have HT3:=hid (HT1.out.trans (Qc hg3) (fun _ _ e=>e.elim));have HL3:Hid (w.heap.size≤gn∧w.heap.size≤hn∧sg<W2.heap.size):=hid (by have:=HT1.out.size;have:=HS0.out.lt;have h9:=block_lt HB1.out;exact⟨by omega,by omega,h9⟩);have HN3:Hid (gn≠sg∧hn≠sg):=hid (by have:=HL3.out;omega);have HB4:=hid (HB3.out.s8 (.pointer (some ⟨gn,0,none⟩)));have ht4:=Turn.setCell w3 ⟨sg,8,none⟩ (.pointer (some ⟨gn,0,none⟩)) (S:=(·=sg)) rfl;have HT4:=hid (HT3.out.trans ht4 (fun _ _ e=>e));have HC4:Hid (CN w0 (w3.setCell ⟨sg,8,none⟩ (.pointer (some ⟨gn,0,none⟩))) gn hn cn size m N):=hid (QJ HC3.out ht4 (Qao HC3.out.gr ht4 (fun k e=>by have e2:k=sg:=e;rw[e2];exact HSG0.out)) HN3.out.1 HN3.out.2);obtain⟨w4,hw4⟩:∃X,w3.setCell ⟨sg,8,none⟩ (.pointer (some ⟨gn,0,none⟩))=X:=⟨_,rfl⟩;rw[hw4]at HB4 HT4 HC4;have HW4:=hid hw4;have HUN:=hid (Qip (v7':=some ⟨gh,0,none⟩) HB4.out);clear hc3 hg3 hl1 hl2 ht4 hw4;go_wp2_with fail
 rw[HW4.out];refine HUN.out.mono ?_;rintro e w5 ⟨rfl,hb5,ht5⟩;have HX:Hid (Bx w5 sg v0 (.int .u64 sup.gen) (.int .i64 sup.size) (.int .i64 sup.blocks) (.int .u32 sup.root) (.slice a n c) (.int .i64 slot) (.pointer (some ⟨gh,0,none⟩)) (.pointer (some ⟨gn,0,none⟩)) (.pointer none) (.pointer (some ⟨gh,0,none⟩)) v11 ∧
   CN w0 w5 gn hn cn size m N∧w.heap.size≤gn∧w.heap.size≤hn∧Turn w w5 (·=sg)):=hid ⟨hb5,QJ HC4.out ht5 (Qao HC4.out.gr ht5 (fun k e=>by have e2:k=sg:=e;rw[e2];exact HSG0.out)) HN3.out.1 HN3.out.2,HL3.out.1,HL3.out.2.1,((Qc HGA.out).mono (fun _ _ e=>e.elim)).trans (HT4.out.trans ht5 (fun _ _ e=>e)) (fun _ _ e=>e)⟩
 clear hb5 ht5;dsimp only;go_wp2
 go_end0
 exact⟨gn,hn,cn,rfl,HX.out⟩
theorem Qa6(w0:World)(dg:Option Addr)(sup:Sup)(a:Option Addr)(n c:Nat)(slot:Int)(gh hh ch:Nat)(size:Int)(m:Nat)(N:List Int)(hc:CN w0 w gh hh ch size m N) :
  Calls Tryz.prog 62 #[.pointer dg,.int .i64 slot,.agg #[.int .u64 sup.gen,.int .i64 sup.size,.int .i64 sup.blocks,.int .u32 sup.root,.slice a n c],.pointer (some ⟨gh,0,none⟩)] w fun e w'=>∃sg gn hn cn,e=.returned (.pointer (some ⟨sg,0,none⟩)) ∧
   Bx w' sg (.pointer dg) (.int .u64 sup.gen) (.int .i64 sup.size) (.int .i64 sup.blocks) (.int .u32 sup.root) (.slice a n c) (.int .i64 slot) (.pointer (some ⟨gh,0,none⟩)) (.pointer (some ⟨gn,0,none⟩)) (.pointer none) (.pointer (some ⟨gh,0,none⟩)) (.pointer (some ⟨sg,0,none⟩)) ∧
   CN w0 w' gn hn cn size m N∧w.heap.size≤sg∧sg<gn∧sg<hn∧w.grownBy w' none:=by
 have hA:=Qb w (.cells #[.int .u64 sup.gen,.int .i64 sup.size,.int .i64 sup.blocks,.int .u32 sup.root,.slice a n c] 92);have HS0:=hid (SB.new w sup a n c);obtain⟨W0,hW0⟩:∃X,w.alloc (.cells #[.int .u64 sup.gen,.int .i64 sup.size,.int .i64 sup.blocks,.int .u32 sup.root,.slice a n c] 92)=X:=⟨_,rfl⟩;have hsz0:W0.heap.size=w.heap.size+1:=by rw[←hW0];simp
 rw[hW0]at HS0 hA;have HW0:=hid hW0;have hB:=Qa hA (Qb W0 (.cells #[.pointer dg,.int .u64 0,.int .i64 0,.int .i64 0,.int .u32 0,.slice none 0 0,.int .i64 0,.pointer none,.pointer none,.pointer none,.pointer none,.pointer none] 95));have hbx:Bx (W0.alloc (.cells #[.pointer dg,.int .u64 0,.int .i64 0,.int .i64 0,.int .u32 0,.slice none 0 0,.int .i64 0,.pointer none,.pointer none,.pointer none,.pointer none,.pointer none] 95)) W0.heap.size (.pointer dg) (.int .u64 0) (.int .i64 0) (.int .i64 0) (.int .u32 0) (.slice none 0 0) (.int .i64 0) (.pointer none) (.pointer none) (.pointer none) (.pointer none) (.pointer none):=heap_alloc_new _ _;have hs1:=HS0.out.old (Qb W0 (.cells #[.pointer dg,.int .u64 0,.int .i64 0,.int .i64 0,.int .u32 0,.slice none 0 0,.int .i64 0,.pointer none,.pointer none,.pointer none,.pointer none,.pointer none] 95));obtain⟨W1,hW1⟩:∃X,W0.alloc (.cells #[.pointer dg,.int .u64 0,.int .i64 0,.int .i64 0,.int .u32 0,.slice none 0 0,.int .i64 0,.pointer none,.pointer none,.pointer none,.pointer none,.pointer none] 95)=X:=⟨_,rfl⟩;rw[hW1]at hB hbx hs1;rw[hsz0]at hbx;have HW1:=hid hW1;have f11:=hbx.froz 11;obtain⟨-,-,-,-,-,-,-,-,-,-,-,c11⟩:=hbx.cells;have hb2:Bx (W1.setCell ⟨w.heap.size+1,11,none⟩ (.pointer (some ⟨w.heap.size+1,0,none⟩))) (w.heap.size+1) (.pointer dg) (.int .u64 0) (.int .i64 0) (.int .i64 0) (.int .u32 0) (.slice none 0 0) (.int .i64 0) (.pointer none) (.pointer none) (.pointer none) (.pointer none) (.pointer (some ⟨w.heap.size+1,0,none⟩)):=hbx.s11 _;have ht2:=Turn.setCell W1 ⟨w.heap.size+1,11,none⟩ (.pointer (some ⟨w.heap.size+1,0,none⟩)) (S:=(·=w.heap.size+1)) rfl;have hs2:=hs1.not ht2 (by omega);have hg2:w.grownBy (W1.setCell ⟨w.heap.size+1,11,none⟩ (.pointer (some ⟨w.heap.size+1,0,none⟩))) none:=Qh hB ht2 (by omega);obtain⟨W2,hW2⟩:∃X,W1.setCell ⟨w.heap.size+1,11,none⟩ (.pointer (some ⟨w.heap.size+1,0,none⟩))=X:=⟨_,rfl⟩;rw[hW2]at hb2 hs2 hg2;have HW2:=hid hW2;have HG2:=hid hg2;have hglt:=hc.cc.glt;have hhlt:=hc.cc.lt;have hsgw0:w0.heap.size≤w.heap.size+1:=by have:=hc.gr.size;omega
 have HHD:=hid (Qf3 w0 sup a n c slot gh hh ch size m N hb2 (hc.old hg2) (by omega) (by omega) hsgw0);obtain⟨z0,z1,z2,z3,z4⟩:=hs2.cells;have hlt2:w.heap.size+1<W2.heap.size:=block_lt hb2;have HLT:=hid hlt2;clear hW0 hW1 hW2 hA hB hbx hs1 hb2 ht2 hs2 hg2 hsz0 hglt hhlt hsgw0 hlt2 hc HS0;go_enter Tryz.func62,Tryz.ntmps62
 go_upto_region 2 with fail
 rw[HW0.out,HW1.out];go_upto_region 3 with fail
 rw[HW2.out];clear c11 f11;go_wp2_with fail
 refine HHD.out.mono ?_;rintro e w3 ⟨gn,hn,cn,rfl,hb3,hc3,hl1,hl2,ht3⟩;have HX:Hid (Bx w3 (w.heap.size+1) (.pointer dg) (.int .u64 sup.gen) (.int .i64 sup.size) (.int .i64 sup.blocks) (.int .u32 sup.root) (.slice a n c) (.int .i64 slot) (.pointer (some ⟨gh,0,none⟩)) (.pointer (some ⟨gn,0,none⟩)) (.pointer none) (.pointer (some ⟨gh,0,none⟩)) (.pointer (some ⟨w.heap.size+1,0,none⟩)) ∧
   CN w0 w3 gn hn cn size m N∧w.heap.size≤w.heap.size+1∧w.heap.size+1<gn∧w.heap.size+1<hn∧w.grownBy w3 none):=hid ⟨hb3,hc3,by omega,by have:=HLT.out;omega,by have:=HLT.out;omega,Qh HG2.out ht3 (by omega)⟩
 clear hb3 hc3 hl1 hl2 ht3;dsimp only;go_wp2;go_ret
 exact⟨w.heap.size+1,gn,hn,cn,rfl,HX.out⟩
end
end Sp
namespace Sp
open Go.RowKit Bs Dv Gr
open Cn (CN CC CnOk IsC Qj pagesL eachC freeC)
open Su (Sup SupOk SB putS supE)
open Fr (blk)
def calm(s:SpS):SpS:={ s with dv:={ s.dv with fuse:=-1 } }
section
variable {w0 w : World} {x : Nm} {s : SpS} {own hown mown : List Nat} {T : Nat} {root : Int}
theorem Qlm(h:s.dv.fuse=-1):calm s=s:=by
 obtain⟨⟨a,b,c,d,e,f⟩,g,i,j,k,l⟩:=s;have h:f=-1:=h;subst h
 rfl
theorem QfB(h:SpM w0 w x s)(hg:GoodC s.dv s.sup.pages s.held hown){K:List Int}(hk:∀i,K.getD i 0=0↔s.held.getD i 0=0∧∀m,s.mark=some m→m.getD i 0=0)(hp:∀p∈s.sup.pages,2≤p∧p<s.dv.blocks) :
  freeL K (setAll s.now (s.sup.pages.map Int.toNat) 0)=frees s:=by
 have hlen:s.now.length=s.dv.blocks:=h.now.ok.len;have hlt:∀n∈s.sup.pages.map Int.toNat,n<s.now.length:=fun n hn=>by
  obtain⟨p,a,rfl⟩:=List.mem_map.1 hn;have:=hp p a;omega
 unfold freeL frees;rw[QE,hlen];refine List.filter_congr fun i hi=>?_
 have hi:=List.mem_range.1 hi;rw[Bool.eq_iff_iff,decide_eq_true_iff];have h1:=h.Qa2 hk i;have h2:freeC K (setAll s.now (s.sup.pages.map Int.toNat) 0) i↔freeC K s.now i:=by
  unfold freeC;rw[QE,Qak 0 _ _ _ hlt];by_cases e:i∈s.sup.pages.map Int.toNat
  ·rw[if_pos e];obtain⟨p,a,rfl⟩:=List.mem_map.1 e;have h3:=hg.pg p a;have h4:K.getD p.toNat 0≠0:=fun q=>by have:=((hk p.toNat).1 q).1;omega
   exact⟨fun q=>absurd q.2.2.2 h4,fun q=>absurd q.2.2.2 h4⟩
  ·rw[if_neg e]
 rw[h2,h1];exact⟨fun q=>q.2,fun q=>⟨hi,q⟩⟩
theorem Qj8{a b:List Int}(hl:a.length=b.length)(h:∀j,a.getD j 0=b.getD j 0):a=b:=by
 refine List.ext_getElem? fun j=>?_
 by_cases hj:j<a.length
 ·have:=h j;rw[List.getD_eq_getElem?_getD,List.getD_eq_getElem?_getD,List.getElem?_eq_getElem hj,List.getElem?_eq_getElem (by omega)]at this;rw[List.getElem?_eq_getElem hj,List.getElem?_eq_getElem (by omega)];exact congrArg some this
 ·rw[List.getElem?_eq_none (by omega),List.getElem?_eq_none (by omega)]
theorem QgV(c:List Int)(old new:List Nat)(ho:∀n∈old,n<c.length)(hn:∀n∈new,n<c.length)(hd:∀n∈new,n∉old):setAll (setAll c old 0) new 1=commitC c old new:=by
 refine Qj8 (by unfold commitC;rw[QE,QE,QE,QE]) fun j=>?_
 rw[QcH ho hn,Qak 1 new _ _ (fun n q=>by rw[QE];exact hn n q),Qak 0 old _ _ ho];by_cases e:j∈new
 ·rw[if_pos e,if_neg (hd j e),if_pos e]
 ·rw[if_neg e];by_cases q:j∈old
  ·rw[if_pos q,if_pos q]
  ·rw[if_neg q,if_neg q,if_neg e]
theorem SpOk.page'(h:SpOk (calm s) own hown mown T){p:Int}(hp:p∈s.sup.pages):2≤p∧p<s.dv.blocks:=h.page hp
theorem SpOk.taken(h:SpOk (calm s) own hown mown T)(hm:SpM w0 w x s):setAll (setAll s.now (s.sup.pages.map Int.toNat) 0) (newPages s) 1=newNow s:=by
 have hlen:s.now.length=s.dv.blocks:=hm.now.ok.len;refine QgV _ _ _ (fun n q=>?_) (fun n q=>?_) fun n q z=>?_
 ·obtain⟨p,a,rfl⟩:=List.mem_map.1 q;have:=h.page' a;omega
 ·have q:n∈newPages (calm s):=q;have h1:=(h.QaN q).1;have h2:(calm s).dv.blocks=s.dv.blocks:=rfl;omega
 ·have q:n∈newPages (calm s):=q;obtain⟨p,a,rfl⟩:=List.mem_map.1 z;have h1:=(h.QaN q).2.2.1;have h2:=h.page' a;rw[Int.toNat_of_nonneg (by omega)]at h1;exact h1 a
theorem QjY(h:SpOk (calm s) own hown mown T):cntW (newSup s root) (pagesL (eachC s.dv.size) s.dv.blocks (newNow s))=newWrites s:=by
 have hsz:s.sup.size=s.dv.size:=h.kept.size;have hln:(pagesL (eachC s.sup.size) s.dv.blocks (newNow s)).length=s.sup.pages.length:=h.pageCount (newNow s) h.newc;rw[hsz]at hln;unfold cntW newWrites;rw[hln];refine List.map_congr_left fun i hi=>?_
 have hi:=List.mem_range.1 hi;have hnl:(newPages s).length=s.sup.pages.length:=h.QV;have e1:((newSup s root).pages.getD i 0).toNat=(newPages s).getD i 0:=by
  show(((newPages s).map fun n:Nat=>(n:Int)).getD i 0).toNat=_
  rw[List.getD_eq_getElem?_getD,List.getD_eq_getElem?_getD,List.getElem?_map,List.getElem?_eq_getElem (by omega)];exact Int.toNat_natCast _
 have e2:(newSup s root).size.toNat=s.dv.size:=by show s.sup.size.toNat=_;rw[hsz];exact Int.toNat_natCast _
 rw[e1,e2];unfold newBlk;rw[hsz]
 rfl
theorem QeA{d:Dv.St}(hf:d.fuse=-1)(W:List (Nat×List Int))(o:Nat)(sb:List Int)(hW:∀q∈W,q.1<d.blocks∧q.2.length=d.size)(ho:o<d.blocks)(hs:sb.length=d.size):saveR d W o sb=(0,commitD d W o sb):=by
 have hT:tryW d W=(0,writesD d W):=by
  refine Qec W d fun j hj=>?_
  have h1:=Qds (W.take j) d hf (fun q hq=>hW q (List.mem_of_mem_take hq));rw[h1];unfold wr1 at2;rw[List.getD_eq_getElem?_getD,List.getElem?_eq_getElem hj,Option.getD_some];have h2:=hW W[j] (List.getElem_mem hj);rw[QaC ({ d with ops:=d.ops+(W.take j).length,pend:=d.pend++W.take j }:Dv.St) _ _ hf h2.1 h2.2]
 have h1:=Qds W d hf hW;have hfl:(writesD d W).flush.1=0∧(writesD d W).flush.2.fuse=-1∧(writesD d W).flush.2.blocks=d.blocks∧(writesD d W).flush.2.size=d.size:=by
  rw[h1,QcK ({ d with ops:=d.ops+W.length,pend:=d.pend++W }:Dv.St) hf];exact⟨rfl,hf,rfl,rfl⟩
 have hw:=QaC (writesD d W).flush.2 o sb hfl.2.1 (by rw[hfl.2.2.1];exact ho) (by rw[hfl.2.2.2];exact hs);unfold saveR commitD;rw[hT,if_neg (fun q=>q rfl),if_neg (show ¬((writesD d W).flush.1≠0) from fun q=>q hfl.1),hw,if_neg (fun q=>q rfl)];refine Prod.ext ?_ rfl;rw[QcK ({ (writesD d W).flush.2 with ops:=(writesD d W).flush.2.ops+1,pend:=(writesD d W).flush.2.pend++[(o,sb)] }:Dv.St) hfl.2.1]
def comR(s:SpS)(root:Int):Int×Dv.St:=saveR s.dv (newWrites s) (1-s.slot) (putS (newSup s root)).1
def comS(s:SpS)(root:Int):SpS:=⟨(comR s root).2,newSup s root,newNow s,newNow s,none,1-s.slot⟩
theorem QjZ(h:SpOk s own hown mown T)(hT:T≤9000)(hr:root=0∨(0≤root∧root.toNat∈own)):(comR s root).1=0∧comS s root=commitP s root:=by
 have hs:=h.slots;have hb:=h.dok.blo;have e:comR s root=(0,commitD s.dv (newWrites s) (1-s.slot) (putS (newSup s root)).1):=QeA h.fuse _ _ _ (fun q hq=>⟨(h.Qcl q hq).1,(h.Qcl q hq).2.1⟩) (by omega) (h.QeO hT hr).1;refine⟨by rw[e],?_⟩;unfold comS commitP;rw[e]
def comE(s:SpS)(root:Int):Int:=if root=0 then 0 else useE s root.toNat
end
end Sp
namespace Sp
open Go.RowKit Bs Dv Gr
open Cn (CN CC CnOk IsC Qj pagesL eachC freeC TookC)
open Su (Sup SupOk SB putS supE T4)
open Fr (blk)
section
variable {w0 w : World} {x : Nm} {s : SpS} {own hown mown : List Nat} {T : Nat}
theorem Qfz(h:SpM w0 w x s)(root:Nat)(hn:root<4294967296)(hp:s.sup.pages.length≤100000) :
  Calls Tryz.prog 51 #[.pointer (some ⟨x.sg,0,none⟩),.int .u32 (root:Int)] w fun e w'=>e=.returned (.int .i64 (comE s root))∧w=w':=by
 have HV:=hid (Ql x.sg w h.cells.2.2.2.2.2.2.2.2.2.2.2);have HU:=hid (Qa5 h root hn (h.Qbq hp));have HE:Hid (comE s root=if (root:Int)=0 then 0 else useE s root):=hid (by unfold comE;rw[Int.toNat_natCast]);obtain⟨E,hE⟩:∃E,comE s root=E:=⟨_,rfl⟩;obtain⟨U,hU⟩:∃U,useE s root=U:=⟨_,rfl⟩;obtain⟨sg,e1⟩:∃q,x.sg=q:=⟨_,rfl⟩;rw[hE,hU]at HE;rw[hE];rw[hU]at HU;rw[e1]at HV HU ⊢;clear hE hU e1 h hp;by_cases h0:root=0
 ·have q0:((root:Int)==0)=true:=beq_iff_eq.2 (by omega);have hE:E=0:=by rw[HE.out,if_pos (by omega)]
  subst hE;clear h0 HE;go_enter Tryz.func51,Tryz.ntmps51
  go_wp2_with (first|(go_at_call 46;refine HV.out.mono ?_;rintro e w' ⟨rfl,rfl⟩)|fail)
  go_ret
  exact⟨rfl,rfl⟩
 ·have q0:((root:Int)==0)=false:=beq_eq_false_iff_ne.2 (by omega);have hE:E=U:=by rw[HE.out,if_neg (by omega)]
  subst hE;clear h0 HE;go_enter Tryz.func51,Tryz.ntmps51
  go_wp2_with (first|(go_at_call 46;refine HV.out.mono ?_;rintro e w' ⟨rfl,rfl⟩)|(go_at_call 82;refine HU.out.mono ?_;rintro e w' ⟨rfl,rfl⟩)|fail)
  go_ret
  exact⟨rfl,rfl⟩
def ComX(w0 w:World)(x:Nm)(s:SpS)(root:Int)(e:Ending)(w':World):Prop:=
 (comE s root≠0∧e=.returned (.int .i64 (comE s root))∧w=w') ∨
  (comE s root=0∧e=.returned (.int .i64 (comR s root).1)∧((comR s root).1=0→Op w0 w x (comS s root) w')∧((comR s root).1≠0→Op w0 w x { s with dv:=(comR s root).2 } w'))
theorem SpM.make{w0 w:World}{sg g b gh hh ch gn hn cn:Nat}{P:Value}{a:Option Addr}{np cp:Nat}{sup:Sup}{slot:Nat}{N:List Int}{d:Dv.St}(hd:Held w0 w g b P d)
  (hb:Bx w sg (.pointer (some ⟨g,0,none⟩)) (.int .u64 sup.gen) (.int .i64 sup.size) (.int .i64 sup.blocks) (.int .u32 sup.root) (.slice a np cp) (.int .i64 (slot:Int)) (.pointer (some ⟨gh,0,none⟩)) (.pointer (some ⟨gn,0,none⟩)) (.pointer none) (.pointer (some ⟨gh,0,none⟩)) (.pointer (some ⟨sg,0,none⟩)))
  (hs:Ws.Seg w a np cp sup.pages) (ch':CN w0 w gh hh ch d.size d.blocks N) (cn':CN w0 w gn hn cn d.size d.blocks N) (hgeo:sup.size=d.size∧sup.blocks=d.blocks) (hok:SupOk sup) (hslot:slot=0∨slot=1)
  (hap:∀k,(k=gh∨k=hh∨k=gn∨∃ad,a=some ad∧k=ad.block)→k<w.heap.size∧w0.heap.size≤k∧k≠sg∧k≠hn∧¬Dv.fp g b P k) (hown:¬Dv.fp g b P hn∧¬Dv.fp g b P sg∧hn≠sg) (hsg:w0.heap.size≤sg) :
  SpM w0 w ⟨sg,g,b,P,gh,hh,ch,gn,hn,cn,none,gh,hh,ch,a,np,cp⟩ ⟨d,sup,N,N,none,slot⟩:=by
 refine⟨hd,?_,hs,ch',cn',trivial,⟨N,ch',fun i=>⟨fun q=>⟨q,fun m hm=>by cases hm⟩,fun q=>q.1⟩⟩,fun _=>⟨rfl,rfl,rfl⟩,fun k hk=>?_,hown,(fun q hq=>by cases hq),hsg,hgeo,hok,hslot⟩
 ·have h1:=hb;unfold Bx at h1;rw[hgeo.1,hgeo.2]at h1;exact h1
 ·have h1:k=gh∨k=hh∨k=gn∨∃ad,a=some ad∧k=ad.block:=by
   rcases hk with e|e|e|e|e|⟨q,e,_⟩|e
   ·exact .inl e
   ·exact .inr (.inl e)
   ·exact .inr (.inr (.inl e))
   ·exact .inl e
   ·exact .inr (.inl e)
   ·cases e
   ·exact .inr (.inr (.inr e))
  obtain⟨a1,a2,a3,a4,a5⟩:=hap k h1;exact⟨a1,a2,fun q=>q.elim a3 fun z=>z.elim a4 a5⟩
end
section
variable {w0 w : World} {x : Nm} {s : SpS} {own hown mown : List Nat} {T : Nat}
theorem Ql7(h:SpM w0 w x s)(hT4:T4 w0):¬Dv.fp x.g x.b x.P 0:=fun q=>by
 have h1:=h.dev.new _ q;have h2:=World.block_lt_of_cell? w0 _ (hT4 0 (by decide));have h2:0<w0.heap.size:=h2;omega
theorem commit_yes (h:SpM w0 w x s) (hok:SpOk (calm s) own hown mown T) (hT:T≤9000) (root:Nat) (hn:root<4294967296) (hr:root=0∨root∈own) (hT4:T4 w0) :
    Calls Tryz.prog 22 #[.pointer (some ⟨x.sg,0,none⟩),.int .u32 (root:Int)] w (ComX w0 w x s root):=by
  have hp74:s.sup.pages.length≤74:=hok.Qaf
  have hrr:(root:Int)=0∨(0≤(root:Int)∧(root:Int).toNat∈own):=hr.imp (fun e=>by omega) (fun e=>⟨by omega,by rw[Int.toNat_natCast];exact e⟩)
  have hE:comE s root=0:=by
    unfold comE
    by_cases e:(root:Int)=0
    · rw[if_pos e]
    · rw [if_neg e,Int.toNat_natCast]
      rcases hr with q|q
      · omega
      · have h1:GoodC s.dv s.sup.pages s.now own:=hok.now.kept rfl rfl (fun _ _=>rfl)
        have h2:GoodC s.dv s.sup.pages s.now (root :: own.erase root):=h1.perm fun n=>by rw[(List.perm_cons_erase q).count_eq]
        exact(QbW h2).1
  have HV:=hid (Qfz h root hn (by omega))
  rw[hE]at HV
  obtain⟨K,hK,hkk⟩:=h.keep
  have hdm:=h.dims
  have hold:∀p∈s.sup.pages,2≤p∧p<s.dv.blocks:=fun p hp=>hok.page' hp
  have hgh:GoodC s.dv s.sup.pages s.held hown:=hok.held.kept rfl rfl (fun _ _=>rfl)
  have HFL:Hid (freeL K (setAll s.now (s.sup.pages.map Int.toNat) 0)=frees s):=hid (QfB h hgh hkk hold)
  have HTKN:Hid (setAll (setAll s.now (s.sup.pages.map Int.toNat) 0) (newPages s) 1=newNow s):=hid (hok.taken h)
  have HCW:Hid (cntW (newSup s root) (pagesL (eachC s.dv.size) s.dv.blocks (newNow s))=newWrites s):=hid (QjY hok)
  obtain⟨hse,hso⟩:=hok.QeP hT hrr
  have hse:supE (newSup s root)=0:=hse
  have hso:SupOk (newSup s root):=hso
  have HSE:=hid (⟨hse,hso⟩:supE (newSup s root)=0∧SupOk (newSup s root))
  have hnl:(newPages s).length=s.sup.pages.length:=hok.QV
  have HNL:=hid hnl
  have HPOS:Hid (0<s.sup.pages.length):=hid (by have h1:=(Su.QB hok.valid.1).1;have h2:=hok.valid.2.2.2.1;have h3:((calm s).sup.pages.length:Int)=_:=h2;have h4:(calm s).sup=s.sup:=rfl;rw[h4]at h1 h3;omega)
  have HRM:Hid (s.sup.pages.length≤(frees s).length):=hid hok.room
  have HPGI:Hid (ints (s.sup.pages.map Int.toNat)=s.sup.pages):=hid (by
    unfold ints
    rw[List.map_map]
    refine(List.map_congr_left fun p hp=>?_).trans (List.map_id _)
    have:=hold p hp
    show((p.toNat:Nat):Int)=p
    omega)
  have HPL:Hid (∀q∈s.sup.pages.map Int.toNat,2≤q∧q<s.dv.blocks):=hid (fun q hq=>by
    obtain⟨p,a,rfl⟩:=List.mem_map.1 hq
    have:=hold p a
    omega)
  have HNP:Hid (x.np=s.sup.pages.length):=hid h.pages.len.symm
  have hgen:0≤s.sup.gen∧s.sup.gen<18446744073709551615:=by
    have h1:s.sup.gen≤T+1:=hok.gen
    exact⟨h.sok.gen.1,by omega⟩
  have HGEN:=hid hgen
  have HFIT:Hid (∀i,i<s.sup.pages.length→(((pagesL (eachC s.dv.size) s.dv.blocks (newNow s)).getD i []).length:Int)+16≤s.dv.size∧IsB ((pagesL (eachC s.dv.size) s.dv.blocks (newNow s)).getD i [])):=hid (fun i hi=>by
    have h1:=hok.pageCount (newNow s) hok.newc
    have h2:(pagesL (eachC s.sup.size) s.dv.blocks (newNow s)).length=s.sup.pages.length:=h1
    rw[h.geo.1]at h2
    exact countPage (size:=(s.dv.size:Int)) (K:=s.dv.blocks) hok.geo (newNow s) hok.newc i (by omega))
  have HPC:Hid ((pagesL (eachC s.dv.size) s.dv.blocks (newNow s)).length=s.sup.pages.length):=hid (by
    have h1:=hok.pageCount (newNow s) hok.newc
    have h2:(pagesL (eachC s.sup.size) s.dv.blocks (newNow s)).length=s.sup.pages.length:=h1
    rw[h.geo.1]at h2
    exact h2)
  have HOPS:Hid (s.dv.ops+s.sup.pages.length+10≤1000000∧s.dv.pend.length+s.sup.pages.length+10≤1000000):=hid (by
    have h1:s.dv.ops≤100*T+100:=hok.ops
    have h2:s.dv.pend.length≤T+1:=hok.few
    omega)
  have HCN:Hid (CnOk s.dv.size s.dv.blocks (newNow s)):=hid (by
    have h1:=hok.commit hT hrr
    have h2:=h1.now.cok
    have h3:(commitP (calm s) root).dv.size=s.dv.size:=by rw[(hok.QaW hT hrr).2.2.2];rfl
    have h4:(commitP (calm s) root).dv.blocks=s.dv.blocks:=by rw[(hok.QaW hT hrr).2.2.2];rfl
    rw[h3,h4]at h2
    exact h2)
  have HM:=hid h
  have HT4:=hid hT4
  have HT4N:=hid (Ql7 h hT4)
  have HK:=hid hK
  have HEE:=hid hE
  have HFP:Hid (∀k,x.fp k→k<w.heap.size∧w0.heap.size≤k):=hid (fun k hk=>⟨h.lt hk,h.fresh hk⟩)
  have HW0:Hid (w0.heap.size≤w.heap.size):=hid h.size0
  have HCL:=hid h.now.clone
  have c8:=h.cells.2.2.2.2.2.2.2.2.1
  obtain⟨sg,e1⟩:∃q,x.sg=q:=⟨_,rfl⟩
  have HSG:=hid e1
  obtain⟨gn,e2⟩:∃q,x.gn=q:=⟨_,rfl⟩
  rw[e1]at HV c8 ⊢
  rw[e2]at c8 HCL
  clear hE hK hkk hold hgh hse hso hnl hgen h e1 e2 hT4 hrr hr hdm
  go_enter Tryz.func22,Tryz.ntmps22
  go_wp2_with (first|(go_at_call 51;refine HV.out.mono ?_;rintro e w' ⟨rfl,rfl⟩)|fail)
  refine HCL.out.mono ?_
  rintro e w1 ⟨gc,hcc,cc,rfl,hc1,hg1,hl1,hl2⟩
  have HM1:=hid (HM.out.go hg1)
  have HC1:=hid hc1
  have HNW:Hid (w.heap.size≤gc∧w.heap.size≤hcc):=hid ⟨hl1,hl2⟩
  have HG1:=hid hg1
  have c5:=HM1.out.cells.2.2.2.2.2.1
  rw[HSG.out,HNP.out]at c5
  have HVC:=hid (Qis        w0 w1 gc hcc cc s.dv.size s.dv.blocks s.now x.ap s.sup.pages.length x.cp (s.sup.pages.map Int.toNat) hc1 (by rw[HPGI.out,←HNP.out];exact HM1.out.pages) HPL.out (by omega) (fun ad had q=>by
    have h1:=(HFP.out _ (.inr (.inr (.inr (.inr (.inr (.inr (.inr ⟨ad,had,rfl⟩)))))))).1
    omega))
  obtain⟨ap,e3⟩:∃q,x.ap=q:=⟨_,rfl⟩
  obtain⟨cp,e4⟩:∃q,x.cp=q:=⟨_,rfl⟩
  obtain⟨np,e5⟩:∃q,s.sup.pages.length=q:=⟨_,rfl⟩
  have HNPE:=hid e5
  have HAPE:=hid e3
  have HCPE:=hid e4
  rw[e3,e4,e5]at c5 HVC
  clear hc1 hg1 hl1 hl2 e3 e4 e5 HCL HV c8
  dsimp only
  go_wp2_with fail
  refine HVC.out.mono ?_
  rintro e w2 ⟨rfl,hc2,ht2⟩
  have HC2:=hid hc2
  have HM2:=hid (HM1.out.beside ht2 (fun q=>by have:=(HFP.out _ q).1;have:=HNW.out;omega) (by have:=HW0.out;have:=HNW.out;omega))
  have HT2:Hid (Turn w w2 (·=hcc)):=hid (((Qc HG1.out).mono (fun _ _ e=>e.elim)).trans ht2 (fun _ _ e=>e))
  clear hc2 ht2 HVC c5 HC1 HM1
  dsimp only
  have c5:=HM2.out.cells.2.2.2.2.2.1
  have c10:=HM2.out.cells.2.2.2.2.2.2.2.2.2.2.1
  rw[HSG.out,HNP.out,HAPE.out,HCPE.out,HNPE.out]at c5
  rw[HSG.out]at c10
  have HTKE:Hid (∀W,Turn w2 W nowhere→Calls Tryz.prog 54 #[.pointer (some ⟨gc,0,none⟩),.pointer (some ⟨x.gk,0,none⟩),.int .i64 (np:Int)] W (TakenX w0 W gc hcc cc s.dv.size s.dv.blocks (setAll s.now (s.sup.pages.map Int.toNat) 0) (newPages s))):=hid (fun W hW=>by
    have h1:=Qbv      w0 W gc hcc cc s.dv.size s.dv.blocks (setAll s.now (s.sup.pages.map Int.toNat) 0) K (some ⟨x.gk,0,none⟩) np (HC2.out.old hW.grown) (by rw[HFL.out,←HNPE.out];exact HRM.out) (fun W2 N' ht hc=>by
      have h9:Turn w W2 (·=hcc):=(HT2.out.trans hW (fun _ _ e=>e.elim)).trans ht (fun _ _ e=>e)
      have hk:=QJ      HK.out h9 (Qao     HM.out.gr h9 (fun i e=>by have e2:i=hcc:=e;have:=HNW.out;have:=HW0.out;omega))
        (fun e=>by have e2:x.gk=hcc:=e;have:=(HFP.out x.gk (.inr (.inr (.inr (.inr (.inl rfl)))))).1;have:=HNW.out;omega)
        (fun e=>by have e2:x.hk=hcc:=e;have:=(HFP.out x.hk (.inr (.inr (.inr (.inr (.inr (.inl rfl))))))).1;have:=HNW.out;omega)
      exact hc.takeh hk)
    rw[HFL.out]at h1
    have e:(frees s).take np=newPages s:=by rw[←HNPE.out];rfl
    rw[e]at h1
    exact h1)
  obtain⟨gk,e6⟩:∃q,x.gk=q:=⟨_,rfl⟩
  rw[e6]at c10 HTKE
  clear e6
  go_upto_region 6 with fail
  go_region_held3 (fun w'=>w'.cell? ⟨sg,5,none⟩=some (.slice ap np cp)∧w'.cell? ⟨sg,10,none⟩=some (.pointer (some ⟨gk,0,none⟩))) (go_keep)
    (first
      | (go_at_call 54
         (with_reducible refine(HTKE.out _ (Turn.drew w2 _)).mono ?_)
         rintro e w3 ⟨a3,c3,rfl,hs3,hn3,hc3,ht3⟩
         have HS3:=hid hs3
         have HN3:=hid hn3
         have HC3:=hid hc3
         have HTT3:Hid (Turn w2 w3 (·=hcc)):=hid ((Turn.drew w2 _).trans ht3 (fun _ _ e=>e))
         have k5:=HTT3.out.cell c5 (fun e=>by have e2:sg=hcc:=e;have:=(HFP.out x.sg (.inl (.inl rfl))).1;have:=HNW.out;have:=HSG.out;omega)
         have k10:=HTT3.out.cell c10 (fun e=>by have e2:sg=hcc:=e;have:=(HFP.out x.sg (.inl (.inl rfl))).1;have:=HNW.out;have:=HSG.out;omega)
         clear hs3 hn3 hc3 ht3)
      |fail)
  have HM3:=hid (HM2.out.beside HTT3.out (fun q=>by have:=(HFP.out _ q).1;have:=HNW.out;omega) (by have:=HW0.out;have:=HNW.out;omega))
  have HT3:Hid (Turn w w3 (·=hcc)):=hid (HT2.out.trans HTT3.out (fun _ _ e=>e))
  have HC3N:Hid (CN w0 w3 gc hcc cc s.dv.size s.dv.blocks (newNow s)):=hid (by rw[←HTKN.out];exact HC3.out)
  have HNX:=hid (Qgp HM3.out HGEN.out)
  rw[HSG.out]at HNX
  have hgen:=HGEN.out
  have q8:(s.sup.gen+1==0)=false:=beq_eq_false_iff_ne.2 (by omega)
  obtain⟨l3,hl3⟩:∃q,(newPages s).length=q:=⟨_,rfl⟩
  have HL3:=hid hl3
  rw[hl3]
  clear hl3 c5 c10 k5 k10 HTKE HM2 HC2 HTT3 HC3 HFL HTKN HRM hgen
  go_upto_region 12 with (first|(go_at_call 41;refine HNX.out.mono ?_;rintro e w' ⟨rfl,rfl⟩)|fail)
  obtain⟨-,-,d2,d3,-,-,d6,-,-,-,-,-⟩:=HM3.out.cells
  rw[HSG.out]at d2 d3 d6
  have HOT:Hid (∀W,Calls Tryz.prog 55 #[.int .i64 (s.slot:Int)] W fun e w'=>e=.returned (.int .i64 ((1-s.slot:Nat):Int))∧W=w'):=hid (fun W=>by
    have h1:=Su.Qji (s.slot:Int) W
    have h2:(if (s.slot:Int)=0 then(1:Int) else 0)=((1-s.slot:Nat):Int):=by
      rcases HM3.out.slot with e|e
      · rw[e];rfl
      · rw[e];rfl
    rw[h2]at h1
    exact h1)
  obtain⟨sl,hsl⟩:∃q,s.slot=q:=⟨_,rfl⟩
  obtain⟨so,hso⟩:∃q,1-s.slot=q:=⟨_,rfl⟩
  have HSL:=hid hsl
  have HSO:=hid hso
  rw[hso]at HOT
  rw[hsl]at d6 HOT
  clear hsl hso HNX
  go_region_held3 (fun w'=>w'.cell? ⟨sg,2,none⟩=some (.int .i64 (s.dv.size:Int))∧w'.cell? ⟨sg,3,none⟩=some (.int .i64 (s.dv.blocks:Int))∧w'.cell? ⟨sg,6,none⟩=some (.int .i64 (sl:Int))) (go_keep)
    (first
      | (go_at_call 55
         (with_reducible refine(HOT.out _).mono ?_)
         rintro e w4 ⟨rfl,rfl⟩)
      |fail)
  all_goals
    have hA:=Qa (Qb w3 (.cells #[.int .u64 (s.sup.gen+1),.int .i64 (s.dv.size:Int),.int .i64 (s.dv.blocks:Int),.int .u32 (root:Int),.slice a3 l3 c3] 92)) (Qn _)
    have hsb:SB (w3.alloc (.cells #[.int .u64 (s.sup.gen+1),.int .i64 (s.dv.size:Int),.int .i64 (s.dv.blocks:Int),.int .u32 (root:Int),.slice a3 l3 c3] 92)).drew w3.heap.size (newSup s root) a3 l3 c3:=by
      have e1:(newSup s root).size=(s.dv.size:Int):=HM3.out.geo.1
      have e2:(newSup s root).blocks=(s.dv.blocks:Int):=HM3.out.geo.2
      unfold SB
      rw[e1,e2]
      exact heap_alloc_new w3 _
    obtain⟨W4,hW4⟩:∃X,(w3.alloc (.cells #[.int .u64 (s.sup.gen+1),.int .i64 (s.dv.size:Int),.int .i64 (s.dv.blocks:Int),.int .u32 (root:Int),.slice a3 l3 c3] 92)).drew=X:=⟨_,rfl⟩
    rw[hW4]at hA hsb ⊢
    have HG4:=hid hA
    have HSB4:=hid hsb
    have HM4:=hid (HM3.out.go hA)
    have HC4:=hid (HC3N.out.old hA)
    have HS4:Hid (Ws.Seg W4 a3 l3 c3 (newSup s root).pages):=hid (by
      have h1:=HS3.out.grown hA
      rw[HL3.out]at h1
      exact h1)
    have HT4W:Hid (Turn w W4 (·=hcc)):=hid (HT3.out.trans (Qc hA) (fun _ _ e=>e.elim))
    have HN4:Hid (∀ad,a3=some ad→w.heap.size≤ad.block):=hid (fun ad had=>by have:=HN3.out ad had;have:=HT2.out.size;have h9:w2.drew.heap.size=w2.heap.size:=rfl;omega)
    have HNLT:Hid (∀ad,a3=some ad→ad.block<w3.heap.size):=hid (fun ad had=>by
      have h5:0<l3:=by rw[←HL3.out,HNL.out];exact HPOS.out
      have h1:=HS3.out
      rw[HL3.out]at h1
      obtain⟨gq,oq,e5,hcq⟩:=h1.addr h5
      rw[had]at e5
      cases e5
      exact World.block_lt_of_cell? w3 _ (hcq 0 h5))
    have HLT3:Hid (w.heap.size≤w3.heap.size∧w3.heap.size<W4.heap.size):=hid ⟨HT3.out.size,hsb.lt⟩
    obtain⟨b0,b1,b2,b3,b4⟩:=hsb.cells
    have f0:=HM4.out.cells.1
    rw[HSG.out]at f0
    have HPI:Hid (l3=(newSup s root).pages.length):=hid (by show l3=((newPages s).map fun n:Nat=>(n:Int)).length;rw[List.length_map];exact HL3.out.symm)
    have HSV:Hid (∀W,Turn W4 W nowhere→Calls Tryz.prog 56 #[.pointer (some ⟨x.g,0,none⟩),.int .i64 (so:Int),.agg #[.int .u64 (newSup s root).gen,.int .i64 (newSup s root).size,.int .i64 (newSup s root).blocks,.int .u32 (newSup s root).root,.slice a3 l3 c3],.pointer (some ⟨gc,0,none⟩)] W (SaveX w0 W x.g x.b x.P (comR s root))):=hid (fun W hW=>by
      have hg:=hW.grown
      have hsl:=HS4.out.grown hg
      rw[HPI.out]at hsl
      have h1:=QgE      w0 W x.g x.b x.P s.dv gc hcc cc s.dv.blocks (newNow s) (newSup s root) a3 c3 so (HM4.out.go hg).dev (HC4.out.old hg) hsl (fun ad had=>⟨by have:=HNLT.out ad had;have:=HLT3.out;have:=hW.size;omega,fun q=>by have h7:=(HFP.out _ (.inl (.inr (.inr q)))).1;have:=HN4.out ad had;omega⟩) HSE.out.2 ((HT4.out.grown HM4.out.gr).grown hg) HM4.out.geo.1 HSE.out.1
        (by rw[HPC.out];show _=((newPages s).map fun n:Nat=>(n:Int)).length;rw[List.length_map,HNL.out])
        (fun i hi=>HFIT.out i (by rw[←HPI.out,←HL3.out,HNL.out]at hi;exact hi))
        (by rw[←HPI.out,←HL3.out,HNL.out];exact HOPS.out.1) (by rw[←HPI.out,←HL3.out,HNL.out];exact HOPS.out.2) HT4N.out (by rw[←HPI.out,←HL3.out,HNL.out];exact hp74)
      rw[HCW.out,←HPI.out]at h1
      unfold comR
      rw[HSO.out]
      exact h1)
    obtain⟨u0,hu0⟩:∃q,(newSup s root).gen=q:=⟨_,rfl⟩
    obtain⟨u1,hu1⟩:∃q,(newSup s root).size=q:=⟨_,rfl⟩
    obtain⟨u2,hu2⟩:∃q,(newSup s root).blocks=q:=⟨_,rfl⟩
    obtain⟨u3,hu3⟩:∃q,(newSup s root).root=q:=⟨_,rfl⟩
    obtain⟨dg,hdg⟩:∃q,x.g=q:=⟨_,rfl⟩
    have HU:=hid (And.intro hu0 (And.intro hu1 (And.intro hu2 hu3)))
    have HDG:=hid hdg
    rw[hu0]at b0 HSV
    rw[hu1]at b1 HSV
    rw[hu2]at b2 HSV
    rw[hu3]at b3 HSV
    rw[hdg]at f0 HSV
    have hlt3:w3.heap.size≠x.hn:=by have h7:=(HFP.out _ (.inl (.inr (.inl rfl)))).1;have:=HLT3.out;omega
    have HFPD:Hid (∀k,Dv.fp x.g x.b x.P k→k<w.heap.size):=hid (fun k q=>(HFP.out _ (.inl (.inr (.inr q)))).1)
    have HSGD:Hid (¬Dv.fp x.g x.b x.P sg):=hid (by rw[←HSG.out];exact HM.out.own.2.1)
    rw[hdg]at HFPD HSGD
    clear hA hsb hW4 hu0 hu1 hu2 hu3 hdg hlt3 d2 d3 d6
    go_upto_region 13 with fail
    go_region_held3 (fun w'=>w'.cell? ⟨sg,0,none⟩=some (.pointer (some ⟨dg,0,none⟩))∧w'.cell? ⟨w3.heap.size,0,none⟩=some (.int .u64 u0)∧w'.cell? ⟨w3.heap.size,1,none⟩=some (.int .i64 u1)∧w'.cell? ⟨w3.heap.size,2,none⟩=some (.int .i64 u2)∧w'.cell? ⟨w3.heap.size,3,none⟩=some (.int .u32 u3)∧w'.cell? ⟨w3.heap.size,4,none⟩=some (.slice a3 l3 c3)) (go_keep)
      (first
        | (go_at_call 56
           (with_reducible refine(HSV.out _ (Turn.drew W4 _)).mono ?_)
           rintro e w5 ⟨P5,rfl,hd5,ht5,hf5⟩
           have HD5:=hid hd5
           have HTD5:Hid (Turn W4 w5 (Dv.fp x.g x.b x.P)):=hid ((Turn.drew W4 _).trans (by rw[HDG.out];exact ht5) (fun _ _ e=>e))
           have HF5:=hid hf5
           have k0:=HTD5.out.cell f0 (by rw[HDG.out];exact HSGD.out)
           have j0:=HTD5.out.cell b0 (fun q=>by rw[HDG.out]at q;have h7:w3.heap.size<w.heap.size:=HFPD.out _ q;have:=HLT3.out;omega)
           have j1:=HTD5.out.cell b1 (fun q=>by rw[HDG.out]at q;have h7:w3.heap.size<w.heap.size:=HFPD.out _ q;have:=HLT3.out;omega)
           have j2:=HTD5.out.cell b2 (fun q=>by rw[HDG.out]at q;have h7:w3.heap.size<w.heap.size:=HFPD.out _ q;have:=HLT3.out;omega)
           have j3:=HTD5.out.cell b3 (fun q=>by rw[HDG.out]at q;have h7:w3.heap.size<w.heap.size:=HFPD.out _ q;have:=HLT3.out;omega)
           have j4:=HTD5.out.cell b4 (fun q=>by rw[HDG.out]at q;have h7:w3.heap.size<w.heap.size:=HFPD.out _ q;have:=HLT3.out;omega)
           clear hd5 ht5 hf5)
        |fail)
    have HTX:Hid (Turn w W4 x.fp):=hid (HT4W.out.mono (fun k hk e=>by have e2:k=hcc:=e;have:=HNW.out;omega))
    have HDD5:Hid (Held w0 w5 x.g x.b P5 (comR s root).2):=hid (by rw[HDG.out];exact HD5.out)
    have HFF5:Hid (∀k,Dv.fp x.g x.b P5 k→Dv.fp x.g x.b x.P k∨W4.heap.size≤k):=hid (fun k q=>by
      have h1:=HF5.out k (by rw[←HDG.out];exact q)
      rw[←HDG.out]at h1
      exact h1)
    have HFCT:Hid ((comR s root).2.size=s.dv.size∧(comR s root).2.blocks=s.dv.blocks):=hid (Qha _ _ _ _)
    obtain⟨r,hr⟩:∃r,comR s root=r:=⟨_,rfl⟩
    rw[hr]at HDD5 HFCT ⊢
    have HR:=hid hr
    clear hr k0 j0 j1 j2 j3 j4 f0 b0 b1 b2 b3 b4 HSV
    by_cases h0:r.1=0
    · have r0 : (r.1 != 0)=false:=by rw[h0];rfl
      have HR0:=hid h0
      have hsg:¬Dv.fp x.g x.b x.P x.sg:=HM.out.own.2.1
      have hsz:=HT4W.out.size
      have hsz5:=HTD5.out.size
      have hfl:∀k,k<W4.heap.size→¬Dv.fp x.g x.b x.P k→¬Dv.fp x.g x.b P5 k:=fun k h1 h2 q=>(HFF5.out k q).elim h2 fun z=>by omega
      have hnf:∀k,w.heap.size≤k→¬Dv.fp x.g x.b x.P k:=fun k h1 q=>by have:=(HFP.out k (.inl (.inr (.inr q)))).1;omega
      have HFL:=hid hfl
      have HNF:=hid hnf
      have hgc:gc<W4.heap.size∧hcc<W4.heap.size:=⟨HC4.out.cc.glt,HC4.out.cc.lt⟩
      have HGC:=hid hgc
      have hnw:=HNW.out
      have hsgl:=(HFP.out x.sg (.inl (.inl rfl))).1
      have hsgl2:=(HFP.out x.sg (.inl (.inl rfl))).2
      have hgr5:w0.grownBy w5 none:=HDD5.out.turn.grown
      have HC5:Hid (CN w0 w5 gc hcc cc s.dv.size s.dv.blocks (newNow s)):=hid (QJ HC4.out HTD5.out hgr5 (hnf gc hnw.1) (hnf hcc hnw.2))
      have HS5:Hid (Ws.Seg w5 a3 l3 c3 (newSup s root).pages):=hid (Qp HS4.out HTD5.out (fun ad had=>hnf _ (HN4.out ad had)))
      have HB5:Hid (Bx w5 sg (.pointer (some ⟨dg,0,none⟩)) (.int .u64 s.sup.gen) (.int .i64 (s.dv.size:Int)) (.int .i64 (s.dv.blocks:Int)) (.int .u32 s.sup.root) (.slice x.ap x.np x.cp) (.int .i64 (s.slot:Int)) (.pointer (some ⟨x.gh,0,none⟩)) (.pointer (some ⟨x.gn,0,none⟩)) (.pointer x.pm) (.pointer (some ⟨x.gk,0,none⟩)) (.pointer (some ⟨sg,0,none⟩))):=hid (by
        have h1:=HM4.out.box
        have h2:=Fr.Qg h1 HTD5.out hsg
        unfold boxV at h2
        rw[HSG.out,HDG.out]at h2
        exact h2)
      have HH:=hid (Qf3 w0 (newSup s root) a3 l3 c3 (so:Int) gc hcc cc s.dv.size s.dv.blocks (newNow s) HB5.out HC5.out (by rw[←HSG.out];omega) (by rw[←HSG.out];omega) (by rw[←HSG.out];exact hsgl2))
      rw[HU.out.1,HU.out.2.1,HU.out.2.2.1,HU.out.2.2.2]at HH
      obtain⟨c0,c1,c2,c3',c4⟩:=(HSB4.out.cells)
      rw[HU.out.1]at c0
      rw[HU.out.2.1]at c1
      rw[HU.out.2.2.1]at c2
      rw[HU.out.2.2.2]at c3'
      have j0:=HTD5.out.cell c0 (hnf _ HLT3.out.1)
      have j1:=HTD5.out.cell c1 (hnf _ HLT3.out.1)
      have j2:=HTD5.out.cell c2 (hnf _ HLT3.out.1)
      have j3:=HTD5.out.cell c3' (hnf _ HLT3.out.1)
      have j4:=HTD5.out.cell c4 (hnf _ HLT3.out.1)
      rw[h0]
      clear h0 hsg hsz hsz5 hfl hnf hgc hnw hsgl hsgl2 hgr5 c0 c1 c2 c3' c4
      go_wp2_with fail
      refine HH.out.mono ?_
      rintro e w6 ⟨gn2,hn2,cn2,rfl,hb6,hc6,hl61,hl62,ht6⟩
      have HX : Hid (ComX w0 w x s root (.returned (.int .i64 0)) w6):=hid (by
        rw[←HU.out.1,←HU.out.2.1,←HU.out.2.2.1,←HU.out.2.2.2]at hb6
        have hnw:=HNW.out
        have hgc:=HGC.out
        have hsgl:=HFP.out x.sg (.inl (.inl rfl))
        have hsz5:=HTD5.out.size
        have hsz4:=HT4W.out.size
        have hsz6:=ht6.size
        have e1:=HSG.out
        have hl6:gn2<w6.heap.size∧hn2<w6.heap.size:=⟨hc6.cc.glt,hc6.cc.lt⟩
        refine .inr ⟨HEE.out,by rw[HR.out,HR0.out],fun _=>?_,fun q=>absurd (by rw[HR.out];exact HR0.out) q⟩
        have hsgP5:¬Dv.fp x.g x.b P5 sg:=HFL.out sg (by omega) (by rw[←e1];exact HM.out.own.2.1)
        have hd6:Held w0 w6 x.g x.b P5 r.2:=⟨HDD5.out.dev.turn ht6 (fun i hi e=>hsgP5 (by have e2:i=sg:=e;rw[←e2];exact hi)),HDD5.out.new,Qc hc6.gr⟩
        have hfp5:∀k,Dv.fp x.g x.b P5 k→k<w5.heap.size:=fun k q=>HDD5.out.dev.lt k q
        have hs6:Ws.Seg w6 a3 l3 c3 (newSup s root).pages:=Qp HS5.out ht6 (fun ad had e=>by have e2:ad.block=sg:=e;have:=HN4.out ad had;omega)
        have hcg6:CN w0 w6 gc hcc cc s.dv.size s.dv.blocks (newNow s):=QJ HC5.out ht6 hc6.gr (fun e=>by have e2:gc=sg:=e;omega) (fun e=>by have e2:hcc=sg:=e;omega)
        have hmk := SpM.make (slot:=so) hd6 (by rw[HDG.out];exact hb6) hs6 (by rw[HFCT.out.1,HFCT.out.2];exact hcg6) (by rw[HFCT.out.1,HFCT.out.2];exact hc6) ⟨by rw[HFCT.out.1];exact HM.out.geo.1,by rw[HFCT.out.2];exact HM.out.geo.2⟩ HSE.out.2 (by rcases HM.out.slot with e|e <;> rw[HSL.out]at e <;> have:=HSO.out <;> rw[HSL.out]at this <;> omega)
          (fun k hk=>by
            have hk2:w.heap.size≤k∧k<w6.heap.size∧k≠hn2∧¬Dv.fp x.g x.b P5 k:=by
              rcases hk with e|e|e|⟨ad,had,e⟩
              · subst e;exact⟨hnw.1,by omega,by omega,HFL.out _ hgc.1 (HNF.out _ hnw.1)⟩
              · subst e;exact⟨hnw.2,by omega,by omega,HFL.out _ hgc.2 (HNF.out _ hnw.2)⟩
              · subst e;exact⟨by omega,hl6.1,hc6.cc.ne,fun q=>by have:=hfp5 _ q;omega⟩
              · subst e
                have h1:=HN4.out ad had
                have h2:=HNLT.out ad had
                have h3:=HLT3.out
                exact⟨h1,by omega,by omega,HFL.out _ (by omega) (HNF.out _ h1)⟩
            exact⟨hk2.2.1,by have:=HW0.out;omega,by omega,hk2.2.2.1,hk2.2.2.2⟩)
          ⟨fun q=>by have:=hfp5 _ q;omega,hsgP5,by omega⟩ (by rw[←e1];exact hsgl.2)
        have e9:(⟨r.2,newSup s root,newNow s,newNow s,none,so⟩:SpS)=comS s root:=by unfold comS;rw[HR.out,HSO.out]
        rw[e9]at hmk
        refine⟨⟨sg,x.g,x.b,P5,gc,hcc,cc,gn2,hn2,cn2,none,gc,hcc,cc,a3,l3,c3⟩,e1.symm,rfl,hmk,(HTX.out.trans HTD5.out (fun k _ q=>.inl (.inr (.inr q)))).trans ht6 (fun k _ e=>.inl (.inl (by have e2:k=sg:=e;rw[e2,e1]))),fun k q=>?_⟩
        rcases q with (q|q|q)|q
        · exact .inl (.inl (.inl (by rw[q,e1])))
        · exact .inr (by have q:k=hn2:=q;omega)
        · exact(HFF5.out k q).elim (fun z=>.inl (.inl (.inr (.inr z)))) (fun z=>.inr (by omega))
        · refine .inr ?_
          rcases q with q|q|q|q|q|⟨z,q,_⟩|⟨ad,had,q⟩
          · have q:k=gc:=q;omega
          · have q:k=hcc:=q;omega
          · have q:k=gn2:=q;omega
          · have q:k=gc:=q;omega
          · have q:k=hcc:=q;omega
          · cases q
          · have:=HN4.out ad had;omega)
      clear hb6 hc6 hl61 hl62 ht6
      dsimp only
      go_wp2
      go_ret
      exact HX.out
    · have r0:(r.1 != 0)=true:=bne_iff_ne.2 h0
      have HX:Hid (ComX w0 w x s root (.returned (.int .i64 r.1)) w5):=hid (by
        refine .inr ⟨HEE.out,by rw[HR.out],fun q=>absurd q (by rw[HR.out];exact h0),fun _=>?_⟩
        rw[HR.out]
        exact Op.trans HTX.out rfl rfl (fun k q=>.inl q) (HM4.out.opDev HDD5.out HTD5.out HFF5.out HFCT.out.1 HFCT.out.2))
      clear h0
      go_wp2
      go_ret
      exact HX.out
end
end Sp
end Go.Proofs.YtgffbbdcbkikhaaGreatDoor
