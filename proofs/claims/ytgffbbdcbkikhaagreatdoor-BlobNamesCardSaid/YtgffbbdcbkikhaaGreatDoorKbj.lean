/- Parts of the proof. -/
import Derived.Test.YtgffbbdcbkikhaaGreatDoorKbh
set_option maxRecDepth 100000
set_option maxHeartbeats 8000000
open Go.Lib (hid)
namespace Go.Proofs.YtgffbbdcbkikhaaGreatDoor
namespace Bl
open Go.RowKit Bs Dv Gr
open Sp Tr
open Oct (ofB)
open Su (Sup SupOk T4 GeoOk supE)
theorem Qjn:(firstP 128 40).sup.pages=[2]:=by
 show ints (firstL 128 40)=[2]
 decide +kernel
section
variable {w0 w w' : World} {sg g : Nat} {A : Nat → Prop} {s s' : SpS} {R P : Nat} {own ks : List Nat} {T T2 fr n : Nat} {l : List Int}
theorem Qho(h:Sh w0 w sg g A s)(k:Lg s R P own T fr)(hT:T≤8000)(p:Pg)(ho:PgOk p)(h3:3≤p.tag)(hk:p.kids=[])(hd:p.data.length≤R)(hfr:P<fr) :
  Calls Tryz.prog 14 #[.pointer (some ⟨sg,0,none⟩),.agg #[.int .u8 p.tag,.slice none 0 0,.string (strOfNums p.data)]] w fun e w'=>∃n s',e=.returned (.tuple #[.int .u32 ((n:Nat):Int),.int .i64 0])∧lp s' n=some p∧(∀m q,lp s m=some q→lp s' m=some q)∧(∀m∈frees s',n<m)∧Lg s' R P (n :: own) (T+1) (fr-1)∧(s'.dv.blocks=s.dv.blocks∧s'.sup=s.sup)∧Sh w0 w' sg g A s'∧Stay w w' A:=by
 have hkl:p.kids.length=0:=by rw[hk];rfl
 obtain⟨n,f,hp⟩:=Qd6 (s:=s) (D:=[]) (p:=p) (own:=own) (by rw[QcA,hk];exact k.ok) (fun _ q=>by cases q) (by omega) ho h3 (by rw[Qas];have:=k.fits;omega) (by have:=k.left;have:=k.pages;omega);have hok:=hp.ok;rw[QcA]at hok;have hput:=QgH (own:=own) h k.ok (by omega) p none 0 ho (by rw[hk];exact Ws.Seg.nil w) (by have:=k.big;omega) hp.err hp.free;rw[hkl]at hput;refine hput.mono ?_;rintro e w' ⟨e1,hs,ht⟩;refine⟨n,_,e1,hp.is,hp.more,fun m hm=>?_,⟨hok,by rw[hp.size];exact k.room,k.big,by rw[hp.size];exact k.fits,k.pages,?_,k.mark⟩,⟨hp.blocks,rfl⟩,hs,ht⟩
 ·rw[hp.left]at hm;have h5:=QaL s;rw[hp.free]at h5;exact(List.pairwise_cons.1 h5).1 m hm
 ·have h1:=k.left;rw[hp.free,List.length_cons]at h1;rw[hp.left];omega
theorem Qfq(k:Lg s R P own T fr){p:Pg}(hp:lp s n=some p):openP R s n=if p.tag≠6 then(11,0,[]) else if p.data.length≠4 then(10,0,[]) else if 65536<ofB p.data∨p.kids.length≠nP (ofB p.data).toNat R then(10,0,[]) else(0,ofB p.data,p.kids):=by
 obtain⟨h1,h2⟩:=QfZ k.ok hp;unfold openP;rw[if_neg (fun q=>q h1),h2]
theorem Qd0(k:Lg s R P own T fr)(h:∀m∈frees s,n<m)(hfr:0<fr):n+1<s.dv.blocks:=by
 have h1:=k.left;cases e:frees s with
 |nil=>rw[e]at h1;simp at h1;omega
 |cons m f=>
  have h2:m∈frees s:=by rw[e];exact List.mem_cons_self ..
  have h3:=h m h2;have h4:=(QaM.1 h2).1;omega
end
theorem names_any(w:World)(hT4:T4 w) :
  Calls Tryz.prog 3 #[] w fun e w'=>e=.returned (.bool true)∧w.grownBy w' none:=by
 have HLV:=hid (QaX w hT4);have HRM:=hid QbG;have HMK:=hid (fun W (k:w.grownBy W none)=>Qb4 w W k hT4);have HLG:=hid Lg.roomy;have HBK:Hid ((firstP 128 40).dv.blocks=40∧(firstP 128 40).sup.pages=[2]):=hid ⟨QbR.2,Qjn⟩;have HT1:=hid (fun W=>QeY 2861 W (by decide));have HT0:=hid (fun W=>QeY 2860 W (by decide));have HMO:Hid (mostB 110=2860):=hid (by decide);obtain⟨s0,hs0⟩:∃s,firstP 128 40=s:=⟨_,rfl⟩;rw[hs0]at HMK HLG HBK;obtain⟨L1,hL1⟩:∃l,rep 2861 97=l:=⟨_,rfl⟩;obtain⟨L0,hL0⟩:∃l,rep 2860 97=l:=⟨_,rfl⟩;have HB1:Hid (Bs.IsB L1∧L1.length=2861):=hid (by rw[←hL1];exact⟨QbX _ _ (by decide),Qbu _ _⟩);have HB0:Hid (Bs.IsB L0∧L0.length=2860):=hid (by rw[←hL0];exact⟨QbX _ _ (by decide),Qbu _ _⟩);have HN0:Hid (nP 2860 110=26∧nP 2861 110=27∧nP 0 110=0∧nP 3 110=1):=hid (by decide);rw[hL1]at HT1;rw[hL0]at HT0;obtain⟨S1,hS1⟩:∃S,strOfNums L1=S:=⟨_,rfl⟩;obtain⟨S0,hS0⟩:∃S,strOfNums L0=S:=⟨_,rfl⟩;rw[hS1]at HT1;rw[hS0]at HT0;have HS1:=hid hS1;have HS0:=hid hS0;clear hs0 hL1 hL0 hS1 hS0 hT4;go_enter Tryz.func3,Tryz.ntmps3
 go_wp2_with fail
 refine HLV.out.mono ?_;rintro ev w1 ⟨rfl,hg1⟩;have HG1:=hid hg1;clear hg1 HLV;dsimp only;go_wp2_with fail
 refine(HRM.out _).mono ?_;rintro ev w2 ⟨rfl,hg2⟩;have HG2:=hid (Qa HG1.out hg2);have HMK2:=hid (HMK.out w2 HG2.out);clear hg2 HMK HRM;dsimp only;go_wp2_with fail
 refine HMK2.out.mono ?_;rintro ev w3 ⟨sg,g,rfl,hs3,hg3⟩;have HG3:=hid (Qa HG2.out hg3);have HWA:Hid (∀i,i<w.heap.size→i<w2.heap.size):=hid (fun i hi=>Nat.lt_of_lt_of_le hi HG2.out.size);have HPUT:Hid (Calls Tryz.prog 11 #[.pointer (some ⟨sg,0,none⟩),.string ⟨#[]⟩] w3 (PutYX w w3 sg g (fun i=>i<w2.heap.size) s0 110 1 [] [] 5 37)):=hid (Qag hs3 HLG.out [] 5 (by decide) (by decide) (fun x hx=>by cases hx) (Nat.zero_le _) (by decide) (fun i hi=>hs3.lt hi));clear hs3 hg3 HMK2;dsimp only;go_wp2_with fail
 refine HPUT.out.mono ?_;rintro ev w4 ⟨n,ks,s1,rfl,hn,hb,hl1,hs4,ht4⟩;have hl1:Lg s1 110 1 [n] 5 36:=hl1;have HS4:=hid hs4;have HLG1:=hid hl1;have HG4:=hid (Qm HG3.out ht4 HWA.out);have HSU1:Hid (s1.sup.pages=[2]):=hid (by rw[hb.sup];exact HBK.out.2);have HBL1:Hid (s1.dv.blocks=40):=hid (hb.blocks.trans HBK.out.1);have HNN:Hid (n<39):=hid (by have h5:=Qd0 hl1 hb.least (by decide);have h6:=HBL1.out;omega);have HKS:Hid (ks=[]):=hid (List.eq_nil_of_length_eq_zero (by rw[hb.blob.len];decide));have HBB:=hid hb.blob;have HGET:Hid (Calls Tryz.prog 12 #[.pointer (some ⟨sg,0,none⟩),.int .u32 (n:Int)] w4 fun e w'=>e=.returned (.tuple #[.string ⟨#[]⟩,.int .i64 0])∧w4.grownBy w' none):=hid (Qer hs4 hl1 hb.blob (Nat.zero_le _) (fun x hx=>by cases hx));clear hs4 ht4 hb hl1 hn HPUT;dsimp only;go_wp2_with fail
 refine HGET.out.mono ?_;rintro ev w5 ⟨rfl,hg5⟩;have HS5:=hid (HS4.out.go hg5);have HG5:=hid (Qa HG4.out hg5);have HSI:Hid (Calls Tryz.prog 13 #[.pointer (some ⟨sg,0,none⟩),.int .u32 (n:Int)] w5 fun e w'=>e=.returned (.tuple #[.int .i64 0,.int .i64 0])∧w5.grownBy w' none):=hid (QeN HS5.out HLG1.out HBB.out (Nat.zero_le _));clear hg5 HGET HS4;dsimp only;go_wp2_with fail
 refine HSI.out.mono ?_;rintro ev w6 ⟨rfl,hg6⟩;have HS6:=hid (HS5.out.go hg6);have HG6:=hid (Qa HG5.out hg6);have HP1:Hid (Calls Tryz.prog 14 #[.pointer (some ⟨sg,0,none⟩),.agg #[.int .u8 9,.slice none 0 0,.string ⟨#[]⟩]] w6 fun e w'=>∃n2 s',e=.returned (.tuple #[.int .u32 ((n2:Nat):Int),.int .i64 0])∧lp s' n2=some ⟨9,[],[]⟩∧(∀m q,lp s1 m=some q→lp s' m=some q)∧(∀m∈frees s',n2<m)∧Lg s' 110 1 (n2 :: [n]) 6 35∧(s'.dv.blocks=s1.dv.blocks∧s'.sup=s1.sup)∧Sh w w' sg g (fun i=>i<w2.heap.size) s'∧Stay w6 w' (fun i=>i<w2.heap.size)):=
  hid (Qho HS6.out HLG1.out (by decide) ⟨9,[],[]⟩ ⟨⟨by decide,by decide⟩,fun _ hk=>(by cases hk),fun x hx=>by cases hx⟩ (by decide) rfl (by decide) (by decide))
 clear hg6 HSI HS5;dsimp only;go_wp2_with fail
 refine HP1.out.mono ?_;rintro ev w7 ⟨p,s2,rfl,hp1,hm1,hle1,hl2,hbk1,hs7,ht7⟩;have HS7:=hid hs7;have HLG2:=hid hl2;have HG7:=hid (Qm HG6.out ht7 HWA.out);have HSU2:Hid (s2.sup.pages=[2]):=hid (by rw[hbk1.2];exact HSU1.out);have HBL2:Hid (s2.dv.blocks=40):=hid (hbk1.1.trans HBL1.out);have HPN:Hid (p<39):=hid (by have h5:=Qd0 hl2 hle1 (by decide);have h6:=HBL2.out;omega);have HBB2:=hid (HBB.out.mono hm1);have HPP:=hid hp1;have HGP:=hid (Qck hs7 hl2 (n:=p) (by have:=HPN.out;omega) (by rw[Qfq hl2 hp1];exact if_pos (show ¬(9:Int)=6 by decide)) (by decide));clear hp1 hm1 hle1 hl2 hbk1 hs7 ht7 HP1 HS6;dsimp only;go_wp2_with fail
 refine HGP.out.mono ?_;rintro ev w8 ⟨rfl,hg8⟩;have HS8:=hid (HS7.out.go hg8);have HG8:=hid (Qa HG7.out hg8);have HP2:Hid (Calls Tryz.prog 14 #[.pointer (some ⟨sg,0,none⟩),.agg #[.int .u8 6,.slice none 0 0,.string ⟨#[5,0,0,0]⟩]] w8 fun e w'=>∃n2 s',e=.returned (.tuple #[.int .u32 ((n2:Nat):Int),.int .i64 0])∧lp s' n2=some ⟨6,[],[5,0,0,0]⟩∧(∀m q,lp s2 m=some q→lp s' m=some q)∧(∀m∈frees s',n2<m)∧Lg s' 110 1 (n2 :: [p,n]) 7 34∧(s'.dv.blocks=s2.dv.blocks∧s'.sup=s2.sup)∧Sh w w' sg g (fun i=>i<w2.heap.size) s'∧Stay w8 w' (fun i=>i<w2.heap.size)):=
  hid (Qho HS8.out HLG2.out (by decide) ⟨6,[],[5,0,0,0]⟩ ⟨⟨by decide,by decide⟩,fun _ hk=>(by cases hk),QiZ _ (by decide)⟩ (by decide) rfl (by decide) (by decide))
 clear hg8 HGP HS7;dsimp only;go_wp2_with fail
 refine HP2.out.mono ?_;rintro ev w9 ⟨q,s3,rfl,hq1,hm2,hle2,hl3,hbk2,hs9,ht9⟩;have HS9:=hid hs9;have HLG3:=hid hl3;have HG9:=hid (Qm HG8.out ht9 HWA.out);have HSU3:Hid (s3.sup.pages=[2]):=hid (by rw[hbk2.2];exact HSU2.out);have HBL3:Hid (s3.dv.blocks=40):=hid (hbk2.1.trans HBL2.out);have HQN:Hid (q<39):=hid (by have h5:=Qd0 hl3 hle2 (by decide);have h6:=HBL3.out;omega);have HGQ:=hid (Qck hs9 hl3 (n:=q) (by have:=HQN.out;omega) (E:=10) (by
  rw[Qfq hl3 hq1];rw[if_neg (fun z=>z rfl),if_neg (fun z=>z rfl),if_pos];exact .inr (by decide)) (by decide))
 have HO39:Hid (openP 110 s3 39=(8,0,[])):=hid (by
  have hbn:=(HBB2.out.mono hm2).lies;have hpp:=(QaF (hm2 _ _ HPP.out)).2;have hqq:=(QaF hq1).2;refine Qfp hl3 (ls:=[q,p,n]) (fun m hm=>hm) (fun m hm j hj=>?_) ⟨by decide,by rw[HBL3.out];decide,fun z=>?_⟩ (fun z=>?_)
  ·rcases List.mem_cons.1 hm with e|hm
   ·rw[e]at hj;unfold kidsOf at hj;rw[show pageF s3.dv.blocks (s3.dv.last q)=_ from hqq]at hj;cases hj
   ·rcases List.mem_cons.1 hm with e|hm
    ·rw[e]at hj;unfold kidsOf at hj;rw[show pageF s3.dv.blocks (s3.dv.last p)=_ from hpp]at hj;cases hj
    ·have e:m=n:=by simpa using hm
     rw[e,Qf8 hbn.idx,HKS.out]at hj;cases hj
  ·rw[HSU3.out]at z;exact absurd z (by decide)
  ·have h1:=HNN.out;have h2:=HPN.out;have h3:=HQN.out;simp at z;omega)
 clear hq1 hm2 hle2 hl3 hbk2 hs9 ht9 HP2 HS8;dsimp only;go_wp2_with fail
 refine HGQ.out.mono ?_;rintro ev wa ⟨rfl,hga⟩;have HSa:=hid (HS9.out.go hga);have HGa:=hid (Qa HG9.out hga);have HMA:Hid (Calls Tryz.prog 16 #[.pointer (some ⟨sg,0,none⟩)] wa fun e w'=>e=.returned (.int .i64 2860)∧wa.grownBy w' none):=hid (by
  have h5:=QcU HSa.out HLG3.out.room HLG3.out.big;rw[HMO.out]at h5;exact h5)
 clear hga HGQ HS9;dsimp only;go_wp2_with fail
 refine HMA.out.mono ?_;rintro ev wb ⟨rfl,hgb⟩;have HSb:=hid (HSa.out.go hgb);have HGb:=hid (Qa HGa.out hgb);have HT1b:Hid (Calls Tryz.prog 15 #[.string ⟨#[97]⟩,.int .i64 2861] wb fun e w'=>e=.returned (.string S1)∧wb=w'):=hid (HT1.out wb);have HPL:Hid (Calls Tryz.prog 11 #[.pointer (some ⟨sg,0,none⟩),.string S1] wb (PutBX w wb sg g (fun i=>i<w2.heap.size) s3 110 L1 [q,p,n] [] [] 70)):=hid (by
  rw[←HS1.out];exact Qdh HSb.out HLG3.out L1 70 (by rw[HB1.out.2,HN0.out.2.1];decide) (by decide) HB1.out.1 (by rw[HB1.out.2];decide) (fun i hi=>HSb.out.lt hi))
 clear hgb HMA HSa HT1;dsimp only;go_wp2_with fail
 refine HT1b.out.mono ?_;rintro ev wx ⟨rfl,rfl⟩;dsimp only;go_wp2_with fail
 refine HPL.out.mono ?_;rintro ev wc ⟨n5,E5,s5,rfl,hr5,hs5,ht5⟩;have h9:n5=0∧E5=3∧s5=s3:=by
  cases hr5 with
  |yes _ _ hm=>rw[HMO.out,HB1.out.2]at hm;omega
  |long=>exact⟨rfl,rfl,rfl⟩
  |full _ _ _ hm=>rw[HMO.out,HB1.out.2]at hm;omega
 obtain⟨rfl,rfl,rfl⟩:=h9;have HSc:=hid hs5;have HGc:=hid (Qm HGb.out ht5 HWA.out);have HGE:Hid (Calls Tryz.prog 12 #[.pointer (some ⟨sg,0,none⟩),.int .u32 39] wc fun e w'=>e=.returned (.tuple #[.string ⟨#[]⟩,.int .i64 8])∧wc.grownBy w' none):=hid (Qck hs5 HLG3.out (n:=39) (by decide) HO39.out (by decide));clear hr5 hs5 ht5 HPL HT1b HSb;dsimp only;go_wp2_with fail
 refine HGE.out.mono ?_;rintro ev wd ⟨rfl,hgd⟩;have HSd:=hid (HSc.out.go hgd);have HGd:=hid (Qa HGc.out hgd);have HFR:Hid (Calls Tryz.prog 17 #[.pointer (some ⟨sg,0,none⟩)] wd fun e w'=>e=.returned (.int .i64 34)∧wd=w'):=hid (Qap HSd.out HLG3.out.left);have HT0d:Hid (∀W,Calls Tryz.prog 15 #[.string ⟨#[97]⟩,.int .i64 2860] W fun e w'=>e=.returned (.string S0)∧W=w'):=hid HT0.out;have HPM:Hid (Calls Tryz.prog 11 #[.pointer (some ⟨sg,0,none⟩),.string S0] wd (PutYX w wd sg g (fun i=>i<w2.heap.size) s5 110 1 L0 [q,p,n] 100 34)):=hid (by
  rw[←HS0.out];exact Qag HSd.out HLG3.out L0 100 (by rw[HB0.out.2,HN0.out.1];decide) (by decide) HB0.out.1 (by rw[HB0.out.2,HMO.out];decide) (by rw[HB0.out.2,HN0.out.1];decide) (fun i hi=>HSd.out.lt hi))
 clear hgd HGE HSc HT0;dsimp only;go_wp2_with fail
 refine HFR.out.mono ?_;rintro ev wx ⟨rfl,rfl⟩;dsimp only;go_wp2_with fail
 refine(HT0d.out _).mono ?_;rintro ev wx ⟨rfl,rfl⟩;dsimp only;go_wp2_with fail
 refine HPM.out.mono ?_;rintro ev we ⟨m,ksm,s6,rfl,hm,hb6,hl6,hs6,ht6⟩;rw[HB0.out.2,HN0.out.1]at hl6;have hl6:Lg s6 110 1 [m,q,p,n] 100 7:=hl6;have HSe:=hid hs6;have HLG6:=hid hl6;have HGe:=hid (Qm HGd.out ht6 HWA.out);have HFR:Hid (Calls Tryz.prog 17 #[.pointer (some ⟨sg,0,none⟩)] we fun e w'=>e=.returned (.int .i64 7)∧we=w'):=hid (Qap hs6 hl6.left);have HPN2:Hid (Calls Tryz.prog 11 #[.pointer (some ⟨sg,0,none⟩),.string S0] we (PutBX w we sg g (fun i=>i<w2.heap.size) s6 110 L0 [m,q,p,n] [] [] 200)):=hid (by
  rw[←HS0.out];exact Qdh hs6 hl6 L0 200 (by rw[HB0.out.2,HN0.out.1];decide) (by decide) HB0.out.1 (by rw[HB0.out.2];decide) (fun i hi=>hs6.lt hi))
 clear hm hb6 hl6 hs6 ht6 HPM HSd;dsimp only;go_wp2_with fail
 refine HFR.out.mono ?_;rintro ev wx ⟨rfl,rfl⟩;dsimp only;go_wp2_with fail
 refine(HT0d.out _).mono ?_;rintro ev wx ⟨rfl,rfl⟩;dsimp only;go_wp2_with fail
 refine HPN2.out.mono ?_;rintro ev wf ⟨n7,E7,s7,rfl,hr7,hs7,ht7⟩;have h9:n7=0∧E7=9∧∃fr7,Lg s7 110 1 [m,q,p,n] 200 fr7:=by
  cases hr7 with
  |yes hb _ _=>
   have h1:=hb.left;have h2:=HLG6.out.left;rw[HB0.out.2,HN0.out.1]at h1;omega
  |long hq _=>rw[HMO.out,HB0.out.2]at hq;omega
  |full ho hsm _ _=>exact⟨rfl,rfl,HLG6.out.same hsm ho⟩
 obtain⟨rfl,rfl,fr7,hl7⟩:=h9;have HGf:=hid (Qm HGe.out ht7 HWA.out);have HI0:Hid (∃own fr,Lg s7 110 1 own (200+0*10) fr):=hid ⟨_,_,hl7⟩;have HSf:=hid hs7;clear hr7 hs7 ht7 hl7 HPN2 HSe HFR HT0d;dsimp only;go_wp2
 go_loopw [27] (fun si wr=>∃(j:Nat) (s8:SpS),j≤8∧si=.int .i64 (j:Int)∧Hid (Sh w wr sg g (fun i=>i<w2.heap.size) s8)∧Hid (∃own fr,Lg s8 110 1 own (200+j*10) fr)∧Hid (w.grownBy wr none)) (fun si _=>8-(intOf si).toNat)
 case atStart=>exact⟨0,s7,by omega,rfl,HSf,HI0,HGf⟩
 case round=>
 clear HSf HI0 HGf;obtain⟨j,s8,hj,rfl,HSH,HLJ,HGJ⟩:=hrel;by_cases hlt:j<8
 case pos=>
  have q8:decide ((j:Int)<8)=true:=decide_eq_true (by omega);have q9:decide (j<8)=true:=decide_eq_true hlt;obtain⟨own,fr,hl8⟩:=HLJ.out;have HPJ:Hid (Calls Tryz.prog 11 #[.pointer (some ⟨sg,0,none⟩),.string ⟨#[97,98,99]⟩] wr (PutBX w wr sg g (fun i=>i<w2.heap.size) s8 110 [97,98,99] own [] [] (200+(j+1)*10))):=hid (Qdh HSH.out hl8 [97,98,99] (200+(j+1)*10) (by show 200+j*10+nP 3 110+nP 3 110+1≤_;rw[HN0.out.2.2.2];omega) (by omega) (QiZ _ (by decide)) (by decide) (fun i hi=>HSH.out.lt hi));have HL8:=hid hl8;clear hl8;go_wp2_with fail
  refine HPJ.out.mono ?_;rintro ev wk ⟨n9,E9,s9,rfl,hr9,hs9,ht9⟩;have HI9:Hid (∃own fr,Lg s9 110 1 own (200+(j+1)*10) fr):=hid (by
   cases hr9 with
   |yes hb _ _=>exact⟨_,_,HL8.out.put hb⟩
   |long _ ho=>exact⟨_,_,HL8.out.more (by omega)⟩
   |full ho hsm _ _=>exact⟨_,HL8.out.same hsm ho⟩)
  have HS9:=hid hs9;have HG9:=hid (Qm HGJ.out ht9 HWA.out);clear hr9 hs9 ht9 HPJ HL8 HSH HLJ HGJ;dsimp only;go_wp2;go_roundw
  case rel=>exact⟨j+1,s9,by omega,by go_num,HS9,HI9,HG9⟩
  case measure=>simp[intOf];omega
 case neg=>
 have q8:decide ((j:Int)<8)=false:=decide_eq_false (by omega);have q9:decide (j<8)=false:=decide_eq_false hlt;obtain⟨own,fr,hl8⟩:=HLJ.out;have HMZ:Hid (Calls Tryz.prog 16 #[.pointer (some ⟨sg,0,none⟩)] wr fun e w'=>e=.returned (.int .i64 2860)∧wr.grownBy w' none):=hid (by
  have h5:=QcU HSH.out hl8.room hl8.big;rw[HMO.out]at h5;exact h5)
 clear hl8 hlt hj;go_wp2_with fail
 refine HMZ.out.mono ?_;rintro ev wz ⟨rfl,hgz⟩;have HE:=hid (Qa HGJ.out hgz);clear hgz;dsimp only;go_wp2;go_ret
 exact⟨rfl,HE.out⟩
end Bl
end Go.Proofs.YtgffbbdcbkikhaaGreatDoor
