/- Parts of the proof. -/
import Derived.Test.YtgffbbdcbkikhaaGreatDoorKbh
set_option maxRecDepth 100000
set_option maxHeartbeats 8000000
open Go.Lib (hid)
namespace Go.Proofs.YtgffbbdcbkikhaaGreatDoor
namespace Bl
open Go.RowKit Bs Dv Gr
open Sp Tr
open Su (Sup SupOk T4 GeoOk supE)
theorem QhD(x:Int)(N:Nat)(w:World)(hN:N≤100000000) :
  Calls Tryz.prog 15 #[.string (strOfNums [x]),.int .i64 (N:Int)] w fun e w'=>e=.returned (.string (strOfNums (rep N x)))∧w=w':=Qfv x N w hN
theorem QkX(l:List Int):strOfNums l++⟨#[43]⟩=strOfNums (l++[43]):=by
 rw[←Qbl]
 rfl
theorem QjE(z:Int)(c:Nat)(w:World)(hc:c<256)(hT4:T4 w) :
  Calls Tryz.prog 7 #[.int .i64 z,.int .u8 (c:Int)] w fun e w'=>e=.returned (.bool true)∧w.grownBy w' none:=by
 have HLV:=hid (QaX w hT4);have HRM:=hid QbG;have HMK:=hid (fun W (k:w.grownBy W none)=>Qb4 w W k hT4);have HLG:=hid Lg.roomy;have HPK:=hid (fun W=>Qd5 z 2800 W (by decide) (by decide));obtain⟨N,hN⟩:∃N:Nat,pick z 2800=N:=Int.eq_ofNat_of_zero_le (Qai z 2800 (by decide)).1;have hN2:N<2800:=by have:=(Qai z 2800 (by decide)).2;omega
 rw[hN]at HPK;have HTM:=hid (fun W=>QhD (c:Int) N W (by omega));have HCV:=hid (fun W=>QfP W (c:Int));have HB:Hid (Bs.IsB (rep N (c:Int))):=hid (QbX N c (by omega));have HLL:Hid ((rep N (c:Int)).length=N):=hid (Qbu N c);obtain⟨l,hl⟩:∃l,rep N (c:Int)=l:=⟨_,rfl⟩;rw[hl]at HTM HB HLL;have HPL:=hid (QkX l);obtain⟨S,hS⟩:∃S,strOfNums l=S:=⟨_,rfl⟩;rw[hS]at HTM HPL;have HSS:=hid hS;have HB2:Hid (Bs.IsB (l++[43])):=hid (fun x hx=>by
  rcases List.mem_append.1 hx with q|q
  ·exact HB.out x q
  ·have e:x=43:=by simpa using q
   omega)
 have HL2:Hid ((l++[43]).length=N+1):=hid (by rw[List.length_append,HLL.out];rfl);obtain⟨C1,hC1⟩:∃C,strOfNums [(c:Int)]=C:=⟨_,rfl⟩;rw[hC1]at HTM HCV;have HMO:Hid (mostB 110=2860):=hid (by decide);have HK1:Hid (nP N 110≤26):=hid (Nat.le_trans (Qdx (show N≤2860 by omega)) (by decide));have HK2:Hid (nP (N+1) 110≤26):=hid (Nat.le_trans (Qdx (show N+1≤2860 by omega)) (by decide));have hcase:nP (N+1) 110=nP N 110∨(nP (N+1) 110=nP N 110+1∧N % 110=0):=by unfold nP;omega
 have hquo:((N+110-1:Nat):Int).tdiv 110=(nP N 110:Nat):=by rw[Int.tdiv_eq_ediv_of_nonneg (by omega)];rfl
 have hrem:(N:Int).tmod 110=((N % 110:Nat):Int):=by rw[Int.tmod_eq_emod_of_nonneg (by omega)];rfl
 obtain⟨K,hK⟩:∃K,nP N 110=K:=⟨_,rfl⟩;obtain⟨M,hM⟩:∃M,nP (N+1) 110=M:=⟨_,rfl⟩;rw[hK]at HK1 hcase hquo;rw[hM]at HK2 hcase;have HKK:=hid hK;have HMM:=hid hM;have HCASE:=hid hcase;have hk26:=HK1.out;have hm26:=HK2.out;obtain⟨f1,hf1⟩:∃f,37-(K+1)=f:=⟨_,rfl⟩;obtain⟨f2,hf2⟩:∃f,37-(M+1)=f:=⟨_,rfl⟩;have e1:(37:Int)-(f1:Int)=((K+1:Nat):Int):=by omega
 have e2:IntKind.i64.wrap ((K+1:Nat):Int)=((K+1:Nat):Int):=IntWalk.i64_in _ (by omega);have e3:(N:Int)+110=((N+110:Nat):Int):=by omega
 have e4:IntKind.i64.wrap ((N+110:Nat):Int)=((N+110:Nat):Int):=IntWalk.i64_in _ (by omega);have e5:((N+110:Nat):Int)-1=((N+110-1:Nat):Int):=by omega
 have e6:IntKind.i64.wrap ((N+110-1:Nat):Int)=((N+110-1:Nat):Int):=IntWalk.i64_in _ (by omega);have e7:IntKind.i64.wrap (K:Int)=(K:Int):=IntWalk.i64_in _ (by omega);have e8:(1:Int)+(K:Int)=((K+1:Nat):Int):=by omega
 have e9:(37:Int)-(f2:Int)=((M+1:Nat):Int):=by omega
 have ea:IntKind.i64.wrap ((M+1:Nat):Int)=((M+1:Nat):Int):=IntWalk.i64_in _ (by omega);have eb:(N:Int)+1=((N+1:Nat):Int):=by omega
 have ec:IntKind.i64.wrap ((N+1:Nat):Int)=((N+1:Nat):Int):=IntWalk.i64_in _ (by omega);have ed:((K+1:Nat):Int)+1=((K+2:Nat):Int):=by omega
 have ee:IntKind.i64.wrap ((K+2:Nat):Int)=((K+2:Nat):Int):=IntWalk.i64_in _ (by omega);have HF:=hid (And.intro hf1 hf2);have HN:=hid hN2;obtain⟨s0,hs0⟩:∃s,firstP 128 40=s:=⟨_,rfl⟩;rw[hs0]at HMK HLG;generalize hkk1:K+1=k1 at e1 e2 e8 ed;generalize hkk2:K+2=k2 at ed ee;generalize hmm1:M+1=m1 at e9 ea;generalize hnn1:N+1=n1 at eb ec;generalize hnx:N+110-1=nx at e5 e6 hquo;generalize hny:N+110=ny at e3 e4 e5;generalize hrr:N % 110=rr at hrem;have HN1:=hid hnn1;have HX:Hid (m1=k1∨(m1=k2∧rr=0∧¬m1=k1)):=hid (by omega);clear hs0 hT4 hl hS hC1 hN hN2 hc hcase hK hM hk26 hm26 hf1 hf2 hkk1 hkk2 hmm1 hnn1 hnx hny hrr;go_enter Tryz.func7,Tryz.ntmps7
 go_wp2_with fail
 refine HLV.out.mono ?_;rintro ev w1 ⟨rfl,hg1⟩;have HG1:=hid hg1;clear hg1 HLV;dsimp only;go_wp2_with fail
 refine(HRM.out _).mono ?_;rintro ev w2 ⟨rfl,hg2⟩;have HG2:=hid (Qa HG1.out hg2);have HMK2:=hid (HMK.out w2 HG2.out);clear hg2 HMK HRM;dsimp only;go_wp2_with fail
 refine HMK2.out.mono ?_;rintro ev w3 ⟨sg,g,rfl,hs3,hg3⟩;have HS3:=hid hs3;have HG3:=hid (Qa HG2.out hg3);have HWA:Hid (∀i,i<w.heap.size→i<w2.heap.size):=hid (fun i hi=>Nat.lt_of_lt_of_le hi HG2.out.size);clear hs3 hg3 HMK2;dsimp only;go_wp2_with fail
 refine(HPK.out _).mono ?_;rintro ev wx ⟨rfl,rfl⟩;dsimp only;have hcv:=HCV.out w3;go_wp2_with fail
 refine(HTM.out _).mono ?_;rintro ev wx ⟨rfl,rfl⟩;have HGA:=hid (Qb w3 (.cells #[.int .u8 (c:Int)] 5));obtain⟨w4,hw4⟩:∃X,w3.alloc (.cells #[.int .u8 (c:Int)] 5)=X:=⟨_,rfl⟩;rw[hw4]at HGA ⊢;have HS4:=hid (HS3.out.go HGA.out);have HG4:=hid (Qa HG3.out HGA.out);have HFR:Hid (Calls Tryz.prog 17 #[.pointer (some ⟨sg,0,none⟩)] w4 fun e w'=>e=.returned (.int .i64 37)∧w4=w'):=hid (Qap HS4.out HLG.out.left);have HRO:Hid (Calls Tryz.prog 27 #[.pointer (some ⟨sg,0,none⟩),.int .i64 0] w4 fun e w'=>e=.returned (.int .i64 110)∧w4.grownBy w' none):=hid (by
  have h5:=Qbg HS4.out 0 (by decide);rw[HLG.out.room]at h5;exact h5)
 clear hw4 HGA HS3 HTM HPK hcv HCV;dsimp only;go_wp2_with fail
 refine HFR.out.mono ?_;rintro ev wx ⟨rfl,rfl⟩;dsimp only;go_wp2_with fail
 refine HRO.out.mono ?_;rintro ev w5 ⟨rfl,hg5⟩;have HS5:=hid (HS4.out.go hg5);have HG5:=hid (Qa HG4.out hg5);have HPUT:=hid (Qag HS5.out HLG.out l 60 (by rw[HLL.out,HKK.out];have:=HK1.out;omega) (by decide) HB.out (by rw[HMO.out,HLL.out];have:=HN.out;omega) (by rw[HLL.out,HKK.out];have:=HK1.out;omega) (fun i hi=>HS5.out.lt hi));rw[HSS.out]at HPUT;clear hg5 HFR HRO HS4;dsimp only;go_wp2_with fail
 refine HPUT.out.mono ?_;rintro ev w6 ⟨x,ks,s1,rfl,hx,hb1,hl1,hs6,ht6⟩;rw[HLL.out,HKK.out,HF.out.1]at hl1;have HS6:=hid hs6;have HL1:=hid hl1;have HG6:=hid (Qm HG5.out ht6 HWA.out);have HFR:=hid (Qap hs6 hl1.left);have HDR:=hid (Qdw hs6 hl1 x [] (fun m=>rfl));have HBK:Hid (s1.dv.blocks=40):=hid (by have h1:=HLG.out.none;have h2:=hb1.blocks;omega);clear hs6 hb1 hl1 ht6 hx HPUT HS5;dsimp only;go_wp2_with fail
 refine HFR.out.mono ?_;rintro ev wx ⟨rfl,rfl⟩;dsimp only;go_wp2_with fail
 refine HDR.out.mono ?_;rintro ev w7 ⟨c2,f3,rfl,hs7,ht7,hl2⟩;have hf3:f3=37:=by
  have h1:=hl2.none;have h2:({ s1 with now:=c2 }:SpS).dv.blocks=s1.dv.blocks:=rfl;have h3:=HBK.out;omega
 subst hf3;have HL2':=hid hl2;have HS7:=hid hs7;have HG7:=hid (Qm HG6.out ht7 HWA.out);have HFR:Hid (Calls Tryz.prog 17 #[.pointer (some ⟨sg,0,none⟩)] w7 fun e w'=>e=.returned (.int .i64 37)∧w7=w'):=hid (Qap hs7 hl2.left);have HPUT:=hid (Qag hs7 hl2 (l++[43]) 200 (by rw[HL2.out,←HN1.out]at *;rw[HMM.out];have:=HK2.out;omega) (by decide) HB2.out (by rw[HMO.out,HL2.out];have:=HN.out;omega) (by rw[HL2.out,HMM.out];have:=HK2.out;omega) (fun i hi=>hs7.lt hi));rw[←HPL.out]at HPUT;obtain⟨S2,hS2⟩:∃X,S++⟨#[43]⟩=X:=⟨_,rfl⟩;rw[hS2]at HPUT;have hb9:¬9223372036854775807<S.size+1:=by
  have h5:S.size=N:=by rw[←HSS.out,strOfNums_size,HLL.out]
  have:=HN.out;omega
 have hb8:¬9223372036854775807<S.size+(ByteArray.mk #[43]).size:=hb9;clear hs7 ht7 hl2 HDR HS6;dsimp only;go_wp2_with fail
 refine HFR.out.mono ?_;rintro ev wx ⟨rfl,rfl⟩;dsimp only;go_wp2_with fail
 refine HPUT.out.mono ?_;rintro ev w8 ⟨y,ks2,s2,rfl,hy,hb2,hl3,hs8,ht8⟩;rw[HL2.out,HMM.out,HF.out.2]at hl3;have HS8:=hid hs8;have HG8:=hid (Qm HG7.out ht8 HWA.out);have HFR:=hid (Qap hs8 hl3.left);have HSIZE:=hid (QeN hs8 hl3 hb2.blob (by rw[HL2.out];have:=HN.out;omega));rw[HL2.out,HN1.out]at HSIZE;clear hs8 ht8 hl3 hb2 hy HPUT HS7 hS2;dsimp only;go_wp2_with fail
 refine HFR.out.mono ?_;rintro ev wx ⟨rfl,rfl⟩;dsimp only;go_wp2_with fail
 refine HSIZE.out.mono ?_;rintro ev w9 ⟨rfl,hg9⟩;have HE:=hid (Qa HG8.out hg9);clear hg9 HSIZE HFR;dsimp only;rcases HX.out with rfl|⟨rfl,rfl,hne⟩
 ·go_wp2;go_ret
  exact⟨rfl,HE.out⟩
 ·have qe:((m1:Int)==(k1:Int))=false:=beq_eq_false_iff_ne.2 (by omega);go_wp2;go_ret
  exact⟨rfl,HE.out⟩
theorem sizes_int(z c:Int)(w:World)(hc:0≤c∧c<256)(hT4:T4 w) :
  Calls Tryz.prog 7 #[.int .i64 z,.int .u8 c] w fun e w'=>e=.returned (.bool true)∧w.grownBy w' none:=by
 obtain⟨n,rfl⟩:=Int.eq_ofNat_of_zero_le hc.1;exact QjE z n w (by omega) hT4
end Bl
namespace Bl
open Go.RowKit Go.Shelf Bs Dv Gr
open Sp Tr
open Cf (FeedsZ NcT QI)
attribute [local go_sem] Oper.semAt_some
theorem QjF:∃i,Tryz.prog.info? 9=some i∧i.zero=some (.string ⟨#[]⟩)∧i.size=1∧i.bytes=16:=by
 have h:=Ss.QcN;cases hq:Tryz.prog.info? 9 with
 |none=>rw[hq]at h;cases h
 |some i=>
  rw[hq]at h;simp only[Option.map_some,Option.some.injEq,Prod.mk.injEq]at h;exact⟨i,rfl,h.1,h.2.1,h.2.2⟩
theorem QiK(R:Nat)(l:List Int)(k:Nat)(hk:k<nP l.length R):(cutsB R l).take (k+1)=(cutsB R l).take k++[cutB R k l]:=by
 have h1:k<(cutsB R l).length:=by rw[QdQ];exact hk
 rw[List.take_succ_eq_append_getElem h1];have h2:=QdP R l k hk;rw[List.getD_eq_getElem?_getD,List.getElem?_eq_getElem h1]at h2;have h3:(cutsB R l)[k]=cutB R k l:=h2;rw[h3]
theorem pushedS{W w':World}{base oc k:Nat}{oa:Option Addr}{L:List (List Int)}{x:List Int}{tmp:Obj}{v':Value}(h2:w'.ownsRow base 9 1 v' (k+1) (L.map Ss.encW++[.string (strOfNums x)]))(h3:(W.alloc tmp).grownBy w' (Value.slice oa k oc).ownBlock)
  (h5:v'.ownBlock=(Value.slice oa k oc).ownBlock∨v'.ownBlock=some (W.alloc tmp).heap.size):∃g c,v'=.slice (some ⟨g,0,none⟩) (k+1) c∧w'.ownsRow base 9 1 (.slice (some ⟨g,0,none⟩) (k+1) c) (k+1) ((L++[x]).map Ss.encW)∧Turn W w' (blkO oa)∧(blkO oa g∨W.heap.size≤g):=by
 obtain⟨g3,c3,rfl⟩:=Su.QL h2 (by omega);refine⟨g3,c3,rfl,by rw[List.map_append];exact h2,(Turn.alloc W tmp (blkO oa)).trans (Turn.Qf h3 (fun i e _=>Qdz e)) (fun _ _ e=>e),?_⟩;rcases h5 with e|e
 ·exact .inl (Qdz e.symm)
 ·refine .inr ?_;have e2:some g3=some (W.alloc tmp).heap.size:=e;rw[World.size_alloc]at e2
  injection e2 with e2
  omega
theorem QjB{w:World}{base n c:Nat}{a:Option Addr}{l:List (List Int)}(h:w.ownsRow base 9 1 (.slice a n c) n (l.map Ss.encW)):Ss.Seg w a n c l:=by
 rcases h.2 with ⟨e,e0⟩|⟨g,cap,cur,e1,_⟩
 ·injection e with e2 e3 e4
  have hl:l=[]:=List.eq_nil_of_length_eq_zero (by have:=h.1;rw[List.length_map]at this;omega);rw[e2,e4,hl,e0];exact Ss.Seg.nil w
 ·have h0:=h
  injection e1 with e1 e2 e3
  rw[e1]at h0 ⊢;exact Ss.Seg.own h0
section
variable {w0 w1 w W : World} {sg g : Nat} {A : Nat → Prop} {s : SpS} {R n : Nat} {own hown mown ks : List Nat} {T : Nat} {l : List Int}
structure TlI (w:World) (b R:Nat) (l:List Int) (q:Nat×Nat) (V:World):Prop where
 row:∃oa oc,Boxed V (b+4) 49 (.slice oa q.1 oc)∧V.ownsRow q.2 9 1 (.slice oa q.1 oc) q.1 (((cutsB R l).take q.1).map Ss.encW)
 gr:w.grownBy V none
 r0:Boxed V b 49 (.slice none 0 0)
 r1:Boxed V (b+1) 4 (.bool false)
theorem Qjy{V V':World}{B base e n:Nat}{v:Value}{xs:List Value}(h:V.ownsRow base e 1 v n xs)(t:Turn V V' (NcT B V)):V'.ownsRow base e 1 v n xs:=by
 refine⟨h.1,?_⟩;rcases h.2 with h2|⟨g,cap,cur,e1,h3,h4,h5⟩
 ·exact .inl h2
 ·refine .inr ⟨g,cap,cur,e1,h3,(t.block g (Array.getElem?_eq_some_iff.1 h4).1 (fun e=>?_)).trans h4,h5⟩;obtain⟨-,o,h6,h7⟩:=e;rw[h4]at h6;cases h6
  cases h7
theorem TlI.nc{b B:Nat}{q:Nat×Nat}{V V':World}(h:TlI w b R l q V)(t:Turn V V' (NcT B V))(hB:w.heap.size≤B):TlI w b R l q V':=by
 obtain⟨oa,oc,h1,h2⟩:=h.row;exact⟨⟨oa,oc,QQ h1 t,Qjy h2 t⟩,gr_nc h.gr t hB,QQ h.r0 t,QQ h.r1 t⟩
theorem QeD(h:Sh w1 w sg g A s)(hk:SpOk s own hown mown T)(hR:roomP s.dv.size 0=(R:Int))(h1:0<R∧R≤4096)(hb:BlobAt (lp s) R n l ks)(hlen:l.length≤65536)(hl:Bs.IsB l)(K:Nat)(hK:nP l.length R=K)(hK4:K≤4096) :
  Calls Tryz.prog 21 #[.pointer (some ⟨sg,0,none⟩),.int .u32 (n:Int)] w fun e w'=>∃a c,e=.returned (.tuple #[.slice a K c,.bool true])∧Ss.Seg w' a K c (cutsB R l)∧w.grownBy w' none∧∀ad,a=some ad→w.heap.size≤ad.block:=by
 obtain⟨i0,hi0,hz0,hz1,hz2⟩:=QjF;obtain⟨b,hbb⟩:∃b,w.heap.size=b:=⟨_,rfl⟩;obtain⟨W2,hW2⟩:∃X,(w.alloc (.cells #[.slice none 0 0] 49)).alloc (.cells #[.bool false] 4)=X:=⟨_,rfl⟩;have hg2:w.grownBy W2 none:=by rw[←hW2];exact Qa (Qb _ _) (Qb _ _)
 have hz2':W2.heap.size=b+2:=by rw[←hW2,←hbb];simp[World.size_alloc]
 have hr0:Boxed W2 b 49 (.slice none 0 0):=by rw[←hW2,←hbb];exact(Boxed.new _ _ _).alloc _
 have hr1:Boxed W2 (b+1) 4 (.bool false):=by
  have h5:=Boxed.new (w.alloc (.cells #[.slice none 0 0] 49)) 4 (.bool false);rw[World.size_alloc,hW2,hbb]at h5;exact h5
 have HPM:=hid (QfF sg n W2);obtain⟨W4,hW4⟩:∃X,((W2.alloc (.cells #[.pointer (some ⟨sg,0,none⟩)] 24)).alloc (.cells #[.int .u32 (n:Int)] 30))=X:=⟨_,rfl⟩;rw[hW4,hz2',show b+2+1=b+3 from rfl]at HPM;have hg4:W2.grownBy W4 none:=by rw[←hW4];exact Qa (Qb _ _) (Qb _ _)
 have hz4:W4.heap.size=b+4:=by rw[←hW4];simp[World.size_alloc,hz2']
 have hx4:Boxed W4 (b+2) 24 (.pointer (some ⟨sg,0,none⟩)):=by rw[←hW4,←hz2'];exact(Boxed.new _ _ _).alloc _
 have hy4:Boxed W4 (b+3) 30 (.int .u32 (n:Int)):=by
  have:=Boxed.new (W2.alloc (.cells #[.pointer (some ⟨sg,0,none⟩)] 24)) 30 (.int .u32 (n:Int));rw[World.size_alloc,hW4,hz2']at this;exact this
 have hg5:=Qb W4 (.cells #[.slice none 0 0] 49);have hb5:=Boxed.new W4 49 (.slice none 0 0);have hz5:(W4.alloc (.cells #[.slice none 0 0] 49)).heap.size=b+5:=by simp[World.size_alloc,hz4]
 obtain⟨W5,hW5⟩:∃X,W4.alloc (.cells #[.slice none 0 0] 49)=X:=⟨_,rfl⟩;rw[hW5]at hg5 hb5 hz5;rw[hz4]at hb5;have HG5:=hid (Qa hg2 (Qa hg4 hg5));have HPF:=hid (Qdk 3 (by decide) (fun i=>i=b+4) (b+2) (b+3) h hk hR h1 hb hlen hl K hK HG5.out (fun i e=>⟨by omega,by omega⟩) (Qd hx4 hg5) (Qd hy4 hg5));have HI5:Hid (∀Z:Nat,TlI w b R l (0,Z) W5):=hid (fun Z=>⟨⟨none,0,hb5,⟨rfl,.inl ⟨rfl,rfl⟩⟩⟩,HG5.out,Qd hr0 (Qa hg4 hg5),Qd hr1 (Qa hg4 hg5)⟩);have HNX:Hid (∀k,k<K→(cutsB R l).take (k+1)=(cutsB R l).take k++[cutB R k l]):=hid (fun k hk2=>QiK R l k (by omega));have HAL:Hid ((cutsB R l).take K=cutsB R l):=hid (List.take_of_length_le (by rw[QdQ,hK];exact Nat.le_refl _));have HZ5:=hid hz5;have HZ4:=hid hz4;have HBB:=hid hbb;have HW2:=hid hW2;have HW5:=hid hW5;clear hW4 hW2 hW5 hg2 hz2' hr0 hr1 hg4 hz4 hx4 hy4 hg5 hb5 hz5 h hk hR h1 hb hlen hl hK;refine(callsIn_wide (n:=4)).1 ?_;refine callsIn_of_wp_marks Tryz.func21 rfl trivial ?_ rfl;simp only[Tryz.ntmps21,List.size_toArray,List.length_cons,List.length_nil,Nat.reduceAdd,Nat.reduceSub,Array.replicate_succ,Array.replicate_zero,List.push_toArray,List.append_toArray,List.nil_append,List.cons_append];refine wpIn_wide.2 ?_;go_upto_region 1 with fail
 rw[HW2.out];go_wp2_with fail
 refine HPM.out.mono ?_;rintro e w4 ⟨rfl,rfl⟩;clear HPM HW2;have heq:∀V,(binOp .eql 60 (.func (.func 67) #[] #[.pointer (some ⟨b+2,0,none⟩),.pointer (some ⟨b+3,0,none⟩)]) Value.nilFunc).run Tryz.prog V=.ok (.bool false) V:=fun V=>by kernel_rfl
 go_wp2_with fail
 rw[HW5.out,HZ4.out];clear HW5 HZ4 heq;refine(wpIn_wide (n:=4)).1 ?_;refine QI (T:=NcT) rfl (by decide) (gf:=67) (first:=#[]) (lb:=#[.pointer (some ⟨b+2,0,none⟩),.pointer (some ⟨b+3,0,none⟩)]) rfl trivial (enters_of Tryz.func67 (by kernel_rfl) rfl)
  (fun _ _ _ e=>e.1) HPF.out (Below.refl _ _) (fun h k=>KpZ.t h k) (fun z V i o o' q1 q2 q3 q4=>KpZ.put V i o o' ⟨by have:=HZ5.out;have:=HBB.out;omega,q2⟩ q3 q4) (fun k=>rfl)
  (TlI w b R l) (fun _ _=>False)
  (fun q X Y row hI hg hr=>hI.nc (nc_of hg hr) (by have:=HZ5.out;have:=HBB.out;omega))
  (fun q X Y _ hI ht=>hI.nc ht (by have:=HZ5.out;have:=HBB.out;omega)) (fun c s V V' row hs=>hs.elim) (fun c V V' _ hs=>hs.elim) HI5.out
  (fun k=>{ tmps:=#[.pointer (some ⟨sg,0,none⟩),.int .u32 (n:Int),undef,undef,.pointer (some ⟨b,0,none⟩),.pointer (some ⟨b+1,0,none⟩),.func (.func 67) #[] #[.pointer (some ⟨b+2,0,none⟩),.pointer (some ⟨b+3,0,none⟩)],.pointer (some ⟨b+4,0,none⟩),.string (strOfNums (cutB R k l)),.pointer (some ⟨sg,0,none⟩),.int .u32 (n:Int),.func (.func 67) #[] #[.pointer (some ⟨b+2,0,none⟩),.pointer (some ⟨b+3,0,none⟩)],.func (.func 67) #[] #[.pointer (some ⟨b+2,0,none⟩),.pointer (some ⟨b+3,0,none⟩)],.bool false,.func (.func 67) #[] #[.pointer (some ⟨b+2,0,none⟩),.pointer (some ⟨b+3,0,none⟩)],.string (strOfNums (cutB R k l)),undef,undef,undef,undef,undef,undef,undef,undef],defers:=[] }) ?assign ?body ?done (fun _ _ _ _ hs _=>hs.elim)
 case assign=>
  intro y k V K2 hK;unfold encQ;obtain⟨PS,hPS⟩:∃PS,strOfNums (cutB R k l)=PS:=⟨_,rfl⟩;rw[hPS]at hK ⊢;have HK2:=hid hK;clear hK hPS
  gi_wp2
  exact HK2.out
 case body=>
  rintro y k Z V hk hz1 hz2 hI;obtain⟨oa,oc,hbx,hrow⟩:=hI.row;have e1:V.cell? ⟨b+4,0,none⟩=some (.slice oa k oc):=hbx.cell;have f1:=hbx.frozen;have HROW:=hid (hrow.alloc (.cells #[.string (strOfNums (cutB R k l))] 9));have HOB:Hid (∀i,blkO oa i→Z≤i∧i<V.heap.size∧∃o:Obj,V.heap[i]?=some o∧o.isCells=true):=hid (fun i hi=>by
   obtain⟨ad,had,rfl⟩:=hi;have h5:=Qew hrow ad had;refine⟨h5.1,h5.2,?_⟩;rcases hrow.2 with ⟨h6,-⟩|⟨g,cap,cur,h6,h7,h8,-⟩
   ·rw[had]at h6;injection h6 with h6;cases h6
   ·injection h6 with h6
    rw[had]at h6;cases h6
    exact⟨_,h8,rfl⟩)
  have HI:=hid hI;have HBX:=hid hbx;have q0:decide ((4096:Int)<(k:Int))=false:=decide_eq_false (by omega);have q1:decide (4096<k)=false:=decide_eq_false (by omega);have HZV:=hid (And.intro hz1 hz2);have HNXk:=hid (HNX.out k hk);have hk4:k<4096:=by omega
  obtain⟨PS,hPS⟩:∃PS,strOfNums (cutB R k l)=PS:=⟨_,rfl⟩;rw[hPS]at HROW ⊢;have HPS:=hid hPS;clear hPS hI hrow hbx hz1 hz2 hk
  gi_wp2_with (first
   |(gi_at_builtin;refine wpListIn_append_own_at _ rfl _ _ 49 rfl Z 9 i0 (.string ⟨#[]⟩) 1 16 Tryz.underlying49 hi0 hz0 hz1 hz2 rfl (by decide) (.slice oa k oc) k _ rfl HROW.out ⟨V.heap.size,0,none⟩ 1 1 [.string PS] rfl rfl (cell_one_new _ _ _) (by simp[Value.oneCell']) (by unfold maxLen;omega) (by omega) (by have:=HZV.out;rw[World.size_alloc];omega) ?_;intro v5 w5 hown5 hg5 _ hat5;rw[←HPS.out]at hown5;obtain⟨g3,c3,rfl,hO5,hT5,hB5⟩:=pushedS hown5 hg5 hat5;have hb4:Boxed w5 (b+4) 49 (.slice oa k oc):=Qk HBX.out hT5 (fun e=>by have:=(HOB.out _ e).1;have:=HZV.out;have:=HZ5.out;omega);have hc4:=hb4.cell;have hf4:=hb4.frozen;have HB4:=hid hb4;have HO5:=hid hO5;have HT5:=hid hT5;have HB5:=hid hB5;clear hown5 hg5 hat5 hO5 hT5 hB5 hb4 e1 f1)
   |fail)
  obtain⟨V9,hV9⟩:∃X,w5.setCell ⟨b+4,0,none⟩ (.slice (some ⟨g3,0,none⟩) (k+1) c3)=X:=⟨_,rfl⟩;have ht9:Turn w5 V9 (fun i=>i=b+4):=by rw[←hV9];exact Turn.setCell w5 ⟨b+4,0,none⟩ _ rfl
  have hb9:Boxed V9 (b+4) 49 (.slice (some ⟨g3,0,none⟩) (k+1) c3):=by rw[←hV9];exact HB4.out.set _
  have hT:Turn V V9 (fun i=>i=b+4∨blkO oa i):=(HT5.out.mono (fun i _ e=>.inr e)).trans (ht9.mono (fun i _ e=>.inl e)) (fun i _ e=>e);have hZ:=HZV.out;have hz5:=HZ5.out;have hbb2:=HBB.out;rw[hV9];have hg3:Z≤g3:=(HO5.out.lt g3 rfl).1;refine⟨⟨hT.size,fun i o _ h1 h2=>(hT.block i (Array.getElem?_eq_some_iff.1 h1).1 (fun e=>?_)).trans h1⟩,KpZ.of hT (fun i _ e=>?_),⟨⟨some ⟨g3,0,none⟩,c3,hb9,?_⟩,?_,Qk HI.out.r0 hT (fun e=>?_),Qk HI.out.r1 hT (fun e=>?_)⟩⟩
  ·rcases e with rfl|e
   ·have h3:V.heap[b+4]?=some (.cells #[.slice oa k oc] 49 (0,0)):=HBX.out;rw[h1]at h3;cases h3;cases h2
   ·obtain⟨-,-,o2,h3,h4⟩:=HOB.out i e;rw[h1]at h3;cases h3;rw[h2]at h4;cases h4
  ·rcases e with rfl|e
   ·exact⟨.inl rfl,_,HBX.out,rfl⟩
   ·obtain⟨h3,-,o2,h4,h5⟩:=HOB.out i e;exact⟨.inr h3,o2,h4,h5⟩
  ·show V9.ownsRow Z _ 1 _ (k+1) (((cutsB R l).take (k+1)).map Ss.encW)
   rw[HNXk.out];exact QcX (A:=fun i=>i≠b+4) HO5.out (ht9.mono (fun i _ e q=>q e)) (fun i e q=>by have:=(HO5.out.lt i e).1;omega)
  ·have hg:=HI.out.gr;exact⟨hT.os.trans hg.os,hT.tape.trans hg.tape,hT.output.trans hg.output,Nat.le_trans hg.size hT.size,fun i hi _=>(hT.block i (Nat.lt_of_lt_of_le hi hg.size) (fun e=>by
    rcases e with e|e
    ·omega
    ·have:=(HOB.out i e).1;omega)).trans (hg.block i hi (by simp))⟩
  ·rcases e with e|e
   ·omega
   ·have:=(HOB.out _ e).1;omega
  ·rcases e with e|e
   ·omega
   ·have:=(HOB.out _ e).1;omega
 case done=>
  rintro D Z V hD hz hI hK;obtain⟨oa,oc,hbx,hrow⟩:=hI.row;have hrow:V.ownsRow Z 9 1 (.slice oa K oc) K (((cutsB R l).take K).map Ss.encW):=hrow;rw[HAL.out]at hrow;have e1:V.cell? ⟨b+4,0,none⟩=some (.slice oa K oc):=hbx.cell;have f0:=hI.r0.frozen;have f1:=hI.r1.frozen;have g0:=hI.r0.cell;have g1:=hI.r1.cell;have HI:=hid hI;have HROW:=hid hrow;have HK9:=hid hK;have HDZ:=hid (And.intro hD hz);clear hI hbx hrow hK hD hz
  gi_wp2
  go_wp2;obtain⟨V2,hV2⟩:∃X,(V.setCell ⟨b,0,none⟩ (.slice oa K oc)).setCell ⟨b+1,0,none⟩ (.bool true)=X:=⟨_,rfl⟩;have hz5:=HZ5.out;have hbb2:=HBB.out;have hdz:=HDZ.out;have t2:Turn V V2 (fun i=>i=b∨i=b+1):=by
   rw[←hV2];exact((Turn.setCell V ⟨b,0,none⟩ _ (S:=(·=b)) rfl).mono (fun i _ e=>.inl e)).trans (Turn.setCell _ ⟨b+1,0,none⟩ _ (S:=(·=b+1)) rfl |>.mono (fun i _ e=>.inr e)) (fun i _ e=>e)
  have r4:V2.cell? ⟨b,0,none⟩=some (.slice oa K oc):=by rw[←hV2];exact Boxed.cell ((HI.out.r0.set (.slice oa K oc)).other (B':=b+1) (by omega) (.bool true))
  have r5:V2.cell? ⟨b+1,0,none⟩=some (.bool true):=by rw[←hV2];exact Boxed.cell ((HI.out.r1.other (B':=b) (by omega) (.slice oa K oc)).set (.bool true))
  have hK2:V2.heap[D]?=some (.deferred (some [])):=Qk HK9.out t2 (fun e=>by omega);have hro2:V2.ownsRow Z 9 1 (.slice oa K oc) K ((cutsB R l).map Ss.encW):=QcX (A:=fun i=>i≠b∧i≠b+1) HROW.out (t2.mono (fun i _ e q=>by omega)) (fun i e=>by have:=(HROW.out.lt i e).1;omega);have hg2:w.grownBy V2 none:=by
   have hg:=HI.out.gr;exact⟨t2.os.trans hg.os,t2.tape.trans hg.tape,t2.output.trans hg.output,Nat.le_trans hg.size t2.size,fun i hi _=>(t2.block i (Nat.lt_of_lt_of_le hi hg.size) (fun e=>by omega)).trans (hg.block i hi (by simp))⟩
  rw[hV2];clear hV2;have c4:=cell_kept r4 (grownBy_putObj' V2 D (.deferred none)) (fun r e=>by cases e;exact⟨_,hK2,rfl⟩);have c5:=cell_kept r5 (grownBy_putObj' V2 D (.deferred none)) (fun r e=>by cases e;exact⟨_,hK2,rfl⟩);have hro3:(V2.putObj D (.deferred none)).ownsRow Z 9 1 (.slice oa K oc) K ((cutsB R l).map Ss.encW):=Qjy (B:=0) hro2 (Turn.Qf (grownBy_putObj' V2 D (.deferred none)) (fun i e _=>by cases e;exact⟨Nat.zero_le _,_,hK2,rfl⟩));refine⟨by simp,.inl ⟨_,_,rfl,run_takeDeferred hK2,?_⟩⟩;refine⟨.tuple #[.slice oa K oc,.bool true],?_,oa,oc,rfl,?_,Qbm hg2 hK2 (by omega),fun ad had=>?_⟩
  ·simp[results,Tryz.f21,go_sem,c4,c5]
  ·exact QjB hro3
  ·subst had;have:=(hro3.lt ad.block rfl).1;omega
end
end Bl
namespace Bl
open Go.RowKit Bs Dv Gr
open Sp Tr
open Su (Sup SupOk T4 GeoOk supE)
section
variable {s : SpS} {own hown mown ks : List Nat} {T R x : Nat} {l : List Int}
def openS(s:SpS):SpS:=⟨s.dv,s.sup,s.held,s.held,none,s.slot⟩
theorem QiI(h:SpOk s own hown mown T)(hT:T≤9000){root:Int}(hr:root=0∨(0≤root∧root.toNat∈own)){m:Nat}{p:Pg}(hm:lp s m=some p):pg (openS (commitP s root)) m=some p:=by
 obtain⟨hl,hp⟩:=QaF hm;obtain⟨-,-,h3,hd⟩:=h.QaW hT hr;have h2:=lv_at hl;have hlt:=(Qal h hl).2;have hsl:=h.kept.two;have e1:=h3 m hlt (by omega) (fun q=>by have:=(h.QaN q).2.2.2.1;omega);have e2:(commitP s root).dv.blocks=s.dv.blocks:=by rw[hd]
 show pageF (commitP s root).dv.blocks ((commitP s root).dv.last m)=some p
 rw[e1,e2];exact hp
theorem Qkx(h:SpOk s own hown mown T):SpOk (openS s) hown hown [] T:=h.abort
theorem QgU(h:SpOk s own hown mown T)(hT:T≤9000)(hx:x∈own)(hb:BlobAt (lp s) R x l ks):SpOk (openS (commitP s (x:Int))) own own [] (T+1)∧BlobAt (lp (openS (commitP s (x:Int)))) R x l ks∧(openS (commitP s (x:Int))).dv.size=s.dv.size:=by
 have hr:(x:Int)=0∨(0≤(x:Int)∧(x:Int).toNat∈own):=.inr ⟨by omega,by rw[Int.toNat_natCast];exact hx⟩;have hk:=Qkx (h.commit hT hr);refine⟨hk,BlobAt.live hk (hb.mono fun m p q=>QiI h hT hr q) (Qbk hk hx),?_⟩;obtain⟨-,-,-,hd⟩:=h.QaW hT hr
 show(commitP s (x:Int)).dv.size=_
 rw[hd]
end
section
variable {w0 w w' : World} {sg g : Nat} {A : Nat → Prop} {s : SpS} {R P : Nat} {own ks : List Nat} {T fr x : Nat} {l : List Int}
theorem Qi8(h:Sh w0 w sg g A s)(k:Lg s R P own T fr)(hT:T≤8000)(x:Nat)(hx:x∈own)(hT4:T4 w0) :
  Calls Tryz.prog 22 #[.pointer (some ⟨sg,0,none⟩),.int .u32 (x:Int)] w (ShX w0 w sg g A (.int .i64 0) (commitP s (x:Int))):=
 QjC h k.ok (by omega) x (by have h2:=(Qal k.ok (Qbk k.ok hx)).2;have:=k.ok.dok.bhi;omega) (.inr hx) hT4
theorem Qi9(h:Sh w0 w sg g A (commitP s (x:Int)))(k:Lg s R P own T fr)(hT:T≤8000)(hx:x∈own)(hT4:T4 w0) :
  Calls Tryz.prog 23 #[.pointer (some ⟨g,0,none⟩)] w fun e w'=>∃sg',e=.returned (.tuple #[.pointer (some ⟨sg',0,none⟩),.int .i64 0])∧Sh w0 w' sg' g A (openS (commitP s (x:Int)))∧w.grownBy w' none:=by
 have hc:=k.ok.commit (by omega) (root:=(x:Int)) (.inr ⟨by omega,by rw[Int.toNat_natCast];exact hx⟩);exact QlU h hc.kept hc.held.cok hT4
end
theorem QjT(size blocks:Int)(l1:List Int)(c:Nat)(z:Int)(w:World)(hl1:Bs.IsB l1)(hc:c<256)(hT4:T4 w) :
  Calls Tryz.prog 4 #[.agg #[.int .i64 size,.int .i64 blocks],.string (strOfNums l1),.int .u8 (c:Int),.int .i64 z] w fun e w'=>e=.returned (.bool true)∧w.grownBy w' none:=by
 have B0:=heap_alloc_new w (.cells #[.int .i64 size,.int .i64 blocks] 28);have G0:=Qb w (.cells #[.int .i64 size,.int .i64 blocks] 28);obtain⟨W0,hW0⟩:∃X,w.alloc (.cells #[.int .i64 size,.int .i64 blocks] 28)=X:=⟨_,rfl⟩;rw[hW0]at B0 G0;have HB0:=hid B0;have HG0:=hid G0;have HW0:=hid hW0;have hT40:=hT4.grown G0;have HT40:=hid hT40;have HLV:=hid (QaX W0 hT40);have HLG:=hid (fun W=>Cn.Qgh size blocks W);have HMK:=hid (fun W (k:W0.grownBy W none)=>Qje W0 W size blocks k hT40);have HPK:=hid (fun W=>Qd5 z 3000 W (by decide) (by decide));obtain⟨N,hN⟩:∃N:Nat,pick z 3000=N:=Int.eq_ofNat_of_zero_le (Qai z 3000 (by decide)).1;have hN2:N<3000:=by have:=(Qai z 3000 (by decide)).2;omega
 rw[hN]at HPK;have HTM:=hid (fun W=>QhD (c:Int) N W (by omega));have HCV:=hid (fun W=>QfP W (c:Int));have HRB:Hid (Bs.IsB (rep N (c:Int))):=hid (QbX N c (by omega));have HRL:Hid ((rep N (c:Int)).length=N):=hid (Qbu N c);obtain⟨l2,hl2⟩:∃l,rep N (c:Int)=l:=⟨_,rfl⟩;rw[hl2]at HTM HRB HRL;have HAPP:Hid (strOfNums l1++strOfNums l2=strOfNums (l1++l2)):=hid (Qbl l1 l2);have HLB:Hid (Bs.IsB (l1++l2)):=hid (fun x hx=>(List.mem_append.1 hx).elim (hl1 x) (HRB.out x));have HLEN:Hid ((l1++l2).length=l1.length+N):=hid (by rw[List.length_append,HRL.out]);have HZ1:Hid ((strOfNums l1).size=l1.length):=hid (strOfNums_size l1);have HZ2:Hid ((strOfNums l2).size=N):=hid (by rw[strOfNums_size,HRL.out]);have HZ3:Hid ((strOfNums (l1++l2)).size=(l1++l2).length):=hid (strOfNums_size _);obtain⟨l,hl⟩:∃l,l1++l2=l:=⟨_,rfl⟩;rw[hl]at HAPP HLB HLEN HZ3;obtain⟨n1,hn1⟩:∃n,l1.length=n:=⟨_,rfl⟩;rw[hn1]at HLEN HZ1;obtain⟨nb,hnb⟩:∃n,l.length=n:=⟨_,rfl⟩;rw[hnb]at HLEN HZ3;have HNB:=hid hnb;obtain⟨S1,hS1⟩:∃S,strOfNums l1=S:=⟨_,rfl⟩;obtain⟨S2,hS2⟩:∃S,strOfNums l2=S:=⟨_,rfl⟩;obtain⟨S,hS⟩:∃S,strOfNums l=S:=⟨_,rfl⟩;rw[hS1]at HAPP HZ1 ⊢;rw[hS2]at HAPP HZ2 HTM;rw[hS]at HAPP HZ3;have HSS:=hid hS;obtain⟨C1,hC1⟩:∃C,strOfNums [(c:Int)]=C:=⟨_,rfl⟩;rw[hC1]at HTM HCV;have hz1:=HZ1.out;have HN:=hid hN2;clear B0 G0 hW0 hT4 hT40 hl1 hc hN hl2 hl hn1 hnb hS1 hS2 hS hC1 hN2;go_enter Tryz.func4,Tryz.ntmps4
 go_upto_region 1 with fail
 rw[HW0.out];go_wp2_with fail
 refine HLV.out.mono ?_;rintro ev w1 ⟨rfl,hg1⟩;have HG1:=hid hg1;have HB1:=hid (Qd HB0.out hg1);have c0:w1.cell? ⟨w.heap.size,0,none⟩=some (.int .i64 size):=by rw[cell_of_row _ _ _ _ _ _ HB1.out];rfl
 have c1:w1.cell? ⟨w.heap.size,1,none⟩=some (.int .i64 blocks):=by rw[cell_of_row _ _ _ _ _ _ HB1.out];rfl
 have HMK1:=hid (HMK.out w1 hg1);clear hg1 HLV HMK;dsimp only;go_wp2_with fail
 refine HMK1.out.mono ?_;rintro ev w2 ⟨hg2,hx⟩;have HG2:=hid (Qa HG1.out hg2);have HB2:=hid (Qd HB1.out hg2);clear hg2 c0 c1 HMK1;have c0:w2.cell? ⟨w.heap.size,0,none⟩=some (.int .i64 size):=by rw[cell_of_row _ _ _ _ _ _ HB2.out];rfl
 have c1:w2.cell? ⟨w.heap.size,1,none⟩=some (.int .i64 blocks):=by rw[cell_of_row _ _ _ _ _ _ HB2.out];rfl
 obtain⟨lg,hlg⟩:∃b,Cn.LightS size blocks=b:=⟨_,rfl⟩;rw[hlg]at HLG;have HLGE:=hid hlg;clear hlg;rcases hx with ⟨Z,K,sg,g,rfl,rfl,hok,hE,rfl,hs2⟩|⟨v,rfl,-⟩
 case inr=>
  dsimp only;go_wp2_with fail
  refine(HLG.out _).mono ?_;rintro ev w3 ⟨rfl,hg3⟩;have HE:=hid (Qa HG0.out (Qa HG2.out hg3));clear hg3 c0 c1;dsimp only;cases lg with
  |false=>
   go_wp2;go_ret
   exact⟨rfl,HE.out⟩
  |true=>
   by_cases h3:3000<n1
   ·have q1:decide ((3000:Int)<(n1:Int))=true:=decide_eq_true (by omega);have q2:decide (3000<n1)=true:=decide_eq_true h3;go_wp2;go_ret
    exact⟨rfl,HE.out⟩
   ·have q1:decide ((3000:Int)<(n1:Int))=false:=decide_eq_false (by omega);have q2:decide (3000<n1)=false:=decide_eq_false h3;go_wp2;go_ret
    exact⟨rfl,HE.out⟩
 case inl=>
 have HS2:=hid hs2;have HOK:=hid hok;have HEE:=hid hE;clear hs2 hok hE;dsimp only;go_wp2_with fail
 refine(HLG.out _).mono ?_;rintro ev w3 ⟨rfl,hg3⟩;have HS3:=hid (HS2.out.go hg3);have HG3:=hid (Qa HG2.out hg3);clear hg3 c0 c1 HS2 HLG;dsimp only;cases lg with
 |false=>
  have HE:=hid (Qa HG0.out HG3.out);go_wp2;go_ret
  exact⟨rfl,HE.out⟩
 |true=>
 by_cases h3:3000<n1
 case pos=>
  have HE:=hid (Qa HG0.out HG3.out);have q1:decide ((3000:Int)<(n1:Int))=true:=decide_eq_true (by omega);have q2:decide (3000<n1)=true:=decide_eq_true h3;go_wp2;go_ret
  exact⟨rfl,HE.out⟩
 case neg=>
 have q1:decide ((3000:Int)<(n1:Int))=false:=decide_eq_false (by omega);have q2:decide (3000<n1)=false:=decide_eq_false h3;have hsk:=Cn.Qja HLGE.out HOK.out;have HSK:Hid (Z≤512∧K≤40):=hid (by omega);have HN6:Hid (nb≤6000):=hid (by have:=HLEN.out;have:=HN.out;omega);have hadd:S1++S2=S:=HAPP.out;have hbig:¬9223372036854775807<S1.size+S2.size:=by rw[HZ1.out,HZ2.out];have:=HN.out;omega
 have hz2:=HZ2.out;have HN1:Hid (n1≤3000):=hid (by omega);have hbig2:¬9223372036854775807<n1+N:=by have:=HN.out;omega
 have hcvD:(convert 46 9 (.slice (some ⟨w3.heap.size,0,none⟩) 1 1)).run Tryz.prog ((w3.alloc (.cells #[.int .u8 (c:Int)] 5)).drew)=.ok (.string C1) ((w3.alloc (.cells #[.int .u8 (c:Int)] 5)).drew):=HCV.out w3.drew;clear hsk h3;have HG6:=hid ((Qb w3 (.cells #[.int .u8 (c:Int)] 5)));go_upto_region 6 with fail
 go_cut [1] from 45 to 53 (fun sv wx=>sv=.string S∧Hid (w3.grownBy wx none))
 case first=>
  go_region_with (first
   |(go_at_call 19;refine(HPK.out _).mono ?_;rintro ev wx ⟨rfl,rfl⟩)
   |(go_at_call 15;refine(HTM.out _).mono ?_;rintro ev wx ⟨rfl,rfl⟩)
   |fail)
  all_goals
   go_wp2
   go_meet
   exact⟨rfl,hid (Qa HG6.out (Turn.drewN _ 1 nowhere).grown)⟩
 case rest=>
 obtain⟨rfl,HW6⟩:=hcut;have hR18:=QK HOK.out;have HLG0:=hid (Lg.first HOK.out HEE.out);obtain⟨s0,hs0⟩:∃s,firstP Z K=s:=⟨_,rfl⟩;rw[hs0]at HLG0 HS3;obtain⟨R,hR⟩:∃R,Z-18=R:=⟨_,rfl⟩;obtain⟨P0,hP0⟩:∃P,s0.sup.pages.length=P:=⟨_,rfl⟩;obtain⟨fr0,hfr0⟩:∃f,(frees s0).length=f:=⟨_,rfl⟩;rw[hR,hP0,hfr0]at HLG0;have HRB:Hid (110≤R∧R≤4096):=hid (by omega);have HS6:=hid (HS3.out.go HW6.out);have HG7:=hid (Qa HG3.out HW6.out);have HNP:Hid (nP l.length R≤60):=hid (Qgk (by have:=HRB.out;omega) (by have:=HRB.out;have:=HN6.out;have:=HNB.out;omega));have HFR:Hid (Calls Tryz.prog 17 #[.pointer (some ⟨sg,0,none⟩)] wc fun e w'=>e=.returned (.int .i64 (fr0:Int))∧wc=w'):=hid (Qap HS6.out HLG0.out.left);have HPUT:=hid (Qdh HS6.out HLG0.out l 200 (by have:=HNP.out;omega) (by decide) HLB.out (by rw[HNB.out];have:=HN6.out;omega) (fun i hi=>HS6.out.lt hi));rw[HSS.out]at HPUT;have hfree:fr0≤40:=by
  have h1:=HLG0.out.none;have h2:=(QbM HOK.out HEE.out).2;rw[hs0]at h2;have h3:=HSK.out;omega
 have HSZ:Hid (S.size=nb):=HZ3;have hsz9:=HSZ.out;have HWA:Hid (∀i,i<w.heap.size→i<w1.heap.size):=hid (fun i hi=>Nat.lt_of_lt_of_le hi (Nat.le_trans HG0.out.size HG1.out.size));have HGA:=hid (Qa HG0.out HG7.out);have HT4W:=hid HT40.out;clear hs0 hR hP0 hfr0 hR18 HS3 HW6 HAPP HZ1 HZ2 HTM HCV HPK hadd hbig hbig2 hcvD hz1 hz2 q1 q2;go_wp2_with fail
 refine HFR.out.mono ?_;rintro ev wx ⟨rfl,rfl⟩;dsimp only;go_wp2_with fail
 refine HPUT.out.mono ?_;rintro ev w8 ⟨n,E,s1,rfl,hp,hs8,ht8⟩;have HS8:=hid hs8;have HG8:=hid (Qm HGA.out ht8 HWA.out);have HG8W:Hid (W0.grownBy w8 none):=hid (Qm HG7.out ht8 (fun i hi=>Nat.lt_of_lt_of_le hi HG1.out.size));clear hs8 ht8 HPUT HFR;dsimp only;cases hp with
 |long hq hk1=>
  have HLG1:=hid HLG0.out;have HMO:=hid (QcU HS8.out HLG0.out.room HLG0.out.big);obtain⟨M,hM⟩:∃M,mostB R=M:=⟨_,rfl⟩;rw[hM]at HMO hq;rw[HNB.out]at hq;have q1:decide ((M:Int)<(nb:Int))=true:=decide_eq_true (by omega);have q2:decide (M<nb)=true:=decide_eq_true hq;clear hM hq hk1;go_wp2_with fail
  refine HMO.out.mono ?_;rintro ev w9 ⟨rfl,hg9⟩;have HS9:=hid (HS8.out.go hg9);have HG9:=hid (Qa HG8.out hg9);have HFR:Hid (Calls Tryz.prog 17 #[.pointer (some ⟨sg,0,none⟩)] w9 fun e w'=>e=.returned (.int .i64 (fr0:Int))∧w9=w'):=hid (Qap HS9.out HLG0.out.left);have HAU:=hid (Qdg HS9.out HLG0.out);clear hg9 HMO;dsimp only;go_wp2_with fail
  refine HFR.out.mono ?_;rintro ev wx ⟨rfl,rfl⟩;dsimp only;go_wp2_with fail
  refine HAU.out.mono ?_;rintro ev wz ⟨rfl,hgz⟩;have HE:=hid (Qa HG9.out hgz);clear hgz;dsimp only;go_wp2;go_ret
  exact⟨rfl,HE.out⟩
 |full hk1 hsm hf hm=>
  obtain⟨fr2,hl1⟩:=HLG0.out.same hsm hk1;have hfe:fr2=fr0:=by
   have h1:=hl1.none;have h2:=HLG0.out.none;have h3:=hsm.blocks;omega
  subst hfe;have HFR:Hid (Calls Tryz.prog 17 #[.pointer (some ⟨sg,0,none⟩)] w8 fun e w'=>e=.returned (.int .i64 (fr2:Int))∧w8=w'):=hid (Qap HS8.out hl1.left);have HAU:=hid (Qdg HS8.out hl1);clear hk1 hsm hf hm hl1;go_wp2_with fail
  refine HFR.out.mono ?_;rintro ev wx ⟨rfl,rfl⟩;dsimp only;go_wp2_with fail
  refine HAU.out.mono ?_;rintro ev wz ⟨rfl,hgz⟩;have HE:=hid (Qa HG8.out hgz);clear hgz;dsimp only;go_wp2;go_ret
  exact⟨rfl,HE.out⟩
 | @yes x ks _ hb hn hm=>
  have HB:=hid hb;have HL1:=hid (HLG0.out.put hb);have hlen:l.length≤65536:=by rw[HNB.out];have:=HN6.out;omega
  have HLE:=hid hlen;have HGET:=hid (Qer HS8.out HL1.out hb.blob hlen HLB.out);rw[HSS.out]at HGET;clear hb hn hm hlen;go_wp2_with fail
  refine HGET.out.mono ?_;rintro ev w9 ⟨rfl,hg9⟩;have HS9:=hid (HS8.out.go hg9);have HG9:=hid (Qa HG8W.out hg9);have HSI:=hid (QeN HS9.out HL1.out HB.out.blob HLE.out);rw[HNB.out]at HSI;clear hg9 HGET;dsimp only;go_wp2_with fail
  refine HSI.out.mono ?_;rintro ev wa ⟨rfl,hga⟩;have HSa:=hid (HS9.out.go hga);have HGa:=hid (Qa HG9.out hga);have HTE:=hid (QeD HSa.out HL1.out.ok HL1.out.room HL1.out.small HB.out.blob HLE.out HLB.out _ rfl (by have:=HNP.out;omega));have HCG:Hid (∀i,i<nP l.length R→(cutsB R l).getD i []=cutB R i l):=hid (fun i hi=>QdP R l i hi);have HTA:Hid (l.take (nP l.length R*R)=l):=hid (QgK l (by have:=HRB.out;omega));obtain⟨Q,hQ⟩:∃Q,nP l.length R=Q:=⟨_,rfl⟩;rw[hQ]at HTE HCG HTA HNP;have hq60:=HNP.out;clear hga HSI hQ;dsimp only;go_wp2_with fail
  refine HTE.out.mono ?_;rintro ev wb ⟨pa,pc,rfl,hseg,hgb,-⟩;have HSb:=hid (HSa.out.go hgb);have HGb:=hid (Qa HGa.out hgb);have HSEG:=hid hseg;have hle:=hseg.le;have hcap:=hseg.cap;unfold maxLen at hcap;have HST:Hid (strOfNums (l.take (0*R))=⟨#[]⟩):=hid (by rw[Nat.zero_mul,List.take_zero];rfl);clear hseg hgb HTE;dsimp only;go_wp2
  go_loopw [20,21] (fun av si wr=>∃i:Nat,i≤Q∧si=.int .i64 (i:Int)∧av=.string (strOfNums (l.take (i*R)))∧wr=wb) (fun _ si _=>Q-(intOf si).toNat)
  case atStart=>exact⟨0,Nat.zero_le _,rfl,by rw[HST.out],rfl⟩
  case round=>
  obtain⟨i,hi,rfl,rfl,rfl⟩:=hrel;by_cases hlt:i<Q
  case pos=>
   have q9:decide (i<Q)=true:=decide_eq_true hlt;have q8:decide ((i:Int)<(Q:Int))=true:=decide_eq_true (by omega);have p1:(0:Int)≤(i:Int):=by omega
   have p2:(i:Int)<(Q:Int):=by omega
   obtain⟨gA,oA,rfl,hcc⟩:=HSEG.out.addr (by omega);have d3:=hcc i hlt;rw[HCG.out i hlt]at d3;have HCT:Hid (strOfNums (l.take (i*R))++strOfNums (cutB R i l)=strOfNums (l.take ((i+1)*R))):=hid (by rw[Qbl,QfR]);have h5:(strOfNums (l.take (i*R))).size≤65536:=by
    rw[strOfNums_size,List.length_take];have:=HLE.out;omega
   have h6:(strOfNums (cutB R i l)).size≤65536:=by
    rw[strOfNums_size,Qa9];have:=HLE.out;have:min R (l.length-i*R)≤l.length:=Nat.le_trans (Nat.min_le_right _ _) (Nat.sub_le _ _);omega
   obtain⟨SA,hSA⟩:∃X,strOfNums (l.take (i*R))=X:=⟨_,rfl⟩;obtain⟨SC,hSC⟩:∃X,strOfNums (cutB R i l)=X:=⟨_,rfl⟩;obtain⟨SN,hSN⟩:∃X,strOfNums (l.take ((i+1)*R))=X:=⟨_,rfl⟩;rw[hSA,hSC,hSN]at HCT;rw[hSC]at d3 h6;rw[hSA]at h5 ⊢;have HSN:=hid hSN;have hct:=HCT.out;have hbg:¬9223372036854775807<SA.size+SC.size:=by omega
   clear hcc hSA hSC hSN h5 h6;go_wp2;go_roundw
   case rel=>exact⟨i+1,by omega,by go_num,by rw[HSN.out],trivial⟩
   case measure=>simp[intOf];omega
  case neg=>
  have q9:decide (i<Q)=false:=decide_eq_false hlt;have q8:decide ((i:Int)<(Q:Int))=false:=decide_eq_false (by omega);obtain rfl:i=Q:=by omega
  rw[HTA.out,HSS.out];have HAU:=hid (Qgg HSb.out HL1.out);clear hlt hi hle hcap;go_wp2_with fail
  refine HAU.out.mono ?_;rintro ev wd ⟨rfl,hgd⟩;have HSd:=hid (HSb.out.go hgd);have HGd:=hid (Qa HGb.out hgd);have HCM:=hid (Qi8 HSd.out HL1.out (by decide) x (List.mem_cons_self ..) HT4W.out);clear hgd HAU;dsimp only;go_wp2_with fail
  refine HCM.out.mono ?_;rintro ev we ⟨rfl,hse,hte⟩;have HSe:=hid hse;have HGe:=hid (Qm HGd.out hte (fun i hi=>Nat.lt_of_lt_of_le hi HG1.out.size));have HOP:=hid (Qi9 hse HL1.out (by decide) (List.mem_cons_self ..) HT4W.out);clear hse hte HCM;dsimp only;go_wp2_with fail
  refine HOP.out.mono ?_;rintro ev wf ⟨sg2,rfl,hsf,hgf⟩;have HSf:=hid hsf;have HGf:=hid (Qa HGe.out hgf);obtain⟨hok2,hbl2,hsz2⟩:=QgU HL1.out.ok (by decide) (List.mem_cons_self ..) HB.out.blob;have hrt:(openS (commitP s1 (x:Int))).sup.root=(x:Int):=rfl;have hrm:roomP (openS (commitP s1 (x:Int))).dv.size 0=(R:Int):=by rw[hsz2];exact HL1.out.room
  obtain⟨o,ho⟩:∃o,openS (commitP s1 (x:Int))=o:=⟨_,rfl⟩;rw[ho]at HSf hok2 hbl2 hrt hrm;have HRT:=hid (fun W (k:wf.grownBy W none)=>QlV (HSf.out.go k));rw[hrt]at HRT;have HOK2:=hid hok2;have HGT:=hid (Qe1 HSf.out hok2 hrm HL1.out.small hbl2 HLE.out HLB.out);rw[HSS.out]at HGT;clear hsf hgf hok2 hbl2 hsz2 hrt hrm ho HOP;dsimp only;go_wp2_with fail
  refine(HRT.out _ (Turn.refl wf nowhere).grown).mono ?_;rintro ev wx ⟨rfl,rfl⟩;dsimp only;go_wp2_with fail
  refine HGT.out.mono ?_;rintro ev wg ⟨rfl,hgg⟩;have HSg:=hid (HSf.out.go hgg);have HGg:=hid (Qa HGf.out hgg);have HRTg:=hid (HRT.out wg hgg);have HDR:=hid (Qea HSg.out HOK2.out x [] (fun m=>rfl));clear hgg HGT HRT;dsimp only;go_wp2_with fail
  refine HRTg.out.mono ?_;rintro ev wx ⟨rfl,rfl⟩;dsimp only;go_wp2_with fail
  refine HDR.out.mono ?_;rintro ev wh ⟨c2,⟨rfl,hsh,hth⟩,hkh⟩;have HGh:=hid (Qm HGg.out hth (fun i hi=>Nat.lt_of_lt_of_le hi HG1.out.size));have HAV:=hid (Qce hsh hkh none 0 0 rfl (nil15 wh));clear hsh hth hkh HDR HRTg;dsimp only;go_wp2_with fail
  refine HAV.out.mono ?_;rintro ev wi ⟨rfl,hgi⟩;have HE:=hid (Qa HG0.out (Qa HGh.out hgi));clear hgi HAV;dsimp only;go_wp2;go_ret
  exact⟨rfl,HE.out⟩
theorem back_int(size blocks:Int)(l1:List Int)(c z:Int)(w:World)(hl1:Bs.IsB l1)(hc:0≤c∧c<256)(hT4:T4 w) :
  Calls Tryz.prog 4 #[.agg #[.int .i64 size,.int .i64 blocks],.string (strOfNums l1),.int .u8 c,.int .i64 z] w fun e w'=>e=.returned (.bool true)∧w.grownBy w' none:=by
 obtain⟨n,rfl⟩:=Int.eq_ofNat_of_zero_le hc.1;exact QjT size blocks l1 n z w hl1 (by omega) hT4
end Bl
namespace Bl
open Go.RowKit Go.Shelf Bs Dv Gr
open Sp Tr
open Su (Sup SupOk T4 GeoOk supE)
open Cf (FeedsZ NcT QI)
attribute [local go_sem] Oper.semAt_some
theorem Boxed.gw{W:World}{b:Nat}{t:TypeId}{v:Value}(h:Boxed W b t v):∀q:Gw W,q.at_.cell? ⟨b,0,none⟩=some v:=fun q=>Boxed.cell (Qd h q.grown)
theorem Qg6{F:Fence}{n:Nat}{P:Program}{fn:Func}{R:Ending→World→Prop}{a:Act}{w:World}{v:Value}(hr:(results fn a.tmps).run P w=.ok v w)(hd:a.defers=[])(h:R (.returned v) w):bodyPostM F n P fn R .ret a w:=by
 show LeavesInM F n P fn a.tmps R a.defers .returning w
 rw[hd];exact⟨v,hr,h⟩
structure PrI (w W:World) (nb eb lb:Nat) (rb0:Nat) (pa:Option Addr) (K pc:Nat) (L:List (List Int)) (ep:Nat) (q:Nat×Nat) (V:World):Prop where
 le:q.1≤ep
 nb:Boxed V nb 3 (.int .i64 (q.1:Int))
 eb:Boxed V eb 3 (.int .i64 (ep:Int))
 lb:Boxed V lb 49 (.slice pa K pc)
 rb:Boxed V rb0 4 (.bool false)
 seg:Ss.Seg V pa K pc L
 gr:w.grownBy V none
theorem ss_nc{V V':World}{B n c:Nat}{a:Option Addr}{l:List (List Int)}(h:Ss.Seg V a n c l)(t:Turn V V' (NcT B V)):Ss.Seg V' a n c l:=
 ⟨h.len,h.le,h.cap,h.nil_,fun ad had j u hu=>t.cell (h.at_ ad had j u hu) (fun e=>by
  obtain⟨-,o,h1,h2⟩:=e;have h3:=h.at_ ad had j u hu;unfold World.cell? at h3;rw[h1]at h3;cases o <;> simp_all [Obj.isCells])⟩
theorem QhA{V V':World}{n c:Nat}{a:Option Addr}{l:List (List Int)}{S:Nat→Prop}(h:Ss.Seg V a n c l)(t:Turn V V' S)(hS:∀ad,a=some ad→¬S ad.block):Ss.Seg V' a n c l:=
 ⟨h.len,h.le,h.cap,h.nil_,fun ad had j u hu=>t.cell (h.at_ ad had j u hu) (fun e=>hS ad had (by rw[block_add]at e;exact e))⟩
theorem PrI.nc{w W:World}{nb eb lb rb0:Nat}{pa:Option Addr}{K pc:Nat}{L:List (List Int)}{ep B:Nat}{q:Nat×Nat}{V V':World}(h:PrI w W nb eb lb rb0 pa K pc L ep q V)(t:Turn V V' (NcT B V))(hB:w.heap.size≤B):PrI w W nb eb lb rb0 pa K pc L ep q V':=
 ⟨h.le,QQ h.nb t,QQ h.eb t,QQ h.lb t,QQ h.rb t,ss_nc h.seg t,gr_nc h.gr t hB⟩
theorem parts_any(l:List Int)(z:Int)(w:World)(hl:Bs.IsB l)(hT4:T4 w) :
  Calls Tryz.prog 6 #[.string (strOfNums l),.int .i64 z] w fun e w'=>e=.returned (.bool true)∧w.grownBy w' none:=by
 obtain⟨b,hbb⟩:∃b,w.heap.size=b:=⟨_,rfl⟩;have G0:=Qa (Qb w (.cells #[.int .i64 z] 3)) (Qb _ (.cells #[.bool false] 4));have B0:=(Boxed.new w 3 (.int .i64 z)).alloc (.cells #[.bool false] 4);have B1:=Boxed.new (w.alloc (.cells #[.int .i64 z] 3)) 4 (.bool false);rw[World.size_alloc]at B1;obtain⟨W0,hW0⟩:∃X,(w.alloc (.cells #[.int .i64 z] 3)).alloc (.cells #[.bool false] 4)=X:=⟨_,rfl⟩;have hz0:W0.heap.size=b+2:=by rw[←hW0,←hbb];simp[World.size_alloc]
 rw[hW0]at G0 B0 B1;rw[hbb]at B0 B1;have HB0:=hid B0;have HB1:=hid B1;have HG0:=hid G0;have HW0:=hid hW0;have HZ0:=hid hz0;have HBB:=hid hbb;have hT40:=hT4.grown G0;have HLV:=hid (QaX W0 hT40);have HRM:=hid QbG;have HMK:=hid (fun W (k:W0.grownBy W none)=>Qb4 w W (Qa G0 k) hT4);have HLG:=hid Lg.roomy;have HLB:=hid hl;have HSZ:Hid ((strOfNums l).size=l.length):=hid (strOfNums_size l);obtain⟨nb,hnb⟩:∃n,l.length=n:=⟨_,rfl⟩;rw[hnb]at HSZ;have HNB:=hid hnb;obtain⟨S,hS⟩:∃S,strOfNums l=S:=⟨_,rfl⟩;rw[hS]at HSZ ⊢;have HSS:=hid hS;have hsz:=HSZ.out;obtain⟨s0,hs0⟩:∃s,firstP 128 40=s:=⟨_,rfl⟩;rw[hs0]at HMK HLG;clear G0 B0 B1 hz0 hT4 hT40 hl hnb hS hs0 hW0;refine(callsIn_wide (n:=4)).1 ?_;refine callsIn_of_wp_marks Tryz.func6 rfl trivial ?_ rfl;simp only[Tryz.ntmps6,List.size_toArray,List.length_cons,List.length_nil,Nat.reduceAdd,Nat.reduceSub,Array.replicate_succ,Array.replicate_zero,List.push_toArray,List.append_toArray,List.nil_append,List.cons_append];refine wpIn_wide.2 ?_;go_upto_region 1 with fail
 rw[HW0.out];go_wp2_with fail
 refine HLV.out.mono ?_;rintro ev w1 ⟨rfl,hg1⟩;have HG1:=hid hg1;clear hg1 HLV;dsimp only;go_wp2_with fail
 refine(HRM.out _).mono ?_;rintro ev w2 ⟨rfl,hg2⟩;have HG2:=hid (Qa HG1.out hg2);have HMK2:=hid (HMK.out w2 HG2.out);clear hg2 HMK HRM;dsimp only;go_wp2_with fail
 refine HMK2.out.mono ?_;rintro ev w3 ⟨sg,g,rfl,hs3,hg3⟩;have HS3:=hid hs3;have HG3:=hid (Qa HG2.out hg3);have HWA:Hid (∀i,i<W0.heap.size→i<w2.heap.size):=hid (fun i hi=>Nat.lt_of_lt_of_le hi HG2.out.size);clear hs3 hg3 HMK2;dsimp only;by_cases h28:2800<nb
 case pos=>
  have q1:decide ((2800:Int)<(nb:Int))=true:=decide_eq_true (by omega);have q2:decide (2800<nb)=true:=decide_eq_true h28;have e0:Boxed w3 (b+1) 4 (.bool false):=Qd HB1.out HG3.out;have e1:=e0.cell;have e2:=e0.frozen;have e3:=hid (e0.set (.bool true));have t3:Turn w3 (w3.setCell ⟨b+1,0,none⟩ (.bool true)) (·=b+1):=Turn.setCell w3 ⟨b+1,0,none⟩ _ rfl;have HE:=hid (Qh (Qa HG0.out HG3.out) t3 (by have:=HBB.out;omega));clear h28 e0 t3;go_wp2;have c5:=e3.out.cell;exact Qg6 (by simp[results,Tryz.f6,go_sem,c5]) rfl ⟨rfl,HE.out⟩
 case neg=>
 have q1:decide ((2800:Int)<(nb:Int))=false:=decide_eq_false (by omega);have q2:decide (2800<nb)=false:=decide_eq_false h28;have HNP:Hid (nP l.length 110≤26):=hid (Nat.le_trans (Qdx (show l.length≤2860 by rw[HNB.out];omega)) (by decide));have HMO:Hid (mostB 110=2860):=hid (by decide);have HLE:Hid (l.length≤65536):=hid (by rw[HNB.out];omega);have HPUT:=hid (Qag HS3.out HLG.out l 60 (by have:=HNP.out;omega) (by decide) HLB.out (by rw[HMO.out,HNB.out];omega) (by have:=HNP.out;omega) (fun i hi=>HS3.out.lt hi));rw[HSS.out]at HPUT;clear h28;go_wp2_with fail
 refine HPUT.out.mono ?_;rintro ev w4 ⟨x,ks,s1,rfl,hx,hb,hl1,hs4,ht4⟩;have HS4:=hid hs4;have HL1:=hid hl1;have HB:=hid hb;have HG4:=hid (Qm HG3.out ht4 HWA.out);have HTE:=hid (QeD hs4 hl1.ok hl1.room hl1.small hb.blob HLE.out HLB.out _ rfl (by have:=HNP.out;omega));have HLC:Hid ((cutsB 110 l).length=nP l.length 110):=hid (QdQ 110 l);have HCG:Hid (∀i,i<nP l.length 110→(cutsB 110 l).getD i []=cutB 110 i l∧1≤(cutB 110 i l).length∧(cutB 110 i l).length≤110∧(i+1<nP l.length 110→(cutB 110 i l).length=110)):=hid (fun i hi=>by
  have h1:=(nP_lt (n:=l.length) (i:=i) (show 0<110 by decide)).1 hi;have h2:=Qa9 110 i l;refine⟨QdP 110 l i hi,by omega,by omega,fun h3=>?_⟩;have h4:=(nP_lt (n:=l.length) (i:=i+1) (show 0<110 by decide)).1 h3;omega)
 obtain⟨K,hK⟩:∃K,nP l.length 110=K:=⟨_,rfl⟩;rw[hK]at HTE HCG HNP HLC;have HKK:=hid hK;clear hs4 hl1 hb ht4 hx HPUT HS3 hK;dsimp only;go_wp2_with fail
 refine HTE.out.mono ?_;rintro ev w5 ⟨pa,pc,rfl,hseg,hg5,hnew⟩;have hg6:=Qb w5 (.cells #[.slice pa K pc] 49);have hb6:=Boxed.new w5 49 (.slice pa K pc);obtain⟨lb,hlb⟩:∃b,w5.heap.size=b:=⟨_,rfl⟩;obtain⟨w6,hw6⟩:∃X,w5.alloc (.cells #[.slice pa K pc] 49)=X:=⟨_,rfl⟩;rw[hw6,hlb]at hb6;rw[hw6]at hg6;have HNEW:Hid (∀ad,pa=some ad→b+2≤ad.block):=hid (fun ad had=>by have h1:=hnew ad had;have h2:=HG4.out.size;have h3:=HZ0.out;omega);have HS6:=hid (HS4.out.go (Qa hg5 hg6));have HG6:=hid (Qa HG4.out (Qa hg5 hg6));have HSEG:=hid (hseg.grown hg6);have HLB6:=hid hb6;have HLBL:Hid (b+2≤lb):=hid (by have:=HG4.out.size;have:=hg5.size;have:=HZ0.out;omega);have HROOM:=hid (fun W (k:w6.grownBy W none)=>Qbg (HS6.out.go k) 0 (by decide));rw[HL1.out.room]at HROOM;have hle:=hseg.le;have hcap:=hseg.cap;unfold maxLen at hcap;have hk26:=HNP.out;have HW6:=hid hw6;have HLB5:=hid hlb;have e9:=hb6.cell;clear hseg hg5 hnew hg6 hb6 hw6 hlb HTE HS4;dsimp only;go_upto_region 8 with fail
 rw[HW6.out,HLB5.out];go_wp2
 go_loopw [11] (fun si wr=>∃i:Nat,i≤K∧si=.int .i64 (i:Int)∧Hid (w6.grownBy wr none)) (fun si _=>K-(intOf si).toNat)
 case atStart=>exact⟨0,Nat.zero_le _,rfl,hid (QaR w6)⟩
 case round=>
 clear e9;obtain⟨i,hi,rfl,HGR⟩:=hrel;have hbx:Boxed wr lb 49 (.slice pa K pc):=Qd HLB6.out HGR.out;have e9:=hbx.cell;by_cases hlt:i<K
 case pos=>
  have q9:decide (i<K)=true:=decide_eq_true hlt;have q8:decide ((i:Int)<(K:Int))=true:=decide_eq_true (by omega);have p1:(0:Int)≤(i:Int):=by omega
  have p2:(i:Int)<(K:Int):=by omega
  obtain⟨g1,g2,g3,g4⟩:=HCG.out i hlt;obtain⟨gA,oA,hpa,hcc⟩:=(HSEG.out.grown HGR.out).addr (by omega);have d3:=hcc i hlt;rw[g1]at d3;rw[hpa]at e9 hbx;have hgw:=Boxed.gw hbx;have hdw:∀q:Gw wr,q.at_.cell? ⟨gA,oA+i,none⟩=some (.string (strOfNums (cutB 110 i l))):=fun q=>(Qc q.grown).cell d3 id
  have HRO:=hid (fun q:Gw wr=>HROOM.out q.at_ (Qa HGR.out q.grown));have h7:(strOfNums (cutB 110 i l)).size=(cutB 110 i l).length:=strOfNums_size _;obtain⟨SC,hSC⟩:∃X,strOfNums (cutB 110 i l)=X:=⟨_,rfl⟩;obtain⟨cl,hcl⟩:∃n,(cutB 110 i l).length=n:=⟨_,rfl⟩;rw[hSC,hcl]at h7;rw[hSC]at d3 hdw;rw[hcl]at g2 g3 g4;have q3:decide ((cl:Int)<1)=false:=decide_eq_false (by omega);have q4:decide (cl<1)=false:=decide_eq_false (by omega);have q5:decide ((110:Int)<(cl:Int))=false:=decide_eq_false (by omega);have q6:decide (110<cl)=false:=decide_eq_false (by omega);have HCL:Hid (i+1<K→cl=110):=hid g4;have ea:(i:Int)+1=((i+1:Nat):Int):=by omega
  have eb:IntKind.i64.wrap ((i+1:Nat):Int)=((i+1:Nat):Int):=IntWalk.i64_in _ (by omega);obtain⟨i1,hi1⟩:∃j,i+1=j:=⟨_,rfl⟩;rw[hi1]at ea eb HCL;have HI1:=hid hi1;clear hcc hSC hcl g1 g2 g3 g4 hbx hi1;rw[hpa];by_cases hn1:i1<K
  case pos=>
   have q10:decide ((i1:Int)<(K:Int))=true:=decide_eq_true (by omega);have q11:decide (i1<K)=true:=decide_eq_true hn1;obtain rfl:cl=110:=HCL.out hn1;clear hn1 HCL;go_upto_region 13 with fail
   refine Qs (by kernel_rfl) ?_
   repeat(go_big_quiet_step (first|(go_at_call 27;with_reducible exact Calls.QS (HRO.out _))|fail))
   refine wpQuiet_nil ?_;rintro _ ⟨w7,rfl⟩;have HG7:=hid (Qa HGR.out w7.grown);go_wp2;go_roundw
   case rel=>exact⟨i1,by have:=HI1.out;omega,by go_num,HG7⟩
   case measure=>have:=HI1.out;simp[intOf];omega
  case neg=>
   have q10:decide ((i1:Int)<(K:Int))=false:=decide_eq_false (by omega);have q11:decide (i1<K)=false:=decide_eq_false hn1;clear hn1 HCL;go_upto_region 13 with fail
   refine Qs (by kernel_rfl) ?_
   repeat(go_big_quiet_step (first|(go_at_call 27;with_reducible exact Calls.QS (HRO.out _))|fail))
   refine wpQuiet_nil ?_;rintro _ ⟨w7,rfl⟩;have HG7:=hid (Qa HGR.out w7.grown);go_wp2;go_roundw
   case rel=>exact⟨i1,by have:=HI1.out;omega,by go_num,HG7⟩
   case measure=>have:=HI1.out;simp[intOf];omega
 case neg=>
 have q9:decide (i<K)=false:=decide_eq_false hlt;have q8:decide ((i:Int)<(K:Int))=false:=decide_eq_false (by omega);obtain rfl:i=K:=by omega
 have hbz:Boxed wr b 3 (.int .i64 z):=Qd HB0.out (Qa HG6.out HGR.out);have e3:=hbz.cell;have f3:=hbz.frozen;have hr:=Qai z ((i:Int)+1) (by omega);have HPK:=hid (fun W=>Qd5 z ((i:Int)+1) W (by omega) (by omega));obtain⟨ep,hep⟩:∃ep:Nat,pick z ((i:Int)+1)=ep:=Int.eq_ofNat_of_zero_le hr.1;have HEP:Hid (ep≤i):=hid (by omega);rw[hep]at HPK;have ea:(i:Int)+1=((i+1:Nat):Int):=by omega
 have eb:IntKind.i64.wrap ((i+1:Nat):Int)=((i+1:Nat):Int):=IntWalk.i64_in _ (by omega);rw[ea]at HPK;obtain⟨i1,hi1⟩:∃j,i+1=j:=⟨_,rfl⟩;rw[hi1]at ea eb HPK;have HBZ:=hid hbz;have HRB:Hid (Boxed wr (b+1) 4 (.bool false)):=hid (Qd HB1.out (Qa HG6.out HGR.out));have HBX:=hid hbx;have HSR:=hid (HSEG.out.grown HGR.out);have HSHR:=hid (HS6.out.go HGR.out);have HGW:=hid (Qa HG0.out (Qa HG6.out HGR.out));have HLW:Hid (W0.heap.size≤wr.heap.size∧lb<wr.heap.size):=hid ⟨(Qa HG6.out HGR.out).size,hbx.lt⟩;clear hlt hi hbz hbx hr hep hi1;have hs0:=HBZ.out.set (.int .i64 (ep:Int));have t0:Turn wr (wr.setCell ⟨b,0,none⟩ (.int .i64 (ep:Int))) (fun i=>i=b):=Turn.setCell wr ⟨b,0,none⟩ _ rfl;obtain⟨V0,hV0⟩:∃X,wr.setCell ⟨b,0,none⟩ (.int .i64 (ep:Int))=X:=⟨_,rfl⟩;rw[hV0]at hs0 t0;have hbb2:=HBB.out;have hz02:=HZ0.out;have hlw:=HLW.out;have hlb2:=HLBL.out;have HSH0:Hid (Sh w V0 sg g (fun i=>i<w2.heap.size) s1):=hid (HSHR.out.beside t0 (fun i e=>by have:=HWA.out b (by omega);omega) (fun i e=>by omega) (fun i e=>.inl e));have HGV0:Hid (w.grownBy V0 none):=hid (Qh HGW.out t0 (by omega));have hlb0:Boxed V0 lb 49 (.slice pa i pc):=Qk HBX.out t0 (fun e=>by omega);have hrb0:Boxed V0 (b+1) 4 (.bool false):=Qk HRB.out t0 (fun e=>by omega);have hsg0:Ss.Seg V0 pa i pc (cutsB 110 l):=QhA HSR.out t0 (fun ad had e=>by have:=HNEW.out ad had;omega);have hzV:V0.heap.size=wr.heap.size:=by rw[←hV0];simp[World.setCell]
 obtain⟨nc,hnc⟩:∃n,wr.heap.size=n:=⟨_,rfl⟩;rw[hnc]at hzV hlw;have hga:=Qb V0 (.cells #[.int .i64 0] 3);have hba:=Boxed.new V0 3 (.int .i64 0);rw[hzV]at hba;obtain⟨V1,hV1⟩:∃X,V0.alloc (.cells #[.int .i64 0] 3)=X:=⟨_,rfl⟩;have hz1:V1.heap.size=nc+1:=by rw[←hV1,World.size_alloc,hzV]
 rw[hV1]at hga hba;have hPM:=QfF sg x V1;have hx2:Boxed ((V1.alloc (.cells #[.pointer (some ⟨sg,0,none⟩)] 24)).alloc (.cells #[.int .u32 (x:Int)] 30)) (nc+1) 24 (.pointer (some ⟨sg,0,none⟩)):=by rw[←hz1];exact(Boxed.new _ _ _).alloc _
 have hy2:Boxed ((V1.alloc (.cells #[.pointer (some ⟨sg,0,none⟩)] 24)).alloc (.cells #[.int .u32 (x:Int)] 30)) (nc+2) 30 (.int .u32 (x:Int)):=by
  have h9:=Boxed.new (V1.alloc (.cells #[.pointer (some ⟨sg,0,none⟩)] 24)) 30 (.int .u32 (x:Int));rw[World.size_alloc,hz1]at h9;exact h9
 have hg2:V1.grownBy ((V1.alloc (.cells #[.pointer (some ⟨sg,0,none⟩)] 24)).alloc (.cells #[.int .u32 (x:Int)] 30)) none:=Qa (Qb _ _) (Qb _ _);have hz2:((V1.alloc (.cells #[.pointer (some ⟨sg,0,none⟩)] 24)).alloc (.cells #[.int .u32 (x:Int)] 30)).heap.size=nc+3:=by simp[World.size_alloc,hz1]
 obtain⟨V2,hV2⟩:∃X,(V1.alloc (.cells #[.pointer (some ⟨sg,0,none⟩)] 24)).alloc (.cells #[.int .u32 (x:Int)] 30)=X:=⟨_,rfl⟩;rw[hV2]at hPM hx2 hy2 hg2 hz2;rw[hz1,show nc+1+1=nc+2 from rfl]at hPM;have HPM:=hid hPM;have HPF:=hid (Qdk 3 (by decide) (fun j=>j=nc) (nc+1) (nc+2) HSH0.out HL1.out.ok HL1.out.room HL1.out.small HB.out.blob HLE.out HLB.out i HKK.out (Qa hga hg2) (fun j e=>⟨by omega,by omega⟩) hx2 hy2);have HI2:Hid (∀Z:Nat,PrI w V2 nc b lb (b+1) pa i pc (cutsB 110 l) ep (0,Z) V2):=hid (fun Z=>⟨Nat.zero_le _,Qd hba hg2,Qd hs0 (Qa hga hg2),Qd hlb0 (Qa hga hg2),Qd hrb0 (Qa hga hg2),hsg0.grown (Qa hga hg2),Qa HGV0.out (Qa hga hg2)⟩);have HZ2:=hid hz2;have HV0:=hid hV0;have HV1:=hid hV1;have HNC:=hid hnc;have HLN:=hid hlw;have HSZV:Hid (V0.heap.size=nc):=hid hzV;have HPB:Hid (0<i→∀ad,pa=some ad→ad.block≠nc):=hid (fun h0 ad had e=>by
  obtain⟨gA,oA,e1,hcc⟩:=HSEG.out.addr h0;rw[e1]at had;cases had
  have h8:gA<w6.heap.size:=World.block_lt_of_cell? w6 _ (hcc 0 h0);have h9:=HGR.out.size;have h7:gA=nc:=e;omega)
 clear hs0 t0 hV0 hbb2 hz02 hlw hlb2 hlb0 hrb0 hsg0 hzV hnc hga hba hV1 hz1 hPM hx2 hy2 hg2 hz2 hV2 HSHR HGW HBX HSR HRB HLW;go_upto_region 15 with fail
 go_wp2_with (first|(go_at_call 19;refine(HPK.out _).mono ?_;rintro ev wx ⟨rfl,rfl⟩;dsimp only)|(go_at_call 28;fail)|fail)
 rw[HV0.out,HV1.out,HNC.out];refine HPM.out.mono ?_;rintro ev w9 ⟨rfl,rfl⟩;have heq:∀V,(binOp .eql 60 (.func (.func 67) #[] #[.pointer (some ⟨nc+1,0,none⟩),.pointer (some ⟨nc+2,0,none⟩)]) Value.nilFunc).run Tryz.prog V=.ok (.bool false) V:=fun V=>by kernel_rfl
 clear HV0 HV1 e3 f3 HPM;have HW9:Hid (w.heap.size≤w9.heap.size):=hid (HI2.out 0).gr.size;go_wp2_with fail
 refine(wpIn_wide (n:=4)).1 ?_;refine QI (T:=NcT) rfl (by decide) (gf:=67) (first:=#[]) (lb:=#[.pointer (some ⟨nc+1,0,none⟩),.pointer (some ⟨nc+2,0,none⟩)]) rfl trivial (enters_of Tryz.func67 (by kernel_rfl) rfl)
  (fun _ _ _ e=>e.1) HPF.out (Below.refl _ _) (fun h k=>KpZ.t h k) (fun z V i o o' q1 q2 q3 q4=>KpZ.put V i o o' ⟨by have:=HZ2.out;have:=HSZV.out;omega,q2⟩ q3 q4) (fun k=>rfl)
  (PrI w w9 nc b lb (b+1) pa i pc (cutsB 110 l) ep) (fun c V=>c=.exit 2∧PrI w w9 nc b lb (b+1) pa i pc (cutsB 110 l) ep (ep,0) V)
  (fun q X Y row hI hg hr=>hI.nc (nc_of hg hr) HW9.out) (fun q X Y _ hI ht=>hI.nc ht (Nat.le_trans HW9.out (Nat.le_add_right _ 2)))
  (fun c s X Y row hI hg hr=>⟨hI.1,hI.2.nc (nc_of hg hr) HW9.out⟩) (fun c X Y _ hI ht=>⟨hI.1,hI.2.nc ht (Nat.le_trans HW9.out (Nat.le_add_right _ 2))⟩) HI2.out
  (fun k=>{ tmps:=#[.string S,.int .i64 z,undef,.pointer (some ⟨b,0,none⟩),.pointer (some ⟨b+1,0,none⟩),.pointer (some ⟨g,0,none⟩),.pointer (some ⟨sg,0,none⟩),.int .u32 (x:Int),.int .i64 0,.pointer (some ⟨lb,0,none⟩),.bool true,.int .i64 (i:Int),.pointer (some ⟨nc,0,none⟩),.func (.func 67) #[] #[.pointer (some ⟨nc+1,0,none⟩),.pointer (some ⟨nc+2,0,none⟩)],.string (strOfNums (cutB 110 k l)),.bool true,.bool false,.tuple #[.pointer (some ⟨g,0,none⟩),.pointer (some ⟨sg,0,none⟩)],.agg #[.int .i64 128,.int .i64 40],.tuple #[.pointer (some ⟨g,0,none⟩),.pointer (some ⟨sg,0,none⟩)],.pointer (some ⟨g,0,none⟩),.pointer (some ⟨sg,0,none⟩),.string S,.int .i64 (nb:Int),.bool false,.bool false,.pointer (some ⟨sg,0,none⟩),.bool false,.bool false,undef,undef,.tuple #[.int .u32 (x:Int),.int .i64 0],.pointer (some ⟨sg,0,none⟩),.string S,.tuple #[.int .u32 (x:Int),.int .i64 0],.int .u32 (x:Int),.int .i64 0,.tuple #[.slice pa i pc,.bool true],.pointer (some ⟨sg,0,none⟩),.int .u32 (x:Int),.tuple #[.slice pa i pc,.bool true],.slice pa i pc,.bool true,.int .i64 0,.bool false,.bool false,.bool true,.bool false,.bool false,.int .i64 (i:Int),.slice pa i pc,.int .i64 (i:Int),.bool false,u53,u54,u55,u56,u57,u58,u59,u60,u61,u62,u63,u64,u65,u66,u67,u68,u69,u70,u71,u72,u73,u74,u75,u76,u77,u78,u79,u80,u81,u82,u83,u84,u85,u86,u87,.int .i64 z,.slice pa i pc,.int .i64 (i:Int),.int .i64 (i1:Int),.int .i64 (ep:Int),.pointer (some ⟨sg,0,none⟩),.int .u32 (x:Int),.func (.func 67) #[] #[.pointer (some ⟨nc+1,0,none⟩),.pointer (some ⟨nc+2,0,none⟩)],.func (.func 67) #[] #[.pointer (some ⟨nc+1,0,none⟩),.pointer (some ⟨nc+2,0,none⟩)],.bool false,.func (.func 67) #[] #[.pointer (some ⟨nc+1,0,none⟩),.pointer (some ⟨nc+2,0,none⟩)],.string (strOfNums (cutB 110 k l)),undef,undef,undef,undef,undef,undef,undef,undef,undef,undef,undef,undef,undef,undef],defers:=[] }) ?assign ?body ?done ?stop
 case assign=>
  intro y k V K2 hK;unfold encQ;obtain⟨PS,hPS⟩:∃PS,strOfNums (cutB 110 k l)=PS:=⟨_,rfl⟩;rw[hPS]at hK ⊢;have HK2:=hid hK;clear hK hPS
  gi_wp2
  exact HK2.out
 case body=>
  rintro y k Z V hk hz1 hz2 hI;have e1:V.cell? ⟨nc,0,none⟩=some (.int .i64 (k:Int)):=hI.nb.cell;have f1:=hI.nb.frozen;have e2:=hI.eb.cell;have e3:=hI.lb.cell;obtain⟨gA,oA,hpa,hcc⟩:=hI.seg.addr (by omega);subst hpa;have d3:=hcc k hk;rw[(HCG.out k hk).1]at d3;have p1:(0:Int)≤(k:Int):=by omega
  have p2:(k:Int)<(i:Int):=by omega
  have HI:=hid hI;have hke:k≤ep:=hI.le;have HK0:Hid (0<i):=hid (by omega);obtain⟨PS,hPS⟩:∃PS,strOfNums (cutB 110 k l)=PS:=⟨_,rfl⟩;rw[hPS]at d3 ⊢;clear hcc hPS hI hz1 hz2;by_cases hb:k=ep
  ·subst hb
   gi_wp2
   exact⟨KeepsFrom.refl _ _,Turn.refl _ _,rfl,⟨Nat.le_refl _,HI.out.nb,HI.out.eb,HI.out.lb,HI.out.rb,HI.out.seg,HI.out.gr⟩⟩
  ·have q1:((k:Int)==(ep:Int))=false:=beq_eq_false_iff_ne.2 (by omega);have ea:(k:Int)+1=((k+1:Nat):Int):=by omega
   have eb:IntKind.i64.wrap ((k+1:Nat):Int)=((k+1:Nat):Int):=IntWalk.i64_in _ (by have:=HEP.out;omega);have HKE:Hid (k+1≤ep):=hid (by omega);obtain⟨k1,hk1⟩:∃k1,k+1=k1:=⟨_,rfl⟩;rw[hk1]at ea eb HKE;have t9:Turn V (V.setCell ⟨nc,0,none⟩ (.int .i64 (k1:Int))) (fun j=>j=nc):=Turn.setCell V ⟨nc,0,none⟩ _ rfl;have hs9:=HI.out.nb.set (.int .i64 (k1:Int));have HT9:=hid t9;have HS9:=hid hs9;have HK1:=hid hk1;clear t9 hs9 hke hk1 hk
   gi_wp2
   have hz:=HZ2.out;have hln:=HLN.out;have hlb9:=HLBL.out;have hz0:=HZ0.out;refine⟨⟨HT9.out.size,fun j o hj h1 h2=>(HT9.out.block j (Array.getElem?_eq_some_iff.1 h1).1 (fun e=>by omega)).trans h1⟩,KpZ.of HT9.out (fun j _ e=>by have e:j=nc:=e;subst e;exact⟨.inl rfl,_,HI.out.nb,rfl⟩),?_⟩;rw[HK1.out];exact⟨HKE.out,HS9.out,Qk HI.out.eb HT9.out (fun e=>by omega),Qk HI.out.lb HT9.out (fun e=>by omega),Qk HI.out.rb HT9.out (fun e=>by omega),QhA HI.out.seg HT9.out (fun ad had e=>by exact HPB.out HK0.out ad had e),Qh HI.out.gr HT9.out (by have:=HBB.out;omega)⟩
 case done=>
  rintro D Z V hD hz hI hK;obtain rfl:i=ep:=Nat.le_antisymm hI.le HEP.out;have hr9:=hI.rb;have e4:=hr9.cell;have f4:=hr9.frozen;have e1:V.cell? ⟨nc,0,none⟩=some (.int .i64 (i:Int)):=hI.nb.cell;have e2:=hI.eb.cell;have hs9:=hr9.set (.bool true);have t9:Turn V (V.setCell ⟨b+1,0,none⟩ (.bool true)) (fun j=>j=b+1):=Turn.setCell V ⟨b+1,0,none⟩ _ rfl;have HG9:=hid (Qh hI.gr t9 (by have:=HBB.out;omega));have HK9:Hid ((V.setCell ⟨b+1,0,none⟩ (.bool true)).heap[D]?=some (.deferred (some []))):=hid (Qk hK t9 (fun e=>by have:=HZ2.out;have:=HLN.out;have:=HZ0.out;omega));have HDD:Hid (w.heap.size≤D):=hid (by have:=HZ2.out;have:=HLN.out;have:=HZ0.out;have:=HBB.out;omega);have HS9:=hid hs9;clear hI hr9 hs9 t9 hK
  gi_wp2
  go_wp2;have c9:=cell_kept HS9.out.cell (grownBy_putObj' _ D (.deferred none)) (fun r e=>by cases e;exact⟨_,HK9.out,rfl⟩);refine⟨by simp,.inl ⟨_,_,rfl,run_takeDeferred HK9.out,?_⟩⟩;exact⟨.bool true,by simp[results,Tryz.f6,go_sem,c9],rfl,Qbm HG9.out HK9.out HDD.out⟩
 case stop=>
  rintro D c V hD ⟨rfl,hI⟩ hK;have hr9:=hI.rb;have e4:=hr9.cell;have f4:=hr9.frozen;have e1:V.cell? ⟨nc,0,none⟩=some (.int .i64 (ep:Int)):=hI.nb.cell;have e2:=hI.eb.cell;have hs9:=hr9.set (.bool true);have t9:Turn V (V.setCell ⟨b+1,0,none⟩ (.bool true)) (fun j=>j=b+1):=Turn.setCell V ⟨b+1,0,none⟩ _ rfl;have HG9:=hid (Qh hI.gr t9 (by have:=HBB.out;omega));have HK9:Hid ((V.setCell ⟨b+1,0,none⟩ (.bool true)).heap[D]?=some (.deferred (some []))):=hid (Qk hK t9 (fun e=>by have:=HZ2.out;have:=HLN.out;have:=HZ0.out;omega));have HDD:Hid (w.heap.size≤D):=hid (by have:=HZ2.out;have:=HLN.out;have:=HZ0.out;have:=HBB.out;omega);have HS9:=hid hs9;clear hI hr9 hs9 t9 hK
  gi_wp2
  go_wp2;have c9:=cell_kept HS9.out.cell (grownBy_putObj' _ D (.deferred none)) (fun r e=>by cases e;exact⟨_,HK9.out,rfl⟩);refine⟨by simp,.inl ⟨_,_,rfl,run_takeDeferred HK9.out,?_⟩⟩;exact⟨.bool true,by simp[results,Tryz.f6,go_sem,c9],rfl,Qbm HG9.out HK9.out HDD.out⟩
end Bl
end Go.Proofs.YtgffbbdcbkikhaaGreatDoor
