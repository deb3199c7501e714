/- Parts of the proof. -/
import Derived.Test.YtgffbbdcbkikhaaGreatDoorKbZ
set_option maxRecDepth 100000
set_option maxHeartbeats 8000000
open Go.Lib (hid)
namespace Go.Proofs.YtgffbbdcbkikhaaGreatDoor
namespace Sp
open Go.RowKit Bs Dv Gr
open Cn (CN CC CnOk IsC)
open Su (Sup SupOk)
theorem Qlc(s:SpS)(n:Nat):accE s n=0∨accE s n=2:=by
 unfold accE;by_cases h:n<2∨s.dv.blocks≤n
 ·rw[if_pos h];exact .inr rfl
 ·rw[if_neg h];by_cases k:(n:Int)∈s.sup.pages
  ·rw[if_pos k];exact .inr rfl
  ·rw[if_neg k];exact .inl rfl
theorem Ql3{s:SpS}{n:Nat}(h:accE s n=0):useE s n=0∨useE s n=8:=by
 unfold useE;rw[if_neg (fun q=>q h)];by_cases k:s.now.getD n 0=0
 ·rw[if_pos k];exact .inr rfl
 ·rw[if_neg k];exact .inl rfl
def checkE(s:SpS)(p:Pg):Int:=
 if p.tag<3∨65535<p.kids.length then 2 else if ∀j,j<p.kids.length→accE s (p.kids.getD j 0).toNat=0 then(if ∀j,j<p.kids.length→useE s (p.kids.getD j 0).toNat=0 then 0 else 8) else 2
section
variable {w0 w : World} {x : Nm} {s : SpS}
theorem QT(h:SpM w0 w x s)(p:Pg)(a:Option Addr)(n c:Nat)(ho:∀k∈p.kids,0≤k∧k<4294967296)(hs:Ws.Seg w a n c p.kids)(hp:s.sup.pages.length≤100000) :
  Calls Tryz.prog 40 #[.pointer (some ⟨x.sg,0,none⟩),.agg #[.int .u8 p.tag,.slice a n c,.string (strOfNums p.data)]] w fun e w'=>e=.returned (.int .i64 (checkE s p))∧w.grownBy w' none:=by
 have HB0:Hid (PB (w.alloc (.cells (pgV p a n c) 41)) w.heap.size p a n c):=hid (heap_alloc_new w _);have HG0:=hid (Qb w (.cells (pgV p a n c) 41));obtain⟨W0,hW0⟩:∃X,w.alloc (.cells (pgV p a n c) 41)=X:=⟨_,rfl⟩;rw[hW0]at HB0 HG0;have HM:=hid (h.go HG0.out);have HV:=hid (Ql x.sg W0 HM.out.cells.2.2.2.2.2.2.2.2.2.2.2);have HA:=hid (fun k (hk:k<4294967296)=>QcE HM.out k hk (h.Qbq hp));have HU:=hid (fun k (hk:k<4294967296)=>Qa5 HM.out k hk (h.Qbq hp));have HSEG:=hid (hs.grown HG0.out);have HKS:=hid (bdk ho);have hlen:=hs.len;have hcap:=hs.cap;have hle:=hs.le;unfold maxLen at hcap;have HE:Hid (checkE s p=if p.tag<3∨65535<p.kids.length then 2 else if ∀j,j<p.kids.length→accE s (p.kids.getD j 0).toNat=0 then(if ∀j,j<p.kids.length→useE s (p.kids.getD j 0).toNat=0 then 0 else 8) else 2):=hid rfl;obtain⟨E,hE⟩:∃E,checkE s p=E:=⟨_,rfl⟩;rw[hE]at HE ⊢;rw[hlen]at HE;obtain⟨sg,e1⟩:∃q,x.sg=q:=⟨_,rfl⟩;rw[e1]at HV HA HU ⊢;obtain⟨S,hS⟩:∃S,strOfNums p.data=S:=⟨_,rfl⟩;unfold pgV at hW0;rw[hS]at hW0 ⊢;obtain⟨q0,q1,q2⟩:=HB0.out.cells;have HW0:=hid hW0;obtain⟨t,htt⟩:∃t,p.tag=t:=⟨_,rfl⟩;rw[htt]at HE HW0 q0 ⊢;clear hE e1 hS hW0 hs hp h ho hlen htt;by_cases h1:t<3
 ·have hE:E=2:=by rw[HE.out,if_pos (.inl h1)]
  subst hE;have r1:decide (t<3)=true:=decide_eq_true h1;clear h1 HE;go_enter Tryz.func40,Tryz.ntmps40
  go_wp2_with fail
  rw[HW0.out];refine HV.out.mono ?_;rintro e w1 ⟨rfl,rfl⟩;dsimp only;go_wp2;go_ret
  exact⟨rfl,HG0.out⟩
 ·have r1:decide (t<3)=false:=decide_eq_false h1;by_cases h2:65535<n
  ·have hE:E=2:=by rw[HE.out,if_pos (.inr h2)]
   subst hE;have r2:decide ((65535:Int)<(n:Int))=true:=decide_eq_true (by omega);clear h1 h2 HE;go_enter Tryz.func40,Tryz.ntmps40
   go_wp2_with fail
   rw[HW0.out];refine HV.out.mono ?_;rintro e w1 ⟨rfl,rfl⟩;dsimp only;go_wp2;go_ret
   exact⟨rfl,HG0.out⟩
  ·have r2:decide ((65535:Int)<(n:Int))=false:=decide_eq_false (by omega);have HE2:Hid (E=if ∀j,j<n→accE s (p.kids.getD j 0).toNat=0 then(if ∀j,j<n→useE s (p.kids.getD j 0).toNat=0 then 0 else 8) else 2):=hid (by rw[HE.out,if_neg (fun q=>q.elim h1 h2)]);have hn:n≤65535:=by omega
   clear h1 h2 HE;go_enter Tryz.func40,Tryz.ntmps40
   go_wp2_with fail
   rw[HW0.out];refine HV.out.mono ?_;rintro e w1 ⟨rfl,rfl⟩;dsimp only;go_wp2;clear r1 r2
   go_loopw [28] (fun si wr=>∃i:Nat,i≤n∧si=.int .i64 i∧Hid (∀j,j<i→accE s (p.kids.getD j 0).toNat=0)∧W0=wr) (fun si _=>n-(intOf si).toNat)
   case atStart=>exact⟨0,Nat.zero_le _,rfl,hid (fun j hj=>by omega),rfl⟩
   case round=>
    obtain⟨i,hi,rfl,HN,rfl⟩:=hrel;by_cases hlt:i<n
    ·have hq:decide (i<n)=true:=decide_eq_true hlt;obtain⟨ga,oa,rfl,hc⟩:=HSEG.out.addr (by omega);have hck:=hc i hlt;have hkb:=HKS.out i;obtain⟨y,hy⟩:∃y,p.kids.getD i 0=y:=⟨_,rfl⟩;have HY:=hid hy;rw[hy]at hck hkb;obtain⟨k,rfl⟩:∃k:Nat,y=k:=⟨y.toNat,by omega⟩;have HAK:=hid (HA.out k (by omega));have HAT:=hid (Qlc s k);obtain⟨A,hA⟩:∃A,accE s k=A:=⟨_,rfl⟩;have HAE:=hid hA;rw[hA]at HAK HAT;clear hy hc hA hkb;by_cases h3:A=0
     ·have r3:(A != 0)=false:=by rw[h3];rfl
      have HA0:Hid (accE s k=0):=hid (by rw[HAE.out];exact h3);clear h3 HAE HAT;go_wp2_with (first|(go_at_call 64;refine HAK.out.mono ?_;rintro e w' ⟨rfl,rfl⟩)|fail)
      go_roundw
      case rel=>exact⟨i+1,by omega,by go_num,hid (fun j hj=>by
       by_cases q:j<i
       ·exact HN.out j q
       ·obtain rfl:j=i:=by omega
        rw[HY.out,Int.toNat_natCast];exact HA0.out),trivial⟩
      case measure=>simp[intOf];omega
     ·have r3:(A != 0)=true:=bne_iff_ne.2 h3;have hE:E=2:=by
       rw[HE2.out,if_neg (fun q=>h3 ?_)];have:=q i hlt;rw[HY.out,Int.toNat_natCast,HAE.out]at this;exact this
      have hA2:A=2:=HAT.out.elim (fun q=>absurd q h3) id;subst hE;clear h3 HAE HAT HE2;subst hA2;go_wp2_with (first|(go_at_call 64;refine HAK.out.mono ?_;rintro e w' ⟨rfl,rfl⟩)|fail)
      go_ret
      exact⟨rfl,HG0.out⟩
    ·have hq:decide (i<n)=false:=decide_eq_false hlt;obtain rfl:i=n:=by omega
     have HE3:Hid (E=if ∀j,j<i→useE s (p.kids.getD j 0).toNat=0 then 0 else 8):=hid (by rw[HE2.out,if_pos HN.out]);have HAL:=hid HN.out;clear HE2 HN;go_wp2
     go_loopw [42] (fun si wr=>∃k:Nat,k≤i∧si=.int .i64 k∧Hid (∀j,j<k→useE s (p.kids.getD j 0).toNat=0)∧W0=wr) (fun si _=>i-(intOf si).toNat)
     case atStart=>exact⟨0,Nat.zero_le _,rfl,hid (fun j hj=>by omega),rfl⟩
     case round=>
      obtain⟨k,hk,rfl,HN,rfl⟩:=hrel;by_cases hlt2:k<i
      ·have hq2:decide (k<i)=true:=decide_eq_true hlt2;obtain⟨ga,oa,rfl,hc⟩:=HSEG.out.addr (by omega);have hck:=hc k hlt2;have hkb:=HKS.out k;obtain⟨y,hy⟩:∃y,p.kids.getD k 0=y:=⟨_,rfl⟩;have HY:=hid hy;rw[hy]at hck hkb;obtain⟨m,rfl⟩:∃m:Nat,y=m:=⟨y.toNat,by omega⟩;have HUK:=hid (HU.out m (by omega));have HUT:Hid (useE s m=0∨useE s m=8):=hid (Ql3 (by have:=HAL.out k hlt2;rw[HY.out,Int.toNat_natCast]at this;exact this));obtain⟨A,hA⟩:∃A,useE s m=A:=⟨_,rfl⟩;have HAE:=hid hA;rw[hA]at HUK HUT;clear hy hc hA hkb;by_cases h3:A=0
       ·have r3:(A != 0)=false:=by rw[h3];rfl
        have HA0:Hid (useE s m=0):=hid (by rw[HAE.out];exact h3);clear h3 HAE HUT;go_wp2_with (first|(go_at_call 82;refine HUK.out.mono ?_;rintro e w' ⟨rfl,rfl⟩)|fail)
        go_roundw
        case rel=>exact⟨k+1,by omega,by go_num,hid (fun j hj=>by
         by_cases q:j<k
         ·exact HN.out j q
         ·obtain rfl:j=k:=by omega
          rw[HY.out,Int.toNat_natCast];exact HA0.out),trivial⟩
        case measure=>simp[intOf];omega
       ·have r3:(A != 0)=true:=bne_iff_ne.2 h3;have hE:E=8:=by
         rw[HE3.out,if_neg (fun q=>h3 ?_)];have:=q k hlt2;rw[HY.out,Int.toNat_natCast,HAE.out]at this;exact this
        have hA2:A=8:=HUT.out.elim (fun q=>absurd q h3) id;subst hE;clear h3 HAE HUT HE3;subst hA2;go_wp2_with (first|(go_at_call 82;refine HUK.out.mono ?_;rintro e w' ⟨rfl,rfl⟩)|fail)
        go_ret
        exact⟨rfl,HG0.out⟩
      ·have hq2:decide (k<i)=false:=decide_eq_false hlt2;obtain rfl:k=i:=by omega
       have hE:E=0:=by rw[HE3.out,if_pos HN.out]
       subst hE;go_wp2;go_ret
       exact⟨rfl,HG0.out⟩
def shareE(s:SpS)(n:Nat):Int:=if accE s n≠0 then accE s n else Cn.addE s.now n
def shareN(s:SpS)(n:Nat):List Int:=if shareE s n=0 then s.now.set n (s.now.getD n 0+1) else s.now
theorem QjD(h:SpM w0 w x s)(n:Nat)(hn:n<4294967296)(hp:s.sup.pages.length≤100000) :
  Calls Tryz.prog 26 #[.pointer (some ⟨x.sg,0,none⟩),.int .u32 (n:Int)] w fun e w'=>e=.returned (.int .i64 (shareE s n))∧Op w0 w x { s with now:=shareN s n } w':=by
 have HA:=hid (QcE h n hn (h.Qbq hp));have HD:=hid (h.now.add n hn);have c8:=h.cells.2.2.2.2.2.2.2.2.1;have HM:=hid h;have HE:Hid (shareE s n=if accE s n≠0 then accE s n else Cn.addE s.now n):=hid rfl;have HN:Hid (accE s n=0→Cn.addN s.now n=shareN s n):=hid (fun q=>by
  unfold Cn.addN shareN shareE;rw[if_neg (show ¬accE s n≠0 from fun z=>z q)])
 have HN2:Hid (accE s n≠0→shareN s n=s.now):=hid (fun q=>by
  unfold shareN shareE;rw[if_pos q,if_neg q])
 obtain⟨E,hE⟩:∃E,shareE s n=E:=⟨_,rfl⟩;obtain⟨A,hA⟩:∃A,accE s n=A:=⟨_,rfl⟩;obtain⟨R,hR⟩:∃R,shareN s n=R:=⟨_,rfl⟩;rw[hE,hA]at HE;rw[hA,hR]at HN HN2;rw[hE,hR];rw[hA]at HA;obtain⟨sg,e1⟩:∃q,x.sg=q:=⟨_,rfl⟩;obtain⟨gn,e2⟩:∃q,x.gn=q:=⟨_,rfl⟩;have HGN:=hid e2;rw[e1]at HA c8 ⊢;rw[e2]at c8 HD;obtain⟨D,hD⟩:∃D,Cn.addE s.now n=D:=⟨_,rfl⟩;rw[hD]at HD HE;clear hE hA e1 e2 h hp hD hR;by_cases h1:A=0
 ·have q1:(A != 0)=false:=by rw[h1];rfl
  have hE:E=D:=by rw[HE.out,if_neg (fun q=>q h1)]
  have HN3:=hid (HN.out h1);subst hE;clear h1 HE HN HN2;go_enter Tryz.func26,Tryz.ntmps26
  go_wp2_with (first|(go_at_call 64;refine HA.out.mono ?_;rintro e w' ⟨rfl,rfl⟩)|fail)
  refine HD.out.mono ?_;rintro e w1 ⟨rfl,hc,ht⟩;have HO:Hid (Op w0 w x { s with now:=R } w1):=hid (by
   rw[←HN3.out];exact HM.out.opNow (by rw[HGN.out];exact hc) ht)
  clear hc ht;dsimp only;go_wp2;go_ret
  exact⟨rfl,HO.out⟩
 ·have q1:(A != 0)=true:=bne_iff_ne.2 h1;have hE:E=A:=by rw[HE.out,if_pos h1]
  have HO:Hid (Op w0 w x { s with now:=R } w):=hid (by
   rw[HN2.out h1];exact Op.same HM.out (QaR w))
  subst hE;clear h1 HE HN HN2;go_enter Tryz.func26,Tryz.ntmps26
  go_wp2_with (first|(go_at_call 64;refine HA.out.mono ?_;rintro e w' ⟨rfl,rfl⟩)|fail)
  go_ret
  exact⟨rfl,HO.out⟩
end
end Sp
namespace Sp
open Go.RowKit Bs Dv Gr
open Cn (CN CC CnOk IsC TakeR freeC TookC)
open Su (Sup SupOk)
open Fr (strE putF Fits blk)
theorem Qh3{s:SpS}{k:Nat}(h1:k<s.dv.blocks)(h2:mayP s k=true)(h3:∀j,j<k→mayP s j=false):∃l,frees s=k :: l:=by
 have hm:k∈frees s:=QaM.2 ⟨h1,h2⟩;have hs:=QaL s;cases hf:frees s with
 |nil=>rw[hf]at hm;cases hm
 |cons a l=>
  rw[hf]at hm hs;have ha:mayP s a=true:=(QaM.1 (by rw[hf];exact List.mem_cons_self ..)).2;refine⟨l,?_⟩;rcases List.mem_cons.1 hm with e|e
  ·rw[e]
  ·have:=(List.pairwise_cons.1 hs).1 k e;rw[h3 a this]at ha;cases ha
section
variable {w0 w w' : World} {x : Nm} {s : SpS}
theorem SpM.Qa2(h:SpM w0 w x s){K:List Int}(hk:∀i,K.getD i 0=0↔s.held.getD i 0=0∧∀m,s.mark=some m→m.getD i 0=0)(i:Nat):freeC K s.now i↔i<s.dv.blocks∧mayP s i=true:=by
 rw[h.may hk];unfold freeC;rw[h.now.ok.len];refine⟨fun q=>⟨q.2.1,q.2.2⟩,fun q=>⟨?_,q.1,q.2⟩⟩;exact((QY s i).1 ((h.may hk i).2 q.2)).1
theorem SpM.took(h:SpM w0 w x s){K:List Int}(hk:∀i,K.getD i 0=0↔s.held.getD i 0=0∧∀m,s.mark=some m→m.getD i 0=0){n:Nat}{l:List Nat}(hf:frees s=n :: l){e:Ending}(ht:TookC K s.now x.gn x.hn x.cn s.dv.size w e w') :
  e=.returned (.tuple #[.int .u32 (n:Int),.int .i64 0])∧SpM w0 w' x { s with now:=s.now.set n 1 }∧Turn w w' (·=x.hn):=by
 have hn:n∈frees s:=by rw[hf];exact List.mem_cons_self ..
 have hfr:=(h.Qa2 hk n).2 (QaM.1 hn);rcases ht with ⟨t,⟨k,hr,rfl,hc⟩|⟨hr,rfl,hc⟩⟩
 ·cases hr with
  |one _ h1 h2=>
   have hkm:=(h.Qa2 hk k).1 h1;have e:k=n:=by
    obtain⟨l2,e⟩:=Qh3 hkm.1 hkm.2 (fun j hj=>by
     cases q:mayP s j with
     |false=>rfl
     |true=>exact absurd ((h.Qa2 hk j).2 ⟨by omega,q⟩) (h2 j hj))
    rw[hf]at e;exact(List.cons.inj e).1.symm
   subst e;refine⟨rfl,h.turnNow ⟨hc,?_,h.now.new,h.now.newg,Qao h.gr t (fun i e=>by have e2:i=x.hn:=e;rw[e2];exact h.now.new)⟩ t,t⟩;exact h.now.ok.set k hfr.1 1 (by decide)
 ·cases hr with
  |full h2=>exact absurd hfr (h2 n)
def putErr(s:SpS)(p:Pg):Int:=if checkE s p≠0 then checkE s p else if (putF s.dv.size (p.tag,s.sup.gen+1,dataP p)).2≠0 then(putF s.dv.size (p.tag,s.sup.gen+1,dataP p)).2 else if (frees s).length≤s.sup.pages.length then 9 else 0
def PutX(w0 w:World)(x:Nm)(s:SpS)(p:Pg)(e:Ending)(w':World):Prop:=
 (putErr s p≠0∧e=.returned (.tuple #[.int .u32 0,.int .i64 (putErr s p)])∧Op w0 w x s w') ∨
  ∃(n:Nat) (l:List Nat),putErr s p=0∧frees s=n :: l∧s.sup.pages.length≤l.length∧e=.returned (.tuple #[.int .u32 (n:Int),.int .i64 0])∧Op w0 w x (putP s p n) w'
theorem QlM{N:Nat}{f:Fr.Fm}(h:(putF N f).2=0):putF N f=(blk N f.1 f.2.1 f.2.2,0)∧f.2.2.length+16≤N:=by
 unfold putF at h ⊢;by_cases h1:¬Fits (N:Int)
 ·rw[if_pos h1]at h;cases h
 ·rw[if_neg h1]at h ⊢;by_cases h2:(N:Int)-16<(f.2.2.length:Int)
  ·rw[if_pos h2]at h;cases h
  ·rw[if_neg h2];exact⟨rfl,by omega⟩
theorem QbU     (h:SpM w0 w x s) (p:Pg) (a:Option Addr) (c:Nat) (ho:PgOk p) (hs:Ws.Seg w a p.kids.length c p.kids) (hdl:p.data.length≤1000000000) (hp:s.sup.pages.length≤100000)
    (hg:0≤s.sup.gen∧s.sup.gen<18446744073709551615) (hfu:s.dv.fuse=-1) (hpd:s.dv.pend.length<1000000) (hop:s.dv.ops<1000000) :
    Calls Tryz.prog 14 #[.pointer (some ⟨x.sg,0,none⟩),.agg #[.int .u8 p.tag,.slice a p.kids.length c,.string (strOfNums p.data)]] w (PutX w0 w x s p):=by
  have HB0:Hid (PB (w.alloc (.cells (pgV p a p.kids.length c) 41)) w.heap.size p a p.kids.length c):=hid (heap_alloc_new w _)
  have HG0:=hid (Qb w (.cells (pgV p a p.kids.length c) 41))
  obtain⟨W0,hW0⟩:∃X,w.alloc (.cells (pgV p a p.kids.length c) 41)=X:=⟨_,rfl⟩
  rw[hW0]at HB0 HG0
  have HM0:=hid h
  have HM:=hid (h.go HG0.out)
  have HCK:=hid (QT HM.out p a p.kids.length c ho.kids (hs.grown HG0.out) hp)
  have HSEG:=hid hs
  have HPO:=hid ho
  have HDP:Hid (IsB (dataP p)):=hid (Qcg p ho.data)
  have HE:Hid (putErr s p=if checkE s p≠0 then checkE s p else if (putF s.dv.size (p.tag,s.sup.gen+1,dataP p)).2≠0 then(putF s.dv.size (p.tag,s.sup.gen+1,dataP p)).2 else if (frees s).length≤s.sup.pages.length then 9 else 0):=hid rfl
  obtain⟨E,hE⟩:∃E,putErr s p=E:=⟨_,rfl⟩
  have HEE:=hid hE
  rw[hE]at HE
  obtain⟨C,hC⟩:∃C,checkE s p=C:=⟨_,rfl⟩
  rw[hC]at HE HCK
  have HCC:=hid hC
  obtain⟨⟨B,Z⟩,hF⟩:∃r,putF s.dv.size (p.tag,s.sup.gen+1,dataP p)=r:=⟨_,rfl⟩
  rw[hF]at HE
  have HF:=hid hF
  dsimp only at HE
  obtain⟨sg,e1⟩:∃q,x.sg=q:=⟨_,rfl⟩
  have HSG:=hid e1
  rw[e1]at HCK ⊢
  obtain⟨S,hS⟩:∃S,strOfNums p.data=S:=⟨_,rfl⟩
  obtain⟨t,ht⟩:∃t,p.tag=t:=⟨_,rfl⟩
  obtain⟨k,hk⟩:∃k,p.kids.length=k:=⟨_,rfl⟩
  unfold pgV at hW0
  obtain⟨q0,q1,q2⟩:=HB0.out.cells
  rw[hS,ht,hk]at hW0 HCK ⊢
  rw[ht]at q0
  rw[hk]at q1
  rw[hS]at q2
  have HW0:=hid hW0
  have HS:=hid hS
  have HT:=hid ht
  have HK:=hid hk
  clear hE hC hF e1 hS ht hk hW0 hs ho h
  go_enter Tryz.func14,Tryz.ntmps14
  go_wp2_with fail
  rw[HW0.out]
  refine HCK.out.mono ?_
  rintro e w1 ⟨rfl,hg1⟩
  have HG1:=hid (Qa HG0.out hg1)
  have HM1:=hid (HM.out.go hg1)
  have HB1:=hid (HB0.out.old hg1)
  clear q0 q1 q2 hg1 HM HB0 HCK HG0 HW0
  dsimp only
  by_cases h0:C=0
  · have r0 : (C != 0)=false:=by rw[h0];rfl
    have HE2:Hid (E=if Z≠0 then Z else if (frees s).length≤s.sup.pages.length then 9 else 0):=hid (by rw[HE.out,if_neg (fun q=>q h0)])
    have HNX:=hid (Qgp HM1.out hg)
    rw[HSG.out]at HNX
    have HCZ:Hid (p.kids.length≤65535):=hid (Classical.byContradiction fun q=>by
      have h1:checkE s p=2:=by unfold checkE;rw[if_pos (.inr (by omega))]
      rw[HCC.out,h0]at h1
      cases h1)
    clear h0 HE
    go_wp2_with (first|(go_at_call 41;refine HNX.out.mono ?_;rintro e w' ⟨rfl,rfl⟩)|fail)
    have c2:=HM1.out.cells.2.2.1
    rw[HSG.out]at c2
    obtain⟨N,hN⟩:∃N,s.dv.size=N:=⟨_,rfl⟩
    have HN:=hid hN
    rw[hN]at c2
    obtain⟨b0,b1,b2⟩:=HB1.out.cells
    rw[HT.out]at b0
    rw[HK.out]at b1
    rw[HS.out]at b2
    have HEN:Hid (∀W,w.grownBy W none→Calls Tryz.prog 42 #[.int .i64 (N:Int),.int .u64 (s.sup.gen+1),.agg #[.int .u8 t,.slice a k c,.string S]] W fun e w'=>e=.returned (.tuple #[.string (strOfNums B),.int .i64 Z])∧W.grownBy w' none):=hid (fun W hW=>by
      have h1:=QhS N (s.sup.gen+1) p a p.kids.length c W HPO.out (HSEG.out.grown hW) (by omega) HCZ.out hdl
      have h2:(putF (N:Int) (p.tag,s.sup.gen+1,dataP p))=(B,Z):=by rw[←HN.out];exact HF.out
      rw[h2,HT.out,HK.out,HS.out]at h1
      exact h1)
    clear hN HNX
    go_region_held3 (fun w'=>w'.cell? ⟨sg,2,none⟩=some (.int .i64 (N:Int))∧w'.cell? ⟨w.heap.size,0,none⟩=some (.int .u8 t)∧w'.cell? ⟨w.heap.size,1,none⟩=some (.slice a k c)∧w'.cell? ⟨w.heap.size,2,none⟩=some (.string S)) (go_keep)
      (first
        | (go_at_call 42
           (with_reducible refine(HEN.out _ (Qa HG1.out (Qn w1))).mono ?_)
           rintro e w3 ⟨rfl,hg3⟩
           have hg4:=Qa (Qn w1) hg3
           have HG3:=hid (Qa HG1.out hg4)
           have HM3:=hid (HM1.out.go hg4)
           have k0:=(Qc hg4).cell c2 id
           have k1:=(Qc hg4).cell b0 id
           have k2:=(Qc hg4).cell b1 id
           have k3:=(Qc hg4).cell b2 id
           clear hg3 hg4)
        |fail)
    clear b0 b1 b2 c2 k0 k1 k2 k3 HB1 HEN HM1 HG1
    by_cases h1:Z=0
    · have r1 : (Z != 0)=false:=by rw[h1];rfl
      have HE3:Hid (E=if (frees s).length≤s.sup.pages.length then 9 else 0):=hid (by rw[HE2.out,if_neg (fun q=>q h1)])
      have HZ:=hid h1
      clear h1 HE2
      have hnp:x.np=s.sup.pages.length:=HM3.out.pages.len.symm
      have HFR:=hid (fun W (k:w3.grownBy W none)=>QfX (HM3.out.go k))
      have c5:=HM3.out.cells.2.2.2.2.2.1
      rw[HSG.out]at HFR c5
      rw[←hnp]at HE3
      have HFL:Hid (¬(frees s).length≤x.np→∃n l,frees s=n :: l∧s.sup.pages.length≤l.length):=hid (fun q=>by
        cases hf:frees s with
        |nil=>rw[hf]at q;exact absurd (Nat.zero_le _) q
        |cons n l=>rw[hf,List.length_cons]at q;exact⟨n,l,rfl,by omega⟩)
      obtain⟨F,hF⟩:∃F,(frees s).length=F:=⟨_,rfl⟩
      rw[hF]at HE3 HFR HFL
      obtain⟨ap,e5⟩:∃q,x.ap=q:=⟨_,rfl⟩
      obtain⟨np,e6⟩:∃q,x.np=q:=⟨_,rfl⟩
      obtain⟨cp,e7⟩:∃q,x.cp=q:=⟨_,rfl⟩
      rw[e5,e6,e7]at c5
      rw[e6]at HE3 HFL
      clear hnp hF e5 e6 e7
      by_cases h2:F≤np
      · have r2 : decide (F≤np)=true:=decide_eq_true h2
        have hE:E=9:=by rw[HE3.out,if_pos h2]
        subst hE
        clear h2 HE3 HFL
        go_upto_region 8 with fail
        go_region_held3 (fun w'=>w'.cell? ⟨sg,5,none⟩=some (.slice ap np cp)) (go_keep)
          (first
            | (go_at_call 17
               (with_reducible refine(HFR.out _ (Qn w3)).mono ?_)
               rintro e w4 ⟨rfl,rfl⟩
               have HX:Hid (PutX w0 w x s p (.returned (.tuple #[.int .u32 0,.int .i64 9])) w3.drew):=hid (.inl ⟨by rw[HEE.out];decide,by rw[HEE.out],Op.same HM0.out (Qa HG3.out (Qn w3))⟩))
            |fail)
        go_wp2
        go_ret2
        exact HX.out
      · have r2 : decide (F≤np)=false:=decide_eq_false h2
        have hE:E=0:=by rw[HE3.out,if_neg h2]
        subst hE
        obtain⟨n,l,hf,hll⟩:=HFL.out h2
        clear h2 HE3 HFL
        go_upto_region 8 with fail
        go_region_held3 (fun w'=>w'.cell? ⟨sg,5,none⟩=some (.slice ap np cp)) (go_keep)
          (first
            | (go_at_call 17
               (with_reducible refine(HFR.out _ (Qn w3)).mono ?_)
               rintro e w4 ⟨rfl,rfl⟩)
            |fail)
        have HG4:=hid (Qa HG3.out (Qn w3))
        have HM4:=hid (HM3.out.go (Qn w3))
        obtain⟨w4,hw4⟩:∃X,w3.drew=X:=⟨_,rfl⟩
        rw[hw4]at HG4 HM4 ⊢
        clear hw4 c5 HFR HM3 HG3
        have r3:(s.sup.gen+1==0)=false:=beq_eq_false_iff_ne.2 (by omega)
        go_upto_region 12 with fail
        have hM:=HM4.out.go (Qn w4)
        obtain⟨K,hK,hkk⟩:=hM.keep
        have HTK:=hid (hM.now.takeh hK)
        have HTD:Hid (∀e w',TookC K s.now x.gn x.hn x.cn s.dv.size w4.drew e w'→e=.returned (.tuple #[.int .u32 (n:Int),.int .i64 0])∧SpM w0 w' x { s with now:=s.now.set n 1 }∧Turn w4.drew w' (·=x.hn)):=hid (fun e w' h=>hM.took hkk hf h)
        have HF2:=hid hf
        have HLL:=hid hll
        have hn:=(QaM.1 (show n∈frees s by rw[hf];exact List.mem_cons_self ..)).1
        have HWR:Hid (s.dv.write (n:Int) B=(0,(putP s p n).dv)∧IsB B∧B.length≤100000000):=hid (by
          have h1:(putF (s.dv.size:Int) (p.tag,s.sup.gen+1,dataP p)).2=0:=by rw[HF.out];exact HZ.out
          obtain⟨h3,h4⟩:=QlM h1
          rw[HF.out]at h3
          have h5:B=blk s.dv.size p.tag (s.sup.gen+1) (dataP p):=(Prod.mk.inj h3).1
          have h6:=Fr.Qo s.dv.size p.tag (s.sup.gen+1) (dataP p) h4
          have h7:=QaC s.dv n _ hfu hn h6
          rw[h5]
          have hd:=HM4.out.dims
          refine⟨?_,Fr.QaD _ _ _ _ HPO.out.tag HDP.out,by rw[h6];omega⟩
          show s.dv.write (n:Int) (blk s.dv.size p.tag (s.sup.gen+1) (dataP p))=(0,(s.dv.write (n:Int) (blk s.dv.size p.tag (s.sup.gen+1) (dataP p))).2)
          rw[h7])
        have hn4:n≤4096:=by have:=HM4.out.dims;omega
        have c8:=HM4.out.cells.2.2.2.2.2.2.2.2.1
        have c10:=HM4.out.cells.2.2.2.2.2.2.2.2.2.2.1
        have HSH:Hid (sg≠x.hn):=hid (by rw[←HSG.out];exact fun e=>HM4.out.own.2.2 e.symm)
        have HHN:Hid (∃hn,x.hn=hn):=hid ⟨_,rfl⟩
        rw[HSG.out]at c8 c10
        obtain⟨gn,e8⟩:∃q,x.gn=q:=⟨_,rfl⟩
        obtain⟨gk,e9⟩:∃q,x.gk=q:=⟨_,rfl⟩
        rw[e8]at c8 HTK HTD
        rw[e9]at c10 HTK
        clear hM hkk hf hll e8 e9 hn
        go_region_held3 (fun w'=>w'.cell? ⟨sg,8,none⟩=some (.pointer (some ⟨gn,0,none⟩))∧w'.cell? ⟨sg,10,none⟩=some (.pointer (some ⟨gk,0,none⟩))) (go_keep)
          (first
            | (go_at_call 43
               (with_reducible refine HTK.out.mono ?_)
               intro e w5 ht5
               obtain⟨rfl,hm5,tt5⟩:=HTD.out _ _ ht5
               have HM5:=hid hm5
               have HT5:=hid tt5
               have k8:=tt5.cell (p:=⟨sg,8,none⟩) (by exact c8) HSH.out
               have k10:=tt5.cell (p:=⟨sg,10,none⟩) (by exact c10) HSH.out
               clear ht5 hm5 tt5)
            |fail)
        clear k8 k10 c8 c10 HTK HTD
        have c0:=HM5.out.cells.1
        rw[HSG.out]at c0
        have HW:=hid (Dv.write_any x.g x.b x.P s.dv (n:Int) B w5 HM5.out.dev.dev HWR.out.2.1 HWR.out.2.2 hpd hop)
        obtain⟨dg,e10⟩:∃q,x.g=q:=⟨_,rfl⟩
        have HDG:=hid e10
        rw[e10]at c0 HW
        have r4:IntKind.i64.wrap (n:Int)=(n:Int):=IntWalk.i64_in _ (by omega)
        obtain⟨S5,hS5⟩:∃X,strOfNums B=X:=⟨_,rfl⟩
        rw[hS5]at HW ⊢
        clear e10 hS5
        go_wp2_with fail
        refine HW.out.mono ?_
        intro e w6 hw6
        rw[←HDG.out,HWR.out.1]at hw6
        obtain⟨P',rfl,hd6,ht6,hf6⟩:=HM5.out.dev.wrote hw6
        have HX:Hid (PutX w0 w x s p (.returned (.tuple #[.int .u32 (n:Int),.int .i64 0])) w6):=hid (by
          refine .inr ⟨n,l,HEE.out,HF2.out,HLL.out,rfl,?_⟩
          have hsz:(putP s p n).dv.size=s.dv.size∧(putP s p n).dv.blocks=s.dv.blocks:=by
            have h1:=HWR.out.1
            have h2:(putP s p n).dv=(s.dv.write (n:Int) B).2:=by rw[h1]
            rw[h2]
            unfold Dv.St.write
            by_cases q:¬(s.dv.hasB (n:Int)∧B.length=s.dv.size)
            · rw[if_pos q];exact⟨rfl,rfl⟩
            · rw[if_neg q]
              by_cases q2:s.dv.fuse=0
              · rw[if_pos q2];exact⟨rfl,rfl⟩
              · rw[if_neg q2];exact⟨rfl,rfl⟩
          have h7:Op w0 w5 x { ({ s with now:=s.now.set n 1 }:SpS) with dv:=(putP s p n).dv } w6:=HM5.out.opDev hd6 ht6 hf6 hsz.1 hsz.2
          have ht1:Turn w w4.drew x.fp:=(Qc (Qa HG4.out (Qn w4))).mono (fun _ _ e=>e.elim)
          have ht2:Turn w w5 x.fp:=ht1.trans HT5.out (fun i _ e=>by have e2:i=x.hn:=e;exact .inl (.inr (.inl e2)))
          exact Op.trans ht2 rfl rfl (fun k q=>.inl q) h7)
        clear hw6 hd6 ht6 hf6 HW
        dsimp only
        go_wp2
        go_ret2
        exact HX.out
    · have r1:(Z != 0)=true:=bne_iff_ne.2 h1
      have hE:E=Z:=by rw[HE2.out,if_pos h1]
      subst hE
      have HX:Hid (PutX w0 w x s p (.returned (.tuple #[.int .u32 0,.int .i64 E])) w3):=hid (.inl ⟨by rw[HEE.out];exact h1,by rw[HEE.out],Op.same HM0.out HG3.out⟩)
      clear h1 HE2
      go_wp2
      go_ret2
      exact HX.out
  · have r0:(C != 0)=true:=bne_iff_ne.2 h0
    have hE:E=C:=by rw[HE.out,if_pos h0]
    subst hE
    have HX:Hid (PutX w0 w x s p (.returned (.tuple #[.int .u32 0,.int .i64 E])) w1):=hid (.inl ⟨by rw[HEE.out];exact h0,by rw[HEE.out],Op.same HM0.out HG1.out⟩)
    clear h0 HE
    go_wp2
    go_ret2
    exact HX.out
end
end Sp
namespace Sp
open Go.RowKit Bs Dv Gr
open Cn (CN CC CnOk IsC)
open Su (Sup SupOk)
def kidsM:Option Pg→List Int
 |some p=>p.kids
 |none=>[]
def relK(s:SpS)(n:Nat):List Int:=if s.now.getD n 0=1 then kidsM (pageF s.dv.blocks (s.dv.last n)) else []
def relS(s:SpS)(n:Nat):SpS:={ s with now:=s.now.set n (s.now.getD n 0-1) }
def RelX(w0 w:World)(x:Nm)(s:SpS)(n:Nat)(e:Ending)(w':World):Prop:=
 ∃(t:Int) (a:Option Addr) (c:Nat) (S:ByteArray),e=.returned (.tuple #[.agg #[.int .u8 t,.slice a (relK s n).length c,.string S],.int .i64 0])∧Ws.Seg w' a (relK s n).length c (relK s n)∧(∀ad,a=some ad→w.heap.size≤ad.block) ∧
  SpM w0 w' x (relS s n)∧Turn w w' (·=x.hn)
section
variable {w0 w : World} {x : Nm} {s : SpS}
theorem QbJ{W W':World}{q b:Nat}(t:Turn w W (·=q))(k:Turn W W' (·=b))(hb:w.heap.size≤b):Turn w W' (·=q):=t.trans k (fun i hi e=>by have e2:i=b:=e;omega)
theorem SpM.beside{w':World}{b:Nat}(h:SpM w0 w x s)(k:Turn w w' (·=b))(hb:¬x.fp b)(h0:w0.heap.size≤b):SpM w0 w' x s:=
 h.turn k (fun i hi e=>by have e2:i=b:=e;exact hb (e2▸hi)) (Qao h.gr k (fun i e=>by have e2:i=b:=e;omega))
theorem SpM.size0(h:SpM w0 w x s):w0.heap.size≤w.heap.size:=h.gr.size
theorem release_yes (h:SpM w0 w x s) (n:Nat) (hn:n<4294967296) (hp:s.sup.pages.length≤100000) (hu:useE s n=0) (hpg:s.now.getD n 0=1→pageF s.dv.blocks (s.dv.last n)≠none) :
    Calls Tryz.prog 63 #[.pointer (some ⟨x.sg,0,none⟩),.int .u32 (n:Int)] w (RelX w0 w x s n):=by
  have HC0:=hid (heap_alloc_new w (.cells #[.int .u8 0,.slice none 0 0,.string ⟨#[]⟩] 41))
  have HG0:=hid (Qb w (.cells #[.int .u8 0,.slice none 0 0,.string ⟨#[]⟩] 41))
  obtain⟨W0,hW0⟩:∃X,w.alloc (.cells #[.int .u8 0,.slice none 0 0,.string ⟨#[]⟩] 41)=X:=⟨_,rfl⟩
  have hs0:W0.heap.size=w.heap.size+1:=by rw[←hW0];simp
  rw[hW0]at HC0 HG0
  have HW0:=hid hW0
  have HG1:=hid (Qa HG0.out (Qb W0 (.cells #[.int .u8 0,.slice none 0 0,.string ⟨#[]⟩] 41)))
  have HC1:=hid (Qd HC0.out (Qb W0 (.cells #[.int .u8 0,.slice none 0 0,.string ⟨#[]⟩] 41)))
  have HD1:=hid (heap_alloc_new W0 (.cells #[.int .u8 0,.slice none 0 0,.string ⟨#[]⟩] 41))
  rw[hs0]at HD1
  obtain⟨W1,hW1⟩:∃X,W0.alloc (.cells #[.int .u8 0,.slice none 0 0,.string ⟨#[]⟩] 41)=X:=⟨_,rfl⟩
  rw[hW1]at HC1 HG1 HD1
  have HW1:=hid hW1
  have HS0:=hid hs0
  have HM1:=hid (h.go HG1.out)
  have HU:=hid (Qa5 (h.go HG0.out) n hn (h.Qbq hp))
  have HCT:=hid (Qc7 HM1.out n hn)
  have HGT:=hid (Q9 HM1.out n hn hp)
  have HFP:Hid (∀k,x.fp k→k<w.heap.size):=hid (fun k hk=>h.lt hk)
  have HZ0:=hid h.size0
  rw[hu]at HU
  have HUO:=hid (QeF hu)
  have HGE:Hid (s.now.getD n 0=1→getErr s n=0):=hid (fun q=>by
    unfold getErr
    rw[if_neg (fun z=>z hu),if_neg (hpg q)])
  have HSE:Hid (Cn.subE s.now n=0∧Cn.subN s.now n=s.now.set n (s.now.getD n 0-1)):=hid (by
    obtain⟨a,b,_,d⟩:=QeF hu
    have h1:Cn.subE s.now n=0:=by
      unfold Cn.subE
      rw[if_neg (fun z=>z ⟨a,by rw[h.now.ok.len];exact b⟩),if_neg d]
    exact⟨h1,if_pos h1⟩)
  have HSB:=hid (fun W (m:SpM w0 W x s)=>m.now.sub n hn)
  obtain⟨v,hv⟩:∃v,s.now.getD n 0=v:=⟨_,rfl⟩
  have HV:=hid hv
  rw[hv]at HCT HGE
  obtain⟨sg,e1⟩:∃q,x.sg=q:=⟨_,rfl⟩
  have HSG:=hid e1
  rw[e1]at HU HCT HGT ⊢
  obtain⟨gn,e2⟩:∃q,x.gn=q:=⟨_,rfl⟩
  have HGN:=hid e2
  rw[e2]at HSB
  clear hW0 hW1 hs0 hp hu hpg hv h e1 e2
  go_enter Tryz.func63,Tryz.ntmps63
  go_wp2_with fail
  rw[HW0.out]
  refine HU.out.mono ?_
  rintro e w1 ⟨rfl,rfl⟩
  dsimp only
  go_upto_region 5 with fail
  rw[HW1.out,HS0.out]
  clear HW0 HW1 HU HC0
  by_cases h1:v=1
  · have q1 : (v==1)=true:=beq_iff_eq.2 h1
    have HG0E:=hid (HGE.out h1)
    have HRK:Hid (∀p,pageF s.dv.blocks (s.dv.last n)=some p→relK s n=p.kids):=hid (fun p hp=>by unfold relK;rw[if_pos (HV.out.trans h1),hp];rfl)
    clear h1 HGE
    go_wp2_with (first|(go_at_call 29;refine HCT.out.mono ?_;rintro e w' ⟨rfl,rfl⟩)|fail)
    refine HGT.out.mono ?_
    rintro e w2 ⟨hg2,hx⟩
    rcases hx with ⟨hno,rfl⟩|⟨p,a,c,_,hpp,rfl,hseg,hnew⟩
    · exact absurd HG0E.out hno
    · have HG3:=hid (Qa         HG1.out (Qa         hg2 (Qb          w2 (.cells (pgV p a p.kids.length c) 41))))
      have hgg:=Qa hg2 (Qb w2 (.cells (pgV p a p.kids.length c) 41))
      have HC3:=hid (Qd HC1.out hgg)
      have HD3:=hid (Qd HD1.out hgg)
      have HN3:=hid (heap_alloc_new w2 (.cells (pgV p a p.kids.length c) 41))
      have HM3:=hid (HM1.out.go hgg)
      have HSG3:=hid (hseg.grown (Qb w2 (.cells (pgV p a p.kids.length c) 41)))
      have hlt2:w.heap.size+1<w2.heap.size:=by have:=block_lt HD1.out;have:=hg2.size;omega
      have HLT2:=hid hlt2
      have HNW:Hid (∀ad,a=some ad→w.heap.size+1<ad.block):=hid (fun ad had=>by have:=hnew ad had;have:=block_lt HD1.out;omega)
      obtain⟨W3,hW3⟩:∃X,w2.alloc (.cells (pgV p a p.kids.length c) 41)=X:=⟨_,rfl⟩
      rw[hW3]at HC3 HD3 HG3 HN3 HSG3 HM3
      have HW3:=hid hW3
      obtain⟨T,hT⟩:∃T,strOfNums p.data=T:=⟨_,rfl⟩
      obtain⟨l,hl⟩:∃l,p.kids.length=l:=⟨_,rfl⟩
      obtain⟨t,ht⟩:∃t,p.tag=t:=⟨_,rfl⟩
      unfold pgV at HW3 HN3
      rw[hT,hl,ht]at HW3 HN3
      dsimp only[pgV]
      rw[hT,hl,ht]
      have HKS:Hid (relK s n=p.kids):=hid (HRK.out p hpp)
      have HL:Hid ((relK s n).length=l):=hid (by rw[HKS.out,hl])
      have HSGK:Hid (Ws.Seg W3 a l c (relK s n)):=hid (by rw[HKS.out,←hl];exact HSG3.out)
      clear hW3 hg2 hgg hpp hseg hnew hT hl ht HSG3 HRK hlt2
      go_upto_region 7 with fail
      rw[HW3.out]
      clear HW3
      go_wp2_with (first
        |(with_reducible refine Qar rfl (.tmp 8) rfl w2.heap.size rfl _ _ _ HN3.out ?_)
        | (with_reducible refine Qt              rfl (.tmp 7) (.tmp 33) rfl (w.heap.size+1) rfl (.int .u8 t) (.slice a l c) (.string T) rfl rfl rfl rfl _ _ _ HD3.out ?_;intro w4 hq4 ht4
           have HM4:=hid (HM3.out.beside ht4 (fun q=>by have:=HFP.out _ q;omega) (by have:=HZ0.out;omega))
           have HQ4:=hid hq4
           have HC4:=hid (Fr.Qg HC3.out ht4 (by omega))
           have HT4:Hid (Turn w w4 (·=x.hn)):=hid (QbJ ((Qc HG3.out).mono (fun _ _ e=>e.elim)) ht4 (by omega))
           have HSG4:=hid (Qp HSGK.out ht4 (fun ad had e=>by have:=HNW.out ad had;have e2:ad.block=w.heap.size+1:=e;omega))
           have c8:=HM4.out.cells.2.2.2.2.2.2.2.2.1
           rw[HSG.out,HGN.out]at c8
           clear hq4 ht4)
        |fail)
      refine(HSB.out w4 HM4.out).mono ?_
      rintro e w5 ⟨rfl,hc5,ht5⟩
      rw[HSE.out.1]
      have HM5:Hid (SpM w0 w5 x (relS s n)):=hid (by
        have h9:=HM4.out.turnNow (by rw[HGN.out];exact hc5) ht5
        rw[HSE.out.2]at h9
        exact h9)
      have hhn:x.hn<w.heap.size:=HFP.out _ (.inl (.inr (.inl rfl)))
      have HQ5:=hid (Fr.Qg HQ4.out ht5 (by omega))
      have HC5:=hid (Fr.Qg HC4.out ht5 (by omega))
      have HT5:Hid (Turn w w5 (·=x.hn)):=hid (HT4.out.trans ht5 (fun _ _ e=>e))
      have HSG5:=hid (Qp HSG4.out ht5 (fun ad had e=>by have:=HNW.out ad had;have e2:ad.block=x.hn:=e;omega))
      obtain⟨V,hV⟩:∃V,Cn.subV s.now n=V:=⟨_,rfl⟩
      rw[hV]
      clear hc5 ht5 hV hhn c8
      dsimp only
      go_wp2_with (first
        |(with_reducible refine Qar rfl (.tmp 7) rfl (w.heap.size+1) rfl _ _ _ HQ5.out ?_)
        |(with_reducible refine Qt rfl (.tmp 4) (.tmp 47) rfl w.heap.size rfl (.int .u8 t) (.slice a l c) (.string T) rfl rfl rfl rfl _ _ _ HC5.out ?_;intro w6 hq6 ht6)
        |fail)
      refine bodyPost_ret (QD rfl _ _ _ _ _ _ (.int .i64 0) rfl hq6 rfl) rfl ⟨t,a,c,T,by rw[HL.out],?_,fun ad had=>by have:=HNW.out ad had;omega,HM5.out.beside ht6 (fun q=>by have:=HFP.out _ q;omega) HZ0.out,QbJ HT5.out ht6 (Nat.le_refl _)⟩
      rw[HL.out]
      exact Qp HSG5.out ht6 (fun ad had e=>by have:=HNW.out ad had;have e2:ad.block=w.heap.size:=e;omega)
  · have q1:(v==1)=false:=beq_eq_false_iff_ne.2 h1
    have HRK:Hid (relK s n=[]):=hid (by unfold relK;rw[if_neg (fun q=>h1 (HV.out.symm.trans q))])
    have c8:=HM1.out.cells.2.2.2.2.2.2.2.2.1
    rw[HSG.out,HGN.out]at c8
    clear h1 HGE HGT
    go_wp2_with (first|(go_at_call 29;refine HCT.out.mono ?_;rintro e w' ⟨rfl,rfl⟩)|fail)
    refine(HSB.out W1 HM1.out).mono ?_
    rintro e w5 ⟨rfl,hc5,ht5⟩
    rw[HSE.out.1]
    have HM5:Hid (SpM w0 w5 x (relS s n)):=hid (by
      have h9:=HM1.out.turnNow (by rw[HGN.out];exact hc5) ht5
      rw[HSE.out.2]at h9
      exact h9)
    have hhn:x.hn<w.heap.size:=HFP.out _ (.inl (.inr (.inl rfl)))
    have HQ5:=hid (Fr.Qg HD1.out ht5 (by omega))
    have HC5:=hid (Fr.Qg HC1.out ht5 (by omega))
    have HT5:Hid (Turn w w5 (·=x.hn)):=hid (((Qc HG1.out).mono (fun _ _ e=>e.elim)).trans ht5 (fun _ _ e=>e))
    obtain⟨V,hV⟩:∃V,Cn.subV s.now n=V:=⟨_,rfl⟩
    rw[hV]
    clear hc5 ht5 hV hhn c8
    dsimp only
    go_wp2_with (first
      |(with_reducible refine Qar rfl (.tmp 7) rfl (w.heap.size+1) rfl _ _ _ HQ5.out ?_)
      |(with_reducible refine Qt rfl (.tmp 4) (.tmp 47) rfl w.heap.size rfl (.int .u8 0) (.slice none 0 0) (.string ⟨#[]⟩) rfl rfl rfl rfl _ _ _ HC5.out ?_;intro w6 hq6 ht6)
      |fail)
    refine bodyPost_ret (QD rfl _ _ _ _ _ _ (.int .i64 0) rfl hq6 rfl) rfl ⟨0,none,0,⟨#[]⟩,by rw[HRK.out];rfl,by rw[HRK.out];exact Ws.Seg.nil _,(fun ad had=>by cases had),HM5.out.beside ht6 (fun q=>by have:=HFP.out _ q;omega) HZ0.out,QbJ HT5.out ht6 (Nat.le_refl _)⟩
end
end Sp
namespace Sp
open Go.RowKit Bs Dv Gr
open Cn (CN CC CnOk IsC Qj)
open Su (Sup SupOk)
theorem QgB{s:SpS}{n:Nat}{own:List Nat}(h:GoodC s.dv s.sup.pages s.now (n :: own)):GoodC s.dv s.sup.pages (relS s n).now ((relK s n).map Int.toNat++own):=by
 obtain⟨h2,hlt,hp,hpos⟩:=h.at' (List.mem_cons_self ..);unfold relS relK;by_cases e:s.now.getD n 0=1
 ·rw[if_pos e];have:=h.last e;rw[show s.now.getD n 0-1=0 by omega];have e2:(kidsM (pageF s.dv.blocks (s.dv.last n))).map Int.toNat=kidsOf s.dv n:=by
   unfold kidsOf;cases pageF s.dv.blocks (s.dv.last n) <;> rfl
  rw[e2];exact this
 ·rw[if_neg e];exact h.less e
theorem QbW{s:SpS}{n:Nat}{own:List Nat}(h:GoodC s.dv s.sup.pages s.now (n :: own)):useE s n=0∧(s.now.getD n 0=1→pageF s.dv.blocks (s.dv.last n)≠none)∧n<s.dv.blocks∧0<s.now.getD n 0:=by
 obtain⟨h2,hlt,hp,hpos⟩:=h.at' (List.mem_cons_self ..);refine⟨?_,fun e q=>?_,hlt,hpos⟩
 ·unfold useE accE;rw[if_neg (show ¬(n<2∨s.dv.blocks≤n) by omega),if_neg hp,if_neg (fun q=>q rfl),if_neg (by omega)]
 ·have h1:=h.has n (h.ref.Qaz (List.mem_cons_self ..));rw[q]at h1;cases h1
theorem Qdj{K:Nat}{b:List Int}{p:Pg}(h:pageF K b=some p):∀k∈p.kids,2≤k∧k<(K:Int):=by
 rw[Qhs]at h;by_cases h1:(Fr.getF b).2≠0∨(Fr.getF b).1.1<3
 ·rw[if_pos h1]at h;cases h
 ·rw[if_neg h1]at h;cases hz:kidsX K (Fr.getF b).1.2.2 with
  |none=>rw[hz]at h;cases h
  |some ks=>
   rw[hz]at h;cases h
   exact(Qfg hz).1
theorem QkL{s:SpS}{n:Nat}:∀k∈relK s n,2≤k∧k<(s.dv.blocks:Int):=by
 intro k hk;unfold relK at hk;by_cases e:s.now.getD n 0=1
 ·rw[if_pos e]at hk;cases hq:pageF s.dv.blocks (s.dv.last n) with
  |none=>rw[hq]at hk;cases hk
  |some p=>rw[hq]at hk;exact Qdj hq k hk
 ·rw[if_neg e]at hk;cases hk
def totC(c:List Int):Nat:=(c.map Int.toNat).sum
theorem QhE:∀(c:List Int) (n:Nat),0<c.getD n 0→totC (c.set n (c.getD n 0-1))+1=totC c
 | [],n,h=>by rw[List.getD_eq_getElem?_getD]at h;simp at h
 |a :: c,0,h=>by
  have h:0<a:=h
  show(a-1).toNat+(c.map Int.toNat).sum+1=a.toNat+(c.map Int.toNat).sum
  omega
 |a :: c,n+1,h=>by
  have h:0<c.getD n 0:=h;have:=QhE c n h
  show a.toNat+totC (c.set n (c.getD n 0-1))+1=a.toNat+totC c
  omega
theorem QjN:∀(c:List Int),IsC c→totC c≤65535*c.length
 | [],_=>Nat.zero_le _
 |a :: c,h=>by
  have h1:=h a (List.mem_cons_self ..);have:=QjN c (fun x hx=>h x (List.mem_cons_of_mem _ hx))
  show a.toNat+totC c≤65535*(c.length+1)
  omega
theorem Qhw{s:SpS}{n:Nat}(hn:n<s.now.length)(m:Nat):(relS s n).now.getD m 0≤s.now.getD m 0:=by
 show(s.now.set n (s.now.getD n 0-1)).getD m 0≤_
 rw[Qj _ _ _ _ hn];by_cases e:m=n
 ·rw[if_pos e,e];omega
 ·rw[if_neg e];omega
structure Ent where
 v0:Value
 a:Option Addr
 c:Nat
 v2:Value
 ks:List Int
def encE(x:Ent):List Value:=[x.v0,.slice x.a x.ks.length x.c,x.v2]
def rowE(L:List Ent):List Value:=L.flatMap encE
theorem Qb9(L:List Ent):(rowE L).length=L.length*3:=by
 induction L with
 |nil=>rfl
 |cons x L ih=>rw[rowE,List.flatMap_cons,List.length_append,List.length_cons];unfold rowE at ih;rw[ih];simp[encE];omega
theorem QbH(L:List Ent)(x:Ent):rowE (L++[x])=rowE L++encE x:=by simp[rowE]
theorem QlT(L:List Ent)(x:Ent)(j:Nat):(rowE (L++[x]))[L.length*3+j]?=(encE x)[j]?:=by
 rw[QbH,List.getElem?_append_right (by rw[Qb9];omega),Qb9]
 congr 1
 omega
theorem QkN(L:List Ent)(x:Ent)(a:Option Addr)(c:Nat)(ks:List Int):(rowE (L++[x])).set (L.length*3+1) (.slice a ks.length c)=rowE (L++[⟨x.v0,a,c,x.v2,ks⟩]):=by
 rw[QbH,QbH,List.set_append_right _ _ (by rw[Qb9];omega),Qb9,show L.length*3+1-L.length*3=1 by omega]
 rfl
structure EntOk (w wr:World) (g:Nat) (x:Ent):Prop where
 one0:x.v0.oneCell'=true
 one2:x.v2.oneCell'=true
 seg:Ws.Seg wr x.a x.ks.length x.c x.ks
 new:∀ad,x.a=some ad→w.heap.size≤ad.block∧ad.block<wr.heap.size∧ad.block≠g
 pos:∀k∈x.ks,0≤k∧k<4294967296
theorem EntOk.turn{w wr wr':World}{g g':Nat}{x:Ent}{S:Nat→Prop}(h:EntOk w wr g x)(t:Turn wr wr' S)(hS:∀i,w.heap.size≤i→i<wr.heap.size→i≠g→¬S i∧i≠g'):EntOk w wr' g' x:=
 ⟨h.one0,h.one2,Qp h.seg t (fun ad had=>by obtain⟨a,b,c⟩:=h.new ad had;exact(hS _ a b c).1),fun ad had=>by
  obtain⟨a,b,c⟩:=h.new ad had;exact⟨a,Nat.lt_of_lt_of_le b t.size,(hS _ a b c).2⟩,h.pos⟩
def pendE(L:List Ent):List Nat:=L.flatMap fun x=>x.ks.map Int.toNat
theorem QbP(L:List Ent)(x:Ent):pendE (L++[x])=pendE L++x.ks.map Int.toNat:=by simp[pendE]
def DropX(w0 w:World)(x:Nm)(s:SpS)(own:List Nat)(e:Ending)(w':World):Prop:=
 ∃c,e=.returned (.int .i64 0)∧GoodC s.dv s.sup.pages c own∧(∀m,c.getD m 0≤s.now.getD m 0)∧SpM w0 w' x { s with now:=c }∧Turn w w' (·=x.hn)
structure DI (w0 w:World) (x:Nm) (s:SpS) (own:List Nat) (wr:World) (g C:Nat) (L:List Ent) (c:List Int):Prop where
 row:wr.ownsRow w.heap.size 41 3 (.slice (some ⟨g,0,none⟩) L.length C) L.length (rowE L)
 ents:∀y∈L,EntOk w wr g y
 good:GoodC s.dv s.sup.pages c (pendE L++own)
 low:∀m,c.getD m 0≤s.now.getD m 0
 mem:SpM w0 wr x { s with now:=c }
 turn:Turn w wr (·=x.hn)
structure DJ (w0 w:World) (x:Nm) (s:SpS) (own:List Nat) (wr:World) (g C:Nat) (L:List Ent) (c:List Int) (n:Nat):Prop where
 row:wr.ownsRow w.heap.size 41 3 (.slice (some ⟨g,0,none⟩) L.length C) L.length (rowE L)
 ents:∀y∈L,EntOk w wr g y
 good:GoodC s.dv s.sup.pages c (n :: (pendE L++own))
 low:∀m,c.getD m 0≤s.now.getD m 0
 mem:SpM w0 wr x { s with now:=c }
 turn:Turn w wr (·=x.hn)
section
variable {w0 w wr : World} {x : Nm} {s : SpS} {own : List Nat} {g C : Nat} {L L0 : List Ent} {c : List Int}
theorem DI.base(h:DI w0 w x s own wr g C L c):w.heap.size≤g∧g<wr.heap.size:=h.row.lt g rfl
theorem DJ.base{n:Nat}(h:DJ w0 w x s own wr g C L c n):w.heap.size≤g∧g<wr.heap.size:=h.row.lt g rfl
theorem DI.off{v0 v2:Value}{gb ob cc n:Nat}{ks:List Int}(h:DI w0 w x s own wr g C (L0++[⟨v0,some ⟨gb,ob,none⟩,cc,v2,(n:Int) :: ks⟩]) c)(hfp:∀k,x.fp k→k<w.heap.size)(h0:w0.heap.size≤w.heap.size){a2:Option Addr}(ha:a2=if cc=1 then some ⟨gb,ob,none⟩ else some ⟨gb,ob+1,none⟩) :
  DJ w0 w x s own (wr.setCell ⟨g,L0.length*3+1,none⟩ (.slice a2 ks.length (cc-1))) g C (L0++[⟨v0,a2,cc-1,v2,ks⟩]) c n:=by
 have hb:=h.base;have ht:=Turn.setCell wr ⟨g,L0.length*3+1,none⟩ (.slice a2 ks.length (cc-1)) (S:=(·=g)) rfl;have hy:=h.ents _ (List.mem_append_right _ (List.mem_singleton.2 rfl));have hblk:∀ad,a2=some ad→ad.block=gb:=fun ad had=>by
  rw[ha]at had;by_cases q:cc=1
  ·rw[if_pos q]at had;cases had;rfl
  ·rw[if_neg q]at had;cases had;rfl
 have hseg:Ws.Seg wr a2 ks.length (cc-1) ks:=by
  have h1:=hy.seg.from_ (k:=1) (by simp);have e:(if cc=1 then(some ⟨gb,ob,none⟩:Option Addr) else Option.map (fun x:Addr=>x.add 1) (some (⟨gb,ob,none⟩:Addr)))=a2:=by
   rw[ha];by_cases q:cc=1
   ·rw[if_pos q,if_pos q]
   ·rw[if_neg q,if_neg q,Option.map_some,Addr.add_lit]
  rw[e]at h1;exact h1
 refine⟨?_,fun z hz=>?_,?_,h.low,h.mem.beside ht (fun q=>by have:=hfp _ q;omega) (by omega),QbJ h.turn ht hb.1⟩
 ·have h1:=(h.row.stored (L0.length*3+1) (.slice a2 ks.length (cc-1))).1;rw[QkN,List.length_append,List.length_singleton]at h1;rw[List.length_append,List.length_singleton];exact h1
 ·rcases List.mem_append.1 hz with hz|hz
  ·exact(h.ents z (List.mem_append_left _ hz)).turn ht fun i _ _ q=>⟨q,q⟩
  ·rw[List.mem_singleton.1 hz];refine⟨hy.one0,hy.one2,Qp hseg ht (fun ad had e=>(hy.new _ rfl).2.2 ((hblk ad had).symm.trans e)),fun ad had=>?_,fun k hk=>hy.pos k (List.mem_cons_of_mem _ hk)⟩;rw[hblk ad had];have:=hy.new _ rfl;exact⟨this.1,Nat.lt_of_lt_of_le this.2.1 ht.size,this.2.2⟩
 ·have h1:=h.good;rw[QbP]at h1;rw[QbP];refine h1.perm fun k=>?_
  show List.count k (n :: (pendE L0++ks.map Int.toNat++own))=List.count k (pendE L0++((n:Int).toNat :: ks.map Int.toNat)++own)
  rw[Int.toNat_natCast];simp only[List.count_cons,List.count_append];omega
theorem DJ.still{n:Nat}(h:DJ w0 w x s own wr g C L c n)(hfp:∀k,x.fp k→k<w.heap.size){w2:World}(hm:SpM w0 w2 x (relS { s with now:=c } n))(ht:Turn wr w2 (·=x.hn))(hk:relK { s with now:=c } n=[]) :
  DI w0 w x s own w2 g C L (relS { s with now:=c } n).now:=by
 have hb:=h.base;have hh:=hfp x.hn (.inl (.inr (.inl rfl)));have hg:=QgB (s:={ s with now:=c }) h.good;rw[hk]at hg;refine⟨Su.QM h.row ht (fun i hi e=>by have e2:i=x.hn:=e;omega),fun z hz=>(h.ents z hz).turn ht fun i h1 _ q=>⟨fun e=>by have e2:i=x.hn:=e;omega,q⟩,hg,fun m=>Int.le_trans (Qhw (s:={ s with now:=c }) (by have:=(QbW (s:={ s with now:=c }) h.good).2.2.1;rw[h.mem.now.ok.len];exact this) m) (h.low m),hm,h.turn.trans ht (fun _ _ e=>e)⟩
theorem DJ.more{n:Nat}(h:DJ w0 w x s own wr g C L c n)(hfp:∀k,x.fp k→k<w.heap.size)(h0:w0.heap.size≤w.heap.size){w2 w4 w5:World}{v0 v2:Value}{a:Option Addr}{cc g' C':Nat}(hm:SpM w0 w2 x (relS { s with now:=c } n))(ht:Turn wr w2 (·=x.hn))
  (o0:v0.oneCell'=true) (o2:v2.oneCell'=true) (hs:Ws.Seg w2 a (relK { s with now:=c } n).length cc (relK { s with now:=c } n)) (hnew:∀ad,a=some ad→wr.heap.size≤ad.block) (hr:(relK { s with now:=c } n).length≠0)
  (g4:w2.grownBy w4 none) (hrow:w5.ownsRow w.heap.size 41 3 (.slice (some ⟨g',0,none⟩) (L.length+1) C') (L.length+1) (rowE L++[v0,.slice a (relK { s with now:=c } n).length cc,v2])) (g5:w4.grownBy w5 (some g)) (hat:g'=g∨g'=w4.heap.size) :
  DI w0 w x s own w5 g' C' (L++[⟨v0,a,cc,v2,relK { s with now:=c } n⟩]) (relS { s with now:=c } n).now:=by
 have hb:=h.base;have hh:=hfp x.hn (.inl (.inr (.inl rfl)));have hg:=QgB (s:={ s with now:=c }) h.good;have hsz:=ht.size;have hsz4:=g4.size;have t5:Turn w4 w5 (·=g):=Su.QN g5;have t45:Turn w2 w5 (·=g):=Turn.trans ((Qc g4).mono (fun _ _ e=>e.elim)) t5 (fun _ _ e=>e);obtain⟨gb,ob,ha,hcell⟩:=hs.addr (by omega);have hbl:gb<w2.heap.size:=World.block_lt_of_cell? w2 _ (hcell 0 (by omega));have hgb:wr.heap.size≤gb:=by have:=hnew _ ha;exact this
 have hsz5:=t45.size;refine⟨?_,fun z hz=>?_,?_,fun m=>Int.le_trans (Qhw (s:={ s with now:=c }) (by have:=(QbW (s:={ s with now:=c }) h.good).2.2.1;rw[h.mem.now.ok.len];exact this) m) (h.low m),hm.beside t45 (fun q=>by have:=hfp _ q;omega) (by omega),QbJ (h.turn.trans ht (fun _ _ e=>e)) t45 hb.1⟩
 ·rw[List.length_append,List.length_singleton,QbH];exact hrow
 ·rcases List.mem_append.1 hz with hz|hz
  ·have h1:=(h.ents z hz).turn (g':=g) ht fun i h1 _ q=>⟨fun e=>by have e2:i=x.hn:=e;omega,q⟩
   exact h1.turn t45 fun i _ h2 q=>⟨q,by rcases hat with e|e <;> omega⟩
  ·rw[List.mem_singleton.1 hz];refine⟨o0,o2,Qp hs t45 (fun ad had e=>?_),fun ad had=>?_,fun k hk=>?_⟩
   ·rw[ha]at had;cases had;have e2:gb=g:=e;omega
   ·have had:a=some ad:=had;rw[ha]at had;cases had;exact⟨by show w.heap.size≤gb;omega,by show gb<w5.heap.size;omega,by show gb≠g';rcases hat with e|e <;> omega⟩
   ·have:=QkL k hk;have hd:=h.mem.dims;have hbk:({ s with now:=c }:SpS).dv.blocks≤4096:=hd.2.2.2.2;omega
 ·rw[QbP];refine hg.perm fun k=>?_
  show List.count k (pendE L++(relK { s with now:=c } n).map Int.toNat++own)=List.count k ((relK { s with now:=c } n).map Int.toNat++(pendE L++own))
  simp only[List.count_append];omega
end
theorem QlA:(Tryz.prog.info? 41).map (fun i=>(i.zero,i.size,i.bytes))=some (some (.agg #[.int .u8 0,.slice none 0 0,.string ⟨#[]⟩]),3,48):=by kernel_rfl
section
variable {w0 w : World} {x : Nm} {s : SpS}
theorem Qj2(h:SpM w0 w x s)(n:Nat)(own:List Nat)(hp:s.sup.pages.length≤100000)(hg:GoodC s.dv s.sup.pages s.now (n :: own)) :
  Calls Tryz.prog 25 #[.pointer (some ⟨x.sg,0,none⟩),.int .u32 (n:Int)] w (DropX w0 w x s own):=by
 obtain⟨i0,hi,hz0,hz1,hz2⟩:=info_parts QlA;have hnb:n<4294967296:=by have:=(QbW hg).2.2.1;have:=h.dims;omega
 have HZ0:=hid h.size0;have HFP:Hid (∀k,x.fp k→k<w.heap.size):=hid (fun k hk=>h.lt hk);have HTL:Hid (∀c,GoodC s.dv s.sup.pages c own→True):=hid (fun _ _=>trivial);have HTN:Hid (totC s.now≤300000000):=hid (by
  have h1:=QjN s.now h.now.ok.cnt;have h2:=h.now.ok.len;have h3:=h.dims;have:65535*s.now.length≤65535*4096:=Nat.mul_le_mul_left _ (by omega);omega)
 obtain⟨T0,hT0⟩:∃T,totC s.now=T:=⟨_,rfl⟩;rw[hT0]at HTN;have HT0:=hid hT0
 -- what stands at the beginning
 have hA:=Qb w (.cells #[.int .u32 (n:Int)] 30);have hB:=Qa hA (Qb (w.alloc (.cells #[.int .u32 (n:Int)] 30)) (.cells #[.int .u8 0,.slice (some ⟨w.heap.size,0,none⟩) 1 1,.string ⟨#[]⟩] 41));obtain⟨W2,hW2⟩:∃X,(w.alloc (.cells #[.int .u32 (n:Int)] 30)).alloc (.cells #[.int .u8 0,.slice (some ⟨w.heap.size,0,none⟩) 1 1,.string ⟨#[]⟩] 41)=X:=⟨_,rfl⟩;have HW2:=hid hW2;have HD:Hid (DI w0 w x s own W2 (w.heap.size+1) 1 [⟨.int .u8 0,some ⟨w.heap.size,0,none⟩,1,.string ⟨#[]⟩,[(n:Int)]⟩] s.now):=hid (by
  refine⟨?_,fun y hy=>?_,?_,fun m=>Int.le_refl _,?_,?_⟩
  ·rw[←hW2];have:=World.ownsRow_lit (base:=w.heap.size) (e:=41) (size:=3) (w.alloc (.cells #[.int .u32 (n:Int)] 30)) #[.int .u8 0,.slice (some ⟨w.heap.size,0,none⟩) 1 1,.string ⟨#[]⟩] 1 (by simp) (by unfold maxLen;omega) rfl;rw[World.size_alloc]at this;exact this
  ·rw[List.mem_singleton.1 hy];refine⟨rfl,rfl,?_,fun ad had=>?_,fun k hk=>?_⟩
   ·have:=Ws.QlC w [(n:Int)] (by simp);have h2:Ws.Seg W2 (some ⟨w.heap.size,0,none⟩) 1 1 [(n:Int)]:=by rw[←hW2];exact this.grown (Qb _ _)
    exact h2
   ·cases had
    refine⟨Nat.le_refl _,?_,by show w.heap.size≠w.heap.size+1;omega⟩;rw[←hW2];simp[World.size_alloc];omega
   ·rw[List.mem_singleton.1 hk];omega
  ·show GoodC s.dv s.sup.pages s.now (([(n:Int)].map Int.toNat++[])++own)
   rw[List.append_nil,List.map_singleton,Int.toNat_natCast];exact hg
  ·rw[←hW2];exact h.go hB
  ·rw[←hW2];exact(Qc hB).mono (fun _ _ e=>e.elim))
 obtain⟨sg,e1⟩:∃q,x.sg=q:=⟨_,rfl⟩;have HSG:=hid e1;rw[e1];clear hT0 hA hB hW2 hg h e1 HTL;go_enter Tryz.func25,Tryz.ntmps25
 go_wp2
 go_step3
 go_wp2
 go_step3
 go_wp2;rw[HW2.out]
 go_loopg [5] (2*T0+1) (fun gh s5 wr=>∃(g C:Nat) (L:List Ent) (c:List Int),s5=.slice (some ⟨g,0,none⟩) L.length C∧Hid (2*totC c+L.length=gh)∧Hid (gh≤2*T0+1)∧Hid (DI w0 w x s own wr g C L c))
 case atStart=>exact⟨w.heap.size+1,1,_,s.now,rfl,hid (by rw[HT0.out];rfl),hid (Nat.le_refl _),HD⟩
 case round=>
  clear HD;obtain⟨g,C,L,c,rfl,HM,HB,HD⟩:=hrel;rcases List.eq_nil_or_concat L with rfl|⟨L0,y,rfl⟩
  ·have HX:Hid (DropX w0 w x s own (.returned (.int .i64 0)) wr):=hid ⟨c,rfl,HD.out.good,HD.out.low,HD.out.mem,HD.out.turn⟩;clear HM HB HD;dsimp only[List.length_nil];go_wp2;rw[Exit.noGoto_ret];go_ret
   exact HX.out
  ·rw[List.concat_eq_append,List.length_append,List.length_singleton]at *;obtain⟨m,hm⟩:∃m,L0.length=m:=⟨_,rfl⟩;rw[hm]at HM ⊢;have HLM:=hid hm;have hmb:m≤600000001:=by have:=HM.out;have:=HB.out;have:=HTN.out;omega
   have e1:IntKind.i64.wrap ((m:Int)+1-1)=(m:Int):=by rw[show(m:Int)+1-1=(m:Int) by omega];exact IntWalk.i64_in _ (by omega)
   clear hm;go_upto_region 4 with fail
   obtain⟨G0,rfl⟩:∃q,q=gk:=⟨_,rfl⟩
   go_loopg [5] y.ks.length (fun gi s5 wx=>∃(a:Option Addr) (cc:Nat) (ks cs:List Int),s5=.slice (some ⟨g,0,none⟩) (m+1) C∧Hid (ks.length=gi)∧Hid (2*totC cs+(m+1)≤G0)∧Hid (DI w0 w x s own wx g C (L0++[⟨y.v0,a,cc,y.v2,ks⟩]) cs))
   case atStart=>exact⟨y.a,y.c,y.ks,c,rfl,hid rfl,hid (Nat.le_of_eq HM.out),HD⟩
   case round=>
    clear HM HD;obtain⟨a,cc,ks,cs,rfl,HK,HM,HD⟩:=hrel;have hk1:wr.cell? ⟨g,m*3+1,none⟩=some (.slice a ks.length cc):=by
     rw[HD.out.row.cellAt (m*3+1) (by rw[List.length_append,HLM.out,List.length_singleton];omega),←HLM.out,QlT]
     rfl
    have hfz:wr.frozen? ⟨g,m*3+1,none⟩=false:=by
     obtain⟨g2,c2,e,_,_,_,hz⟩:=Qd3 HD.out.row (by rw[List.length_append,List.length_singleton];omega);cases e
     exact hz _
    cases ks with
    |nil=>
     have HPOP:Hid (DI w0 w x s own wr g C L0 cs):=hid (by
      have h:=HD.out;refine⟨?_,fun z hz=>h.ents z (List.mem_append_left _ hz),?_,h.low,h.mem,h.turn⟩
      ·have h1:=h.row;rw[List.length_append,List.length_singleton,QbH]at h1;exact ownsRow_pop (Qb9 L0) h1
      ·have h1:=h.good;rw[QbP]at h1
       show GoodC _ _ _ (pendE L0++own)
       have e:pendE L0++List.map Int.toNat ([]:List Int)=pendE L0:=List.append_nil _;rw[e]at h1;exact h1)
     have HM2:Hid (2*totC cs+m<G0):=hid (by have:=HM.out;omega);have hmC:m≤C:=by
      obtain⟨g2,c2,e,hle,_⟩:=Qd3 HD.out.row (by rw[List.length_append,List.length_singleton];omega);cases e
      rw[List.length_append,List.length_singleton,HLM.out]at hle;omega
     clear HK HM HD hfz;dsimp only[List.length_nil]at hk1;go_wp2
     go_roundg (2*totC cs+m)
     case rel=>exact⟨g,C,L0,cs,by rw[HLM.out],hid (by rw[HLM.out]),hid (by have:=HM2.out;have:=HB.out;omega),HPOP⟩
     case measure=>exact HM2.out
    |cons k ks=>
     have HY:=hid (HD.out.ents _ (List.mem_append_right _ (List.mem_singleton.2 rfl)));obtain⟨gb,ob,ha,hcell⟩:=HY.out.seg.addr (by simp);have ha:a=some ⟨gb,ob,none⟩:=ha;subst ha;have hc0:wr.cell? ⟨gb,ob,none⟩=some (.int .u32 k):=hcell 0 (by simp);have hpos:=HY.out.pos k (List.mem_cons_self ..);obtain⟨kn,rfl⟩:∃q:Nat,k=q:=⟨k.toNat,by omega⟩;have hlc:ks.length+1≤cc:=HY.out.seg.le;obtain⟨l,hl⟩:∃l,ks.length=l:=⟨_,rfl⟩;rw[List.length_cons,hl]at hk1;rw[hl]at hlc;have HL:=hid hl;clear hl hcell hpos;go_upto_region 7 with fail
     have hb:=HD.out.base;obtain⟨a2,ha2⟩:∃q,(if cc=1 then(some ⟨gb,ob,none⟩:Option Addr) else some ⟨gb,ob+1,none⟩)=q:=⟨_,rfl⟩;have HJ:=hid (HD.out.off HFP.out HZ0.out ha2.symm);rw[HLM.out,HL.out]at HJ;rw[ha2];obtain⟨W1,hW1⟩:∃X,wr.setCell ⟨g,m*3+1,none⟩ (.slice a2 l (cc-1))=X:=⟨_,rfl⟩;rw[hW1]at HJ ⊢;obtain⟨hus,hpgs,hlt,hpos⟩:=QbW (s:={ s with now:=cs }) HJ.out.good;have HRL:=hid (release_yes HJ.out.mem kn (by have:=HJ.out.mem.dims;have:kn<s.dv.blocks:=hlt;omega) hp hus hpgs);rw[HSG.out]at HRL;have HTT:Hid (totC (relS { s with now:=cs } kn).now+1=totC cs):=hid (QhE cs kn hpos);clear hk1 hfz hc0 hb ha2 hW1 hus hpgs hlt hpos HD HY;go_wp2_with fail
     refine HRL.out.mono ?_;rintro e w2 ⟨t3,a3,c3,S3,rfl,hs3,hn3,hm3,ht3⟩;obtain⟨r,hr⟩:∃r,(relK { s with now:=cs } kn).length=r:=⟨_,rfl⟩;rw[hr];have HR:=hid hr;have hA3:=Qb w2 (.cells #[.int .u8 t3,.slice a3 r c3,.string S3] 41);have HN3:=hid (heap_alloc_new w2 (.cells #[.int .u8 t3,.slice a3 r c3,.string S3] 41));have HG3:=hid hA3;obtain⟨W3,hW3⟩:∃X,w2.alloc (.cells #[.int .u8 t3,.slice a3 r c3,.string S3] 41)=X:=⟨_,rfl⟩;rw[hW3]at HN3 HG3;have HW3:=hid hW3;have hk1:W3.cell? ⟨w2.heap.size,1,none⟩=some (.slice a3 r c3):=by rw[cell_of_row _ _ _ _ _ _ HN3.out];rfl
     by_cases h0:r=0
     ·have HI:Hid (DI w0 w x s own W3 g C (L0++[⟨y.v0,a2,cc-1,y.v2,ks⟩]) (relS { s with now:=cs } kn).now):=hid (by
       have h1:=HJ.out.still HFP.out hm3 ht3 (List.eq_nil_of_length_eq_zero (hr.trans h0));have hg:=HG3.out;exact⟨h1.row.kept hg (.inr (fun e=>by cases e)),fun z hz=>(h1.ents z hz).turn (Qc hg) fun i _ _ q=>⟨id,q⟩,h1.good,h1.low,h1.mem.go hg,h1.turn.trans (Qc hg) (fun _ _ e=>e.elim)⟩)
      have HM2:Hid (2*totC (relS { s with now:=cs } kn).now+(m+1)≤G0):=hid (by have:=HM.out;have:=HTT.out;omega);have HGK:Hid (l<gk):=hid (by have:=HK.out;have:=HL.out;rw[List.length_cons]at *;omega);have q0:decide ((0:Int)<(r:Int))=false:=decide_eq_false (by omega);have HL3:=hid HL.out;clear hs3 hn3 hm3 ht3 hr hA3 hW3 HJ HM HTT HK HRL;subst h0;dsimp only;go_upto_region 8 with fail
      rw[HW3.out];go_wp2
      go_roundg l
      case rel=>exact⟨a2,cc-1,ks,(relS { s with now:=cs } kn).now,by first|rfl|trivial,HL3,HM2,HI⟩
      case measure=>exact HGK.out
     ·have q0:decide (0<r)=true:=decide_eq_true (by omega);have HR0:=hid h0;have hb:=HJ.out.base;have hsz2:=ht3.size;have hsz3:=HG3.out.size;have HRW:Hid ((W3.alloc (.cells #[.int .u8 t3,.slice a3 r c3,.string S3] 41)).ownsRow w.heap.size 41 3 (.slice (some ⟨g,0,none⟩) (m+1) C) (m+1) (rowE (L0++[⟨y.v0,a2,cc-1,y.v2,ks⟩]))):=hid (by
       have h1:=HJ.out.row;rw[List.length_append,List.length_singleton,HLM.out]at h1;have hh:=HFP.out x.hn (.inl (.inr (.inl rfl)));exact((Su.QM h1 ht3 (fun i hi e=>by have e2:i=x.hn:=e;omega)).kept HG3.out (.inr (fun e=>by cases e))).alloc _)
      have HBS:Hid (w.heap.size≤(W3.alloc (.cells #[.int .u8 t3,.slice a3 r c3,.string S3] 41)).heap.size):=hid (by rw[World.size_alloc];omega);have HFIN:Hid (∀g' C' w5,w5.ownsRow w.heap.size 41 3 (.slice (some ⟨g',0,none⟩) (m+1+1) C') (m+1+1) (rowE (L0++[⟨y.v0,a2,cc-1,y.v2,ks⟩])++[.int .u8 t3,.slice a3 r c3,.string S3]) →
        (W3.alloc (.cells #[.int .u8 t3,.slice a3 r c3,.string S3] 41)).grownBy w5 (some g)→(g'=g∨g'=(W3.alloc (.cells #[.int .u8 t3,.slice a3 r c3,.string S3] 41)).heap.size) →
        DI w0 w x s own w5 g' C' ((L0++[⟨y.v0,a2,cc-1,y.v2,ks⟩])++[⟨.int .u8 t3,a3,c3,.string S3,relK { s with now:=cs } kn⟩]) (relS { s with now:=cs } kn).now):=hid (fun g' C' w5 h1 h2 h3=>by
       refine HJ.out.more HFP.out HZ0.out hm3 ht3 rfl rfl hs3 hn3 (by rw[hr];exact HR0.out) (Qa HG3.out (Qb _ _)) ?_ h2 h3;rw[hr,List.length_append,List.length_singleton,HLM.out];exact h1)
      have HM2:Hid (2*totC (relS { s with now:=cs } kn).now+(m+2)<G0):=hid (by have:=HM.out;have:=HTT.out;omega);have HCL:Hid (∀j u,[Value.int .u8 t3,.slice a3 r c3,.string S3][j]?=some u→(W3.alloc (.cells #[.int .u8 t3,.slice a3 r c3,.string S3] 41)).cell? ((⟨W3.heap.size,0,none⟩:Addr).add j)=some u):=hid (fun j u hu=>by
       rw[Addr.add_lit,cell_of_row _ _ _ _ _ _ (heap_alloc_new _ _),Nat.zero_add]
       simpa using hu)
      clear hs3 hn3 hm3 ht3 hr hA3 hW3 HJ HM HTT HK HRL h0 hb hsz2 hsz3;dsimp only;go_upto_region 8 with fail
      rw[HW3.out];go_wp2_with (first
       |(with_reducible refine Qar rfl (.tmp 8) rfl w2.heap.size rfl _ _ _ HN3.out ?_)
       |(at_builtin;refine wpList_append_own_at _ rfl (.tmp 57) (.tmp 59) 114 rfl w.heap.size 41 i0 (.agg #[.int .u8 0,.slice none 0 0,.string ⟨#[]⟩]) 3 48 Tryz.underlying114 hi hz0 hz1 hz2 rfl (by decide) (.slice (some ⟨g,0,none⟩) (m+1) C) (m+1) _ rfl HRW.out ⟨W3.heap.size,0,none⟩ 1 1 [.int .u8 t3,.slice a3 r c3,.string S3] rfl rfl HCL.out (by intro u hu;simp at hu;rcases hu with rfl|rfl|rfl <;> rfl) (by unfold maxLen;omega) (by omega) HBS.out ?_;intro v' w5 hown hgr _ hat;have HOW:=hid hown;have HGR:=hid hgr;have HAT:=hid hat;obtain⟨g',C',rfl,-⟩:=Qd3 hown (by omega);clear hown hgr hat)
       |fail)
      have HI:=hid (HFIN.out g' C' w5 HOW.out HGR.out (by
       rcases HAT.out with e|e
       ·exact .inl (Option.some.inj e)
       ·exact .inr (Option.some.inj e)))
      clear HFIN HOW HGR HAT HRW HCL HBS
      go_roundg (2*totC (relS { s with now:=cs } kn).now+(m+2))
      case rel=>exact⟨g',C',_,(relS { s with now:=cs } kn).now,by rw[List.length_append,List.length_append,HLM.out];rfl,hid (by rw[List.length_append,List.length_append,HLM.out];rfl),hid (by have:=HM2.out;have:=HB.out;omega),HI⟩
      case measure=>exact HM2.out
end
end Sp
namespace Sp
open Go.RowKit Bs Dv Gr
open Cn (CN CC CnOk IsC Qj TakeR freeC TookC)
open Su (Sup SupOk QL Qac QM QaP Qcc)
def freeL(K N:List Int):List Nat:=(List.range N.length).filter fun i=>decide (freeC K N i)
theorem QbE{K N:List Int}{i:Nat}:i∈freeL K N↔freeC K N i:=by
 unfold freeL;rw[List.mem_filter,List.mem_range,decide_eq_true_iff];exact⟨fun h=>h.2,fun h=>⟨h.2.1,h⟩⟩
theorem QaK(K N:List Int):(freeL K N).Pairwise (· < ·):=List.pairwise_lt_range.filter _
theorem Qh2{K N:List Int}{i:Nat}(hi:i<(freeL K N).length):TakeR K (setAll N ((freeL K N).take i) 1) (some ((freeL K N).getD i 0))∧(freeL K N).take (i+1)=(freeL K N).take i++[(freeL K N).getD i 0]:=by
 have hlt:∀n∈(freeL K N).take i,n<N.length:=fun n hn=>(QbE.1 (List.mem_of_mem_take hn)).2.1
 have e:(freeL K N).getD i 0=(freeL K N)[i]:=by rw[List.getD_eq_getElem?_getD,List.getElem?_eq_getElem hi];rfl
 have hm:(freeL K N).getD i 0∈freeL K N:=by rw[e];exact List.getElem_mem hi
 have hs:=QaK K N;have hf:=QbE.1 hm;have hbefore:∀n∈(freeL K N).take i,n<(freeL K N)[i]:=fun n hn=>by
  obtain⟨j,hj,rfl⟩:=List.getElem_of_mem hn;rw[List.length_take]at hj;rw[List.getElem_take];exact List.pairwise_iff_getElem.1 hs j i (by omega) hi (by omega)
 refine⟨.one _ ⟨hf.1,by rw[QE];exact hf.2.1,?_,hf.2.2.2⟩ fun j hj q=>?_,by rw[List.take_succ_eq_append_getElem hi,e]⟩
 ·rw[Qak 1 _ N _ hlt,if_neg fun q=>?_]
  ·exact hf.2.2.1
  ·have:=hbefore _ q;omega
 ·obtain⟨q1,q2,q3,q4⟩:=q;rw[QE]at q2;rw[Qak 1 _ N _ hlt]at q3;by_cases z:j∈(freeL K N).take i
  ·rw[if_pos z]at q3;exact absurd q3 (by decide)
  ·rw[if_neg z]at q3;have hj2:j∈freeL K N:=QbE.2 ⟨q1,q2,q3,q4⟩;obtain⟨t,ht,rfl⟩:=List.getElem_of_mem hj2;by_cases ti:t<i
   ·exact z (by
     have:(freeL K N)[t]=((freeL K N).take i)[t]'(by rw[List.length_take];omega):=by rw[List.getElem_take]
     rw[this];exact List.getElem_mem _)
   ·rcases Nat.lt_or_eq_of_le (Nat.le_of_not_lt ti) with h1|h1
    ·have:=List.pairwise_iff_getElem.1 hs i t hi ht h1;omega
    ·subst h1;omega
theorem QdK(c:List Int)(l:List Nat)(n:Nat)(v:Int):setAll c (l++[n]) v=(setAll c l v).set n v:=by unfold setAll;rw[List.foldl_append];rfl
def room4(S:Nat):Array Value:=madeCells (Value.int .u32 0).cells S
theorem Qif(S:Nat)(hS:S≤1000000)(W:World):(Instr.makeSlice 39 (.int .i64 0) (.int .i64 (S:Int))).run Tryz.prog W=.ok (.slice (some ⟨W.heap.size,0,none⟩) 0 S) (W.alloc (.cells (room4 S) 30)):=by
 obtain⟨i0,hi,hz0,hz1,hz2⟩:=info_parts Ws.Qbp;have h:=run_make (P:=Tryz.prog) W 39 30 i0 (.int .u32 0) Tryz.underlying39 hi hz0 .i64 .i64 0 (S:Int) (by omega) (by omega) (by rw[hz2];omega) (by omega);rw[hz1,Int.toNat_natCast,Nat.mul_one]at h;exact h
theorem Qjd(W:World)(S:Nat)(hS:S≤1000000):(W.alloc (.cells (room4 S) 30)).ownsRow W.heap.size 30 1 (.slice (some ⟨W.heap.size,0,none⟩) 0 S) 0 []:=
 World.ownsRow_made (base:=W.heap.size) (e:=30) (size:=1) W (room4 S) S (Nat.le_refl _) (by unfold maxLen;omega) (by unfold room4;rw[size_madeCells,Nat.mul_one])
def ints(l:List Nat):List Int:=l.map fun n:Nat=>(n:Int)
def TakenX(w0 w:World)(g h cap:Nat)(size:Int)(n:Nat)(N:List Int)(l:List Nat)(e:Ending)(w':World):Prop:=
 ∃a c,e=.returned (.tuple #[.slice a l.length c,.int .i64 0])∧Ws.Seg w' a l.length c (ints l)∧(∀ad,a=some ad→w.heap.size≤ad.block)∧CN w0 w' g h cap size n (setAll N l 1)∧Turn w w' (·=h)
theorem Qbv(w0 w:World)(g h cap:Nat)(size:Int)(n:Nat)(N K:List Int)(p:Option Addr)(k:Nat)(hc:CN w0 w g h cap size n N)(hk:k≤(freeL K N).length)
  (hT:∀W N',Turn w W (·=h)→CN w0 W g h cap size n N'→Calls Tryz.prog 43 #[.pointer (some ⟨g,0,none⟩),.pointer p] W (TookC K N' g h cap size W)) :
  Calls Tryz.prog 54 #[.pointer (some ⟨g,0,none⟩),.pointer p,.int .i64 (k:Int)] w (TakenX w0 w g h cap size n N ((freeL K N).take k)):=by
 obtain⟨i0,hi,hz0,hz1,hz2⟩:=info_parts Ws.Qbp;have hk4:k≤4096:=by
  have h1:(freeL K N).length≤N.length:=by unfold freeL;exact Nat.le_trans (List.length_filter_le _ _) (by rw[List.length_range];exact Nat.le_refl _)
  have h2:=hc.cc.small;omega
 have HLT:=hid (⟨hc.cc.lt,hc.cc.glt⟩:h<w.heap.size∧g<w.heap.size);have hmk:=Qif k (by omega);have HO0:=hid (Qjd w k (by omega));have hg0:=Qb w (.cells (room4 k) 30);have HC0:=hid (hc.old hg0);have HT0:Hid (Turn w (w.alloc (.cells (room4 k) 30)) (·=h)):=hid ((Qc hg0).mono (fun _ _ e=>e.elim));obtain⟨W1,hW1⟩:∃X,w.alloc (.cells (room4 k) 30)=X:=⟨_,rfl⟩;rw[hW1]at HO0 HC0 HT0;have HW1:=hid hW1;have HNX:=hid (fun i (hi:i<k)=>Qh2 (K:=K) (N:=N) (i:=i) (by omega));have HFN:Hid (∀i,i<k→(freeL K N).getD i 0<n∧2≤(freeL K N).getD i 0):=hid (fun i hi=>by
  have hm:(freeL K N).getD i 0∈freeL K N:=by rw[List.getD_eq_getElem?_getD,List.getElem?_eq_getElem (show i<(freeL K N).length by omega)];exact List.getElem_mem _
  have:=QbE.1 hm;have h3:=hc.ok.len;exact⟨by have:=this.2.1;omega,this.1⟩)
 have HKL:=hid hk;have HT:=hid hT;have HNB:Hid (n≤4096):=hid (by have:=hc.cc.small;have:=hc.ok.len;omega);have HLL:Hid (∀i,i≤k→((freeL K N).take i).length=i):=hid (fun i hi=>by rw[List.length_take];omega);clear hk hT hc hg0 hW1;go_enter Tryz.func54,Tryz.ntmps54
 go_wp2;rw[HW1.out]
 go_loopw [8,14] (fun s8 si wr=>∃(i g' c':Nat),i≤k∧si=.int .i64 i∧s8=.slice (some ⟨g',0,none⟩) i c'∧Hid (wr.ownsRow w.heap.size 30 1 (.slice (some ⟨g',0,none⟩) i c') i ((ints ((freeL K N).take i)).map (Value.int .u32)))∧Hid (CN w0 wr g h cap size n (setAll N ((freeL K N).take i) 1))∧Hid (Turn w wr (·=h))) (fun _ si _=>k-(intOf si).toNat)
 case atStart=>exact⟨0,w.heap.size,k,Nat.zero_le _,rfl,rfl,HO0,HC0,HT0⟩
 case round=>
  clear HO0 HC0 HT0 hmk;obtain⟨i,g',c',hik,rfl,rfl,HO,HC,HTU⟩:=hrel;by_cases hlt:i<k
  ·have hq:decide (i<k)=true:=decide_eq_true hlt;have HTK:=hid (HT.out wr _ HTU.out HC.out);have HTR:=hid (HNX.out i hlt).1;have HTL:=hid (HNX.out i hlt).2;have hfb:=HFN.out i hlt;obtain⟨m,hm⟩:∃m,(freeL K N).getD i 0=m:=⟨_,rfl⟩;rw[hm]at HTR HTL hfb;have HFB:=hid hfb;clear hm hfb;go_wp2_with fail
   refine HTK.out.mono ?_;intro e w2 htk;obtain⟨rfl,hc2,ht2⟩:=HC.out.took HTR.out htk;have HC2:Hid (CN w0 w2 g h cap size n (setAll N ((freeL K N).take (i+1)) 1)):=hid (by rw[HTL.out,QdK];exact hc2);have HTU2:=hid (HTU.out.trans ht2 (fun _ _ e=>e));have hhl:=HLT.out;have HO1:=hid (QM HO.out ht2 (fun i h e=>by have e2:i=_:=e;omega));have hl2:w.heap.size≤w2.heap.size:=HTU2.out.size;clear htk hc2 ht2 HTK HO HC HTU hhl;dsimp only;go_wp2_with (first
    |(at_builtin;refine wpList_append_own _ rfl (.tmp 25) (.tmp 27) 39 rfl w.heap.size 30 i0 (.int .u32 0) 1 4 Tryz.underlying39 hi hz0 hz1 hz2 rfl (by decide) (.slice (some ⟨g',0,none⟩) i c') i _ rfl (HO1.out.alloc _) ⟨w2.heap.size,0,none⟩ 1 1 [.int .u32 (m:Int)] rfl rfl (by intro t u ht;match t,ht with|0,ht=>simp at ht;subst ht;exact Qac w2 _ _) (by intro u hu;simp at hu;subst hu;rfl) (by unfold maxLen;omega) (by omega) (by simp only[World.size_alloc];omega) ?_;intro v' w4' hown hgr _;obtain⟨g3,c3,rfl⟩:=QL hown (by omega);have HTA:=hid ((Turn.alloc w2 (.cells #[.int .u32 (m:Int)] 30) (fun i=>w.heap.size≤i)).trans (Turn.Qf hgr (fun i e _=>((HO1.out.alloc (.cells #[.int .u32 (m:Int)] 30)).lt i (by first|exact e|(rw[←e]))).1)) (fun _ _ h=>h));have HOW:=hid hown;clear hown hgr)
    |fail)
   have HO3:Hid (w4'.ownsRow w.heap.size 30 1 (.slice (some ⟨g3,0,none⟩) (i+1) c3) (i+1) ((ints ((freeL K N).take (i+1))).map (Value.int .u32))):=hid (by
    rw[HTL.out];unfold ints;rw[List.map_append,List.map_append];exact HOW.out)
   have hhl:=HLT.out;have HC3:Hid (CN w0 w4' g h cap size n (setAll N ((freeL K N).take (i+1)) 1)):=hid (QJ HC2.out HTA.out (Qao HC2.out.gr HTA.out (fun q hq=>by have:=HC2.out.gr.size;have h5:w.heap.size≤q:=hq;have h6:=HC2.out.newg;omega)) (by show ¬w.heap.size≤g;omega) (by show ¬w.heap.size≤h;omega));have HTU3:Hid (Turn w w4' (·=h)):=hid (HTU2.out.trans HTA.out (fun i h e=>by have e2:w.heap.size≤i:=e;omega));clear hhl;go_roundw
   case rel=>exact⟨i+1,g3,c3,by omega,by go_num,rfl,HO3,HC3,HTU3⟩
   case measure=>simp[intOf];omega
  ·have hq:decide (i<k)=false:=decide_eq_false hlt;obtain rfl:i=k:=by omega
   have HLI:=hid (HLL.out i (Nat.le_refl _));go_wp2;go_ret2
   refine⟨some ⟨g',0,none⟩,c',by rw[HLI.out];rfl,by rw[HLI.out];exact Qcc HO.out,fun ad had=>?_,HC.out,HTU.out⟩;obtain⟨a2,c2,e2,h3⟩:=QaP HO.out;cases e2
   exact h3 ad had
theorem Qis(w0 w:World)(g h cap:Nat)(size:Int)(n:Nat)(N:List Int)(a:Option Addr)(m c:Nat)(l:List Nat)(hc:CN w0 w g h cap size n N)(hs:Ws.Seg w a m c (ints l))(hl:∀q∈l,2≤q∧q<n)(hm:m≤100000)(ha:∀ad,a=some ad→ad.block≠h) :
  Calls Tryz.prog 53 #[.pointer (some ⟨g,0,none⟩),.slice a m c] w fun e w'=>e=.returned (.tuple #[])∧CN w0 w' g h cap size n (setAll N l 0)∧Turn w w' (·=h):=by
 have HLN:Hid (l.length=m):=hid (by have:=hs.len;unfold ints at this;rw[List.length_map]at this;exact this);have HNB:Hid (n≤4096∧N.length=n):=hid (by have:=hc.cc.small;have:=hc.ok.len;omega);have HSG:=hid hs;have HAH:=hid ha;have HL:=hid hl;have HC0:=hid hc;have hle:=hs.le;clear hs ha hl hc;go_enter Tryz.func53,Tryz.ntmps53
 go_wp2
 go_loopw [8] (fun si wr=>∃i:Nat,i≤m∧si=.int .i64 i∧Hid (CN w0 wr g h cap size n (setAll N (l.take i) 0))∧Hid (Turn w wr (·=h))) (fun si _=>m-(intOf si).toNat)
 case atStart=>exact⟨0,Nat.zero_le _,rfl,HC0,hid (Turn.refl _ _)⟩
 case round=>
  clear HC0;obtain⟨i,him,rfl,HC,HT⟩:=hrel;by_cases hlt:i<m
  ·have hq:decide (i<m)=true:=decide_eq_true hlt;obtain⟨ga,oa,rfl,hcell⟩:=(Qp HSG.out HT.out (fun ad had=>HAH.out ad had)).addr (by omega);have hck:=hcell i hlt;have hi2:i<l.length:=by rw[HLN.out];exact hlt
   have e1:(ints l).getD i 0=(l.getD i 0:Nat):=by unfold ints;rw[List.getD_eq_getElem?_getD,List.getD_eq_getElem?_getD,List.getElem?_map,List.getElem?_eq_getElem hi2];rfl
   rw[e1]at hck;have hqb:=HL.out (l.getD i 0) (by rw[List.getD_eq_getElem?_getD,List.getElem?_eq_getElem hi2];exact List.getElem_mem hi2);have HTK:Hid (l.take (i+1)=l.take i++[l.getD i 0]):=hid (by rw[List.take_succ_eq_append_getElem hi2,List.getD_eq_getElem?_getD,List.getElem?_eq_getElem hi2];rfl);obtain⟨q,hqq⟩:∃q,l.getD i 0=q:=⟨_,rfl⟩;rw[hqq]at hck hqb HTK;have HQ:=hid hqb;have hq32:q<4294967296:=by have:=HNB.out;omega
   clear hcell e1 hqq hi2 hqb;go_wp2
   go_loopw [12] (fun _ wx=>∃M:List Int,Hid (CN w0 wx g h cap size n M)∧Hid (M.set q 0=setAll N (l.take (i+1)) 0∧M.length=n)∧Hid (Turn w wx (·=h))) (fun _ wx=>match wx.cell? ⟨h,q,none⟩ with|some v=>(intOf v).toNat|none=>0)
   case atStart=>exact⟨_,HC,hid ⟨by rw[HTK.out,QdK],by rw[QE];exact HNB.out.2⟩,HT⟩
   case round=>
    clear HC HT hck;obtain⟨M,HC,HM,HT⟩:=hrel;have HGT:=hid (HC.out.get q hq32);have HSB:=hid (HC.out.sub q hq32);have hcell:=(HC.out.cc.row q (by rw[HM.out.2];exact HQ.out.2)).1;have hnn:=(HC.out.ok.at' q);have HVV:Hid (M.getD q 0≠0→Cn.subE M q=0∧Cn.subN M q=M.set q (M.getD q 0-1)):=hid (fun hv=>by
     have h1:Cn.subE M q=0:=by
      unfold Cn.subE;rw[if_neg (fun z=>z ⟨HQ.out.1,by rw[HM.out.2];exact HQ.out.2⟩),if_neg hv]
     exact⟨h1,if_pos h1⟩)
    have HZZ:Hid (M.getD q 0=0→M=M.set q 0):=hid (fun hv=>by
     refine(List.ext_getElem? fun j=>?_);by_cases e:j=q
     ·subst e;rw[List.getElem?_set_self (by rw[HM.out.2];exact HQ.out.2),List.getElem?_eq_getElem (by rw[HM.out.2];exact HQ.out.2)];rw[List.getD_eq_getElem?_getD,List.getElem?_eq_getElem (by rw[HM.out.2];exact HQ.out.2)]at hv;exact congrArg some hv
     ·rw[List.getElem?_set_ne (fun z=>e z.symm)])
    obtain⟨v,hv⟩:∃v,M.getD q 0=v:=⟨_,rfl⟩;rw[hv]at HGT hcell hnn HVV HZZ;have HV:=hid hv;have HCELL:=hid hcell;by_cases h0:v=0
    ·subst h0;have HX:Hid (CN w0 wr g h cap size n (setAll N (l.take (i+1)) 0)):=hid (by
      rw[←HM.out.1,←HZZ.out rfl];exact HC.out)
     clear HC HM HSB HVV HZZ hcell hv hnn;go_wp2_with (first|(go_at_call 47;refine HGT.out.mono ?_;rintro e w' ⟨rfl,rfl⟩)|fail)
     go_roundw
     case rel=>exact⟨i+1,by omega,by go_num,HX,HT⟩
     case measure=>simp[intOf];omega
    ·have q0:decide (0<v)=true:=decide_eq_true (by omega);obtain⟨hs1,hs2⟩:=HVV.out h0;have HS2:=hid hs2;have hmeas:(match wr.cell? ⟨h,q,none⟩ with|some v=>(intOf v).toNat|none=>0)=v.toNat:=by rw[hcell];rfl
     have HME:=hid hmeas;have HVP:Hid (0<v):=hid (by omega);clear hs1 hs2 hmeas hcell hv h0 hnn HVV HZZ;go_wp2_with (first|(go_at_call 47;refine HGT.out.mono ?_;rintro e w' ⟨rfl,rfl⟩)|fail)
     refine HSB.out.mono ?_;rintro e w3 ⟨rfl,hc3,ht3⟩;have HC3:Hid (CN w0 w3 g h cap size n (M.set q (v-1))):=hid (by rw[←HS2.out];exact hc3);have HT3:=hid (HT.out.trans ht3 (fun _ _ e=>e));have HM3:Hid ((M.set q (v-1)).set q 0=setAll N (l.take (i+1)) 0∧(M.set q (v-1)).length=n):=hid ⟨by rw[List.set_set];exact HM.out.1,by rw[List.length_set];exact HM.out.2⟩;have HME3:Hid ((match w3.cell? ⟨h,q,none⟩ with|some v=>(intOf v).toNat|none=>0)=(v-1).toNat):=hid (by
      have h5:=(HC3.out.cc.row q (by rw[HM3.out.2];exact HQ.out.2)).1;rw[Qj _ _ _ _ (by rw[HM.out.2];exact HQ.out.2),if_pos rfl]at h5;rw[h5]
      rfl)
     clear hc3 ht3 HSB HGT HC HM HS2;dsimp only;go_wp2;go_roundw
     case rel=>exact⟨M.set q (v-1),HC3,HM3,HT3⟩
     case measure=>
      rw[HME3.out,HME.out];have:=HVP.out;omega
  ·have hq:decide (i<m)=false:=decide_eq_false hlt;obtain rfl:i=m:=by omega
   have HX:Hid (CN w0 wr g h cap size n (setAll N l 0)):=hid (by
    have h1:=HC.out;rw[List.take_of_length_le (by rw[HLN.out];exact Nat.le_refl _)]at h1;exact h1)
   go_wp2
   go_end0
   exact⟨rfl,HX.out,HT.out⟩
end Sp
end Go.Proofs.YtgffbbdcbkikhaaGreatDoor
