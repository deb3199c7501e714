/- Parts of the proof. -/
import Derived.Test.YtljanfnhmhimiaaGreatSce
set_option maxRecDepth 100000
set_option maxHeartbeats 8000000
open Go.Lib (hid)
namespace Go.Proofs.YtljanfnhmhimiaaGreat
namespace In
open Go.RowKit Go.Joins
open Is (IsI)
open Oct (readV ofB)
open Pk (getR wid IsU GetX)
open Dv (Turn nowhere)
theorem QbP{b g:Nat}{w w':World}{l:List Int}{q er:Int}{nn:Nat}{e:Ending}(h:RVarX b g w l e w')(hq:readV 0 0 l=(q,er,nn)):RRead b g w q er (l.drop nn) e w':=by
 unfold RVarX at h;rw[hq]at h;exact h
def GetN(w:World)(r:Int×List Int)(e:Ending)(w':World):Prop:=
 ∃a c,e=.returned (.tuple #[.slice a r.2.length c,.int .i64 r.1])∧Is.Seg w' a r.2.length c r.2∧Below w.heap.size w w'∧∀ad,a=some ad→w.heap.size≤ad.block
theorem QaC{w w':World}(h:Below w.heap.size w w'):GetN w (4,[]) (.returned (.tuple #[.slice none 0 0,.int .i64 4])) w':=⟨none,0,rfl,Is.Seg.nil w',h,fun ad e=>by cases e⟩
theorem QeY(a:Option Addr)(n c:Nat)(w:World)(hs:Bs.Seg w a n c [])(hn:n≤100000000) :
  Calls Tryz.prog 73 #[.slice a n c] w (GetN w (4,[])):=by
 have HNew:=hid (QV a n c [] w hs (by omega));clear hs hn;go_enter Tryz.func73,Tryz.ntmps73
 go_wp2_with fail
 refine HNew.out.mono ?_;rintro e w1 ⟨b,g,rfl,hb0,hrd,hgr,hgl⟩;have HNum:=hid (QaQ b g [] 1 w1 hrd (by decide) (by decide) (by decide));have HB1:Hid (Below w.heap.size w w1):=hid (below_grown hgr (Nat.le_refl _));have HB0:=hid hb0;have HG1:=hid hgl;clear hb0 hrd hgr hgl;dsimp only;go_wp2_with fail
 refine HNum.out.mono ?_;rintro e w2 ⟨rfl,ht2,hr2⟩;have HV:=hid (rvar_any b g [] w2 hr2 (fun x hx=>by cases hx));have HB2:Hid (Below w.heap.size w w2):=hid (Qh HB1.out ht2 HB0.out);clear ht2 hr2;dsimp only;go_wp2_with fail
 refine HV.out.mono ?_;intro e w3 h;obtain⟨rfl,ht3,hr3⟩:=QbP h (show readV 0 0 []=(0,7,0) from rfl);have HF:Hid (GetN w (4,[]) (.returned (.tuple #[.slice none 0 0,.int .i64 4])) w3):=hid (QaC (Qh HB2.out ht3 HB0.out));clear h ht3 hr3;dsimp only;go_wp2;go_ret2
 exact HF.out
theorem Qnw(a:Option Addr)(n c:Nat)(k N er:Int)(nn:Nat)(t:List Int)(w:World)(hs:Bs.Seg w a n c (k :: t))(hb:Oct.IsB (k :: t))(hn:n≤100000000)(hv:readV 0 0 t=(N,er,nn))(hN:er≠0∨(er=0∧4096<N)) :
  Calls Tryz.prog 73 #[.slice a n c] w (GetN w (4,[])):=by
 have HNew:=hid (QV a n c (k :: t) w hs (by omega));have HB:=hid hb;have HS:=hid hs;have HBt:Hid (Oct.IsB t):=hid fun x hx=>hb x (by simp[hx])
 have HVe:=hid hv;have hlen:=hs.len;have HLen:=hid hlen;have htl:(t.drop nn).length≤100000000:=by rw[List.length_drop];rw[List.length_cons]at hlen;omega
 have HTL:=hid htl;have hnpos:0<n:=by rw[List.length_cons]at hlen;omega
 have HNP:=hid hnpos;clear hs hb hn hv hlen htl hnpos;go_enter Tryz.func73,Tryz.ntmps73
 go_wp2_with fail
 refine HNew.out.mono ?_;rintro e w1 ⟨b,g,rfl,hb0,hrd,hgr,hgl⟩;have HNum:Hid (Calls Tryz.prog 127 #[.pointer (some ⟨b,0,none⟩),.int .i64 1] w1 (RRead b g w1 k 0 t)):=hid (by
  have:=Qai b g (k :: t) 1 w1 hrd HB.out (by decide) (by decide) (by simp)
  rwa [show ofB ((k :: t).take 1)=k from by simp[ofB]]at this)
 have HB1:Hid (Below w.heap.size w w1):=hid (below_grown hgr (Nat.le_refl _));have HB0:=hid hb0;have HG1:=hid hgl;clear hb0 hrd hgr hgl;dsimp only;go_wp2_with fail
 refine HNum.out.mono ?_;rintro e w2 ⟨rfl,ht2,hr2⟩;have HV:=hid (rvar_any b g t w2 hr2 HBt.out);have HB2:Hid (Below w.heap.size w w2):=hid (Qh HB1.out ht2 HB0.out);have HG2:Hid (g<w2.heap.size):=hid (Nat.lt_of_lt_of_le HG1.out ht2.size);clear ht2 hr2 HNum;dsimp only;rcases hN with hN|⟨rfl,hN⟩
 ·go_wp2_with fail
  refine HV.out.mono ?_;intro e w3 h;obtain⟨rfl,ht3,hr3⟩:=QbP h HVe.out;have HB3:Hid (Below w.heap.size w w3):=hid (Qh HB2.out ht3 HB0.out);have HR3:=hid hr3;have HG3:Hid (g<w3.heap.size):=hid (Nat.lt_of_lt_of_le HG2.out ht3.size);clear h ht3 hr3 HV;dsimp only;have HF:Hid (GetN w (4,[]) (.returned (.tuple #[.slice none 0 0,.int .i64 4])) w3):=hid (QaC HB3.out);go_wp2;go_ret2
  exact HF.out
 ·go_wp2_with fail
  refine HV.out.mono ?_;intro e w3 h;obtain⟨rfl,ht3,hr3⟩:=QbP h HVe.out;have HB3:Hid (Below w.heap.size w w3):=hid (Qh HB2.out ht3 HB0.out);have HR3:=hid hr3;have HG3:Hid (g<w3.heap.size):=hid (Nat.lt_of_lt_of_le HG2.out ht3.size);clear h ht3 hr3 HV;dsimp only;have HF:Hid (GetN w (4,[]) (.returned (.tuple #[.slice none 0 0,.int .i64 4])) w3):=hid (QaC HB3.out);go_wp2;go_ret2
  exact HF.out
theorem QmP(a:Option Addr)(n c:Nat)(k:Int)(N nn:Nat)(t:List Int)(w:World)(hs:Bs.Seg w a n c (k :: t))(hb:Oct.IsB (k :: t))(hn:n≤100000000)(hv:readV 0 0 t=((N:Int),0,nn))(hN:N≤4096)(hk:k<1∨3<k) :
  Calls Tryz.prog 73 #[.slice a n c] w (GetN w (4,[])):=by
 have HNew:=hid (QV a n c (k :: t) w hs (by omega));have HB:=hid hb;have HS:=hid hs;have HBt:Hid (Oct.IsB t):=hid fun x hx=>hb x (by simp[hx])
 have HVe:=hid hv;have hlen:=hs.len;have HLen:=hid hlen;have htl:(t.drop nn).length≤100000000:=by rw[List.length_drop];rw[List.length_cons]at hlen;omega
 have HTL:=hid htl;have hnpos:0<n:=by rw[List.length_cons]at hlen;omega
 have HNP:=hid hnpos;have k1:(k==1)=false:=by simp;omega
 have k2:(k==2)=false:=by simp;omega
 have k3:(k==3)=false:=by simp;omega
 have hnil:∀W,(convert 45 9 (.slice none 0 0)).run Tryz.prog W=.ok (.string ⟨#[]⟩) W:=fun W=>by kernel_rfl
 clear hs hb hn hv hlen htl hnpos hk;go_enter Tryz.func73,Tryz.ntmps73
 go_wp2_with fail
 refine HNew.out.mono ?_;rintro e w1 ⟨b,g,rfl,hb0,hrd,hgr,hgl⟩;have HNum:Hid (Calls Tryz.prog 127 #[.pointer (some ⟨b,0,none⟩),.int .i64 1] w1 (RRead b g w1 k 0 t)):=hid (by
  have:=Qai b g (k :: t) 1 w1 hrd HB.out (by decide) (by decide) (by simp)
  rwa [show ofB ((k :: t).take 1)=k from by simp[ofB]]at this)
 have HB1:Hid (Below w.heap.size w w1):=hid (below_grown hgr (Nat.le_refl _));have HB0:=hid hb0;have HG1:=hid hgl;clear hb0 hrd hgr hgl;dsimp only;go_wp2_with fail
 refine HNum.out.mono ?_;rintro e w2 ⟨rfl,ht2,hr2⟩;have HV:=hid (rvar_any b g t w2 hr2 HBt.out);have HB2:Hid (Below w.heap.size w w2):=hid (Qh HB1.out ht2 HB0.out);have HG2:Hid (g<w2.heap.size):=hid (Nat.lt_of_lt_of_le HG1.out ht2.size);clear ht2 hr2 HNum;dsimp only;go_wp2_with fail
 refine HV.out.mono ?_;intro e w3 h;obtain⟨rfl,ht3,hr3⟩:=QbP h HVe.out;have HB3:Hid (Below w.heap.size w w3):=hid (Qh HB2.out ht3 HB0.out);have HR3:=hid hr3;have HG3:Hid (g<w3.heap.size):=hid (Nat.lt_of_lt_of_le HG2.out ht3.size);clear h ht3 hr3 HV;dsimp only;have hcb:=QG (HS.out.grown (Bs.grown_of HB3.out)) HNP.out;have hne:¬strOfNums (k :: t)=(⟨#[]⟩:ByteArray):=fun e=>by
  have h2:(strOfNums (k :: t)).size=0:=by rw[e];rfl
  rw[strOfNums_size,List.length_cons]at h2;omega
 have hem:(strOfNums (k :: t)).toList.isEmpty=false:=by
  have h2:=Qch hne;rw[show(⟨#[]⟩:ByteArray).toList=[] from by rw[Go.ByteArray.toList_eq]]at h2;cases h3:(strOfNums (k :: t)).toList with
  |nil=>exact absurd h3 h2
  |cons x r=>rfl
 obtain⟨Z,hZ⟩:∃Z,strOfNums (k :: t)=Z:=⟨_,rfl⟩;rw[hZ]at hcb hem;clear hne;have HF:Hid (GetN w (4,[]) (.returned (.tuple #[.slice none 0 0,.int .i64 4])) w3):=hid (QaC HB3.out);clear hZ HB HS HBt HVe HLen HTL HR3;go_wp2;go_ret2
 exact HF.out
end In
namespace In
open Go.RowKit Go.Joins
open Is (IsI)
open Oct (readV ofB)
open Pk (getR wid IsU GetX)
open Dv (Turn nowhere)
def rgF(K:Nat)(t:List Int)(X:Option (List Int×List Int)):Int×List Int:=match X with
 |none=>(4,[])
 |some (l,_)=>if encB K l=(K:Int) :: t then(0,l) else(4,[])
theorem Qhk{K:Nat}{t l r:List Int}(h:encB K l=(K:Int) :: t):rgF K t (some (l,r))=(0,l):=by show(if _ then _ else _)=_;rw[if_pos h]
theorem Qi4{K:Nat}{t l r:List Int}(h:¬encB K l=(K:Int) :: t):rgF K t (some (l,r))=(4,[]):=by show(if _ then _ else _)=_;rw[if_neg h]
theorem Qjd(a:Option Addr)(n c N nn:Nat)(t:List Int)(w:World)(hs:Bs.Seg w a n c (2 :: t))(hb:Oct.IsB (2 :: t))(hn:n≤100000000)(hv:readV 0 0 t=((N:Int),0,nn))(hN:N≤4096) :
  Calls Tryz.prog 73 #[.slice a n c] w (GetN w (rgF 2 t (decF false 2 N (t.drop nn)))):=by
 have HNew:=hid (QV a n c (2 :: t) w hs (by omega));have HB:=hid hb;have HS:=hid hs;have HBt:Hid (Oct.IsB t):=hid fun x hx=>hb x (by simp[hx])
 have HVe:=hid hv;have hlen:=hs.len;have HLen:=hid hlen;have htl:(t.drop nn).length≤100000000:=by rw[List.length_drop];rw[List.length_cons]at hlen;omega
 have HTL:=hid htl;have hnpos:0<n:=by rw[List.length_cons]at hlen;omega
 have HNP:=hid hnpos;have HEq:Hid (decF false 2 N (t.drop nn)=decR false N none N (t.drop nn)):=hid rfl;rw[HEq.out];obtain⟨X,hX⟩:∃X,decR false N none N (t.drop nn)=X:=⟨_,rfl⟩;have HXe:=hid hX;rw[hX];clear hs hb hn hv hlen htl hnpos hX HEq;go_enter Tryz.func73,Tryz.ntmps73
 go_wp2_with fail
 refine HNew.out.mono ?_;rintro e w1 ⟨b,g,rfl,hb0,hrd,hgr,hgl⟩;have HNum:Hid (Calls Tryz.prog 127 #[.pointer (some ⟨b,0,none⟩),.int .i64 1] w1 (RRead b g w1 2 0 t)):=hid (by
  have:=Qai b g (2 :: t) 1 w1 hrd HB.out (by decide) (by decide) (by simp)
  rwa [show ofB ((2 :: t).take 1)=2 from by simp[ofB]]at this)
 have HB1:Hid (Below w.heap.size w w1):=hid (below_grown hgr (Nat.le_refl _));have HB0:=hid hb0;have HG1:=hid hgl;clear hb0 hrd hgr hgl;dsimp only;go_wp2_with fail
 refine HNum.out.mono ?_;rintro e w2 ⟨rfl,ht2,hr2⟩;have HV:=hid (rvar_any b g t w2 hr2 HBt.out);have HB2:Hid (Below w.heap.size w w2):=hid (Qh HB1.out ht2 HB0.out);have HG2:Hid (g<w2.heap.size):=hid (Nat.lt_of_lt_of_le HG1.out ht2.size);clear ht2 hr2 HNum;dsimp only;go_wp2_with fail
 refine HV.out.mono ?_;intro e w3 h;obtain⟨rfl,ht3,hr3⟩:=QbP h HVe.out;have HB3:Hid (Below w.heap.size w w3):=hid (Qh HB2.out ht3 HB0.out);have HR3:=hid hr3;have HG3:Hid (g<w3.heap.size):=hid (Nat.lt_of_lt_of_le HG2.out ht3.size);clear h ht3 hr3 HV;dsimp only;have HRu:=hid (QjO b g N (t.drop nn) w3 HR3.out HG3.out (Qn HBt.out nn) (by omega));rw[HXe.out]at HRu;go_wp2_with fail
 refine HRu.out.mono ?_;rintro e w4 ⟨ht4,hx⟩;have HB4:Hid (Below w.heap.size w w4):=hid (Qh HB3.out ht4 HB0.out);clear ht4 HRu;cases X with
 |none=>
  subst hx;have HF:Hid (GetN w (rgF 2 t none) (.returned (.tuple #[.slice none 0 0,.int .i64 4])) w4):=hid (QaC HB4.out);dsimp only;go_wp2;go_ret2
  exact HF.out
 |some pr=>
  obtain⟨L,rest⟩:=pr;obtain⟨aL,cL,rfl,hsL,hrL,hnL⟩:=hx;have HNL:Hid (∀ad,aL=some ad→w.heap.size≤ad.block):=hid (fun ad e=>Nat.le_trans HB3.out.size (hnL ad e));obtain⟨m,hm⟩:∃m,L.length=m:=⟨_,rfl⟩;rw[hm]at hsL;have HLs:=hid hsL;have HLl:=hid hm;have hmN:m=N:=by rw[←hm];exact(Qhr false _ _ _ _ _ _ (Qn HBt.out nn) HXe.out).1
  have hm4:m≤4096:=by omega
  rw[hm];clear hsL hrL hnL hm hmN;dsimp only;have hl4:L.length≤4096:=by rw[HLl.out];exact hm4
  obtain⟨p,hp⟩:∃p,(encB 2 L).length=p:=⟨_,rfl⟩;have HPp:=hid hp;have hppos:=(Qba 2 L hl4).1;rw[hp]at hppos;have HPP:=hid hppos;have HEn:=hid (rruns_any aL m cL L w4 HLs.out);have HFew:=hid (Qe1 (e:=encB 2 L) hl4);clear hp hl4 hppos;go_wp2_with fail
  refine HEn.out.mono ?_;intro e wq h;obtain⟨ap,kp,rfl,hsp,hbp⟩:=QaV h HFew.out HPp.out;have HBq:Hid (Below w.heap.size w wq):=hid (HB4.out.trans (Qf hbp HB4.out.size));have HLq:=hid (HLs.out.grown (Bs.grown_of hbp));have hc1:=QG hsp HPP.out;have hc2:=QG (HS.out.grown (Bs.grown_of HBq.out)) HNP.out;by_cases he:encB 2 L=2 :: t
  ·have HF:Hid (GetN w (rgF 2 t (some (L,rest))) (.returned (.tuple #[.slice aL m cL,.int .i64 0])) wq):=hid (by
    rw[Qhk he];exact⟨aL,cL,by rw[HLl.out],by rw[HLl.out];exact HLq.out,HBq.out,HNL.out⟩)
   rw[he]at hc1;obtain⟨Z,hZ⟩:∃Z,strOfNums (2 :: t)=Z:=⟨_,rfl⟩;rw[hZ]at hc1 hc2;clear h hsp hbp he hZ HEn HFew HLq HLs;dsimp only;go_wp2;go_ret2
   exact HF.out
  ·have HF:Hid (GetN w (rgF 2 t (some (L,rest))) (.returned (.tuple #[.slice none 0 0,.int .i64 4])) wq):=hid (by
    rw[Qi4 he];exact QaC HBq.out)
   have hne:=Qch (fun e=>he (Dv.QbF (Qcj 2 L (by decide) (by rw[HLl.out];omega)) HB.out e));obtain⟨Z,hZ⟩:∃Z,strOfNums (2 :: t)=Z:=⟨_,rfl⟩;obtain⟨Z2,hZ2⟩:∃Z,strOfNums (encB 2 L)=Z:=⟨_,rfl⟩;rw[hZ,hZ2]at hne;rw[hZ2]at hc1;rw[hZ]at hc2;have hEl:(Z2.toList==Z.toList)=false:=beq_eq_false_iff_ne.2 hne;clear hne;clear h hsp hbp he hZ hZ2 HEn HFew HLq HLs;dsimp only;go_wp2;go_ret2
   exact HF.out
end In
namespace In
open Go.RowKit Go.Joins
open Is (IsI)
open Oct (readV ofB)
open Pk (getR wid IsU GetX)
open Dv (Turn nowhere)
theorem Qi9(a:Option Addr)(n c N nn:Nat)(t:List Int)(w:World)(hs:Bs.Seg w a n c (1 :: t))(hb:Oct.IsB (1 :: t))(hn:n≤100000000)(hv:readV 0 0 t=((N:Int),0,nn))(hN:N≤4096) :
  Calls Tryz.prog 73 #[.slice a n c] w (GetN w (rgF 1 t (decF false 1 N (t.drop nn)))):=by
 obtain⟨i0,hi,hz0,hz1,hz2⟩:=info_parts Is.Qax;have HNew:=hid (QV a n c (1 :: t) w hs (by omega));have HB:=hid hb;have HS:=hid hs;have HBt:Hid (Oct.IsB t):=hid fun x hx=>hb x (by simp[hx])
 have HVe:=hid hv;have hlen:=hs.len;have HLen:=hid hlen;have htl:(t.drop nn).length≤100000000:=by rw[List.length_drop];rw[List.length_cons]at hlen;omega
 have HTL:=hid htl;have hnpos:0<n:=by rw[List.length_cons]at hlen;omega
 have HNP:=hid hnpos;have HEq:Hid (decF false 1 N (t.drop nn)=decP N (t.drop nn)):=hid rfl;rw[HEq.out];obtain⟨X,hX⟩:∃X,decP N (t.drop nn)=X:=⟨_,rfl⟩;have HXe:=hid hX;rw[hX];clear hs hb hn hv hlen htl hnpos hX HEq;go_enter Tryz.func73,Tryz.ntmps73
 go_wp2_with fail
 refine HNew.out.mono ?_;rintro e w1 ⟨b,g,rfl,hb0,hrd,hgr,hgl⟩;have HNum:Hid (Calls Tryz.prog 127 #[.pointer (some ⟨b,0,none⟩),.int .i64 1] w1 (RRead b g w1 1 0 t)):=hid (by
  have:=Qai b g (1 :: t) 1 w1 hrd HB.out (by decide) (by decide) (by simp)
  rwa [show ofB ((1 :: t).take 1)=1 from by simp[ofB]]at this)
 have HB1:Hid (Below w.heap.size w w1):=hid (below_grown hgr (Nat.le_refl _));have HB0:=hid hb0;have HG1:=hid hgl;clear hb0 hrd hgr hgl;dsimp only;go_wp2_with fail
 refine HNum.out.mono ?_;rintro e w2 ⟨rfl,ht2,hr2⟩;have HV:=hid (rvar_any b g t w2 hr2 HBt.out);have HB2:Hid (Below w.heap.size w w2):=hid (Qh HB1.out ht2 HB0.out);have HG2:Hid (g<w2.heap.size):=hid (Nat.lt_of_lt_of_le HG1.out ht2.size);clear ht2 hr2 HNum;dsimp only;go_wp2_with fail
 refine HV.out.mono ?_;intro e w3 h;obtain⟨rfl,ht3,hr3⟩:=QbP h HVe.out;have HB3:Hid (Below w.heap.size w w3):=hid (Qh HB2.out ht3 HB0.out);have HR3:=hid hr3;have HG3:Hid (g<w3.heap.size):=hid (Nat.lt_of_lt_of_le HG2.out ht3.size);clear h ht3 hr3 HV;dsimp only;have HE0:Hid (decP N (t.drop nn)=(decP (N-0) (t.drop nn)).map (fun p=>(([]:List Int)++p.1,p.2))):=hid (by simp);have HBb:Hid (b<w3.heap.size):=hid HR3.out.lt;have HBd:Hid (Oct.IsB (t.drop nn)):=hid (Qn HBt.out nn);go_wp2
 go_loopw [10,12] (fun so si wr=>∃(k:Nat) (acc rest:List Int) (aV:Option Addr) (cV:Nat),k≤N∧si=.int .i64 k∧so=.slice aV k cV∧Hid (wr.ownsRow w3.heap.size 2 1 (.slice aV k cV) k (acc.map (Value.int .i64))) ∧
   Hid (RR wr b g rest)∧Hid (Oct.IsB rest)∧Hid (decP N (t.drop nn)=(decP (N-k) rest).map (fun p=>(acc++p.1,p.2)))∧Hid (Turn w3 wr (At b)))
  (fun _ si _=>N-(intOf si).toNat)
 case atStart=>exact⟨0,[],t.drop nn,none,0,Nat.zero_le _,rfl,rfl,hid (World.ownsRow_nil _ _ _ _),HR3,HBd,HE0,hid (Turn.refl _ _)⟩
 case round=>
  obtain⟨k,acc,rest,aV,cV,hk,rfl,rfl,HO,HR,HBr,HE,HT⟩:=hrel;by_cases hlt:k<N
  ·have hstep:=QhR N k (t.drop nn) acc rest hlt HE.out;by_cases h8:rest.length<8
   ·have HN:=hid (QaQ b g rest 8 wr HR.out (by decide) (by decide) h8);have HXn:Hid (X=none):=hid (by rw[←HXe.out];exact hstep.1 h8);clear hstep h8;go_wp2_with fail
    refine HN.out.mono ?_;rintro e w4 ⟨rfl,ht4,hr4⟩;have HF:Hid (GetN w (rgF 1 t X) (.returned (.tuple #[.slice none 0 0,.int .i64 4])) w4):=hid (by
     rw[HXn.out];exact QaC (Qh HB3.out (Qe HT.out ht4 (fun i e=>.inl e)) HB0.out))
    clear ht4 hr4;dsimp only;go_wp2;go_ret2
    exact HF.out
   ·have h8':8≤rest.length:=by omega
    have HS2:=hid (hstep.2 h8');have HN:=hid (Qai b g rest 8 wr HR.out HBr.out (by decide) (by decide) h8');have hz:=QaG (rest.take 8) (QB HBr.out 8) (by rw[List.length_take];omega);obtain⟨z,hze⟩:∃z,ofB (rest.take 8)=z:=⟨_,rfl⟩;rw[hze]at HN HS2 hz;have HZ:=hid (QbT z hz.1 hz.2);have HB2:=hid (Qn HBr.out 8);clear hstep h8 h8' hze hz;go_wp2_with fail
    refine HN.out.mono ?_;rintro e w4 ⟨rfl,ht4,hr4⟩;have HO4:=hid (Qbm HO.out ht4 HBb.out);have HT4:Hid (Turn w3 w4 (At b)):=hid (Qe HT.out ht4 (fun i e=>.inl e));have HR4:=hid hr4;have HW:Hid (w3.heap.size≤w4.heap.size):=hid HT4.out.size;clear ht4 hr4 HN;dsimp only;go_wp2_with (at_builtin;refine wpList_append_own _ rfl (.tmp 63) (.tmp 66) 131 rfl w3.heap.size 2 i0 (.int .i64 0) 1 8 Tryz.underlying131 hi hz0 hz1 hz2 rfl (by decide) (.slice aV k cV) k _ rfl (HO4.out.alloc _) ⟨w4.heap.size,0,none⟩ 1 1 [.int .i64 (wrap64 z)] rfl rfl (by intro t u ht;match t,ht with|0,ht=>simp at ht;subst ht;exact Pk.Qm w4 _ _) (by intro u hu;simp at hu;subst hu;rfl) (by unfold maxLen;omega) (by omega) (by have:=HW.out;simp;omega) ?_;intro v5 w5 hown5 hgrow5 _)
    obtain⟨g5,c5,rfl⟩:=ownsRow_form hown5 (by omega);have HO5:Hid (w5.ownsRow w3.heap.size 2 1 (.slice (some ⟨g5,0,none⟩) (k+1) c5) (k+1) ((acc++[sg z]).map (Value.int .i64))):=hid (by
     rw[List.map_append,←HZ.out];exact hown5)
    have hrow:∀i,(Value.slice aV k cV).ownBlock=some i→w3.heap.size≤i:=fun i e=>(HO4.out.lt i e).1
    have HT5:Hid (Turn w3 w5 (At b)):=hid (Qcs (Qe HT4.out (Turn.alloc w4 _ (At b)) (fun i e=>.inl e)) hgrow5 hrow);have HR5:Hid (RR w5 b g (rest.drop 8)):=hid (RR.own (N:=w3.heap.size) (HR4.out.turn (Turn.alloc w4 _ nowhere) id id) hgrow5 hrow HBb.out HG3.out);clear hown5 hgrow5 hrow;go_roundw
    case rel=>exact⟨k+1,acc++[sg z],rest.drop 8,some ⟨g5,0,none⟩,c5,by omega,by go_num,rfl,HO5,HR5,HB2,HS2,HT5⟩
    case measure=>simp[intOf];omega
  ·obtain rfl:k=N:=by omega
   have HNL:Hid (∀ad,aV=some ad→w.heap.size≤ad.block):=hid (fun ad e=>Nat.le_trans HB3.out.size (Qg1 HO.out ad e));obtain⟨aL,cL,hsl,hseg⟩:=Qff HO.out;cases hsl
   have hd:=HE.out;rw[Nat.sub_self,HXe.out]at hd;have hXs:X=some (acc,rest):=by rw[hd];simp[decP]
   subst hXs;have hal:acc.length=k:=by have:=HO.out.1;rw[List.length_map]at this;omega
   have HBL:Hid (Below w.heap.size w wr):=hid (Qh HB3.out HT.out HB0.out);have HLs:=hid hseg;have HLl:=hid hal;have hm4:k≤4096:=hN;clear hseg hd hal hlt HE HO;have hl4:acc.length≤4096:=by rw[HLl.out];exact hm4
   obtain⟨p,hp⟩:∃p,(encB 1 acc).length=p:=⟨_,rfl⟩;have HPp:=hid hp;have hppos:=(Qba 1 acc hl4).1;rw[hp]at hppos;have HPP:=hid hppos;have HEn:=hid (Qbf aV k cV acc wr HLs.out);have HFew:=hid (Qe1 (e:=encB 1 acc) hl4);clear hp hl4 hppos;go_wp2_with fail
   refine HEn.out.mono ?_;intro e wq h;obtain⟨ap,kp,rfl,hsp,hbp⟩:=QaV h HFew.out HPp.out;have HBq:Hid (Below w.heap.size w wq):=hid (HBL.out.trans (Qf hbp HBL.out.size));have HLq:=hid (HLs.out.grown (Bs.grown_of hbp));have hc1:=QG hsp HPP.out;have hc2:=QG (HS.out.grown (Bs.grown_of HBq.out)) HNP.out;by_cases he:encB 1 acc=1 :: t
   ·have HF:Hid (GetN w (rgF 1 t (some (acc,rest))) (.returned (.tuple #[.slice aV k cV,.int .i64 0])) wq):=hid (by
     rw[Qhk he];exact⟨aV,cV,by rw[HLl.out],by rw[HLl.out];exact HLq.out,HBq.out,HNL.out⟩)
    rw[he]at hc1;obtain⟨Z,hZ⟩:∃Z,strOfNums (1 :: t)=Z:=⟨_,rfl⟩;rw[hZ]at hc1 hc2;clear h hsp hbp he hZ HEn HFew HLq HLs;dsimp only;go_wp2;go_ret2
    exact HF.out
   ·have HF:Hid (GetN w (rgF 1 t (some (acc,rest))) (.returned (.tuple #[.slice none 0 0,.int .i64 4])) wq):=hid (by
     rw[Qi4 he];exact QaC HBq.out)
    have hne:=Qch (fun e=>he (Dv.QbF (Qcj 1 acc (by decide) (by rw[HLl.out];omega)) HB.out e));obtain⟨Z,hZ⟩:∃Z,strOfNums (1 :: t)=Z:=⟨_,rfl⟩;obtain⟨Z2,hZ2⟩:∃Z,strOfNums (encB 1 acc)=Z:=⟨_,rfl⟩;rw[hZ,hZ2]at hne;rw[hZ2]at hc1;rw[hZ]at hc2;have hEl:(Z2.toList==Z.toList)=false:=beq_eq_false_iff_ne.2 hne;clear hne;clear h hsp hbp he hZ hZ2 HEn HFew HLq HLs;dsimp only;go_wp2;go_ret2
    exact HF.out
end In
namespace In
open Go.RowKit Go.Joins
open Is (IsI)
open Oct (readV ofB)
open Pk (getR wid IsU GetX)
open Dv (Turn nowhere)
theorem QfB(b g:Nat)(l:List Int)(w:World)(h:RR w b g l)(hb:Oct.IsB l):∃v E r,(1≤l.length→v=ofB (l.take 1)∧E=0∧r=l.drop 1)∧(l.length<1→E=7) ∧
  Calls Tryz.prog 127 #[.pointer (some ⟨b,0,none⟩),.int .i64 1] w (RRead b g w v E r):=by
 by_cases h8:l.length<1
 ·exact⟨0,7,l,fun h=>by omega,fun _=>rfl,QaQ b g l 1 w h (by decide) (by decide) h8⟩
 ·exact⟨_,0,_,fun _=>⟨rfl,rfl,rfl⟩,fun h=>by omega,Qai b g l 1 w h hb (by decide) (by decide) (by omega)⟩
theorem Qj5(b g:Nat)(l:List Int)(w:World)(h:RR w b g l)(hb:Oct.IsB l):∃v E r,(8≤l.length→v=ofB (l.take 8)∧E=0∧r=l.drop 8)∧(l.length<8→E=7)∧(l.length<8→Oct.IsB r) ∧
  Calls Tryz.prog 127 #[.pointer (some ⟨b,0,none⟩),.int .i64 8] w (RRead b g w v E r):=by
 by_cases h8:l.length<8
 ·exact⟨0,7,l,fun h=>by omega,fun _=>rfl,fun _=>hb,QaQ b g l 8 w h (by decide) (by decide) h8⟩
 ·exact⟨_,0,_,fun _=>⟨rfl,rfl,rfl⟩,fun h=>by omega,fun h=>by omega,Qai b g l 8 w h hb (by decide) (by decide) (by omega)⟩
theorem RR.seg{w:World}{b g:Nat}{l:List Int}(h:RR w b g l):∃o c,w.cell? ⟨b,0,none⟩=some (.slice (some ⟨g,o,none⟩) l.length c)∧Bs.Seg w (some ⟨g,o,none⟩) l.length c l:=by
 obtain⟨o,c,h0,hle,hc,hj⟩:=h.cells;refine⟨o,c,h0,rfl,hle,hc,(fun e=>by cases e),fun ad had j u hu=>?_⟩;cases had
 have hjn:j<l.length:=by
  have:=(List.getElem?_eq_some_iff.1 hu).1
  simpa using this
 rw[Addr.add_lit,hj j hjn];rw[List.getElem?_map,List.getElem?_eq_getElem hjn]at hu;simp[List.getD,List.getElem?_eq_getElem hjn]
 simpa using hu
def kF(n:Nat)(b:List Int):Option (List Int×List Int):=(decK false n b).map fun l=>(l,[])
theorem Qjh{n:Nat}{b:List Int}(h:b.length<9):kF n b=none:=by unfold kF decK;rw[if_pos h];rfl
theorem Qpu{n:Nat}{b:List Int}(h:9≤b.length){E:Int}{B:List Int}(hR:getR (b.drop 9) n (b.getD 8 0)=(E,B))(hE:¬E=0):kF n b=none:=by
 unfold kF decK;rw[if_neg (by omega),if_pos (by rw[hR];exact hE)];rfl
theorem QpG{n:Nat}{b:List Int}(h:9≤b.length){B:List Int}(hR:getR (b.drop 9) n (b.getD 8 0)=(0,B)):kF n b=some (B.map (above b),[]):=by
 unfold kF decK;rw[if_neg (by omega),if_neg (by rw[hR];simp),if_neg (by rintro⟨h,_⟩;cases h),hR];rfl
theorem rget_3 (a : Option Addr) (n c N nn : Nat) (t : List Int) (w : World) (hs : Bs.Seg w a n c (3 :: t)) (hb : Oct.IsB (3 :: t)) (hn : n ≤ 100000000) (hv : readV 0 0 t = ((N : Int), 0, nn)) (hN : N ≤ 4096) :
    Calls Tryz.prog 73 #[.slice a n c] w (GetN w (rgF 3 t (decF false 3 N (t.drop nn)))) := by
  obtain ⟨i0, hi, hz0, hz1, hz2⟩ := info_parts Is.Qax     
  have HNew := Lib.hid (QV       a n c (3 :: t) w hs (by omega))
  have HB := Lib.hid hb
  have HS := Lib.hid hs
  have HBt : Hid (Oct.IsB t) := Lib.hid fun x hx => hb x (by simp [hx])
  have HVe := Lib.hid hv
  have hlen := hs.len
  have HLen := Lib.hid hlen
  have htl : (t.drop nn).length ≤ 100000000 := by rw [List.length_drop]; rw [List.length_cons] at hlen; omega
  have HTL := Lib.hid htl
  have hnpos : 0 < n := by rw [List.length_cons] at hlen; omega
  have HNP := Lib.hid hnpos
  have HEq : Hid (decF false 3 N (t.drop nn) = kF N (t.drop nn)) := Lib.hid rfl
  rw [HEq.out]
  obtain ⟨bs, hbs⟩ : ∃ b, t.drop nn = b := ⟨_, rfl⟩
  have HBs : Hid (Oct.IsB bs) := Lib.hid (by rw [← hbs]; exact Qn       HBt.out nn)
  have HBe := Lib.hid hbs
  rw [hbs]
  obtain ⟨X, hX⟩ : ∃ X, kF N bs = X := ⟨_, rfl⟩
  have HXe := Lib.hid hX
  rw [hX]
  clear hs hb hn hv hlen htl hnpos hX HEq hbs
  go_enter Tryz.func73, Tryz.ntmps73
  go_wp2_with fail
  refine HNew.out.mono ?_
  rintro e w1 ⟨b, g, rfl, hb0, hrd, hgr, hgl⟩
  have HNum : Hid (Calls Tryz.prog 127 #[.pointer (some ⟨b, 0, none⟩), .int .i64 1] w1 (RRead b g w1 3 0 t)) := Lib.hid (by
    have := Qai         b g (3 :: t) 1 w1 hrd HB.out (by decide) (by decide) (by simp)
    rwa [show ofB ((3 :: t).take 1) = 3 from by simp [ofB]] at this)
  have HB1 : Hid (Below w.heap.size w w1) := Lib.hid (below_grown hgr (Nat.le_refl _))
  have HB0 := Lib.hid hb0
  have HG1 := Lib.hid hgl
  clear hb0 hrd hgr hgl
  dsimp only
  go_wp2_with fail
  refine HNum.out.mono ?_
  rintro e w2 ⟨rfl, ht2, hr2⟩
  have HV := Lib.hid (rvar_any b g t w2 hr2 HBt.out)
  have HB2 : Hid (Below w.heap.size w w2) := Lib.hid (Qh      HB1.out ht2 HB0.out)
  have HG2 : Hid (g < w2.heap.size) := Lib.hid (Nat.lt_of_lt_of_le HG1.out ht2.size)
  clear ht2 hr2 HNum
  dsimp only
  go_wp2_with fail
  refine HV.out.mono ?_
  intro e w3 h
  obtain ⟨rfl, ht3, hr3⟩ := QbP      h HVe.out
  have HB3 : Hid (Below w.heap.size w w3) := Lib.hid (Qh      HB2.out ht3 HB0.out)
  have HR3 := Lib.hid hr3
  have HG3 : Hid (g < w3.heap.size) := Lib.hid (Nat.lt_of_lt_of_le HG2.out ht3.size)
  clear h ht3 hr3 HV
  dsimp only
  rw [HBe.out] at HR3
  obtain ⟨z, E8, r8, hz8, hm8, hsh8, hnum8⟩ := Qj5         b g bs w3 HR3.out HBs.out
  have HN8 := Lib.hid hnum8
  clear hnum8
  go_wp2_with fail
  refine HN8.out.mono ?_
  rintro e w4 ⟨rfl, ht4, hr4⟩
  have HB4 : Hid (Below w.heap.size w w4) := Lib.hid (Qh      HB3.out ht4 HB0.out)
  have HR4 := Lib.hid hr4
  have HG4 : Hid (g < w4.heap.size) := Lib.hid (Nat.lt_of_lt_of_le HG3.out ht4.size)
  clear ht4 hr4 HN8
  dsimp only
  by_cases h8 : bs.length < 8
  · have hE8 := hm8 h8
    subst hE8
    have HXn : Hid (X = none) := Lib.hid (by rw [← HXe.out]; exact Qjh      (by omega))
    have hr8 : Oct.IsB r8 := hsh8 h8
    · obtain ⟨z1, E1, r1, hz1', hm1, hnum1⟩ := QfB         b g r8 w4 HR4.out hr8
      have HN1 := Lib.hid hnum1
      clear hnum1 hz8 hm8 hsh8 hz1' hm1 h8
      go_wp2_with fail
      refine HN1.out.mono ?_
      rintro e w5 ⟨rfl, ht5, hr5⟩
      have HB5 : Hid (Below w.heap.size w w5) := Lib.hid (Qh      HB4.out ht5 HB0.out)
      have HF : Hid (GetN w (rgF 3 t X) (.returned (.tuple #[.slice none 0 0, .int .i64 4])) w5) := Lib.hid (by rw [HXn.out]; exact QaC      HB5.out)
      clear ht5 hr5
      dsimp only
      go_wp2
      go_ret2
      exact HF.out
  · have h8' : 8 ≤ bs.length := by omega
    obtain ⟨hz, hE0, hr8e⟩ := hz8 h8'
    subst hE0
    have HZe := Lib.hid hz
    have HR8 := Lib.hid hr8e
    clear hz
    have HB8 : Hid (Oct.IsB r8) := Lib.hid (by rw [hr8e]; exact Qn       HBs.out 8)
    obtain ⟨z1, E1, r1, hz1', hm1, hnum1⟩ := QfB         b g r8 w4 HR4.out HB8.out
    have HN1 := Lib.hid hnum1
    have HZ1 := Lib.hid hz1'
    have HM1 := Lib.hid hm1
    clear hnum1 hr8e hz1' hm1 hz8 hm8 hsh8
    go_wp2_with fail
    refine HN1.out.mono ?_
    rintro e w5 ⟨rfl, ht5, hr5⟩
    have hz := HZe.out
    have hr8e := HR8.out
    have hz1' := HZ1.out
    have hm1 := HM1.out
    have HB5 : Hid (Below w.heap.size w w5) := Lib.hid (Qh      HB4.out ht5 HB0.out)
    have HR5 := Lib.hid hr5
    clear ht5 hr5 HN1
    dsimp only
    by_cases h9 : r8.length < 1
    · have hE1 := hm1 h9
      subst hE1
      have HXn : Hid (X = none) := Lib.hid (by rw [← HXe.out]; exact Qjh      (by rw [hr8e, List.length_drop] at h9; omega))
      have HF : Hid (GetN w (rgF 3 t X) (.returned (.tuple #[.slice none 0 0, .int .i64 4])) w5) := Lib.hid (by rw [HXn.out]; exact QaC      HB5.out)
      clear hz1' hm1 h8 h8' h9 hz hr8e
      go_wp2
      go_ret2
      exact HF.out
    · obtain ⟨hz1e, hE1, hr1e⟩ := hz1' (by omega)
      subst hE1
      have hlen9 : 9 ≤ bs.length := by rw [hr8e, List.length_drop] at h9; omega
      have hr9 : r1 = bs.drop 9 := by rw [hr1e, hr8e, List.drop_drop]
      have hzw : z1 = bs.getD 8 0 := by
        have hd : bs.drop 8 = bs.getD 8 0 :: bs.drop 9 := by
          rw [List.drop_eq_getElem_cons (by omega)]
          simp [List.getD, List.getElem?_eq_getElem (show 8 < bs.length by omega)]
        rw [hz1e, hr8e, hd]
        simp [ofB]
      have hzw2 := Qhy       HBs.out hlen9
      rw [← hzw] at hzw2
      have H9 := Lib.hid hlen9
      obtain ⟨o, cR, hcell, hsg⟩ := HR5.out.seg
      obtain ⟨E, B, hR⟩ : ∃ E B, getR (bs.drop 9) N (bs.getD 8 0) = (E, B) := ⟨_, _, rfl⟩
      have HGet := Lib.hid (Pk.Qew      (some ⟨g, o, none⟩) r1.length cR r1 (N : Int) z1 w5 hsg (Pk.Q0      (by rw [hr9]; exact Qn       HBs.out 9)))
      rw [hr9, hzw, hR, ← hzw, ← hr9] at HGet
      unfold GetX at HGet
      dsimp only at HGet
      have HRe := Lib.hid hR
      have hzb := QaG     (bs.take 8) (QB       HBs.out 8) (by rw [List.length_take]; omega)
      rw [← hz] at hzb
      obtain ⟨lr, hlr⟩ : ∃ x, r1.length = x := ⟨_, rfl⟩
      rw [hlr] at hcell HGet
      obtain ⟨m, hm⟩ : ∃ m, B.length = m := ⟨_, rfl⟩
      rw [hm] at HGet
      have HMl := Lib.hid hm
      have hwd : wrap64 z1 = z1 := by rw [← IntWalk.i64_left, IntKind.wrap_i64]; first | omega | (split <;> omega)
      clear hz1' hm1 h8 h8' h9 hz hr8e hz1e hr1e hlen9 hr9 hzw hsg hR hlr hm
      by_cases hE : E = 0
      · subst hE
        obtain ⟨p1, p2, p3, p4⟩ := Pk.Qau     (bs.drop 9) N (bs.getD 8 0) (Pk.Q0      (Qn       HBs.out 9)) (by rw [HRe.out])
        rw [HRe.out] at p2 p4
        obtain rfl : m = N := by rw [← HMl.out]; exact Int.ofNat.inj p2
        obtain ⟨L, hL⟩ : ∃ L, B.map (above bs) = L := ⟨_, rfl⟩
        have hXs : X = some (L, []) := by rw [← HXe.out, ← hL]; exact QpG    H9.out HRe.out
        subst hXs
        have HLl : Hid (L.length = m) := Lib.hid (by rw [← hL, List.length_map]; exact HMl.out)
        have HLt : Hid (∀ k x, k < m → B.getD k 0 = x → L.take (k + 1) = L.take k ++ [wrap64 (IntKind.u64.wrap (z + x))]) := Lib.hid (fun k x hk hx => by
          rw [HZe.out, Qgm       , ← hL]
          exact Qgr        bs B k x (by rw [HMl.out]; exact hk) hx)
        clear p1 p2 p3 p4 hL
        go_wp2_with fail
        refine HGet.out.mono ?_
        rintro e w6 ⟨a6, k6, rfl, hs6, hg6⟩
        have HB6 : Hid (Below w.heap.size w w6) := Lib.hid (HB5.out.trans (below_grown hg6 HB5.out.size))
        have HS6 := Lib.hid hs6
        clear hs6 hg6 HGet hcell
        dsimp only
        go_wp2
        go_loopw [10, 23] (fun so si wr => ∃ (k : Nat) (aV : Option Addr) (cV : Nat), k ≤ m ∧ si = .int .i64 k ∧ so = .slice aV k cV ∧ Hid (wr.ownsRow w6.heap.size 2 1 (.slice aV k cV) k ((L.take k).map (Value.int .i64))) ∧ Hid (Below w6.heap.size w6 wr))
          (fun _ si _ => m - (intOf si).toNat)
        case atStart => exact ⟨0, none, 0, Nat.zero_le _, rfl, rfl, Lib.hid (World.ownsRow_nil _ _ _ _), Lib.hid (Below.refl _ _)⟩
        case round =>
          obtain ⟨k, aV, cV, hk, rfl, rfl, HO, HBw⟩ := hrel
          by_cases hlt : k < m
          · have hseg := HS6.out.grown (Bs.grown_of HBw.out)
            obtain ⟨gA, oA, rfl, hc⟩ := hseg.addr (by omega)
            have g1 := hc k hlt
            obtain ⟨x, hx⟩ : ∃ x, B.getD k 0 = x := ⟨_, rfl⟩
            rw [hx] at g1
            have HP := Lib.hid (HLt.out k x hlt hx)
            obtain ⟨y, hy⟩ : ∃ y, wrap64 (IntKind.u64.wrap (z + x)) = y := ⟨_, rfl⟩
            rw [hy] at HP
            clear hx hc hseg
            go_wp2_with (at_builtin; refine wpList_append_own _ rfl (.tmp 125) (.tmp 133) 131 rfl w6.heap.size 2 i0 (.int .i64 0) 1 8 Tryz.underlying131 hi hz0 hz1 hz2 rfl (by decide) (.slice aV k cV) k _ rfl (HO.out.alloc _) ⟨wr.heap.size, 0, none⟩ 1 1 [.int .i64 y] rfl rfl (by intro t u ht; match t, ht with | 0, ht => simp at ht; subst ht; exact Pk.Qm       wr _ _) (by intro u hu; simp at hu; subst hu; rfl) (by unfold maxLen; omega) (by omega) (by have := HBw.out.size; simp; omega) ?_; intro v7 w7 hown7 hgrow7 _)
            obtain ⟨g7, c7, rfl⟩ := ownsRow_form hown7 (by omega)
            go_roundw
            case rel =>
              refine ⟨k + 1, some ⟨g7, 0, none⟩, c7, by omega, by go_num, rfl, Lib.hid ?_, Lib.hid ((HBw.out.alloc HBw.out.size _).grown hgrow7 (by have := HBw.out.size; simp; omega) (fun j e => (HO.out.lt j e).1))⟩
              rw [HP.out, List.map_append]
              exact hown7
            case measure => simp [intOf]; omega
          · obtain rfl : k = m := by omega
            have HNL : Hid (∀ ad, aV = some ad → w.heap.size ≤ ad.block) := Lib.hid (fun ad e => Nat.le_trans HB6.out.size (Qg1     HO.out ad e))
            obtain ⟨aL, cL, hsl, hseg⟩ := Qff       HO.out
            cases hsl
            rw [List.take_of_length_le (Nat.le_of_eq HLl.out)] at hseg
            have HBL : Hid (Below w.heap.size w wr) := Lib.hid (HB6.out.trans (Qf         HBw.out HB6.out.size))
            have HLs := Lib.hid hseg
            have hm4 : k ≤ 4096 := hN
            clear hseg hlt HO
            have hl4 : L.length ≤ 4096 := by rw [HLl.out]; exact hm4
            obtain ⟨p, hp⟩ : ∃ p, (encB 3 L).length = p := ⟨_, rfl⟩
            have HPp := Lib.hid hp
            have hppos := (Qba      3 L hl4).1
            rw [hp] at hppos
            have HPP := Lib.hid hppos
            have HEn := Lib.hid (rpacked_any aV k cV L wr HLs.out)
            have HFew := Lib.hid (Qe1    (e := encB 3 L) hl4)
            clear hp hl4 hppos
            go_wp2_with fail
            refine HEn.out.mono ?_
            intro e wq h
            obtain ⟨ap, kp, rfl, hsp, hbp⟩ := QaV        h HFew.out HPp.out
            have HBq : Hid (Below w.heap.size w wq) := Lib.hid (HBL.out.trans (Qf         hbp HBL.out.size))
            have HLq := Lib.hid (HLs.out.grown (Bs.grown_of hbp))
            have hc1 := QG       hsp HPP.out
            have hc2 := QG       (HS.out.grown (Bs.grown_of HBq.out)) HNP.out
            by_cases he : encB 3 L = 3 :: t
            · have HF : Hid (GetN w (rgF 3 t (some (L, ([] : List Int)))) (.returned (.tuple #[.slice aV k cV, .int .i64 0])) wq) := Lib.hid (by
                rw [Qhk     he]
                exact ⟨aV, cV, by rw [HLl.out], by rw [HLl.out]; exact HLq.out, HBq.out, HNL.out⟩)
              rw [he] at hc1
              obtain ⟨Z, hZ⟩ : ∃ Z, strOfNums (3 :: t) = Z := ⟨_, rfl⟩
              rw [hZ] at hc1 hc2
              clear h hsp hbp he hZ HEn HFew HLq HLs
              dsimp only
              go_wp2
              go_ret2
              exact HF.out
            · have HF : Hid (GetN w (rgF 3 t (some (L, ([] : List Int)))) (.returned (.tuple #[.slice none 0 0, .int .i64 4])) wq) := Lib.hid (by
                rw [Qi4    he]
                exact QaC      HBq.out)
              have hne := Qch     (fun e => he (Dv.QbF     (Qcj      3 L (by decide) (by rw [HLl.out]; omega)) HB.out e))
              obtain ⟨Z, hZ⟩ : ∃ Z, strOfNums (3 :: t) = Z := ⟨_, rfl⟩
              obtain ⟨Z2, hZ2⟩ : ∃ Z, strOfNums (encB 3 L) = Z := ⟨_, rfl⟩
              rw [hZ, hZ2] at hne
              rw [hZ2] at hc1
              rw [hZ] at hc2
              have hEl : (Z2.toList == Z.toList) = false := beq_eq_false_iff_ne.2 hne
              clear hne
              clear h hsp hbp he hZ hZ2 HEn HFew HLq HLs
              dsimp only
              go_wp2
              go_ret2
              exact HF.out
      · have HXn : Hid (X = none) := Lib.hid (by rw [← HXe.out]; exact Qpu    H9.out HRe.out hE)
        go_wp2_with fail
        refine HGet.out.mono ?_
        rintro e w6 ⟨a6, k6, rfl, hs6, hg6⟩
        have HB6 : Hid (Below w.heap.size w w6) := Lib.hid (HB5.out.trans (below_grown hg6 HB5.out.size))
        have HF : Hid (GetN w (rgF 3 t X) (.returned (.tuple #[.slice none 0 0, .int .i64 4])) w6) := Lib.hid (by rw [HXn.out]; exact QaC      HB6.out)
        have hEb : (E == 0) = false := by simpa using hE
        clear hs6 hg6 hE
        dsimp only
        go_wp2
        go_ret2
        exact HF.out
theorem Qec(k:Int)(t:List Int)(N:Nat)(nn:Nat)(hv:readV 0 0 t=((N:Int),0,nn))(hN:N≤4096)(K:Nat)(hk:k=(K:Int))(k1:1≤K)(k3:K≤3):rgetI (k :: t)=rgF K t (decF false K N (t.drop nn)):=by
 subst hk;simp only[rgetI,hv];rw[if_neg (by
  rintro(h|h)
  ·exact h rfl
  ·omega),if_neg (by omega),Int.toNat_natCast,Int.toNat_natCast]
 cases decF false K N (t.drop nn) with
 |none=>rfl
 |some p=>obtain⟨l,r⟩:=p;rfl
theorem Qlj(a:Option Addr)(n c:Nat)(bs:List Int)(w:World)(hs:Bs.Seg w a n c bs)(hb:Oct.IsB bs)(hn:n≤100000000) :
  Calls Tryz.prog 73 #[.slice a n c] w (GetN w (rgetI bs)):=by
 match bs,hs,hb with
 | [],hs,_=>exact QeY a n c w hs hn
 |k :: t,hs,hb=>
  obtain⟨N,er,nn,hv⟩:∃N er nn,readV 0 0 t=(N,er,nn):=⟨_,_,_,rfl⟩;by_cases hN:er≠0∨4096<N
  ·have e:rgetI (k :: t)=(4,[]):=by
    simp only[rgetI,hv];rw[if_pos hN]
   rw[e];exact Qnw a n c k N er nn t w hs hb hn hv (by
    by_cases h:er=0
    ·exact .inr ⟨h,hN.resolve_left fun h2=>h2 h⟩
    ·exact .inl h)
  ·have her:er=0:=Classical.byContradiction fun h=>hN (.inl h)
   subst her;obtain⟨q0,q1,-⟩:=QQ t (fun x hx=>hb x (by simp[hx])) N nn hv;obtain⟨M,rfl⟩:∃M:Nat,N=(M:Int):=⟨N.toNat,by omega⟩;have hM:M≤4096:=by omega
   by_cases hk:k<1∨3<k
   ·have e:rgetI (k :: t)=(4,[]):=by
     simp only[rgetI,hv];rw[if_neg hN,if_pos hk]
    rw[e];exact QmP a n c k M nn t w hs hb hn hv hM hk
   ·have hk3:k=1∨k=2∨k=3:=by omega
    rcases hk3 with rfl|rfl|rfl
    ·rw[Qec 1 t M nn hv hM 1 rfl (by decide) (by decide)];exact Qi9 a n c M nn t w hs hb hn hv hM
    ·rw[Qec 2 t M nn hv hM 2 rfl (by decide) (by decide)];exact Qjd a n c M nn t w hs hb hn hv hM
    ·rw[Qec 3 t M nn hv hM 3 rfl (by decide) (by decide)];exact rget_3 a n c M nn t w hs hb hn hv hM
end In
end Go.Proofs.YtljanfnhmhimiaaGreat
