/- Parts of the proof. -/
import Derived.Test.YtgffbbdcbkikhaaGreatDoorKbe
import Derived.Test.YtgffbbdcbkikhaaGreatDoorKbf
set_option maxRecDepth 100000
set_option maxHeartbeats 8000000
open Go.Lib (hid)
namespace Go.Proofs.YtgffbbdcbkikhaaGreatDoor
namespace Sp
open Go.RowKit
open Fr (putF)
theorem QfQ{p q:Nat→Bool}:∀{l:List Nat},(∀n∈l,p n=true→q n=false)→l.countP (fun n=>p n || q n)=l.countP p+l.countP q
 | [],_=>rfl
 |a :: l,h=>by
  rw[List.countP_cons,List.countP_cons,List.countP_cons,QfQ (fun n hn=>h n (List.mem_cons_of_mem _ hn))];have h1:=h a (List.mem_cons_self ..);cases e:p a with
  |true=>rw[h1 e];simp;omega
  |false=>cases q a <;> simp;omega
theorem Qe6{K:Nat}:∀{l:List Nat},l.Nodup→(∀x∈l,x<K)→(List.range K).countP (fun n=>decide (n∈l))=l.length
 | [],_,_=>by simp
 |a :: l,hn,hl=>by
  obtain⟨h1,h2⟩:=List.nodup_cons.1 hn;have e:(List.range K).countP (fun n=>decide (n∈a :: l))=(List.range K).countP (fun n=>(n==a) || decide (n∈l)):=by
   refine List.countP_congr fun n _=>?_
   simp
  rw[e,QfQ (fun n _ hx=>by
   have:n=a:=by simpa using hx
   rw[this];exact decide_eq_false h1),Qe6 h2 (fun x hx=>hl x (List.mem_cons_of_mem _ hx)),List.length_cons]
  have h3:(List.range K).count a=1:=Nat.le_antisymm (List.nodup_iff_count.1 List.nodup_range a) (List.count_pos_iff.2 (List.mem_range.2 (hl a (List.mem_cons_self ..))));unfold List.count at h3;omega
theorem QiJ(p:Nat→Bool)(l:List Nat):l.countP p+l.countP (fun n=>!p n)=l.length:=by
 have:=List.length_eq_countP_add_countP p (l:=l);simp only[Bool.not_eq_true,Bool.decide_eq_false]at this;omega
theorem QiQ{s:SpS}{hown mown:List Nat}{T:Nat}(h:SpOk s [] hown mown T)(hh:s.held=s.now)(hm:s.mark=none):(frees s).length+(2+s.sup.pages.length)=s.dv.blocks:=by
 have hgeo:=h.now.cok.geo;have hK:8≤s.dv.blocks:=by unfold Su.GeoOk at hgeo;omega
 obtain⟨r,hr⟩:=h.now.ref.rank;have hd:=(RefOk.none s.dv.blocks (kidsOf s.dv)).one h.now.ref (L:=fun m=>0<dOf s.sup.pages s.now m) hr (fun m q=>absurd q (by decide)) (fun _ q=>q);obtain⟨l,hl⟩:∃l:List Nat,l=0 :: 1 :: s.sup.pages.map Int.toNat:=⟨_,rfl⟩;have hpg:=fun p (hp:p∈s.sup.pages)=>h.page hp
 have hmem:∀n:Nat,n∈s.sup.pages.map Int.toNat↔(n:Int)∈s.sup.pages:=fun n=>by
  constructor
  ·intro e;obtain⟨p,hp,rfl⟩:=List.mem_map.1 e;have:=hpg p hp;rw[Int.toNat_of_nonneg (by omega)];exact hp
  ·exact fun e=>List.mem_map.2 ⟨_,e,Int.toNat_natCast n⟩
 have hnd:l.Nodup:=by
  rw[hl];have h2:(s.sup.pages.map Int.toNat).Nodup:=by
   have h3:=h.valid.2.2.2.2.2;refine List.pairwise_map.2 (h3.imp_of_mem fun {a b} ha hb hab e=>hab ?_);have:=hpg a ha;have:=hpg b hb;omega
  refine List.nodup_cons.2 ⟨fun e=>?_,List.nodup_cons.2 ⟨fun e=>?_,h2⟩⟩
  ·rcases List.mem_cons.1 e with e|e
   ·cases e
   ·have:=hpg _ ((hmem 0).1 e);omega
  ·have:=hpg _ ((hmem 1).1 e);omega
 have hlt:∀x∈l,x<s.dv.blocks:=fun x hx=>by
  rw[hl]at hx;rcases List.mem_cons.1 hx with e|hx
  ·omega
  ·rcases List.mem_cons.1 hx with e|hx
   ·omega
   ·have:=hpg _ ((hmem x).1 hx);omega
 have h1:=Qe6 hnd hlt;have h2:=QiJ (fun n=>decide (n∈l)) (List.range s.dv.blocks);rw[List.length_range]at h2;have h3:(frees s).length=(List.range s.dv.blocks).countP (fun n=>!decide (n∈l)):=by
  unfold frees;rw[←List.countP_eq_length_filter];refine List.countP_congr fun n hn=>?_
  have hnK:=List.mem_range.1 hn;rw[QY,hh,hm];have hlm:n∈l↔n<2∨(n:Int)∈s.sup.pages:=by
   rw[hl,List.mem_cons,List.mem_cons,hmem]
   constructor
   ·rintro(e|e|e)
    ·exact .inl (by omega)
    ·exact .inl (by omega)
    ·exact .inr e
   ·rintro(e|e)
    ·have:n=0∨n=1:=by omega
     rcases this with e|e
     ·exact .inl e
     ·exact .inr (.inl e)
    ·exact .inr (.inr e)
  have hcn:0≤s.now.getD n 0:=by
   rw[List.getD_eq_getElem?_getD,List.getElem?_eq_getElem (by rw[h.now.cok.len];exact hnK)];exact(h.now.cok.cnt _ (List.getElem_mem _)).1
  simp only[Bool.not_eq_true',decide_eq_false_iff_not,hlm]
  constructor
  ·rintro⟨a,b,-,-⟩ (e|e)
   ·omega
   ·have:=h.now.pg _ e;rw[Int.toNat_natCast]at this;omega
  ·intro e;have a:2≤n:=by omega
   have b:(n:Int)∉s.sup.pages:=fun z=>e (.inr z)
   have c:=hd n;unfold dOf at c;rw[if_pos ⟨a,b⟩]at c;have c0:s.now.getD n 0=0:=by omega
   exact⟨a,c0,c0,fun m z=>by cases z⟩
 rw[h3];have:l.length=2+s.sup.pages.length:=by rw[hl,List.length_cons,List.length_cons,List.length_map];omega
 omega
end Sp
namespace Tr
open Go.RowKit Bs Dv Gr
open Sp
open Cn (CnOk Qj)
def lv(s:SpS)(m:Nat):Prop:=0<dOf s.sup.pages s.now m
def pg(s:SpS)(m:Nat):Option Pg:=pageF s.dv.blocks (s.dv.last m)
def lp(s:SpS)(m:Nat):Option Pg:=if 0<dOf s.sup.pages s.now m then pg s m else none
theorem QaF{s:SpS}{m:Nat}{p:Pg}(h:lp s m=some p):lv s m∧pg s m=some p:=by
 unfold lp at h;by_cases e:0<dOf s.sup.pages s.now m
 ·rw[if_pos e]at h;exact⟨e,h⟩
 ·rw[if_neg e]at h;cases h
theorem lp_of{s:SpS}{m:Nat}{p:Pg}(h:lv s m)(k:pg s m=some p):lp s m=some p:=by unfold lp;rw[if_pos (show 0<dOf s.sup.pages s.now m from h),k]
theorem lv_at{s:SpS}{m:Nat}(h:lv s m):2≤m∧(m:Int)∉s.sup.pages∧0<s.now.getD m 0:=⟨(Qba h).1,(Qba h).2.1,(Qba h).2.2.1⟩
def oweN:List Int→List Nat→List Int
 |c,[]=>c
 |c,n :: D=>oweN (c.set n (c.getD n 0+1)) D
def owe(s:SpS)(D:List Nat):SpS:={ s with now:=oweN s.now D }
theorem QcA(s:SpS):owe s []=s:=rfl
theorem Qgr:∀(D:List Nat) (c:List Int),(oweN c D).length=c.length
 | [],_=>rfl
 |n :: D,c=>by rw[oweN,Qgr D,List.length_set]
theorem Qhr(m:Nat):∀(D:List Nat) (c:List Int),(∀n∈D,n<c.length)→(oweN c D).getD m 0=c.getD m 0+(D.count m:Nat)
 | [],c,_=>by simp[oweN]
 |n :: D,c,h=>by
  rw[oweN,Qhr m D _ (fun x hx=>by rw[List.length_set];exact h x (List.mem_cons_of_mem _ hx)),Qj _ _ _ _ (h n (List.mem_cons_self ..)),List.count_cons];by_cases e:m=n
  ·subst e;rw[if_pos rfl];simp;omega
  ·rw[if_neg e,if_neg (by simpa using fun q=>e q.symm)];simp
theorem Qgs(n:Nat)(v:Int):∀(D:List Nat) (c:List Int),n∉D→(oweN c D).set n v=oweN (c.set n v) D
 | [],_,_=>rfl
 |m :: D,c,h=>by
  have hm:n≠m:=fun e=>h (by rw[e];exact List.mem_cons_self ..)
  rw[oweN,Qgs n v D _ (fun q=>h (List.mem_cons_of_mem _ q)),oweN,List.set_comm _ _ (fun e=>hm e.symm)]
  congr 2
  rw[List.getD_eq_getElem?_getD,List.getD_eq_getElem?_getD,List.getElem?_set_ne hm]
section
variable {s : SpS} {own own2 hown mown D : List Nat} {T : Nat} {p : Pg} {n : Nat}
theorem Qjb(h:SpOk (owe s D) own hown mown T){m:Nat}(hm:lv s m):m<s.now.length:=by
 have h1:=h.now.cok.len;apply Classical.byContradiction
 intro q;have h2:=(lv_at hm).2.2;rw[List.getD_eq_getElem?_getD,List.getElem?_eq_none (by omega)]at h2;exact absurd h2 (by decide)
theorem lens(h:SpOk (owe s D) own hown mown T):s.now.length=s.dv.blocks:=by
 have h1:=h.now.cok.len;have h2:=Qgr D s.now;have h3:(oweN s.now D).length=s.dv.blocks:=h1;omega
theorem Qjj(h:SpOk (owe s D) own hown mown T)(hD:∀m∈D,lv s m)(m:Nat):(owe s D).now.getD m 0=s.now.getD m 0+(D.count m:Nat):=Qhr m D _ fun x hx=>Qjb h (hD x hx)
theorem Qmc(h:SpOk (owe s D) own hown mown T)(hD:∀m∈D,lv s m)(m:Nat):lv (owe s D) m↔lv s m:=by
 have e:=Qjj h hD m;unfold lv dOf;rw[show(owe s D).sup=s.sup from rfl,e];by_cases h2:2≤m∧(m:Int)∉s.sup.pages
 ·rw[if_pos h2,if_pos h2];by_cases hc:D.count m=0
  ·rw[hc];simp
  ·have h3:=(lv_at (hD m (List.count_pos_iff.1 (by omega)))).2.2;omega
 ·rw[if_neg h2,if_neg h2]
theorem Qgt(h:SpOk (owe s D) own hown mown T)(hD:∀m∈D,lv s m)(m:Nat):(owe s D).now.getD m 0=0↔s.now.getD m 0=0:=by
 have e:=Qjj h hD m;rw[e];by_cases hc:D.count m=0
 ·rw[hc];simp
 ·have h3:=(lv_at (hD m (List.count_pos_iff.1 (by omega)))).2.2;omega
theorem Qjk(h:SpOk (owe s D) own hown mown T)(hD:∀m∈D,lv s m):frees (owe s D)=frees s:=by
 unfold frees;rw[show(owe s D).dv=s.dv from rfl];refine List.filter_congr fun i _=>?_
 unfold mayP;rw[show(owe s D).held=s.held from rfl,show(owe s D).mark=s.mark from rfl]
 congr 1
 congr 1
 congr 1
 exact decide_eq_decide.2 (Qgt h hD i)
theorem lv_lt(h:SpOk (owe s D) own hown mown T){m:Nat}(hm:lv s m):m<s.dv.blocks:=by
 have:=Qjb h hm;have:=lens h;omega
theorem Qgi(h:SpOk (owe s D) own hown mown T){m:Nat}(hm:lv s m):useE s m=0:=by
 obtain⟨h2,hp,h0⟩:=lv_at hm;have hlt:=lv_lt h hm;unfold useE accE;rw[if_neg (show ¬(m<2∨s.dv.blocks≤m) by omega),if_neg hp,if_neg (fun q=>q rfl),if_neg (by omega)]
theorem Ql9(h:SpOk (owe s D) own hown mown T){m:Nat}(hm:lp s m=some p):getErr s m=0∧pageF s.dv.blocks (s.dv.last m)=some p:=by
 obtain⟨h1,h2⟩:=QaF hm;have h2:pageF s.dv.blocks (s.dv.last m)=some p:=h2;refine⟨?_,h2⟩;unfold getErr;rw[Qgi h h1,if_neg (fun q=>q rfl),h2,if_neg (fun e=>by cases e)]
structure Puts (s:SpS) (p:Pg) (D own hown mown:List Nat) (T n:Nat) (l:List Nat):Prop where
 free:frees s=n :: l
 err:putErr s p=0
 ok:SpOk (owe (putP s p n) D) (n :: own) hown mown (T+1)
 is:lp (putP s p n) n=some p
 more:∀m q,lp s m=some q→lp (putP s p n) m=some q
 left:frees (putP s p n)=l
 size:(putP s p n).dv.size=s.dv.size
 blocks:(putP s p n).dv.blocks=s.dv.blocks
 owed:∀m∈D,lv (putP s p n) m
 pos:2≤n
 lt:n<s.dv.blocks
theorem Qd6(h:SpOk (owe s D) (p.kids.map Int.toNat++own) hown mown T)(hD:∀m∈D,lv s m)(hT:T≤9000)(ho:PgOk p)(h3:3≤p.tag)(hlen:(dataP p).length+16≤s.dv.size)(hfr:s.sup.pages.length<(frees s).length) :
  ∃n l,Puts s p D own hown mown T n l:=by
 have hfe:=Qjk h hD;obtain⟨n,l,hf⟩:∃n l,frees s=n :: l:=by
  cases e:frees s with
  |nil=>rw[e]at hfr;simp at hfr
  |cons n l=>exact⟨n,l,rfl⟩
 have hl:s.sup.pages.length≤l.length:=by rw[hf,List.length_cons]at hfr;omega
 have hf2:frees (owe s D)=n :: l:=by rw[hfe];exact hf
 obtain⟨hn,h2,hnp,c0,c1,c2⟩:=h.free (n:=n) (by rw[hf2];exact List.mem_cons_self ..);have c0s:s.now.getD n 0=0:=(Qgt h hD n).1 c0;have hnD:n∉D:=fun q=>by have:=(lv_at (hD n q)).2.2;omega
 have hn:n<s.dv.blocks:=hn;have hnp:(n:Int)∉s.sup.pages:=hnp;have hkl:p.kids.length≤65535:=by
  have:=h.dok.hi;have:=Qas p;have:(owe s D).dv.size=s.dv.size:=rfl;omega
 have hputE:putP (owe s D) p n=owe (putP s p n) D:=by
  unfold putP owe;rw[SpS.mk.injEq];exact⟨rfl,rfl,rfl,Qgs n 1 D _ hnD,rfl,rfl⟩
 have hok:=(h.perm (own2:=own++p.kids.map Int.toNat) (fun m=>by rw[List.count_append,List.count_append];omega)).put hT ho h3 hlen hf2 hl;rw[hputE]at hok;have hok:=hok.perm (own2:=n :: own) (fun m=>by rw[List.count_append,List.count_cons,List.count_cons,List.count_nil];omega);obtain⟨e1,e2,-,e4⟩:=h.Qgx (n:=n) (p:=p) hn hlen;have e1:(putP s p n).dv.size=s.dv.size:=e1;have e2:(putP s p n).dv.blocks=s.dv.blocks:=e2;have e4:∀m,m≠n→(putP s p n).dv.last m=s.dv.last m:=fun m hm=>by
  have:=e4 m;rw[if_neg hm]at this;exact this
 have hkd:∀k∈p.kids,2≤k∧k<((owe s D).dv.blocks:Int):=fun k hk=>by
  have h1:=h.now.at' (n:=k.toNat) (List.mem_append_left _ (List.mem_map_of_mem hk));have:=ho.kids k hk;omega
 have hpg:pageF s.dv.blocks ((putP s p n).dv.last n)=some p:=h.QkH hT hn hlen ho h3 hkd;have hlen2:n<s.now.length:=by rw[lens h];exact hn
 have hd:∀m,dOf (putP s p n).sup.pages (putP s p n).now m=upd (dOf s.sup.pages s.now) n 1 m:=fun m=>by
  show dOf s.sup.pages (s.now.set n 1) m=_
  rw[Qcw 1 hlen2 h2 hnp]
  rfl
 have hlv:∀m,lv s m→lv (putP s p n) m:=fun m hm=>by
  unfold lv;rw[hd];unfold upd
  split
  ·omega
  ·exact hm
 refine⟨n,l,hf,?_,hok,?_,fun m q hq=>?_,?_,e1,e2,fun m hm=>hlv m (hD m hm),h2,hn⟩
 ·have h1:∀j,j<p.kids.length→useE s (p.kids.getD j 0).toNat=0:=fun j hj=>by
   rw[List.getD_eq_getElem?_getD,List.getElem?_eq_getElem hj];have hmem:((p.kids[j]).toNat)∈p.kids.map Int.toNat++own:=List.mem_append_left _ (List.mem_map_of_mem (List.getElem_mem hj));exact Qgi h ((Qmc h hD _).1 (h.now.ref.Qaz hmem))
  have h4:∀j,j<p.kids.length→accE s (p.kids.getD j 0).toNat=0:=fun j hj=>by
   have:=h1 j hj;unfold useE at this;by_cases q:accE s (p.kids.getD j 0).toNat≠0
   ·rw[if_pos q]at this;exact this
   ·exact Decidable.not_not.1 q
  have hc:checkE s p=0:=by
   unfold checkE;rw[if_neg (by omega),if_pos h4,if_pos h1]
  have hff:(Fr.putF s.dv.size (p.tag,s.sup.gen+1,dataP p)).2=0:=by
   unfold Fr.putF;have hfi:Fr.Fits (s.dv.size:Int):=h.fits;rw[if_neg (fun q=>q hfi),if_neg (show ¬((s.dv.size:Int)-16<((dataP p).length:Int)) by omega)]
  unfold putErr;rw[hc,hff,if_neg (fun q=>q rfl),if_neg (fun q=>q rfl),if_neg (by omega)]
 ·refine lp_of ?_ ?_
  ·unfold lv;rw[hd,upd_same];omega
  ·unfold pg;rw[e2];exact hpg
 ·obtain⟨a,b⟩:=QaF hq;have hmn:m≠n:=fun e=>by have:=(lv_at a).2.2;rw[e]at this;omega
  refine lp_of (hlv m a) ?_;unfold pg at b ⊢;rw[e2,e4 m hmn];exact b
 ·have e:=Qep hf (by rw[lens h]);have e3:frees (putP s p n)=frees { s with now:=s.now.set n 1 }:=by
   unfold frees;rw[e2]
   rfl
  rw[e3,e]
end
theorem QlD{s:SpS}{own hown mown ls:List Nat}{T:Nat}(h:SpOk s own hown mown T)(ho:∀n∈own,n∈ls)(hk:∀m∈ls,∀n∈kidsOf s.dv m,n∈ls):∀n,lv s n→n∈ls:=by
 obtain⟨r,hr⟩:=h.now.ref.rank;obtain⟨R,hR⟩:∃R,∀m,m<s.dv.blocks→r m≤R:=⟨((List.range s.dv.blocks).map r).sum,fun m hm=>Qgc r (List.mem_range.2 hm)⟩;have key:∀f n,R-r n≤f→lv s n→n∈ls:=by
  intro f
  induction f with
  |zero=>
   intro n hn hl;by_cases hc:own.count n=0
   ·have e:=h.now.ref.eq n;have hp:0<dOf s.sup.pages s.now n:=hl;obtain⟨m,hm,hd,hin⟩:∃m,m<s.dv.blocks∧0<dOf s.sup.pages s.now m∧n∈kidsOf s.dv m:=by
     have hin:0<inS (kidsOf s.dv) (dOf s.sup.pages s.now) n s.dv.blocks:=by omega
     exact inS_has _ hin
    have:=hr m hd n hin;have:=hR m hm;omega
   ·exact ho n (List.count_pos_iff.1 (by omega))
  |succ f ih=>
   intro n hn hl;by_cases hc:own.count n=0
   ·have e:=h.now.ref.eq n;have hp:0<dOf s.sup.pages s.now n:=hl;obtain⟨m,hm,hd,hin⟩:∃m,m<s.dv.blocks∧0<dOf s.sup.pages s.now m∧n∈kidsOf s.dv m:=by
     have hin:0<inS (kidsOf s.dv) (dOf s.sup.pages s.now) n s.dv.blocks:=by omega
     exact inS_has _ hin
    have:=hr m hd n hin;exact hk m (ih m (by omega) hd) n hin
   ·exact ho n (List.count_pos_iff.1 (by omega))
 exact fun n hn=>key (R-r n) n (Nat.le_refl _) hn
where
  inS_has {kids : Nat → List Nat} {d : Nat → Nat} {n : Nat} : ∀ K, 0 < inS kids d n K → ∃ m, m < K ∧ 0 < d m ∧ n ∈ kids m
    | 0, h => by simp [inS] at h
    | K + 1, h => by
      rw [inS] at h
      by_cases e : 0 < d K ∧ 0 < (kids K).count n
      · exact ⟨K, by omega, e.1, List.count_pos_iff.1 e.2⟩
      · have h2 : 0 < inS kids d n K := by
          by_cases q : 0 < d K
          · rw [if_pos q] at h
            have : ¬ 0 < (kids K).count n := fun z => e ⟨q, z⟩
            omega
          · rw [if_neg q] at h; omega
        obtain ⟨m, a, b, c⟩ := inS_has K h2
        exact ⟨m, by omega, b, c⟩
end Tr
namespace Bl
open Go.RowKit Bs Dv Gr
open Sp Tr
open Cn (CnOk Qj)
open Oct (putB ofB)
def nP(n R:Nat):Nat:=(n+R-1) / R
def cutB(R i:Nat)(l:List Int):List Int:=(l.drop (i*R)).take R
theorem nP_lt{n R i:Nat}(hR:0<R):i<nP n R↔i*R<n:=by
 unfold nP;rw[Nat.lt_div_iff_mul_lt hR];omega
theorem QlE{R:Nat}(hR:0<R):nP 0 R=0:=by
 unfold nP;rw[Nat.div_eq_of_lt (by omega)]
theorem nP_le{n R:Nat}(hR:0<R):n≤nP n R*R:=by
 apply Classical.byContradiction
 intro h;have:=(nP_lt (n:=n) (i:=nP n R) hR).2 (by omega);omega
theorem Qdx{n m R:Nat}(h:n≤m):nP n R≤nP m R:=Nat.div_le_div_right (by omega)
theorem Qgk{n R k:Nat}(hR:0<R)(h:n≤k*R):nP n R≤k:=by
 apply Classical.byContradiction
 intro q;have:=(nP_lt (n:=n) (i:=k) hR).1 (by omega);omega
theorem Qa9(R i:Nat)(l:List Int):(cutB R i l).length=min R (l.length-i*R):=by unfold cutB;rw[List.length_take,List.length_drop]
theorem Qdv{R i:Nat}{l:List Int}(h:Bs.IsB l):Bs.IsB (cutB R i l):=fun x hx=>h x (List.mem_of_mem_drop (List.mem_of_mem_take hx))
theorem QfR(R i:Nat)(l:List Int):l.take (i*R)++cutB R i l=l.take ((i+1)*R):=by
 unfold cutB;rw[Nat.add_mul,Nat.one_mul,List.take_add]
theorem QgK{R:Nat}(l:List Int)(hR:0<R):l.take (nP l.length R*R)=l:=List.take_of_length_le (nP_le hR)
def cutsB(R:Nat)(l:List Int):List (List Int):=(List.range (nP l.length R)).map fun i=>cutB R i l
theorem QdQ(R:Nat)(l:List Int):(cutsB R l).length=nP l.length R:=by unfold cutsB;rw[List.length_map,List.length_range]
theorem QdP(R:Nat)(l:List Int)(i:Nat)(hi:i<nP l.length R):(cutsB R l).getD i []=cutB R i l:=by
 unfold cutsB;rw[List.getD_eq_getElem?_getD,List.getElem?_map,List.getElem?_range hi]
 rfl
def dataPg(c:List Int):Pg:=⟨7,[],c⟩
def idxPg(n:Nat)(ks:List Nat):Pg:=⟨6,ints ks,putB 4 (n:Int)⟩
theorem Qc8{c:List Int}(h:Bs.IsB c):PgOk (dataPg c):=⟨⟨(by decide:(0:Int)≤7),(by decide:(7:Int)<256)⟩,fun k hk=>absurd hk (by simp[dataPg]),h⟩
theorem QdV{n:Nat}{ks:List Nat}(h:∀k∈ks,k<4294967296):PgOk (idxPg n ks):=⟨⟨(by decide:(0:Int)≤6),(by decide:(6:Int)<256)⟩,fun k hk=>by
 obtain⟨m,hm,rfl⟩:=List.mem_map.1 hk;have:=h m hm;omega,Oct.Qx _ _⟩
theorem Qb3(ks:List Nat):(ints ks).map Int.toNat=ks:=by
 unfold ints;rw[List.map_map]
 conv=>rhs;rw[←List.map_id ks]
 exact List.map_congr_left fun x _=>Int.toNat_natCast x
theorem Qad(ks:List Nat):(ints ks).length=ks.length:=by unfold ints;rw[List.length_map]
structure BlobAt (f:Nat→Option Pg) (R n:Nat) (l:List Int) (ks:List Nat):Prop where
 len:ks.length=nP l.length R
 idx:f n=some (idxPg l.length ks)
 kid:∀i,i<ks.length→f (ks.getD i 0)=some (dataPg (cutB R i l))
theorem BlobAt.mono{f g:Nat→Option Pg}{R n:Nat}{l:List Int}{ks:List Nat}(h:BlobAt f R n l ks)(k:∀m p,f m=some p→g m=some p):BlobAt g R n l ks:=
 ⟨h.len,k _ _ h.idx,fun i hi=>k _ _ (h.kid i hi)⟩
theorem Qjm{K:Nat}{b:List Int}{p:Pg}(hb:Bs.IsB b)(hl:b.length≤1000000)(h:pageF K b=some p):Bs.IsB p.data∧p.data.length≤1000000:=by
 unfold pageF at h;have h1:=(Fr.Qdb b hb).2.2;have h2:(Fr.getF b).1.2.2.length≤b.length:=by
  unfold Fr.getF
  split
  ·simp[Fr.none3]
  ·split
   ·simp[Fr.none3]
   ·split
    ·simp[Fr.none3]
    ·show(Fr.dat b).length≤_
     unfold Fr.dat;simp only[List.length_take,List.length_drop];omega
 split at h
 ·cases h
 ·split at h
  ·cases h
   refine⟨fun x hx=>h1 x (List.mem_of_mem_drop hx),?_⟩;simp only[List.length_drop];omega
  ·cases h
section
variable {s s0 : SpS} {own hown mown ks : List Nat} {T k n R : Nat} {l : List Int}
theorem Qij(h:SpOk s own hown mown T){n:Nat}{p:Pg}(hp:pageF s.dv.blocks (s.dv.last n)=some p)(he:getErr s n=0):Bs.IsB p.data∧p.data.length≤1000000:=by
 have hu:useE s n=0:=by
  unfold getErr at he;apply Classical.byContradiction
  intro q;rw[if_pos q]at he;exact q he
 have h1:=h.dok.last (QeF hu).2.1;have h3:=h.dok.hi;exact Qjm h1.2 (by omega) hp
theorem lv_lp(h:SpOk s own hown mown T){m:Nat}(hm:lv s m):∃p,lp s m=some p:=by
 have h1:=h.now.has m hm;cases e:pg s m with
 |none=>
  rw[show pageF s.dv.blocks (s.dv.last m)=none from e]at h1;cases h1
 |some p=>exact⟨p,lp_of hm e⟩
theorem Qbk(h:SpOk s own hown mown T){m:Nat}(hm:m∈own):lv s m:=h.now.ref.Qaz hm
theorem Ql8(h:SpOk s own hown mown T){m k:Nat}{p:Pg}(hm:lv s m)(hp:pg s m=some p)(hk:(k:Int)∈p.kids):lv s k:=by
 refine h.now.ref.live hm ?_;unfold kidsOf;rw[show pageF s.dv.blocks (s.dv.last m)=_ from hp];exact List.mem_map.2 ⟨_,hk,Int.toNat_natCast k⟩
theorem BlobAt.live(h:SpOk s own hown mown T)(hb:BlobAt (pg s) R n l ks)(hn:lv s n):BlobAt (lp s) R n l ks:=by
 refine⟨hb.len,lp_of hn hb.idx,fun i hi=>lp_of (Ql8 h hn hb.idx ?_) (hb.kid i hi)⟩;rw[List.getD_eq_getElem?_getD,List.getElem?_eq_getElem hi];exact List.mem_map.2 ⟨_,List.getElem_mem hi,rfl⟩
theorem BlobAt.lies(hb:BlobAt (lp s) R n l ks):BlobAt (pg s) R n l ks:=hb.mono fun _ _ q=>(QaF q).2
theorem QfZ(h:SpOk s own hown mown T){m:Nat}{p:Pg}(hm:lp s m=some p):getErr s m=0∧pageF s.dv.blocks (s.dv.last m)=some p:=Ql9 (D:=[]) h hm
theorem Qal(h:SpOk s own hown mown T){m:Nat}(hm:lv s m):2≤m∧m<s.dv.blocks:=⟨(lv_at hm).1,lv_lt (D:=[]) h hm⟩
structure PutI (s0:SpS) (R:Nat) (l:List Int) (own hown mown:List Nat) (T k:Nat) (ks:List Nat) (s:SpS):Prop where
 ok:SpOk s (ks++own) hown mown (T+k)
 len:ks.length=k
 kid:∀i,i<k→lp s (ks.getD i 0)=some (dataPg (cutB R i l))
 more:∀m p,lp s0 m=some p→lp s m=some p
 fresh:∀m,lv s0 m→m∉ks
 left:(frees s).length+k=(frees s0).length
 sup:s.sup=s0.sup
 held:s.held=s0.held
 mark:s.mark=s0.mark
 slot:s.slot=s0.slot
 size:s.dv.size=s0.dv.size
 blocks:s.dv.blocks=s0.dv.blocks
theorem PutI.start(h:SpOk s0 own hown mown T):PutI s0 R l own hown mown T 0 [] s0:=
 ⟨h,rfl,fun i hi=>absurd hi (by omega),fun _ _ q=>q,(fun _ _ q=>by cases q),rfl,rfl,rfl,rfl,rfl,rfl,rfl⟩
theorem PutI.lvs(h:PutI s0 R l own hown mown T k ks s)(h0:SpOk s0 own hown mown T){m:Nat}(hm:lv s0 m):lv s m:=by
 obtain⟨p,hp⟩:=lv_lp h0 hm;exact(QaF (h.more m p hp)).1
theorem PutI.next(h:PutI s0 R l own hown mown T k ks s)(h0:SpOk s0 own hown mown T)(hT:T+k≤9000)(hl:Bs.IsB l)(hR:R+18≤s0.dv.size)(hfr:s0.sup.pages.length<(frees s).length) :
  ∃n f,frees s=n :: f∧putErr s (dataPg (cutB R k l))=0∧n<s0.dv.blocks∧PutI s0 R l own hown mown T (k+1) (ks++[n]) (putP s (dataPg (cutB R k l)) n):=by
 have hlen:(dataP (dataPg (cutB R k l))).length+16≤s.dv.size:=by
  rw[Qas,h.size]
  show 2+4*0+(cutB R k l).length+16≤_
  rw[Qa9];have:min R (l.length-k*R)≤R:=Nat.min_le_left _ _;omega
 obtain⟨n,f,hp⟩:=Qd6 (s:=s) (D:=[]) (p:=dataPg (cutB R k l)) (own:=ks++own) h.ok (fun _ q=>by cases q) (by omega) (Qc8 (Qdv hl)) (show(3:Int)≤7 by decide) hlen (by rw[h.sup];exact hfr);have hok:=hp.ok;rw[QcA]at hok;have hn0:s.now.getD n 0=0:=(h.ok.free (n:=n) (by rw[hp.free];exact List.mem_cons_self ..)).2.2.2.1;refine⟨n,f,hp.free,hp.err,by rw[←h.blocks];exact hp.lt,hok.perm (fun m=>by simp only[List.count_append,List.count_cons,List.count_nil];omega),by rw[List.length_append,h.len];rfl,fun i hi=>?_,fun m q e=>hp.more m q (h.more m q e),fun m hm=>?_,?_,h.sup,h.held,h.mark,h.slot,by rw[hp.size,h.size],by rw[hp.blocks,h.blocks]⟩
 ·have hkl:=h.len;by_cases e:i=k
  ·subst e;rw[List.getD_eq_getElem?_getD,List.getElem?_append_right (by omega),hkl,Nat.sub_self];exact hp.is
  ·rw[List.getD_eq_getElem?_getD,List.getElem?_append_left (by omega),←List.getD_eq_getElem?_getD];exact hp.more _ _ (h.kid i (by omega))
 ·intro q;rcases List.mem_append.1 q with q|q
  ·exact h.fresh m hm q
  ·have e:m=n:=by simpa using q
   have:=(lv_at (h.lvs h0 hm)).2.2;rw[e]at this;omega
 ·have h1:=h.left;rw[hp.free,List.length_cons]at h1;rw[hp.left];omega
theorem PutI.full(h:PutI s0 R l own hown mown T k ks s){p:Pg}(hp:p.kids=[]∨p.kids=ints ks)(h3:3≤p.tag)(hlen:(dataP p).length+16≤s.dv.size)(hfr:¬s0.sup.pages.length<(frees s).length):putErr s p=9:=by
 have hu:∀j,j<p.kids.length→useE s (p.kids.getD j 0).toNat=0:=fun j hj=>by
  rcases hp with e|e
  ·rw[e]at hj;cases hj
  ·rw[e]at hj ⊢;rw[Qb2,Int.toNat_natCast];rw[Qad]at hj;refine Qgi (D:=[]) h.ok (Qbk h.ok (List.mem_append_left _ ?_));rw[List.getD_eq_getElem?_getD,List.getElem?_eq_getElem hj];exact List.getElem_mem hj
 have ha:∀j,j<p.kids.length→accE s (p.kids.getD j 0).toNat=0:=fun j hj=>by
  have:=hu j hj;unfold useE at this;by_cases q:accE s (p.kids.getD j 0).toNat≠0
  ·rw[if_pos q]at this;exact this
  ·exact Decidable.not_not.1 q
 have hkl:p.kids.length≤65535:=by
  have:=h.ok.dok.hi;have:=Qas p;omega
 have hc:checkE s p=0:=by
  unfold checkE;rw[if_neg (by omega),if_pos ha,if_pos hu]
 have hff:(Fr.putF s.dv.size (p.tag,s.sup.gen+1,dataP p)).2=0:=by
  unfold Fr.putF;have hfi:Fr.Fits (s.dv.size:Int):=h.ok.fits;rw[if_neg (fun q=>q hfi),if_neg (show ¬((s.dv.size:Int)-16<((dataP p).length:Int)) by omega)]
 have h1:(frees s).length≤s.sup.pages.length:=by rw[h.sup];omega
 unfold putErr;rw[hc,hff,if_neg (fun q=>q rfl),if_neg (fun q=>q rfl),if_pos h1]
structure BlPut (s0:SpS) (R:Nat) (l:List Int) (own hown mown:List Nat) (T n:Nat) (ks:List Nat) (s:SpS):Prop where
 ok:SpOk s (n :: own) hown mown T
 blob:BlobAt (lp s) R n l ks
 more:∀m p,lp s0 m=some p→lp s m=some p
 fresh:∀m,lv s0 m→m≠n∧m∉ks
 apart:n∉ks
 left:(frees s).length+(nP l.length R+1)=(frees s0).length
 sup:s.sup=s0.sup
 held:s.held=s0.held
 mark:s.mark=s0.mark
 slot:s.slot=s0.slot
 size:s.dv.size=s0.dv.size
 blocks:s.dv.blocks=s0.dv.blocks
 one:s.now.getD n 0=1
 least:∀m∈frees s,n<m
theorem PutI.last(h:PutI s0 R l own hown mown T (nP l.length R) ks s)(h0:SpOk s0 own hown mown T)(hT:T+nP l.length R≤9000)(hR:4*nP l.length R+22≤s0.dv.size)(hfr:s0.sup.pages.length<(frees s).length) :
  ∃n f,frees s=n :: f∧putErr s (idxPg l.length ks)=0∧n<s0.dv.blocks∧BlPut s0 R l own hown mown (T+nP l.length R+1) n ks (putP s (idxPg l.length ks) n):=by
 have hkl:=h.len;have hlen:(dataP (idxPg l.length ks)).length+16≤s.dv.size:=by
  rw[Qas,h.size]
  show 2+4*(ints ks).length+(putB 4 (l.length:Int)).length+16≤_
  rw[Qad,Oct.Qe];omega
 have hb:=h.ok.now.cok.geo;have hkb:∀k∈ks,k<4294967296:=fun k hk=>by
  have:=(Qal h.ok (Qbk h.ok (List.mem_append_left _ hk))).2;unfold Su.GeoOk at hb;omega
 obtain⟨n,f,hp⟩:=Qd6 (s:=s) (D:=[]) (p:=idxPg l.length ks) (own:=own) (by rw[QcA];show SpOk s ((ints ks).map Int.toNat++own) _ _ _;rw[Qb3];exact h.ok) (fun _ q=>by cases q) (by omega) (QdV hkb) (show(3:Int)≤6 by decide) hlen (by rw[h.sup];exact hfr);have hok:=hp.ok;rw[QcA]at hok;have hn0:s.now.getD n 0=0:=(h.ok.free (n:=n) (by rw[hp.free];exact List.mem_cons_self ..)).2.2.2.1;have hne:∀m,lv s m→m≠n:=fun m hm e=>by
  have:=(lv_at hm).2.2;rw[e]at this;omega
 refine⟨n,f,hp.free,hp.err,by rw[←h.blocks];exact hp.lt,hok,⟨hkl,hp.is,fun i hi=>hp.more _ _ (h.kid i (by omega))⟩,fun m q e=>hp.more m q (h.more m q e),fun m hm=>⟨hne m (h.lvs h0 hm),h.fresh m hm⟩,fun q=>hne n (Qbk h.ok (List.mem_append_left _ q)) rfl,?_,h.sup,h.held,h.mark,h.slot,by rw[hp.size,h.size],by rw[hp.blocks,h.blocks],?_,?_⟩
 ·have h1:=h.left;rw[hp.free,List.length_cons]at h1;rw[hp.left];omega
 ·have hl:=h.ok.now.cok.len;have hlt:=hp.lt
  show(s.now.set n 1).getD n 0=1
  rw[Qj _ _ _ _ (by omega),if_pos rfl]
 ·intro m hm;rw[hp.left]at hm;have h5:=QaL s;rw[hp.free]at h5;exact(List.pairwise_cons.1 h5).1 m hm
theorem QkA(h:SpOk s [] [] mown T):s.held=s.now:=by
 have z:∀(c:List Int),GoodC s.dv s.sup.pages c []→∀m,0=dOf s.sup.pages c m:=fun c hc=>by
  obtain⟨r,hr⟩:=hc.ref.rank;exact(RefOk.none s.dv.blocks (kidsOf s.dv)).one hc.ref (L:=fun m=>0<dOf s.sup.pages c m) hr (fun m q=>absurd q (by decide)) (fun _ q=>q)
 exact h.now.one h.held h.now (fun _=>rfl) (fun m q=>absurd (z _ h.held m) (by omega)) (fun m q=>q)
theorem Qfn(h:SpOk s [] [] mown T)(hm:s.mark=none):(frees s).length+(2+s.sup.pages.length)=s.dv.blocks:=QiQ h (QkA h) hm
theorem Qlz(h:SpOk s own hown mown T){ls:List Nat}(ho:∀n∈own,n∈ls)(hk:∀m∈ls,∀n∈kidsOf s.dv m,n∈ls){m:Nat}(hm:m∉ls):¬lv s m:=fun q=>hm (QlD h ho hk m q)
theorem Qkb(h:SpOk s own hown mown T){m:Nat}(h2:2≤m∧m<s.dv.blocks∧(m:Int)∉s.sup.pages)(hm:¬lv s m):getErr s m=8:=by
 have hc:s.now.getD m 0=0:=by
  apply Classical.byContradiction
  intro q;refine hm ?_;have hl:=h.now.cok.len;have h0:0≤s.now.getD m 0:=by
   rw[List.getD_eq_getElem?_getD,List.getElem?_eq_getElem (by rw[hl];exact h2.2.1)];exact(h.now.cok.cnt _ (List.getElem_mem _)).1
  unfold lv dOf;rw[if_pos ⟨h2.1,h2.2.2⟩];omega
 have hu:useE s m=8:=by
  unfold useE accE;rw[if_neg (show ¬(m<2∨s.dv.blocks≤m) by omega),if_neg h2.2.2,if_neg (fun q=>q rfl),if_pos hc]
 unfold getErr;rw[hu,if_pos (by decide)]
theorem Qf8{n:Nat}(h:pg s n=some (idxPg l.length ks)):kidsOf s.dv n=ks:=by
 unfold kidsOf;rw[show pageF s.dv.blocks (s.dv.last n)=_ from h];exact Qb3 ks
theorem Qi2{n:Nat}{c:List Int}(h:pg s n=some (dataPg c)):kidsOf s.dv n=[]:=by
 unfold kidsOf;rw[show pageF s.dv.blocks (s.dv.last n)=_ from h]
 rfl
end
end Bl
namespace Bl
open Go.RowKit Bs Dv Gr
open Sp Tr
open Oct (putB ofB)
section
variable {w0 w : World} {sg g : Nat} {A : Nat → Prop} {s : SpS} {R : Nat}
theorem QdA(h:Sh w0 w sg g A s)(hR:roomP s.dv.size 0=(R:Int))(h1:0<R∧R≤4096) :
  Calls Tryz.prog 32 #[.pointer (some ⟨sg,0,none⟩)] w fun e w'=>e=.returned (.bool true)∧w.grownBy w' none:=by
 have HR:=hid (Qbg h 0 (by decide));rw[hR]at HR;have q0:decide ((0:Int)<(R:Int))=true:=decide_eq_true (by omega);have q1:decide (0<R)=true:=decide_eq_true h1.1;clear hR h;go_enter Tryz.func32,Tryz.ntmps32
 go_wp2_with fail
 refine HR.out.mono ?_;rintro e w1 ⟨rfl,hg⟩;have HG:=hid hg;clear hg;dsimp only;go_wp2;go_ret
 exact⟨rfl,HG.out⟩
theorem Qah(n R:Nat)(w:World)(h1:0<R∧R≤4096)(hn:n≤4294967296) :
  Calls Tryz.prog 74 #[.int .i64 (n:Int),.int .i64 (R:Int)] w fun e w'=>e=.returned (.int .i64 (nP n R:Nat))∧w=w':=by
 have e1:(n:Int)+(R:Int)=((n+R:Nat):Int):=by omega
 have e2:IntKind.i64.wrap ((n+R:Nat):Int)=((n+R:Nat):Int):=IntWalk.i64_in _ (by omega);have e3:((n+R:Nat):Int)-1=((n+R-1:Nat):Int):=by omega
 have e4:IntKind.i64.wrap ((n+R-1:Nat):Int)=((n+R-1:Nat):Int):=IntWalk.i64_in _ (by omega);have e5:((n+R-1:Nat):Int).tdiv (R:Int)=(nP n R:Nat):=by rw[Int.tdiv_eq_ediv_of_nonneg (by omega)];rfl
 have h6:nP n R≤n+R-1:=Nat.div_le_self _ _;have e6:IntKind.i64.wrap ((nP n R:Nat):Int)=((nP n R:Nat):Int):=IntWalk.i64_in _ (by omega);have hz:¬(R:Int)=0:=by omega
 have hz2:¬R=0:=by omega
 obtain⟨x,hx⟩:∃x,n+R=x:=⟨_,rfl⟩;obtain⟨y,hy⟩:∃y,n+R-1=y:=⟨_,rfl⟩;obtain⟨z,hzz⟩:∃z,nP n R=z:=⟨_,rfl⟩;rw[hx]at e1 e2 e3;rw[hx]at hy;rw[hy]at e3;rw[hx,hy]at e4;rw[hx,hy,hzz]at e5;rw[hzz]at e6 ⊢;clear hx hy hzz h6 h1 hn;go_enter Tryz.func74,Tryz.ntmps74
 go_wp2;go_ret
 exact⟨rfl,rfl⟩
theorem Qgj(h:Sh w0 w sg g A s)(hR:roomP s.dv.size 0=(R:Int))(h1:4≤R∧R≤4096) :
  Calls Tryz.prog 45 #[.pointer (some ⟨sg,0,none⟩)] w fun e w'=>e=.returned (.int .i64 ((R-4) / 4:Nat))∧w.grownBy w' none:=by
 have HR:=hid (Qbg h 0 (by decide));rw[hR]at HR;have e1:(R:Int)-4=((R-4:Nat):Int):=by omega
 have e2:IntKind.i64.wrap ((R-4:Nat):Int)=((R-4:Nat):Int):=IntWalk.i64_in _ (by omega);have e3:((R-4:Nat):Int).tdiv 4=((R-4) / 4:Nat):=by rw[Int.tdiv_eq_ediv_of_nonneg (by omega)];rfl
 have e4:IntKind.i64.wrap (((R-4) / 4:Nat):Int)=(((R-4) / 4:Nat):Int):=IntWalk.i64_in _ (by omega);obtain⟨x,hx⟩:∃x,(R-4) / 4=x:=⟨_,rfl⟩;rw[hx]at e3 e4 ⊢;obtain⟨y,hy⟩:∃y,R-4=y:=⟨_,rfl⟩;rw[hy]at e1 e2 e3;clear hR h hx hy h1;go_enter Tryz.func45,Tryz.ntmps45
 go_wp2_with fail
 refine HR.out.mono ?_;rintro e w1 ⟨rfl,hg⟩;have HG:=hid hg;clear hg;dsimp only;go_wp2;go_ret
 exact⟨rfl,HG.out⟩
def mostB(R:Nat):Nat:=min ((R-4) / 4*R) 65536
theorem QcU(h:Sh w0 w sg g A s)(hR:roomP s.dv.size 0=(R:Int))(h1:4≤R∧R≤4096) :
  Calls Tryz.prog 16 #[.pointer (some ⟨sg,0,none⟩)] w fun e w'=>e=.returned (.int .i64 (mostB R:Nat))∧w.grownBy w' none:=by
 have HV:=hid (QdA h hR (by omega));have HSH:=hid (fun W (k:w.grownBy W none)=>Qgj (h.go k) hR h1);have HRO:=hid (fun W (k:w.grownBy W none)=>Qbg (h.go k) 0 (by decide));rw[hR]at HRO;have hx2:(R-4) / 4≤1023:=by omega
 have hx3:(R-4) / 4*R≤1023*4096:=Nat.mul_le_mul hx2 h1.2;have e1:(((R-4) / 4:Nat):Int)*(R:Int)=(((R-4) / 4*R:Nat):Int):=by rw[Int.natCast_mul]
 have e2:IntKind.i64.wrap (((R-4) / 4*R:Nat):Int)=(((R-4) / 4*R:Nat):Int):=IntWalk.i64_in _ (by omega);have hm:mostB R=min ((R-4) / 4*R) 65536:=rfl;obtain⟨x,hx⟩:∃x,(R-4) / 4=x:=⟨_,rfl⟩;rw[hx]at e1 e2 HSH hm;obtain⟨y,hy⟩:∃y,x*R=y:=⟨_,rfl⟩;rw[hy]at e1 e2 hm;obtain⟨z,hz⟩:∃z,mostB R=z:=⟨_,rfl⟩;rw[hz]at hm ⊢;have hmin:∀W,(Builtin.min_ #[3,3] 3 #[.int .i64 (y:Int),.int .i64 65536]).run Tryz.prog W=.ok (.int .i64 (z:Int)) W:=fun W=>by
  rw[hm];by_cases q:(y:Int)<65536
  ·rw[Nat.min_eq_left (by omega)];simp[Builtin.min_,Builtin.min2,go_sem]
   intros
   omega
  ·rw[Nat.min_eq_right (by omega)];simp[Builtin.min_,Builtin.min2,go_sem]
   intros
   omega
 clear hR h hx hy hz hm hx2 hx3 h1;go_enter Tryz.func16,Tryz.ntmps16
 go_wp2_with fail
 refine HV.out.mono ?_;rintro e w1 ⟨rfl,hg⟩;have HG1:=hid hg;clear hg;dsimp only;go_wp2_with fail
 refine(HSH.out _ HG1.out).mono ?_;rintro e w2 ⟨rfl,hg⟩;have HG2:=hid (Qa HG1.out hg);clear hg;dsimp only;go_wp2_with fail
 refine(HRO.out _ HG2.out).mono ?_;rintro e w3 ⟨rfl,hg⟩;have HG3:=hid (Qa HG2.out hg);clear hg;dsimp only;go_wp2;go_ret
 exact⟨rfl,HG3.out⟩
end
theorem Qhn:(Tryz.prog.info? 85).map (·.size)=some 2:=by kernel_rfl
theorem Qaa{fn:Func}{p u:Tmp}(h:fn.results=#[.cell p 85,.tmp u])(tmps:Array Value)(w:World)(g:Nat)(x y v:Value)(hp:tmps.getD p undef=.pointer (some ⟨g,0,none⟩))
  (hg:w.heap[g]?=some (.cells #[x,y] 85 (0,0))) (hv:tmps.getD u undef=v):(results fn tmps).run Tryz.prog w=.ok (.tuple #[.agg #[x,y],v]) w:=by
 rw[←hv];exact QZ h tmps w g _ _ _ _ hp hg Tryz.underlying85 rfl Qhn
theorem QW{w:World}{ops:Array Oper}{rest:List Oper}{o:Oper}{a:Act}{Q:Exit→Act→World→Prop}(hgd:o.guard=none)(x y:Operand)(ho:o.op=.store 85 x y)
  (g:Nat) (hx:a.eval x=.pointer (some ⟨g,0,none⟩)) (v0 v1:Value) (hy:a.eval y=.agg #[v0,v1]) (h0:v0.oneCell'=true) (h1:v1.oneCell'=true)
  (o1 o2:Value) (hg:w.heap[g]?=some (.cells #[o1,o2] 85 (0,0)))
  (h:∀w',w'.heap[g]?=some (.cells #[v0,v1] 85 (0,0))→Turn w w' (·=g)→wpList Tryz.prog ops Q rest (a.put o.dst undef) w'):wpList Tryz.prog ops Q (o :: rest) a w:=by
 refine wpList_store_row hgd _ x y ho g _ hx hy _ _ hg Qhn rfl (by simp[h0,h1]) ?_;exact h _ (setRow_heap w g _ _ _ _ hg) ⟨rfl,rfl,rfl,by simp[World.setRow],fun k _ hk=>setRow_other w g k _ hk⟩
def openP(R:Nat)(s:SpS)(n:Nat):Int×Int×List Int:=
 if getErr s n≠0 then(getErr s n,0,[]) else match pageF s.dv.blocks (s.dv.last n) with
  |none=>(0,0,[])
  |some p=>if p.tag≠6 then(11,0,[]) else if p.data.length≠4 then(10,0,[]) else if 65536<ofB p.data∨p.kids.length≠nP (ofB p.data).toNat R then(10,0,[]) else(0,ofB p.data,p.kids)
def OpenX(r:Int×Int×List Int)(w:World)(e:Ending)(w':World):Prop:=
 w.grownBy w' none∧∃a c,e=.returned (.tuple #[.agg #[.int .i64 r.2.1,.slice a r.2.2.length c],.int .i64 r.1])∧Ws.Seg w' a r.2.2.length c r.2.2∧∀ad,a=some ad→w.heap.size≤ad.block
theorem QbF{r:Int×Int×List Int}{E:Int}{w w':World}(h:r=(E,0,[]))(k:w.grownBy w' none):OpenX r w (.returned (.tuple #[.agg #[.int .i64 0,.slice none 0 0],.int .i64 E])) w':=by
 subst h;exact⟨k,none,0,rfl,Ws.Seg.nil w',fun ad e=>by cases e⟩
theorem Qjh{l:List Int}(hb:Bs.IsB l)(h4:l.length=4):0≤ofB l∧ofB l<4294967296:=by
 have:=Oct.Qv l hb;rw[h4]at this;exact this
section
variable {w0 w : World} {sg g : Nat} {A : Nat → Prop} {s : SpS} {R : Nat} {own hown mown : List Nat} {T : Nat}
theorem open_any (h:Sh w0 w sg g A s) (hk:SpOk s own hown mown T) (hR:roomP s.dv.size 0=(R:Int)) (h1:0<R∧R≤4096) (n:Nat) (hn:n<4294967296) :
    Calls Tryz.prog 39 #[.pointer (some ⟨sg,0,none⟩),.int .u32 (n:Int)] w (OpenX (openP R s n) w):=by
  have hp:s.sup.pages.length≤100000:=Nat.le_trans hk.Qaf (by decide)
  have HC0:=hid (heap_alloc_new w (.cells #[.int .i64 0,.slice none 0 0] 85))
  have HG0:=hid (Qb w (.cells #[.int .i64 0,.slice none 0 0] 85))
  obtain⟨W0,hW0⟩:∃X,w.alloc (.cells #[.int .i64 0,.slice none 0 0] 85)=X:=⟨_,rfl⟩
  rw[hW0]at HC0 HG0
  have HW0:=hid hW0
  have HGET:=hid (QgG (h.go HG0.out) hp n hn)
  have HROOM:=hid (fun W (k:W0.grownBy W none)=>Qbg (h.go (Qa HG0.out k)) 0 (by decide))
  rw[hR]at HROOM
  have HO:Hid (openP R s n=if getErr s n≠0 then(getErr s n,0,[]) else match pageF s.dv.blocks (s.dv.last n) with
    |none=>(0,0,[])
    |some p=>if p.tag≠6 then(11,0,[]) else if p.data.length≠4 then(10,0,[]) else if 65536<ofB p.data∨p.kids.length≠nP (ofB p.data).toNat R then(10,0,[]) else(0,ofB p.data,p.kids)):=hid rfl
  have HPB:Hid (∀p,pageF s.dv.blocks (s.dv.last n)=some p→getErr s n=0→Bs.IsB p.data∧p.data.length≤1000000):=hid (fun p hp he=>Qij hk hp he)
  obtain⟨r,hr⟩:∃r,openP R s n=r:=⟨_,rfl⟩
  rw[hr]at HO ⊢
  clear hW0 hp hr h hR
  go_enter Tryz.func39,Tryz.ntmps39
  go_wp2_with fail
  rw[HW0.out]
  refine HGET.out.mono ?_
  rintro e w1 ⟨hg1,hx⟩
  have HG1:=hid hg1
  have HC1:=hid (Qd HC0.out hg1)
  have HWL:Hid (w.heap.size<w1.heap.size):=hid (block_lt HC1.out)
  clear hg1 HC0 HGET
  rcases hx with ⟨hne,rfl⟩|⟨p,a,c,h0,hpg,rfl,hseg,hnew⟩
  · have HOE:Hid (r=(getErr s n,0,[])):=hid (by rw[HO.out,if_pos hne])
    obtain⟨E,hE⟩:∃E,getErr s n=E:=⟨_,rfl⟩
    rw[hE]at HOE hne ⊢
    have q0:(E != 0)=true:=bne_iff_ne.2 hne
    have HC2:=hid (Qd HC1.out (Qb w1 (.cells zeroPg 41)))
    have HG2:=hid (Qa HG0.out (Qa HG1.out (Qb w1 (.cells zeroPg 41))))
    obtain⟨W2,hW2⟩:∃X,w1.alloc (.cells zeroPg 41)=X:=⟨_,rfl⟩
    rw[hW2]at HC2 HG2
    have HW2:=hid hW2
    clear hne hE hW2 HO HPB
    dsimp only[zeroPg]
    go_upto_region 2 with fail
    rw[show(#[.int .u8 0,.slice none 0 0,.string ⟨#[]⟩]:Array Value)=zeroPg from rfl,HW2.out]
    go_wp2_with (first
      |(with_reducible refine QW rfl (.tmp 4) (.tmp 18) rfl w.heap.size rfl (.int .i64 0) (.slice none 0 0) rfl rfl rfl _ _ HC2.out ?_;intro w6 hq6 ht6)
      |fail)
    exact bodyPost_ret (Qaa rfl _ _ _ _ _ (.int .i64 E) rfl hq6 rfl) rfl (QbF HOE.out (Qh HG2.out ht6 (Nat.le_refl _)))
  obtain⟨hpb,hpl⟩:=HPB.out p hpg h0
  have HOE:Hid (r=if p.tag≠6 then(11,0,[]) else if p.data.length≠4 then(10,0,[]) else if 65536<ofB p.data∨p.kids.length≠nP (ofB p.data).toNat R then(10,0,[]) else(0,ofB p.data,p.kids)):=hid (by rw[HO.out,if_neg (fun q=>q h0),hpg])
  have HG2:=hid (Qa HG1.out (Qb w1 (.cells (pgV p a p.kids.length c) 41)))
  have HC2:=hid (Qd HC1.out (Qb w1 (.cells (pgV p a p.kids.length c) 41)))
  have HN2:=hid (heap_alloc_new w1 (.cells (pgV p a p.kids.length c) 41))
  have HS2:=hid (hseg.grown (Qb w1 (.cells (pgV p a p.kids.length c) 41)))
  have HNW:Hid (∀ad,a=some ad→w.heap.size<ad.block):=hid (fun ad had=>by
    have h8:=hnew ad had
    have h9:W0.heap.size=w.heap.size+1:=by rw[←HW0.out];simp[World.size_alloc]
    omega)
  obtain⟨W2,hW2⟩:∃X,w1.alloc (.cells (pgV p a p.kids.length c) 41)=X:=⟨_,rfl⟩
  rw[hW2]at HC2 HG2 HN2 HS2
  have HW2:=hid hW2
  have HCV:=hid (fun W=>Qbj p.data hpb (by omega) W)
  have HOF:Hid (p.data.length=4→0≤ofB p.data∧ofB p.data<4294967296):=hid (Qjh hpb)
  have HSZ:Hid ((strOfNums p.data).size=p.data.length):=hid (strOfNums_size p.data)
  have HPBS:=hid hpb
  obtain⟨L,hL⟩:∃l,p.kids.length=l:=⟨_,rfl⟩
  obtain⟨t,ht⟩:∃t,p.tag=t:=⟨_,rfl⟩
  obtain⟨d,hd⟩:∃d,p.data.length=d:=⟨_,rfl⟩
  obtain⟨S,hS⟩:∃T,strOfNums p.data=T:=⟨_,rfl⟩
  unfold pgV at HW2 HN2
  rw[hS,hL,ht]at HW2 HN2
  rw[hL]at HS2
  rw[ht,hd,hL]at HOE
  rw[hd]at HOF HSZ HCV
  rw[hS]at HCV HSZ
  have HLL:=hid hL
  have HDD:=hid hd
  have HGG2:=hid (Qa HG0.out HG2.out)
  dsimp only[pgV]
  rw[hS,hL,ht]
  clear hL ht hd hS hW2 hpb hpl hpg h0 hseg hnew HO HPB HC1
  obtain⟨d0,d1,d2⟩:=Qbs HN2.out
  go_upto_region 2 with fail
  rw[HW2.out]
  by_cases h6:t=6
  case neg=>
    have HE:Hid (r=(11,0,[])):=hid (by rw[HOE.out,if_pos h6])
    have q1:(t != 6)=true:=bne_iff_ne.2 h6
    clear h6 HOE
    go_wp2_with (first
      |(with_reducible refine QW rfl (.tmp 4) (.tmp 24) rfl w.heap.size rfl (.int .i64 0) (.slice none 0 0) rfl rfl rfl _ _ HC2.out ?_;intro w6 hq6 ht6)
      |fail)
    exact bodyPost_ret (Qaa rfl _ _ _ _ _ (.int .i64 11) rfl hq6 rfl) rfl (QbF HE.out (Qh HGG2.out ht6 (Nat.le_refl _)))
  case pos=>
  subst h6
  have HOE2:Hid (r=if d≠4 then(10,0,[]) else if 65536<ofB p.data∨L≠nP (ofB p.data).toNat R then(10,0,[]) else(0,ofB p.data,p.kids)):=hid (by rw[HOE.out,if_neg (fun q=>q rfl)])
  have hsz:=HSZ.out
  clear HOE
  by_cases h4:d=4
  case neg=>
    have HE:Hid (r=(10,0,[])):=hid (by rw[HOE2.out,if_pos h4])
    have q1:((d:Int) != 4)=true:=bne_iff_ne.2 (by omega)
    clear h4 HOE2
    go_wp2_with (first
      |(with_reducible refine QW rfl (.tmp 4) (.tmp 30) rfl w.heap.size rfl (.int .i64 0) (.slice none 0 0) rfl rfl rfl _ _ HC2.out ?_;intro w6 hq6 ht6)
      |fail)
    exact bodyPost_ret (Qaa rfl _ _ _ _ _ (.int .i64 10) rfl hq6 rfl) rfl (QbF HE.out (Qh HGG2.out ht6 (Nat.le_refl _)))
  case pos=>
  have hd4:=HDD.out
  subst h4
  obtain⟨hv0,hv1⟩:=HOF.out rfl
  have HOE3:Hid (r=if 65536<ofB p.data∨L≠nP (ofB p.data).toNat R then(10,0,[]) else(0,ofB p.data,p.kids)):=hid (by rw[HOE2.out,if_neg (fun q=>q rfl)])
  obtain⟨cap,W3,hcv,hreg,ht3,hc1,hc2⟩:=HCV.out W2
  have HSB:Hid (Bs.Seg W3 (some ⟨W2.heap.size,0,none⟩) 4 cap p.data):=hid (by rw[←hd4];exact hreg.seg (by omega) hc2)
  have HOFC:=hid (Oct.QaO W2.heap.size 0 4 cap p.data W3 HSB.out HPBS.out (by omega))
  obtain⟨V,hV⟩:∃V:Nat,ofB p.data=V:=Int.eq_ofNat_of_zero_le hv0
  rw[hV]at HOFC HOE3 hv1
  have HVE:=hid hV
  have HG3:=hid (Qa HG2.out ht3.grown)
  have HC3:=hid (Qd HC2.out ht3.grown)
  have HN3:=hid (Qd HN2.out ht3.grown)
  have HS3:=hid (HS2.out.grown ht3.grown)
  clear hreg ht3 hc1 hc2 hV hv0 HOE2 HCV HSB HOF HC2 HN2 HS2
  have HV1:=hid hv1
  have HN0:=hid hn
  clear hd4 hv1 hn
  go_wp2_with fail
  refine HOFC.out.mono ?_
  rintro e w4 ⟨rfl,rfl⟩
  clear d0 d1 d2 hcv HOFC
  obtain⟨d0,d1,d2⟩:=Qbs HN3.out
  dsimp only
  by_cases hbig:65536<V
  case pos=>
    have HE:Hid (r=(10,0,[])):=hid (by rw[HOE3.out,if_pos (.inl (by omega))])
    have q5:decide ((65536:Int)<(V:Int))=true:=decide_eq_true (by omega)
    clear hbig HOE3
    go_upto_region 9 with fail
    go_quiet (fail)
    obtain⟨W5,hW5⟩:∃X,W3.drewN nq=X:=⟨_,rfl⟩
    have HC5:=hid (Qd HC3.out (Turn.drewN W3 nq nowhere).grown)
    have HG5:=hid (Qa HG0.out (Qa HG3.out (Turn.drewN W3 nq nowhere).grown))
    rw[hW5]at HC5 HG5 ⊢
    clear hW5
    go_wp2_with (first
      |(with_reducible refine QW rfl (.tmp 4) (.tmp 48) rfl w.heap.size rfl (.int .i64 0) (.slice none 0 0) rfl rfl rfl _ _ HC5.out ?_;intro w6 hq6 ht6)
      |fail)
    exact bodyPost_ret (Qaa rfl _ _ _ _ _ (.int .i64 10) rfl hq6 rfl) rfl (QbF HE.out (Qh HG5.out ht6 (Nat.le_refl _)))
  case neg=>
  have q5:decide ((65536:Int)<(V:Int))=false:=decide_eq_false (by omega)
  have hv1:=HV1.out
  have e1:IntKind.i64.wrap (V:Int)=(V:Int):=IntWalk.i64_in _ (by omega)
  have HPG:=hid (fun W=>Qah V R W h1 (by omega))
  obtain⟨K,hK⟩:∃K,nP V R=K:=⟨_,rfl⟩
  rw[hK]at HPG
  have HOE4:Hid (r=if L≠K then(10,0,[]) else(0,(V:Int),p.kids)):=hid (by
    rw[HOE3.out,Int.toNat_natCast,hK]
    by_cases q:L=K
    · rw[if_neg (by omega),if_neg (fun z=>z q)]
    · rw[if_pos (.inr q),if_pos q])
  clear hK HOE3
  by_cases hLK:L=K
  case neg =>
    have HE:Hid (r=(10,0,[])):=hid (by rw[HOE4.out,if_pos hLK])
    have q7:((L:Int) != (K:Int))=true:=bne_iff_ne.2 (by omega)
    clear hLK HOE4
    go_upto_region 9 with fail
    have hd1:=d1
    clear d0 d1 d2 hbig hv1
    have d1:=hd1
    clear hd1
    have HRO3:=hid (HROOM.out W3.drew (Qa HG3.out (Qn W3)))
    go_region_held3 (fun w'=>w'.cell? ⟨w1.heap.size,1,none⟩=some (.slice a L c)) (go_keep)
      (first
        | (go_at_call 27
           (with_reducible refine HRO3.out.mono ?_)
           rintro e w5 ⟨rfl,hg5⟩
           have HG5:=hid (Qa (Qn W3) hg5)
           have k1:=(Qc HG5.out).cell d1 id
           clear hg5)
        | (go_at_call 74
           (with_reducible refine(HPG.out _).mono ?_)
           rintro e w6 ⟨rfl,rfl⟩)
        |fail)
    have HC5:=hid (Qd HC3.out HG5.out)
    have HGG5:=hid (Qa HG0.out (Qa HG3.out HG5.out))
    have HS5:=hid (HS3.out.grown HG5.out)
    clear d1 HRO3 HC3 HN3 HG3 HS3 HROOM
    go_wp2_with (first
      |(with_reducible refine QW rfl (.tmp 4) (.tmp 48) rfl w.heap.size rfl (.int .i64 0) (.slice none 0 0) rfl rfl rfl _ _ HC5.out ?_;intro w6 hq6 ht6)
      |fail)
    exact bodyPost_ret (Qaa rfl _ _ _ _ _ (.int .i64 10) rfl hq6 rfl) rfl (QbF HE.out (Qh HGG5.out ht6 (Nat.le_refl _)))
  case pos=>
  have HE:Hid (r=(0,(V:Int),p.kids)):=hid (by rw[HOE4.out,if_neg (fun z=>z hLK)])
  have q7:((L:Int) != (K:Int))=false:=bne_eq_false_iff_eq.2 (by omega)
  clear hLK HOE4
  go_upto_region 9 with fail
  have hd1:=d1
  clear d0 d1 d2 hbig hv1
  have d1:=hd1
  clear hd1
  have HRO3:=hid (HROOM.out W3.drew (Qa HG3.out (Qn W3)))
  go_region_held3 (fun w'=>w'.cell? ⟨w1.heap.size,1,none⟩=some (.slice a L c)) (go_keep)
    (first
      | (go_at_call 27
         (with_reducible refine HRO3.out.mono ?_)
         rintro e w5 ⟨rfl,hg5⟩
         have HG5:=hid (Qa (Qn W3) hg5)
         have k1:=(Qc HG5.out).cell d1 id
         clear hg5)
      | (go_at_call 74
         (with_reducible refine(HPG.out _).mono ?_)
         rintro e w6 ⟨rfl,rfl⟩)
      |fail)
  have HC5:=hid (Qd HC3.out HG5.out)
  have HGG5:=hid (Qa HG0.out (Qa HG3.out HG5.out))
  have HS5:=hid (HS3.out.grown HG5.out)
  clear d1 HRO3 HC3 HN3 HG3 HS3 HROOM
  go_wp2_with (first
    |(with_reducible refine QW rfl (.tmp 4) (.tmp 53) rfl w.heap.size rfl (.int .i64 (V:Int)) (.slice a L c) rfl rfl rfl _ _ HC5.out ?_;intro w6 hq6 ht6)
    |fail)
  refine bodyPost_ret (Qaa rfl _ _ _ _ _ (.int .i64 0) rfl hq6 rfl) rfl ?_
  rw[HE.out]
  refine⟨Qh HGG5.out ht6 (Nat.le_refl _),a,c,by show _=Ending.returned (Value.tuple #[.agg #[.int .i64 (V:Int),.slice a p.kids.length c],.int .i64 0]);rw[HLL.out],?_,fun ad had=>Nat.le_of_lt (HNW.out ad had)⟩
  show Ws.Seg w6 a p.kids.length c p.kids
  rw[HLL.out]
  exact Qp HS5.out ht6 (fun ad had e=>by have:=HNW.out ad had;omega)
end
structure SameS (s s':SpS):Prop where
 sup:s'.sup=s.sup
 held:s'.held=s.held
 mark:s'.mark=s.mark
 slot:s'.slot=s.slot
 size:s'.dv.size=s.dv.size
 blocks:s'.dv.blocks=s.dv.blocks
theorem Qhp(x y:Int)(W:World):(Builtin.min_ #[3,3] 3 #[.int .i64 x,.int .i64 y]).run Tryz.prog W=.ok (.int .i64 (min x y)) W:=by
 by_cases q:y<x
 ·rw[Int.min_eq_right (by omega)];simp[Builtin.min_,Builtin.min2,go_sem,q]
 ·rw[Int.min_eq_left (by omega)];simp[Builtin.min_,Builtin.min2,go_sem,q]
theorem QhR(ks own:List Nat)(j:Nat)(hj:j<ks.length):∀m,(ks.getD j 0 :: (ks.drop (j+1)++own)).count m=(ks.drop j++own).count m:=fun m=>by
 rw[List.drop_eq_getElem_cons hj,List.getD_eq_getElem?_getD,List.getElem?_eq_getElem hj]
 rfl
section
variable {w0 w : World} {sg g : Nat} {A : Nat → Prop} {s s0 : SpS} {R : Nat} {own hown mown ks : List Nat} {T : Nat} {l : List Int}
def DropX(w0 w:World)(sg g:Nat)(A:Nat→Prop)(s:SpS)(own hown mown:List Nat)(T:Nat)(e:Ending)(w':World):Prop:=
 e=.returned (.tuple #[])∧∃c,Sh w0 w' sg g A { s with now:=c }∧SpOk { s with now:=c } own hown mown T∧Stay w w' A
theorem QdF(h:Sh w0 w sg g A s)(hk:SpOk s (ks++own) hown mown T)(a:Option Addr)(n c:Nat)(hn:ks.length=n)(hs:Ws.Seg w a n c (ints ks))(hA:∀i,blkO a i→A i) :
  Calls Tryz.prog 35 #[.pointer (some ⟨sg,0,none⟩),.slice a n c] w (DropX w0 w sg g A s own hown mown (T+n)):=by
 have hle:=hs.le;have hcap:=hs.cap;unfold maxLen at hcap;have HS:=hid hs;have HA:=hid hA;have HN:=hid hn;have HS0:Hid (Sh w0 w sg g A { s with now:=s.now }):=hid h;have HK0:Hid (SpOk { s with now:=s.now } (ks.drop 0++own) hown mown (T+0)):=hid hk;have HT0:Hid (Stay w w A):=hid Stay.refl;clear h hk hs hA hn;go_enter Tryz.func35,Tryz.ntmps35
 go_wp2
 go_loopw [8] (fun si wr=>∃(j:Nat) (cN:List Int),j≤n∧si=.int .i64 (j:Int)∧Hid (Sh w0 wr sg g A { s with now:=cN })∧Hid (SpOk { s with now:=cN } (ks.drop j++own) hown mown (T+j))∧Hid (Stay w wr A)) (fun si _=>n-(intOf si).toNat)
 case atStart=>exact⟨0,s.now,Nat.zero_le _,rfl,HS0,HK0,HT0⟩
 case round=>
  clear HS0 HK0 HT0;obtain⟨j,cN,hj,rfl,HS7,HK7,HT7⟩:=hrel;by_cases hlt:j<n
  ·have q9:decide (j<n)=true:=decide_eq_true hlt;have p1:(0:Int)≤(j:Int):=by omega
   have p2:(j:Int)<(n:Int):=by omega
   obtain⟨gA,oA,rfl,hc⟩:=(HT7.out.seg HS.out (fun ad e=>HA.out _ ⟨ad,e,rfl⟩)).addr (by omega);have d3:=hc j hlt;rw[Qb2]at d3;have HDR:=hid (Qea HS7.out HK7.out (ks.getD j 0) (ks.drop (j+1)++own) (QhR ks own j (by rw[HN.out];exact hlt)));obtain⟨nd,hnd⟩:∃v,ks.getD j 0=v:=⟨_,rfl⟩;rw[hnd]at d3 HDR;clear hnd hc;go_wp2_with fail
   refine HDR.out.mono ?_;rintro e w7 ⟨c7,⟨rfl,hs7,ht7⟩,hk7⟩;have HS8:=hid hs7;have HK8:Hid (SpOk { s with now:=c7 } (ks.drop (j+1)++own) hown mown (T+(j+1))):=hid hk7;have HT8:Hid (Stay w w7 A):=hid (HT7.out.trans ht7);clear hs7 hk7 ht7 d3 HDR HS7 HK7 HT7;dsimp only;go_wp2;go_roundw
   case rel=>exact⟨j+1,c7,by omega,by go_num,HS8,HK8,HT8⟩
   case measure=>simp[intOf];omega
  ·have q9:decide (j<n)=false:=decide_eq_false hlt;obtain rfl:j=n:=by omega
   have HK9:Hid (SpOk { s with now:=cN } own hown mown (T+j)):=hid (by
    have h1:=HK7.out;rw[List.drop_eq_nil_of_le (by rw[HN.out];omega)]at h1;exact h1)
   go_wp2
   go_end0
   exact⟨rfl,cN,HS7.out,HK9.out,HT7.out⟩
theorem pushedK{W w':World}{base oc k:Nat}{oa:Option Addr}{ks:List Nat}{m:Nat}{tmp:Obj}{v':Value}(hk:ks.length=k)(h2:w'.ownsRow base 30 1 v' (k+1) ((ints ks).map (Value.int .u32)++[.int .u32 (m:Int)]))(h3:(W.alloc tmp).grownBy w' (Value.slice oa k oc).ownBlock)
  (h5:v'.ownBlock=(Value.slice oa k oc).ownBlock∨v'.ownBlock=some (W.alloc tmp).heap.size):∃g c,v'=.slice (some ⟨g,0,none⟩) (k+1) c∧w'.ownsRow base 30 1 (.slice (some ⟨g,0,none⟩) (k+1) c) (k+1) ((ints (ks++[m])).map (Value.int .u32))∧Turn W w' (blkO oa)∧(blkO oa g∨W.heap.size≤g):=by
 have hl:(ints ks).length=k:=by rw[Qad,hk]
 subst hl;obtain⟨g,c,e1,e2,e3,e4⟩:=QeC h2 h3 h5;refine⟨g,c,e1,?_,e3,e4⟩;have e5:ints (ks++[m])=ints ks++[(m:Int)]:=by unfold ints;rw[List.map_append];rfl
 rw[e5];unfold Stk at e2;rw[List.length_append]at e2;exact e2
theorem Qhy{W:World}{base oc k:Nat}{oa:Option Addr}{ks:List Nat}(hk:ks.length=k)(h:W.ownsRow base 30 1 (.slice oa k oc) k ((ints ks).map (Value.int .u32))):Ws.Seg W oa k oc (ints ks):=by
 have hl:(ints ks).length=k:=by rw[Qad,hk]
 subst hl;exact QhB h
def PartsX(w0 w:World)(sg g:Nat)(A:Nat→Prop)(s:SpS)(R:Nat)(l:List Int)(own hown mown:List Nat)(T K:Nat)(e:Ending)(w':World):Prop:=
 (∃ks a c s',e=.returned (.tuple #[.slice a K c,.int .i64 0])∧PutI s R l own hown mown T K ks s'∧Sh w0 w' sg g (fun i=>A i∨blkO a i) s'∧Stay w w' A∧Ws.Seg w' a K c (ints ks)) ∨
 (∃s',e=.returned (.tuple #[.slice none 0 0,.int .i64 9])∧Sh w0 w' sg g A s'∧SpOk s' own hown mown (T+K+K)∧SameS s s'∧Stay w w' A∧(frees s).length<s.sup.pages.length+K)
theorem PutI.same{k:Nat}(h:PutI s0 R l own hown mown T k ks s)(c:List Int):SameS s0 { s with now:=c }:=⟨h.sup,h.held,h.mark,h.slot,h.size,h.blocks⟩
theorem Qgw(h:Sh w0 w sg g A s)(hk:SpOk s own hown mown T)(hR:roomP s.dv.size 0=(R:Int))(h1:0<R∧R≤4096)(hRS:R+18≤s.dv.size)(K:Nat)(hK:nP l.length R=K)(hT:T+K≤8000)(hl:Bs.IsB l)(hlen:l.length≤65536)(hA:∀i,A i→i<w.heap.size) :
  Calls Tryz.prog 33 #[.pointer (some ⟨sg,0,none⟩),.string (strOfNums l)] w (PartsX w0 w sg g A s R l own hown mown T K):=by
 obtain⟨i0,hi0,hz0,hz1,hz2⟩:=info_parts Ws.Qbp;have HRO:=hid (Qbg h 0 (by decide));rw[hR]at HRO;have HPG:=hid (fun W=>Qah l.length R W h1 (by omega));rw[hK]at HPG;have HNP:Hid (∀i,i<K↔i*R<l.length):=hid (fun i=>by rw[←hK];exact nP_lt h1.1);have HSZ:Hid ((strOfNums l).size=l.length):=hid (strOfNums_size l);have HW0:=hid h.gr;have HS0:Hid (Sh w0 w sg g (fun i=>A i∨blkO none i) s):=hid (h.less (fun i e=>e.elim id (fun⟨ad,e2,_⟩=>by cases e2)));have HI0:Hid (PutI s R l own hown mown T 0 [] s):=hid (PutI.start hk);have HK0:=hid hk;have HO0:Hid (w.ownsRow w.heap.size 30 1 (.slice none 0 0) 0 ((ints []).map (Value.int .u32))):=hid ⟨rfl,.inl ⟨rfl,rfl⟩⟩;have HT0:Hid (Stay w w A):=hid Stay.refl;have HB:=hid hl;have HAA:=hid hA;have HRS:=hid hRS;have HKK:=hid hK;have hK6:K≤65536:=by
  apply Classical.byContradiction
  intro q;have h5:=(HNP.out 65536).1 (by omega);have:65536*1≤65536*R:=Nat.mul_le_mul_left _ h1.1;omega
 have HLN:Hid (l.length≤65536):=hid hlen;obtain⟨n,hn⟩:∃n,l.length=n:=⟨_,rfl⟩;have HNE:=hid hn;rw[hn]at HPG HNP HSZ hlen;obtain⟨S,hS⟩:∃S,strOfNums l=S:=⟨_,rfl⟩;rw[hS]at HSZ ⊢;have HSS:=hid hS;have hsz:=HSZ.out;have HT:=hid hT;clear h hk hR hl hRS hK hn hS hA hT;go_enter Tryz.func33,Tryz.ntmps33
 go_wp2_with fail
 refine HRO.out.mono ?_;rintro e w1 ⟨rfl,hg1⟩;have HG1:=hid hg1;clear hg1 HRO;dsimp only;go_wp2_with fail
 refine(HPG.out _).mono ?_;rintro e w2 ⟨rfl,rfl⟩;have HSa:Hid (Sh w0 w1 sg g (fun i=>A i∨blkO none i) s):=hid (HS0.out.go HG1.out);have HOa:Hid (w1.ownsRow w.heap.size 30 1 (.slice none 0 0) 0 ((ints []).map (Value.int .u32))):=hid ⟨rfl,.inl ⟨rfl,rfl⟩⟩;have HTa:Hid (Stay w w1 A):=hid (Stay.Qf HG1.out);clear HS0 HO0 HT0 HPG HG1;dsimp only;go_wp2
 go_loopw [7,18] (fun s7 si wr=>∃(k:Nat) (oa:Option Addr) (oc:Nat) (ks:List Nat) (s':SpS),k≤K∧si=.int .i64 (k:Int)∧s7=.slice oa k oc∧Hid (PutI s R l own hown mown T k ks s')∧Hid (Sh w0 wr sg g (fun i=>A i∨blkO oa i) s')∧Hid (wr.ownsRow w.heap.size 30 1 (.slice oa k oc) k ((ints ks).map (Value.int .u32)))∧Hid (Stay w wr A)) (fun _ si _=>K-(intOf si).toNat)
 case atStart=>exact⟨0,none,0,[],s,Nat.zero_le _,rfl,rfl,HI0,HSa,HOa,HTa⟩
 case round=>
  clear HI0 HSa HOa HTa;obtain⟨k,oa,oc,ks,s',hkK,rfl,rfl,HI,HS,HO,HTT⟩:=hrel;by_cases hlt:k<K
  case neg=>
   have q9:decide (k<K)=false:=decide_eq_false hlt;obtain rfl:k=K:=by omega
   go_wp2;go_ret2
   refine .inl ⟨ks,oa,oc,s',rfl,HI.out,HS.out,HTT.out,?_⟩;exact Qhy HI.out.len HO.out
  case pos=>
   have q9:decide (k<K)=true:=decide_eq_true hlt;have hlo:=(HNP.out k).1 hlt;obtain⟨lo,hlo2⟩:∃lo,k*R=lo:=⟨_,rfl⟩;obtain⟨up,hup⟩:∃up,(k+1)*R=up:=⟨_,rfl⟩;obtain⟨hi,hhi⟩:∃hi,min up n=hi:=⟨_,rfl⟩;have hup2:up=lo+R:=by rw[←hup,←hlo2,Nat.add_mul,Nat.one_mul]
   rw[hlo2]at hlo;have e1:(k:Int)*(R:Int)=(lo:Int):=by rw[←hlo2,Int.natCast_mul]
   have e2:IntKind.i64.wrap (lo:Int)=(lo:Int):=IntWalk.i64_in _ (by omega);have e3:(k:Int)+1=((k+1:Nat):Int):=by omega
   have e4:IntKind.i64.wrap ((k+1:Nat):Int)=((k+1:Nat):Int):=IntWalk.i64_in _ (by omega);have e5:((k+1:Nat):Int)*(R:Int)=(up:Int):=by rw[←hup,Int.natCast_mul]
   have e6:IntKind.i64.wrap (up:Int)=(up:Int):=IntWalk.i64_in _ (by omega);have hmin:∀W,(Builtin.min_ #[3,3] 3 #[.int .i64 (up:Int),.int .i64 (n:Int)]).run Tryz.prog W=.ok (.int .i64 (hi:Int)) W:=fun W=>by rw[Qhp,←hhi];congr 2;omega
   have hb1:lo≤hi:=by omega
   have hb2:hi≤n:=by omega
   have HPS:Hid (S.extract lo hi=strOfNums (cutB R k l)):=hid (by
    rw[←HSS.out,QdL,←hlo2];unfold cutB
    congr 1
    rw[hlo2];by_cases q:up≤n
    ·rw[show hi-lo=R by omega]
    ·rw[List.take_of_length_le (by rw[List.length_drop,HNE.out];omega),List.take_of_length_le (by rw[List.length_drop,HNE.out];omega)])
   obtain⟨PS,hPS⟩:∃PS,S.extract lo hi=PS:=⟨_,rfl⟩;rw[hPS]at HPS;have HKO:=hid (HK0.out);have hT9:=HT.out;have hlo9:(0:Int)≤(lo:Int):=by omega
   have hle9:(lo:Int)≤(hi:Int):=by omega
   have hle8:(hi:Int)≤(n:Int):=by omega
   generalize hk1:k+1=k1 at e3 e4 e5;have HK1:=hid hk1;have HKS:=hid HI.out.len;have HUP:=hid hup2;clear hlo hlo2 hup hhi hup2 hk1;by_cases hfr:s.sup.pages.length<(frees s').length
   case pos=>
    obtain⟨m,f,hf,herr,hm,hnx⟩:=HI.out.next HKO.out (by omega) HB.out HRS.out hfr;have HPUT:=hid (QgH HS.out HI.out.ok (by omega) (dataPg (cutB R k l)) none 0 (Qc8 (Qdv HB.out)) (Ws.Seg.nil wr) (by show(cutB R k l).length≤_;rw[Qa9];have:=HLN.out;omega) herr hf);have HPUT2:Hid (Calls Tryz.prog 14 #[.pointer (some ⟨sg,0,none⟩),.agg #[.int .u8 7,.slice none 0 0,.string PS]] wr (ShX w0 wr sg g (fun i=>A i∨blkO oa i) (.tuple #[.int .u32 (m:Int),.int .i64 0]) (putP s' (dataPg (cutB R k l)) m))):=hid (by rw[HPS.out];exact HPUT.out);have HNX:=hid hnx;clear hf herr hnx hfr HPUT HI HS HPS hm;go_wp2_with fail
    refine HPUT2.out.mono ?_;rintro e w4 ⟨rfl,hs4,ht4⟩;have HS4:=hid hs4;have HT4:=hid ht4;have hO4:w4.ownsRow w.heap.size 30 1 (.slice oa k oc) k ((ints ks).map (Value.int .u32)):=QcX HO.out ht4 (fun i e=>.inr (Qdz e));have HOA:=hid (hO4.alloc (.cells #[.int .u32 (m:Int)] 30));have HOB:Hid (∀i,blkO oa i→w.heap.size≤i∧i<w4.heap.size):=hid (fun i ⟨ad,e,e2⟩=>by rw[e2];exact Qew hO4 ad e);have HTS:Hid (Stay w w4 A):=hid (HTT.out.trans (ht4.less (fun i e=>.inl e)));have HB4:Hid (w.heap.size≤w4.heap.size):=hid HTS.out.size;have HKL:=hid HKS.out;clear hs4 ht4 hO4 HPUT2 HO HTT HT4;dsimp only;go_wp2_with (first
     |(at_builtin;refine wpList_append_own_at _ rfl (.tmp 46) (.tmp 48) 39 rfl w.heap.size 30 i0 (.int .u32 0) 1 4 Tryz.underlying39 hi0 hz0 hz1 hz2 rfl (by decide) (.slice oa k oc) k _ rfl HOA.out ⟨w4.heap.size,0,none⟩ 1 1 [.int .u32 (m:Int)] rfl rfl (cell_one_new _ _ _) (by simp[Value.oneCell']) (by unfold maxLen;omega) (by omega) (by have:=HB4.out;rw[World.size_alloc];omega) ?_;intro v5 w5 hown5 hg5 _ hat5;obtain⟨g3,c3,rfl,hO5,hT5,hB5⟩:=pushedK HKL.out hown5 hg5 hat5;have HO5:=hid hO5;have HT5:=hid hT5;have HB5:=hid hB5;clear hown5 hg5 hat5 hO5 hT5 hB5)
     |fail)
    have HS5:Hid (Sh w0 w5 sg g (fun i=>A i∨blkO (some ⟨g3,0,none⟩) i) (putP s' (dataPg (cutB R k l)) m)):=hid (HS4.out.beside HT5.out (fun i e=>.inr e) (fun i e=>Nat.le_trans HW0.out.size (HOB.out i e).1) (fun i e=>by
     rcases e with e|⟨ad,e1,rfl⟩
     ·exact .inl (.inl e)
     ·cases e1
      rcases HB5.out with e|e
      ·exact .inl (.inr e)
      ·exact .inr ⟨e,(HO5.out.lt g3 rfl).2⟩))
    have HT6:Hid (Stay w w5 A):=hid (HTS.out.trans (HT5.out.mono (fun i _ e hAi=>by have:=(HOB.out i e).1;have:=HAA.out i hAi;omega)));go_roundw
    case rel=>exact⟨k1,some ⟨g3,0,none⟩,c3,ks++[m],_,by have:=HK1.out;omega,by go_num,by rw[HK1.out],by rw[←HK1.out];exact HNX,HS5,by rw[←HK1.out];exact HO5,HT6⟩
    case measure=>have:=HK1.out;simp[intOf];omega
   case neg=>
    have herr:=HI.out.full (p:=dataPg (cutB R k l)) (.inl rfl) (show(3:Int)≤7 by decide) (by
     rw[Qas,HI.out.size]
     show 2+4*0+(cutB R k l).length+16≤_
     rw[Qa9];have:min R (l.length-k*R)≤R:=Nat.min_le_left _ _;have:=HRS.out;omega) hfr
    have HPUT:=hid (QeB HS.out HI.out.ok (by omega) (dataPg (cutB R k l)) none 0 (Qc8 (Qdv HB.out)) (Ws.Seg.nil wr) (by show(cutB R k l).length≤_;rw[Qa9];have:=HLN.out;omega) herr (by decide));have HPUT2:Hid (Calls Tryz.prog 14 #[.pointer (some ⟨sg,0,none⟩),.agg #[.int .u8 7,.slice none 0 0,.string PS]] wr (ShX w0 wr sg g (fun i=>A i∨blkO oa i) (.tuple #[.int .u32 0,.int .i64 9]) s')):=hid (by rw[HPS.out];exact HPUT.out);have HSHORT:Hid ((frees s).length<s.sup.pages.length+K):=hid (by have:=HI.out.left;omega);clear herr hfr HPUT HS HPS;go_wp2_with fail
    refine HPUT2.out.mono ?_;rintro e w4 ⟨rfl,hs4,ht4⟩;have hO4:w4.ownsRow w.heap.size 30 1 (.slice oa k oc) k ((ints ks).map (Value.int .u32)):=QcX HO.out ht4 (fun i e=>.inr (Qdz e));have HDR:=hid (QdF hs4 HI.out.ok oa k oc HKS.out (Qhy HKS.out hO4) (fun i e=>.inr e));have HTS:Hid (Stay w w4 A):=hid (HTT.out.trans (ht4.less (fun i e=>.inl e)));clear hs4 ht4 hO4 HPUT2 HO HTT;dsimp only;go_wp2_with fail
    refine HDR.out.mono ?_;rintro e w5 ⟨rfl,c5,hs5,hk5,ht5⟩;have HS5:=hid hs5;have HK5:=hid hk5;have HT5:=hid (HTS.out.trans (ht5.less (fun i e=>.inl e)));clear hs5 hk5 ht5 HDR;dsimp only;go_wp2;go_ret2
    exact .inr ⟨_,rfl,HS5.out.less (fun i e=>.inl e),HK5.out.more (by omega),HI.out.same c5,HT5.out,HSHORT.out⟩
end
section
variable {w0 w : World} {sg g : Nat} {A : Nat → Prop} {s s0 : SpS} {R : Nat} {own hown mown ks : List Nat} {T : Nat} {l : List Int}
inductive PutR (s:SpS) (R:Nat) (l:List Int) (own hown mown:List Nat) (T:Nat):Int→Int→SpS→Prop
 |yes {n:Nat} {ks:List Nat} {s':SpS} (h:BlPut s R l own hown mown T n ks s') (hn:n<s.dv.blocks) (hm:l.length≤mostB R):PutR s R l own hown mown T (n:Int) 0 s'
 |long (h:mostB R<l.length) (hk:SpOk s own hown mown T):PutR s R l own hown mown T 0 3 s
 |full {s':SpS} (h:SpOk s' own hown mown T) (hs:SameS s s') (hf:(frees s).length<s.sup.pages.length+(nP l.length R+1)) (hm:l.length≤mostB R):PutR s R l own hown mown T 0 9 s'
def PutBX(w0 w:World)(sg g:Nat)(A:Nat→Prop)(s:SpS)(R:Nat)(l:List Int)(own hown mown:List Nat)(T:Nat)(e:Ending)(w':World):Prop:=
 ∃(n E:Int) (s':SpS),e=.returned (.tuple #[.int .u32 n,.int .i64 E])∧PutR s R l own hown mown T n E s'∧Sh w0 w' sg g A s'∧Stay w w' A
theorem QiE(h:Sh w0 w sg g A s)(hk:SpOk s own hown mown T)(hR:roomP s.dv.size 0=(R:Int))(h1:4≤R∧R≤4096)(hRS:R+18≤s.dv.size)(T2:Nat)(hT2:T+nP l.length R+nP l.length R+1≤T2)(hT:T2≤8000)(hl:Bs.IsB l)(hlen:l.length≤65536)(hA:∀i,A i→i<w.heap.size) :
  Calls Tryz.prog 11 #[.pointer (some ⟨sg,0,none⟩),.string (strOfNums l)] w (PutBX w0 w sg g A s R l own hown mown T2):=by
 have HV:=hid (QdA h hR (by omega));have HM:=hid (fun W (k:w.grownBy W none)=>QcU (h.go k) hR h1);obtain⟨K,hK⟩:∃K,nP l.length R=K:=⟨_,rfl⟩;rw[hK]at hT2;have HP:=hid (fun W (k:w.grownBy W none)=>Qgw (h.go k) hk hR (by omega) hRS K hK (by omega) hl hlen (fun i e=>Nat.lt_of_lt_of_le (hA i e) k.size));have HSH:=hid h;have HK:=hid hk;have HTT:=hid (And.intro hT2 hT);have HSZ:Hid ((strOfNums l).size=l.length):=hid (strOfNums_size l);have HK4:Hid (l.length≤mostB R→4*K+22≤s.dv.size):=hid (fun hm=>by
  have h2:nP l.length R≤(R-4) / 4:=Qgk (by omega) (by unfold mostB at hm;omega);omega)
 have HKK:=hid hK;obtain⟨M,hM⟩:∃M,mostB R=M:=⟨_,rfl⟩;rw[hM]at HM HK4;have HMM:=hid hM;have HOP:Hid (∀W,Calls Tryz.prog 34 #[.slice none 0 0,.int .u64 (l.length:Int),.int .i64 4] W fun e w'=>∃g,e=.returned (.slice (some ⟨g,0,none⟩) 4 4)∧Reg w' g 0 (putB 4 (l.length:Int))∧W.grownBy w' none):=hid (fun W=>(Oct.Qu none 0 0 [] (l.length:Int) 4 W (Bs.Seg.nil W) (by omega) (by omega) (by decide) (by decide) (by decide)).mono fun e w' ⟨g,e1,h2,h3⟩=>by
  have hl4:([]++putB 4 (l.length:Int)).length=4:=Oct.Qe 4 _;rw[hl4]at e1 h2;exact⟨g,e1,Reg.own h2,h3⟩)
 have HLN:=hid hlen;have HLB:=hid hl;obtain⟨n,hn⟩:∃n,l.length=n:=⟨_,rfl⟩;have HNE:=hid hn;rw[hn]at HOP HSZ hlen;obtain⟨S,hS⟩:∃S,strOfNums l=S:=⟨_,rfl⟩;rw[hS]at HP HSZ ⊢;have hsz:=HSZ.out;clear h hk hR hl hRS hK hn hS hA hT hT2 hM h1;go_enter Tryz.func11,Tryz.ntmps11
 go_wp2_with fail
 refine HV.out.mono ?_;rintro e w1 ⟨rfl,hg1⟩;have HG1:=hid hg1;clear hg1 HV;dsimp only;go_wp2_with fail
 refine(HM.out _ HG1.out).mono ?_;rintro e w2 ⟨rfl,hg2⟩;have HG2:=hid (Qa HG1.out hg2);clear hg2 HM;dsimp only;by_cases hlong:M<n
 case pos=>
  have q1:decide ((M:Int)<(n:Int))=true:=decide_eq_true (by omega);have q2:decide (M<n)=true:=decide_eq_true hlong;have HR:Hid (mostB R<l.length):=hid (by rw[HMM.out,HNE.out];exact hlong);have HS2:=hid (HSH.out.go HG2.out);have HT2:Hid (Stay w w2 A):=hid (Stay.Qf HG2.out);clear hlong;go_wp2;go_ret2
  exact⟨0,3,s,rfl,.long HR.out (HK.out.more (by have:=HTT.out.1;omega)),HS2.out,HT2.out⟩
 case neg=>
 have q1:decide ((M:Int)<(n:Int))=false:=decide_eq_false (by omega);have q2:decide (M<n)=false:=decide_eq_false hlong;have HMO:Hid (l.length≤mostB R):=hid (by rw[HMM.out,HNE.out];omega);have HPP:=hid (HP.out _ HG2.out);have HT2:Hid (Stay w w2 A):=hid (Stay.Qf HG2.out);clear hlong HP;go_wp2_with fail
 refine HPP.out.mono ?_;rintro e w3 (⟨ks,a,c,s',rfl,hi,hs3,ht3,hseg⟩|⟨s',rfl,hs3,hk3,hsm,ht3,hsh⟩)
 case inr=>
  have HS3:=hid hs3;have HT3:=hid (HT2.out.trans ht3);have HK3:=hid hk3;have HSM:=hid hsm;have HSR:=hid hsh;clear hs3 hk3 hsm ht3 hsh HPP;dsimp only;go_wp2;go_ret2
  exact⟨0,9,s',rfl,.full (HK3.out.more (by have:=HTT.out.1;omega)) HSM.out (by have:=HSR.out;have:=HKK.out;omega) HMO.out,HS3.out,HT3.out⟩
 case inl=>
 have HI:=hid hi;have HS3:=hid hs3;have HT3:=hid (HT2.out.trans ht3);have HSG:=hid hseg;have e1:IntKind.u64.wrap (n:Int)=(n:Int):=IntWalk.u64_in _ (by omega);clear hi hs3 ht3 hseg HPP;dsimp only;go_wp2_with fail
 refine(HOP.out _).mono ?_;rintro e w4 ⟨g4,rfl,hown4,hg4⟩;have hcv:=Qaw g4 0 4 4 (putB 4 (n:Int)) w4 hown4 (Oct.Qe 4 _);have HG4:=hid hg4;have HS4:=hid (HS3.out.go hg4);have HSG4:=hid (HSG.out.grown hg4);have HT4:Hid (Stay w w4 A):=hid (HT3.out.trans (Stay.Qf hg4));obtain⟨D,hD⟩:∃D,strOfNums (putB 4 (n:Int))=D:=⟨_,rfl⟩;rw[hD]at hcv;have HD:=hid hD;clear hown4 hg4 hD HS3 HSG HT3 HOP;have HIL:Hid (Bs.IsB (putB 4 (n:Int))∧∀k∈ks,k<4294967296):=hid ⟨Oct.Qx _ _,fun k hk=>by
  have h2:=(Qal HI.out.ok (Qbk HI.out.ok (List.mem_append_left _ hk))).2;have h3:=HI.out.ok.dok.bhi;omega⟩
 by_cases hfr:s.sup.pages.length<(frees s').length
 case pos=>
  obtain⟨m,f,hf,herr,hm,hbl⟩:=PutI.last (by rw[HKK.out];exact HI.out) HK.out (by rw[HKK.out];have:=HTT.out;omega) (by rw[HKK.out];exact HK4.out (by rw[←HMM.out,HNE.out]at *;exact HMO.out)) hfr;have HPUT:=hid (QgH (own:=[]++(ks++own)) HS4.out HI.out.ok (by have:=HTT.out;omega) (idxPg l.length ks) a c (QdV HIL.out.2) (by show Ws.Seg w4 a (ints ks).length c (ints ks);rw[Qad,HI.out.len];exact HSG4.out) (by show(putB 4 _).length≤_;rw[Oct.Qe];decide) herr hf);have HPUT2:Hid (Calls Tryz.prog 14 #[.pointer (some ⟨sg,0,none⟩),.agg #[.int .u8 6,.slice a K c,.string D]] w4 (ShX w0 w4 sg g (fun i=>A i∨blkO a i) (.tuple #[.int .u32 (m:Int),.int .i64 0]) (putP s' (idxPg l.length ks) m))):=hid (by
   have h5:=HPUT.out;have h6:(idxPg l.length ks).kids.length=K:=by show(ints ks).length=K;rw[Qad,HI.out.len]
   have h7:strOfNums (idxPg l.length ks).data=D:=by rw[←HD.out,←HNE.out];rfl
   rw[h6,h7]at h5;exact h5)
  have HBL:=hid hbl;have HMB:=hid hm;clear hf herr hbl hfr HPUT HS4 hm;go_wp2_with fail
  refine HPUT2.out.mono ?_;rintro e w5 ⟨rfl,hs5,ht5⟩;have HS5:=hid (hs5.less (B:=A) (fun i e=>.inl e));have HT5:=hid (HT4.out.trans (ht5.less (fun i e=>.inl e)));clear hs5 ht5 HPUT2;dsimp only;go_wp2;go_ret2
  refine⟨(m:Int),0,_,rfl,.yes (n:=m) (ks:=ks) ?_ HMB.out HMO.out,HS5.out,HT5.out⟩;have h8:=HBL.out;exact⟨h8.ok.more (by have:=HTT.out;have:=HKK.out;omega),h8.blob,h8.more,h8.fresh,h8.apart,h8.left,h8.sup,h8.held,h8.mark,h8.slot,h8.size,h8.blocks,h8.one,h8.least⟩
 case neg=>
  have herr:=HI.out.full (p:=idxPg l.length ks) (.inr rfl) (show(3:Int)≤6 by decide) (by
   rw[Qas,HI.out.size]
   show 2+4*(ints ks).length+(putB 4 (l.length:Int)).length+16≤_
   rw[Qad,Oct.Qe,HI.out.len];have:=HK4.out (by rw[←HMM.out];exact HMO.out);omega) hfr
  have HPUT:=hid (QeB HS4.out HI.out.ok (by have:=HTT.out;omega) (idxPg l.length ks) a c (QdV HIL.out.2) (by show Ws.Seg w4 a (ints ks).length c (ints ks);rw[Qad,HI.out.len];exact HSG4.out) (by show(putB 4 _).length≤_;rw[Oct.Qe];decide) herr (by decide));have HPUT2:Hid (Calls Tryz.prog 14 #[.pointer (some ⟨sg,0,none⟩),.agg #[.int .u8 6,.slice a K c,.string D]] w4 (ShX w0 w4 sg g (fun i=>A i∨blkO a i) (.tuple #[.int .u32 0,.int .i64 9]) s')):=hid (by
   have h5:=HPUT.out;have h6:(idxPg l.length ks).kids.length=K:=by show(ints ks).length=K;rw[Qad,HI.out.len]
   have h7:strOfNums (idxPg l.length ks).data=D:=by rw[←HD.out,←HNE.out];rfl
   rw[h6,h7]at h5;exact h5)
  have HSHORT:Hid ((frees s).length<s.sup.pages.length+(nP l.length R+1)):=hid (by have:=HI.out.left;have:=HKK.out;omega);clear herr hfr HPUT HS4;go_wp2_with fail
  refine HPUT2.out.mono ?_;rintro e w5 ⟨rfl,hs5,ht5⟩;have HDR:=hid (QdF hs5 HI.out.ok a K c HI.out.len (ht5.seg HSG4.out (fun ad e=>.inr ⟨ad,e,rfl⟩)) (fun i e=>.inr e));have HT5:=hid (HT4.out.trans (ht5.less (fun i e=>.inl e)));clear hs5 ht5 HPUT2;dsimp only;go_wp2_with fail
  refine HDR.out.mono ?_;rintro e w6 ⟨rfl,c6,hs6,hk6,ht6⟩;have HS6:=hid (hs6.less (B:=A) (fun i e=>.inl e));have HK6:=hid hk6;have HT6:=hid (HT5.out.trans (ht6.less (fun i e=>.inl e)));clear hs6 hk6 ht6 HDR;dsimp only;go_wp2;go_ret2
  exact⟨0,9,_,rfl,.full (HK6.out.more (by have:=HTT.out;omega)) (HI.out.same c6) HSHORT.out HMO.out,HS6.out,HT6.out⟩
end
section
variable {w0 w : World} {sg g : Nat} {A : Nat → Prop} {s s0 : SpS} {R : Nat} {own hown mown ks : List Nat} {T : Nat} {l : List Int}
theorem QkF(h:Sh w0 w sg g A s)(hk:SpOk s own hown mown T)(hR:roomP s.dv.size 0=(R:Int))(h1:0<R∧R≤4096)(K:Nat)(hkl:ks.length=K)(hK:nP l.length R=K)(i:Nat)(hi:i<K)(hp:lp s (ks.getD i 0)=some (dataPg (cutB R i l)))(hlen:l.length≤65536)(a:Option Addr)(c:Nat)(hs:Ws.Seg w a K c (ints ks)) :
  Calls Tryz.prog 78 #[.agg #[.int .i64 (l.length:Int),.slice a K c],.pointer (some ⟨sg,0,none⟩),.int .i64 (i:Int)] w fun e w'=>e=.returned (.tuple #[.string (strOfNums (cutB R i l)),.int .i64 0])∧w.grownBy w' none:=by
 have hpg:s.sup.pages.length≤100000:=Nat.le_trans hk.Qaf (by decide);have hlt:i*R<l.length:=(nP_lt h1.1).1 (by omega);have hcl:=Qa9 R i l;obtain⟨hge,hpf⟩:=QfZ hk hp;have hk32:ks.getD i 0<4294967296:=by
  have h2:=(Qal hk (QaF hp).1).2;have h3:=hk.dok.bhi;omega
 obtain⟨n,hn⟩:∃n,l.length=n:=⟨_,rfl⟩;obtain⟨lo,hlo⟩:∃lo,i*R=lo:=⟨_,rfl⟩;obtain⟨rem,hrem⟩:∃rem,n-lo=rem:=⟨_,rfl⟩;obtain⟨d,hd⟩:∃d,(cutB R i l).length=d:=⟨_,rfl⟩;rw[hn]at hlen hlt hcl ⊢;rw[hlo]at hlt hcl;rw[hrem,hd]at hcl;have HB0:=heap_alloc_new w (.cells #[.int .i64 (n:Int),.slice a K c] 85);have HG0:=Qb w (.cells #[.int .i64 (n:Int),.slice a K c] 85);obtain⟨W0,hW0⟩:∃X,w.alloc (.cells #[.int .i64 (n:Int),.slice a K c] 85)=X:=⟨_,rfl⟩;rw[hW0]at HB0 HG0;have HB0:=hid HB0;have HG0:=hid HG0;have HW0:=hid hW0;have c0:W0.cell? ⟨w.heap.size,0,none⟩=some (.int .i64 (n:Int)):=by rw[cell_of_row _ _ _ _ _ _ HB0.out];rfl
 have c1:W0.cell? ⟨w.heap.size,1,none⟩=some (.slice a K c):=by rw[cell_of_row _ _ _ _ _ _ HB0.out];rfl
 obtain⟨gA,oA,rfl,hc⟩:=(hs.grown HG0.out).addr (by omega);have c2:=hc i hi;rw[Qb2]at c2;have HGET:=hid (QgG (h.go HG0.out) hpg (ks.getD i 0) hk32);have HRO:=hid (fun W (k:w.grownBy W none)=>Qbg (h.go k) 0 (by decide));rw[hR]at HRO;have HSZ:Hid ((strOfNums (cutB R i l)).size=d):=hid (by rw[strOfNums_size,hd]);obtain⟨nd,hnd⟩:∃v,ks.getD i 0=v:=⟨_,rfl⟩;rw[hnd]at c2 HGET hge hpf;obtain⟨PS,hPS⟩:∃PS,strOfNums (cutB R i l)=PS:=⟨_,rfl⟩;have HX:Hid (∀e w',GetX s nd W0 e w'→∃a c,e=.returned (.tuple #[.agg #[.int .u8 7,.slice a 0 c,.string PS],.int .i64 0])∧W0.grownBy w' none):=hid (fun e w' hx=>by
  obtain⟨hg,hx⟩:=hx;rcases hx with ⟨q,-⟩|⟨p,a2,c2,-,hp2,rfl,hsg,-⟩
  ·exact absurd hge q
  ·rw[hpf]at hp2;cases hp2
   exact⟨a2,c2,by rw[←hPS];rfl,hg⟩)
 rw[hPS]at HSZ ⊢;have hsz:=HSZ.out;have e1:(i:Int)*(R:Int)=(lo:Int):=by rw[←hlo,Int.natCast_mul]
 have e2:IntKind.i64.wrap (lo:Int)=(lo:Int):=IntWalk.i64_in _ (by omega);have e3:(n:Int)-(lo:Int)=(rem:Int):=by omega
 have e4:IntKind.i64.wrap (rem:Int)=(rem:Int):=IntWalk.i64_in _ (by omega);have hmin:∀W,(Builtin.min_ #[3,3] 3 #[.int .i64 (R:Int),.int .i64 (rem:Int)]).run Tryz.prog W=.ok (.int .i64 (d:Int)) W:=fun W=>by rw[Qhp,hcl];congr 2;omega
 have p0:(0:Int)≤(i:Int):=by omega
 have p1:(i:Int)<(K:Int):=by omega
 clear hn hlo hrem hd hcl hlt hc hnd hPS hge hpf hp hkl hK hi hs h hk hR hW0 h1 hlen;go_enter Tryz.func78,Tryz.ntmps78
 go_upto_region 1 with fail
 rw[HW0.out];go_wp2_with fail
 refine HGET.out.mono ?_;rintro e w1 hx;obtain⟨a2,c2,rfl,hg1⟩:=HX.out e w1 hx;have HN2:=hid (heap_alloc_new w1 (.cells #[.int .u8 7,.slice a2 0 c2,.string PS] 41));have HG2:=hid (Qa HG0.out (Qa hg1 (Qb w1 (.cells #[.int .u8 7,.slice a2 0 c2,.string PS] 41))));have HB2:=hid (Qd HB0.out (Qa hg1 (Qb w1 (.cells #[.int .u8 7,.slice a2 0 c2,.string PS] 41))));obtain⟨W2,hW2⟩:∃X,w1.alloc (.cells #[.int .u8 7,.slice a2 0 c2,.string PS] 41)=X:=⟨_,rfl⟩;rw[hW2]at HN2 HG2 HB2;have HW2:=hid hW2;clear hx hg1 hW2 c0 c1 HGET HX HB0;dsimp only;go_upto_region 2 with fail
 rw[HW2.out];go_wp2_with fail
 refine(HRO.out _ HG2.out).mono ?_;rintro e w3 ⟨rfl,hg3⟩;obtain⟨d0,d1,d2⟩:=Qbs (Qd HN2.out hg3);have HB3:=Qd HB2.out hg3;have c0:w3.cell? ⟨w.heap.size,0,none⟩=some (.int .i64 (n:Int)):=by rw[cell_of_row _ _ _ _ _ _ HB3];rfl
 have HG3:=hid (Qa HG2.out hg3);clear hg3 HB3;dsimp only;go_wp2;go_ret2
 exact⟨rfl,HG3.out⟩
end
end Bl
end Go.Proofs.YtgffbbdcbkikhaaGreatDoor
