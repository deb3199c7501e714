/- Parts of the proof. -/
import Derived.Test.YtljanfnhmhimiaaGreatScL
import Derived.Test.YtljanfnhmhimiaaGreatScR
set_option maxRecDepth 100000
set_option maxHeartbeats 8000000
open Go.Lib (hid)
namespace Go.Proofs.YtljanfnhmhimiaaGreat
namespace Sg
open Go.RowKit Bs Dv Zn Zr
theorem Qgn{kind:Int}{l:List Cel}{k:Nat}(h:k<l.length):firstE kind (l.drop k)=if cellE (l.getD k zeroC)≠0 then cellE (l.getD k zeroC) else if (l.getD k zeroC).k≠kind∧(l.getD k zeroC).k≠0 then 11 else firstE kind (l.drop (k+1)):=by
 rw[List.drop_eq_getElem_cons h,firstE,List.getD_eq_getElem?_getD,List.getElem?_eq_getElem h]
 rfl
theorem Qcb(kind:Int)(a:Option Addr)(n c:Nat)(l:List Cel)(w:World)(hs:CSeg w a n c l) :
  Calls Tryz.prog 20 #[.int .i64 kind,.slice a n c] w fun e w'=>e=.returned (.int .i64 (checkS kind l))∧w.grownBy w' none:=by
 have HS:=hid hs;have HL:=hid hs.len;have hcap:=hs.le;have hcap2:=hs.cap;unfold maxLen at hcap2;obtain⟨E,hE⟩:∃E,E=checkS kind l:=⟨_,rfl⟩;rw[←hE];unfold checkS at hE;rw[HL.out]at hE;clear hs;by_cases k1:kind<1
 ·rw[if_pos (.inl k1)]at hE;subst hE;go_enter Tryz.func20,Tryz.ntmps20
  go_wp2;go_ret
  exact⟨rfl,Qaz _⟩
 by_cases k3:3<kind
 ·rw[if_pos (.inr k3)]at hE;subst hE;go_enter Tryz.func20,Tryz.ntmps20
  go_wp2;go_ret
  exact⟨rfl,Qaz _⟩
 rw[if_neg (by omega)]at hE;by_cases hm:4096<n
 ·rw[if_pos hm]at hE;subst hE;have hm':(4096:Int)<(n:Int):=by omega
  go_enter Tryz.func20,Tryz.ntmps20
  go_wp2;go_ret
  exact⟨rfl,Qaz _⟩
 rw[if_neg hm]at hE;have HE:=hid hE;have hm':¬(4096:Int)<(n:Int):=by omega
 clear hE;go_enter Tryz.func20,Tryz.ntmps20
 go_wp2
 go_loopw [5] (fun iv wx=>∃k:Nat,iv=.int .i64 k∧k≤n∧E=firstE kind (l.drop k)∧w.grownBy wx none) (fun iv _=>n-(intOf iv).toNat)
 case atStart=>exact⟨0,rfl,Nat.zero_le _,HE.out,Qaz _⟩
 case round=>
  obtain⟨k,rfl,hk,he,hg⟩:=hrel;have HG:=hid hg;have HK:=hid he;clear hg he HE;by_cases hlt:k<n
  ·obtain⟨B,O,rfl,hcs⟩:=(HS.out.old HG.out).form (by omega);obtain⟨c0,c1,c2⟩:=hcs k hlt;clear hcs;have HD:=hid (HK.out.trans (Qgn (by rw[HL.out];exact hlt)));obtain⟨x,hx⟩:∃x,x=l.getD k zeroC:=⟨_,rfl⟩;rw[←hx]at c0 c1 c2 HD;have HX:=hid (fun W=>QmZ x W);obtain⟨r,hr⟩:∃r,r=cellE x:=⟨_,rfl⟩;rw[←hr]at HX HD;have HXE:=hid hx;clear hx hr HK;go_wp2_with fail
   refine(HX.out _).mono ?_;rintro e wk ⟨rfl,hg⟩;have HG:=hid (Qa HG.out hg);clear hg c0 c1 c2;obtain⟨c0,c1,c2⟩:=Qp (HS.out.old HG.out) hlt HXE.out;dsimp only;by_cases h0:r=0
   ·have q0:(r != 0)=false:=by rw[h0];rfl
    have HD2:=hid (HD.out.trans (if_neg (by rw[h0];simp)));clear HD h0;by_cases h1:x.k=kind
    ·have q1:(x.k != kind)=false:=by rw[h1];exact bne_self_eq_false _
     have HF:=hid (HD2.out.trans (if_neg (fun e=>e.1 h1)));clear HD2 h1;go_wp2;go_roundw
     case rel=>exact⟨k+1,by go_num,by omega,HF.out,HG.out⟩
     case measure=>simp[intOf];omega
    ·have q1:(x.k != kind)=true:=bne_iff_ne.2 h1;by_cases h2:x.k=0
     ·have q2:(x.k != 0)=false:=by rw[h2];rfl
      have HF:=hid (HD2.out.trans (if_neg (fun e=>e.2 h2)));clear HD2 h1 h2;go_wp2;go_roundw
      case rel=>exact⟨k+1,by go_num,by omega,HF.out,HG.out⟩
      case measure=>simp[intOf];omega
     ·have q2:(x.k != 0)=true:=bne_iff_ne.2 h2;have HF:=hid (HD2.out.trans (if_pos ⟨h1,h2⟩));clear HD2 h1 h2;go_wp2;go_ret
      exact⟨Qq HF.out.symm,HG.out⟩
   ·have q0:(r != 0)=true:=bne_iff_ne.2 h0;have HD2:=hid (HD.out.trans (if_pos h0));clear HD h0;go_wp2;go_ret
    exact⟨Qq HD2.out.symm,HG.out⟩
  ·obtain rfl:k=n:=by omega
   have HF:Hid (E=0):=hid (by rw[HK.out,List.drop_of_length_le (by rw[HL.out];exact Nat.le_refl _)];rfl);clear hlt HK;go_wp2;go_ret
   exact⟨Qq HF.out.symm,HG.out⟩
end Sg
namespace Zn
open Go.ChangeShapes Go.WideShapes Go.ChangeAt Go.RowKit Bs Dv
section
variable {H : Type} {enc : TypeId × Value → H} {w : World} {base : Nat} {spare : Nat → Bool} {held : Bool}
theorem QgP{cs:List Value}{j k:Nat}(hl:j+1≤cs.length)(hk:k=1):(cs.drop j).take k=[cs[j]'(by omega)]:=by
 subst hk;rw[List.drop_eq_getElem_cons (by omega)]
 rfl
theorem Qmq{n:Nat}{t:TypeId}{kd:IntKind}{cs:List Value}{j o k:Nat}{y:Option (DataW H×List MemPlace)}(ht:Tryz.prog.underlying t=some (.int kd))(hk:k=1)(ho:o=j)(hl:j<cs.length)(hy:y.isSome=true)
  (h:DataW.trod enc Tryz.prog w base spare held n t ((cs.drop o).take k)=y):∃x,cs[j]?=some (.int kd x)∧(Lit.int kd x).wf=true:=by
 obtain⟨z,rfl⟩:=Option.isSome_iff_exists.1 hy;subst ho;rw[QgP (by omega) hk]at h;obtain⟨x,h1,_,hw⟩:=DataW.trod_int ht h;refine⟨x,?_,hw⟩;rw[List.getElem?_eq_getElem hl];have:cs[o]=.int kd x:=by simpa using h1
 rw[this]
theorem Qpr{n:Nat}{cs:List Value}{j o k:Nat}{y:DataW H×List MemPlace}(hk:k=1)(ho:o=j)(hl:j<cs.length)
  (h:DataW.trod enc Tryz.prog w base spare held n 9 ((cs.drop o).take k)=some y):∃s:ByteArray,cs[j]?=some (.string s)∧y.1=.lit (.string s.data.toList):=by
 subst ho;rw[QgP (by omega) hk]at h;obtain⟨s,h1,h2,_⟩:=DataW.trod_string Tryz.underlying9 h;refine⟨s,?_,by rw[h2]⟩;rw[List.getElem?_eq_getElem hl];have:cs[o]=.string s:=by simpa using h1
 rw[this]
theorem list3{α:Type}{l:List α}(h:l.length=3):∃x y z,l=[x,y,z]:=by
 rcases l with _|⟨x,_|⟨y,_|⟨z,_|⟨u,r⟩⟩⟩⟩
 ·cases h
 ·simp at h
 ·simp at h
 ·exact⟨x,y,z,rfl⟩
 ·simp at h
theorem Qgt{P:Program}{e:TypeId}{n:Nat}:∀(L:List (DataW H)) (d:DataW H),d∈L→n∈d.weights P e→n∈DataW.weightsAll P e L
 |x :: L,d,h,hn=>by
  simp only[DataW.weightsAll,List.mem_append];rcases List.mem_cons.1 h with rfl|h
  ·exact .inl hn
  ·exact .inr (Qgt L d h hn)
def CelsI(l:List Cel):Prop:=∀x∈l,(-9223372036854775808≤x.k∧x.k≤9223372036854775807)∧(-9223372036854775808≤x.n∧x.n≤9223372036854775807)
theorem wf_i64{x:Int}(h:(Lit.int .i64 x).wf=true):-9223372036854775808≤x∧x≤9223372036854775807:=by simpa [Lit.wf,IntKind.min,IntKind.max,IntKind.signed,IntKind.bits] using h
theorem open_cellsI{r:Reach}{b0:Nat}{v:Value}{d:DataW H}{p:List MemPlace}(hv:Value.okWide Tryz.prog w r b0 26 v)(h:DataW.Trod enc Tryz.prog w base spare held 26 v d p)(hz:∀n∈d.weights Tryz.prog 26,n≤reachBytes) :
  ∃a n c l,v=.slice a n c∧CSeg w a n c l∧StrsOk l∧CelsI l:=by
 obtain⟨a',n',c',rfl⟩:=okWide_slice Tryz.underlying26 hv;obtain⟨fuel,h⟩:=h;rcases Go.Deep.open_slice Tryz.underlying26 h with ⟨h0,_⟩|⟨ad,len,cap,m,n0,D,Pl,hcs,hb,hl,hm,hmm,hx,hi⟩
 ·simp[Value.cells]at h0;obtain⟨rfl,rfl,rfl⟩:=h0;exact⟨none,0,0,[],rfl,CSeg.nil w,(fun s hs=>by cases hs),fun s hs=>by cases hs⟩
 ·simp[Value.cells]at hcs;obtain⟨rfl,rfl,rfl⟩:=hcs;have hd:d=_:=(Prod.mk.inj hx).1;have c3:Tryz.prog.cellsOf 24=3:=by kernel_rfl
  have hlm:n'≤m:=by rw[hmm];split <;> omega
  have hel:∀k,k<n'→∃x:Cel,(w.cell? (ad.add (k*3))=some (.int .i64 x.k)∧w.cell? (ad.add (k*3+1))=some (.int .i64 x.n)∧w.cell? (ad.add (k*3+2))=some (.string x.s))∧x.s.size≤140737488355328∧(-9223372036854775808≤x.k∧x.k≤9223372036854775807)∧(-9223372036854775808≤x.n∧x.n≤9223372036854775807):=by
   intro k hk;obtain⟨cs',hc,ht⟩:=hi k (by omega);rw[c3]at hc;obtain⟨_,hcl,hat⟩:=World.cells?_some hc;obtain⟨xs,n1,_,hy,_,hxl,hf⟩:=DataW.trod_struct Tryz.underlying24 ht;obtain⟨y0,y1,y2,rfl⟩:=list3 (show xs.length=3 from hxl);obtain⟨x0,e0,w0⟩:=Qmq (j:=0) Tryz.underlying3 (by kernel_rfl) rfl (by omega) rfl (hf 0 _ rfl);obtain⟨x1,e1,w1⟩:=Qmq (j:=1) Tryz.underlying2 (by kernel_rfl) rfl (by omega) rfl (hf 1 _ rfl);obtain⟨s,e2,hs⟩:=Qpr (j:=2) (y:=y2) (by kernel_rfl) rfl (by omega) (hf 2 _ rfl);refine⟨⟨x0,x1,s⟩,⟨?_,?_,?_⟩,?_,wf_i64 w0,wf_i64 w1⟩
   ·have:=hat 0 (by omega);rw[e0,Addr.add_add,Nat.add_zero]at this;exact this
   ·have:=hat 1 (by omega);rw[e1,Addr.add_add]at this;exact this
   ·have:=hat 2 (by omega);rw[e2,Addr.add_add]at this;exact this
   ·have hDk:D k=.agg ([y0,y1,y2].map (·.1)):=(Prod.mk.inj hy).1;have h6:s.data.toList.length∈(D k).weights Tryz.prog 24:=by
     rw[hDk];unfold DataW.weights;rw[Tryz.underlying24];simp[DataW.weightsEach,DataW.weights,hs]
    have h7:s.data.toList.length∈d.weights Tryz.prog 26:=by
     rw[hd];unfold DataW.weights;rw[Tryz.underlying26];simp only[List.mem_cons,List.mem_append];exact .inr (.inl (Qgt _ _ (List.mem_map.2 ⟨k,List.mem_range.2 hk,rfl⟩) h6))
    have h8:=hz _ h7;have:reachBytes<2 ^ 47:=reachBytes_lt;rw[Array.length_toList]at h8
    show s.data.size≤_
    omega
  have hf:∃f:Nat→Cel,∀k,k<n'→(w.cell? (ad.add (k*3))=some (.int .i64 (f k).k)∧w.cell? (ad.add (k*3+1))=some (.int .i64 (f k).n)∧w.cell? (ad.add (k*3+2))=some (.string (f k).s))∧(f k).s.size≤140737488355328∧(-9223372036854775808≤(f k).k∧(f k).k≤9223372036854775807)∧(-9223372036854775808≤(f k).n∧(f k).n≤9223372036854775807):=by
   refine⟨fun k=>if hk:k<n' then(hel k hk).choose else zeroC,fun k hk=>?_⟩;simp only[dif_pos hk];exact(hel k hk).choose_spec
  obtain⟨f,hf⟩:=hf;refine⟨some ad,n',c',(List.range n').map f,rfl,⟨by simp,hl,hm,(fun e=>by cases e),fun ad' had j u hu=>?_⟩,fun x hx=>?_,fun x hx=>?_⟩
  ·cases had
   have hj:j<n'*3:=by
    have:=(List.getElem?_eq_some_iff.1 hu).1;rw[QbS]at this
    simpa using this
   have hk:j / 3<n':=by omega
   have hlen:j / 3<((List.range n').map f).length:=by simpa using hk
   have hg:((List.range n').map f).getD (j / 3) zeroC=f (j / 3):=by simp[List.getD,hk]
   obtain⟨a1,a2,a3⟩:=Qeb ((List.range n').map f) (j / 3) hlen;rw[hg]at a1 a2 a3;obtain⟨⟨b1,b2,b3⟩,_⟩:=hf _ hk;have hm3:j=j / 3*3∨j=j / 3*3+1∨j=j / 3*3+2:=by omega
   rcases hm3 with e|e|e
   ·rw[e,a1]at hu;rw[e,b1];exact hu
   ·rw[e,a2]at hu;rw[e,b2];exact hu
   ·rw[e,a3]at hu;rw[e,b3];exact hu
  ·obtain⟨k,hk,rfl⟩:=List.mem_map.1 hx;exact(hf k (List.mem_range.1 hk)).2.1
  ·obtain⟨k,hk,rfl⟩:=List.mem_map.1 hx;exact(hf k (List.mem_range.1 hk)).2.2
end
end Zn
end Go.Proofs.YtljanfnhmhimiaaGreat
