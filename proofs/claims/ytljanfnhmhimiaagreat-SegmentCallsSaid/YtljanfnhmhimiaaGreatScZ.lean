/- Parts of the proof. -/
import Derived.Test.YtljanfnhmhimiaaGreatScR
set_option maxRecDepth 100000
set_option maxHeartbeats 8000000
open Go.Lib (hid)
namespace Go.Proofs.YtljanfnhmhimiaaGreat
namespace Zr
open Go.RowKit Bs Dv Zn
instance:DecidableEq Cel:=fun a b=>if h:eqC a b=true then isTrue (Qc1.1 h) else isFalse (fun e=>h (Qc1.2 e))
def sameC(a b:List Cel):Bool:=decide (a=b)
theorem take_same{a b:List Cel}{k:Nat}(ha:k<a.length)(hb:k<b.length)(h:a.take k=b.take k)(hg:a.getD k zeroC=b.getD k zeroC):a.take (k+1)=b.take (k+1):=by
 rw[Qa7 a k ha,Qa7 b k hb,h,hg]
theorem Ql0(a0 a1:Option Addr)(n0 n1 c0 c1:Nat)(l0 l1:List Cel)(w:World)(h0:CSeg w a0 n0 c0 l0)(h1:CSeg w a1 n1 c1 l1) :
  Calls Tryz.prog 14 #[.slice a0 n0 c0,.slice a1 n1 c1] w fun e w'=>e=.returned (.bool (sameC l0 l1))∧w.grownBy w' none:=by
 have hm:=h0.cap;have hle:=h0.le;have hm1:=h1.cap;have hle1:=h1.le;unfold maxLen at hm hm1;have S0:=hid h0;have S1:=hid h1;have L0:=hid h0.len;have L1:=hid h1.len;clear h0 h1;by_cases hn:n0=n1
 ·subst hn;go_enter Tryz.func14,Tryz.ntmps14
  go_wp2
  go_loopw [5] (fun si wr=>∃k:Nat,k≤n0∧si=.int .i64 k∧w.grownBy wr none∧Hid (l0.take k=l1.take k)) (fun si _=>n0-(intOf si).toNat)
  case atStart=>exact⟨0,Nat.zero_le _,rfl,Qaz _,hid rfl⟩
  case round=>
   obtain⟨k,hk,rfl,hg,HE⟩:=hrel;have HG:=hid hg;clear hg;by_cases hlt:k<n0
   ·obtain⟨B0,O0,rfl,f0⟩:=(S0.out.old HG.out).form (by omega);obtain⟨B1,O1,rfl,f1⟩:=(S1.out.old HG.out).form (by omega);have F0:=f0 k hlt;have F1:=f1 k hlt;have hj0:(0:Int)≤(k:Int):=by omega
    have hjk:(k:Int)<(n0:Int):=by omega
    clear f0 f1;by_cases he:l0.getD k zeroC=l1.getD k zeroC
    ·have HE2:=hid (take_same (by rw[L0.out];exact hlt) (by rw[L1.out];exact hlt) HE.out he);rw[←he]at F1;clear he;generalize l0.getD k zeroC=x at F0 F1;have hn1:∀W,(binOp .neq 24 (.agg #[.int .i64 x.k,.int .i64 x.n,.string x.s]) (.agg #[.int .i64 x.k,.int .i64 x.n,.string x.s])).run Tryz.prog W=.ok (.bool false) W:=fun W=>by
      have h:=Qeq x x W
      rwa [Qf2]at h
     have XF0:=hid F0;have XF1:=hid F1;clear F0 F1;obtain⟨x0,x1,x2⟩:=Qap XF0.out;obtain⟨y0,y1,y2⟩:=Qap XF1.out;go_wp2_with fail
     refine QL (by kernel_rfl) ?_
     repeat(go_big_quiet_step (fail))
     refine wpQuiet_nil ?_;rintro _ ⟨p,rfl⟩;have GE:=hid (Qa HG.out p.grown);go_wp2;go_roundw
     case rel=>exact⟨k+1,by omega,by go_num,GE.out,HE2⟩
     case measure=>simp[intOf];omega
    ·have HS:Hid (sameC l0 l1=false):=hid (decide_eq_false fun e=>he (by rw[e]));generalize l0.getD k zeroC=x at F0 he;generalize l1.getD k zeroC=y at F1 he;have hn1:∀W,(binOp .neq 24 (.agg #[.int .i64 x.k,.int .i64 x.n,.string x.s]) (.agg #[.int .i64 y.k,.int .i64 y.n,.string y.s])).run Tryz.prog W=.ok (.bool true) W:=fun W=>by
      have h:=Qeq x y W
      rwa [show eqC x y=false from by
       cases e:eqC x y with
       |false=>rfl
       |true=>exact absurd (Qc1.1 e) he]at h
     have XF0:=hid F0;have XF1:=hid F1;clear F0 F1 he;obtain⟨x0,x1,x2⟩:=Qap XF0.out;obtain⟨y0,y1,y2⟩:=Qap XF1.out;go_wp2_with fail
     refine QL (by kernel_rfl) ?_
     repeat(go_big_quiet_step (fail))
     refine wpQuiet_nil ?_;rintro _ ⟨p,rfl⟩;have GE:=hid (Qa HG.out p.grown);go_wp2;go_ret
     exact⟨Bs.Qbl HS.out.symm,GE.out⟩
   ·obtain rfl:k=n0:=by omega
    have HS:Hid (sameC l0 l1=true):=hid (decide_eq_true (by
     have h:=HE.out
     rwa [List.take_of_length_le (by rw[L0.out];exact Nat.le_refl _),List.take_of_length_le (by rw[L1.out];exact Nat.le_refl _)]at h))
    clear hlt HE;go_wp2;go_ret
    exact⟨Bs.Qbl HS.out.symm,HG.out⟩
 ·have HS:Hid (sameC l0 l1=false):=hid (decide_eq_false fun e=>hn (by rw[←L0.out,←L1.out,e]));have q0:((n0:Int) != (n1:Int))=true:=bne_iff_ne.2 (by omega);clear hn;go_enter Tryz.func14,Tryz.ntmps14
  go_wp2;go_ret
  exact⟨Bs.Qbl HS.out.symm,Qaz _⟩
end Zr
end Go.Proofs.YtljanfnhmhimiaaGreat
