/- Parts of the proof. -/
import Derived.Test.YtbbbocoliandcaaGreatDoorKrH
set_option maxRecDepth 100000
set_option maxHeartbeats 8000000
open Go.Lib (hid)
namespace Go.Proofs.YtbbbocoliandcaaGreatDoor
namespace Ws
open Go.RowKit
theorem QkX(a0 a1:Option Addr)(n c0 c1:Nat)(l:List Int)(w:World)(h0:Seg w a0 n c0 l)(h1:Seg w a1 n c1 l) :
  Calls Tryz.prog 117 #[.slice a0 n c0,.slice a1 n c1] w fun e w'=>e=.returned (.bool true)∧∃m,w'=w.drewN m:=by
 by_cases hn:n=0
 ·subst hn;go_enter Tryz.func117,Tryz.ntmps117
  go_wp2;refine wp_loop_rounds 1 ?_;rw[rounds_succ];go_wp2;go_ret
  exact⟨rfl,0,rfl⟩
 ·obtain⟨g0,o0,rfl,k0⟩:=h0.addr (by omega);obtain⟨g1,o1,rfl,k1⟩:=h1.addr (by omega);have hm:=h0.cap;have hle:=h0.le;unfold maxLen at hm;have K0:=hid k0;have K1:=hid k1;clear k0 k1 h0 h1;go_enter Tryz.func117,Tryz.ntmps117
  go_wp2
  go_loopw [5] (fun si wr=>∃k m:Nat,k≤n∧si=.int .i64 k∧wr=w.drewN m) (fun si _=>n-(intOf si).toNat)
  case atStart=>exact⟨0,0,Nat.zero_le _,rfl,rfl⟩
  case round=>
   obtain⟨k,m,hk,rfl,rfl⟩:=hrel;by_cases hlt:k<n
   ·have q0:=K0.out k hlt;have q1:=K1.out k hlt;go_wp2
    go_quiet (fail)
    go_wp2;go_roundw
    case rel=>exact⟨k+1,m+nq,by omega,by go_num,by simp⟩
    case measure=>simp[intOf];omega
   ·obtain rfl:k=n:=by omega
    go_wp2;go_ret
    exact⟨rfl,m,rfl⟩
def sameB(a b:List Int):Bool:=decide (a=b)
theorem QjH{a b:List Int}(h:a=b):sameB a b=true:=decide_eq_true h
theorem QgP{a b:List Int}(h:¬a=b):sameB a b=false:=decide_eq_false h
theorem QgX{a b:List Int}{k:Nat}(ha:k<a.length)(hb:k<b.length)(h:a.take k=b.take k)(hg:a.getD k 0=b.getD k 0):a.take (k+1)=b.take (k+1):=by
 rw[List.getD_eq_getElem?_getD,List.getD_eq_getElem?_getD,List.getElem?_eq_getElem ha,List.getElem?_eq_getElem hb]at hg;have e:a[k]=b[k]:=by simpa using hg
 rw[List.take_succ_eq_append_getElem ha,List.take_succ_eq_append_getElem hb,h,e]
theorem QkW(a0 a1:Option Addr)(n0 n1 c0 c1:Nat)(l0 l1:List Int)(w:World)(h0:Seg w a0 n0 c0 l0)(h1:Seg w a1 n1 c1 l1) :
  Calls Tryz.prog 117 #[.slice a0 n0 c0,.slice a1 n1 c1] w fun e w'=>e=.returned (.bool (sameB l0 l1))∧∃m,w'=w.drewN m:=by
 by_cases hn:n0=n1
 ·subst hn;by_cases hz:n0=0
  ·subst hz;obtain rfl:=List.eq_nil_of_length_eq_zero h0.len;obtain rfl:=List.eq_nil_of_length_eq_zero h1.len;exact QkX a0 a1 0 c0 c1 [] w h0 h1
  ·obtain⟨g0,o0,rfl,k0⟩:=h0.addr (by omega);obtain⟨g1,o1,rfl,k1⟩:=h1.addr (by omega);have hm:=h0.cap;have hle:=h0.le;unfold maxLen at hm;have K0:=hid k0;have K1:=hid k1;have L0:=hid h0.len;have L1:=hid h1.len;clear k0 k1 h0 h1;go_enter Tryz.func117,Tryz.ntmps117
   go_wp2
   go_loopw [5] (fun si wr=>∃k m:Nat,k≤n0∧si=.int .i64 k∧wr=w.drewN m∧Hid (l0.take k=l1.take k)) (fun si _=>n0-(intOf si).toNat)
   case atStart=>exact⟨0,0,Nat.zero_le _,rfl,rfl,rfl⟩
   case round=>
    obtain⟨k,m,hk,rfl,rfl,HE⟩:=hrel;by_cases hlt:k<n0
    ·have q0:=K0.out k hlt;have q1:=K1.out k hlt;by_cases he:l0.getD k 0=l1.getD k 0
     ·have HE2:=hid (QgX (by rw[L0.out];exact hlt) (by rw[L1.out];exact hlt) HE.out he);rw[←he]at q1;clear he;generalize l0.getD k 0=x at q0 q1;go_wp2
      go_quiet (fail)
      go_wp2;go_roundw
      case rel=>exact⟨k+1,m+nq,by omega,by go_num,by simp,HE2.out⟩
      case measure=>simp[intOf];omega
     ·have hs:=QgP (show ¬l0=l1 from fun e=>he (by rw[e]));have HS:=hid hs;clear hs;generalize l0.getD k 0=x at q0 he;generalize l1.getD k 0=y at q1 he;have e1:(x==y)=false:=beq_eq_false_iff_ne.2 he;have e2:(x != y)=true:=bne_iff_ne.2 he;have HNE:=hid he;clear he;go_wp2
      go_quiet (fail)
      go_wp2;go_ret
      exact⟨Bs.Qam HS.out.symm,m+nq,by simp⟩
    ·obtain rfl:k=n0:=by omega
     have hs:=QjH (show l0=l1 by
      have h:=HE.out
      rwa [List.take_of_length_le (Nat.le_of_eq L0.out),List.take_of_length_le (Nat.le_of_eq L1.out)]at h)
     have HS:=hid hs;clear hs;go_wp2;go_ret
     exact⟨Bs.Qam HS.out.symm,m,rfl⟩
 ·have hs:=QgP (show ¬l0=l1 from fun e=>hn (by rw[←h0.len,←h1.len,e]));have HS:=hid hs;clear hs h0 h1;have e1:((n0:Int)==(n1:Int))=false:=beq_eq_false_iff_ne.2 (by omega);have e2:((n0:Int) != (n1:Int))=true:=bne_iff_ne.2 (by omega);go_enter Tryz.func117,Tryz.ntmps117
  go_wp2;go_ret
  exact⟨Bs.Qam HS.out.symm,0,rfl⟩
end Ws
end Go.Proofs.YtbbbocoliandcaaGreatDoor
