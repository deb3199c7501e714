/- Parts of the proof. -/
import Derived.Test.YtljanfnhmhimiaaGreatScU
import Derived.Test.YtljanfnhmhimiaaGreatScY
import Derived.Test.YtljanfnhmhimiaaGreatSce
import Derived.Test.YtljanfnhmhimiaaGreatScf
import Derived.Test.YtljanfnhmhimiaaGreatScg
set_option maxRecDepth 100000
set_option maxHeartbeats 8000000
open Go.Lib (hid)
namespace Go.Proofs.YtljanfnhmhimiaaGreat
namespace Sg
open Go.RowKit Go.Joins Zn Zr
open Bs (Qj)
theorem Qgc(base g c0 n:Nat)(l:List Int)(c:Cel)(w:World)(hown:w.ownsRow base 5 1 (.slice (some ⟨g,0,none⟩) n c0) n (l.map (Value.int .u8)))(hbase:base≤w.heap.size)(hn:n≤400000000)
  (hi:-9223372036854775808≤c.n∧c.n≤9223372036854775807) (h2:c.k=2→0≤c.n∧c.n<256) (hs:c.s.size≤65536) :
  Calls Tryz.prog 37 #[.slice (some ⟨g,0,none⟩) n c0,.agg #[.int .i64 c.k,.int .i64 c.n,.string c.s]] w (GrowT base w (l++cellB c) (n+(cellB c).length)):=by
 obtain⟨i0,hi0,hz0,hz1,hz2⟩:=info_parts Qj;have hB:Bt base w (w.alloc (.cells #[.int .i64 c.k,.int .i64 c.n,.string c.s] 24)):=(Bt.refl _ w).alloc hbase _;have HB:=hid hB;have HO:=hid (hown.alloc (.cells #[.int .i64 c.k,.int .i64 c.n,.string c.s] 24));have hb1:base≤(w.alloc (.cells #[.int .i64 c.k,.int .i64 c.n,.string c.s] 24)).heap.size:=by rw[World.size_alloc];omega
 have HBA:=hid hb1;by_cases e1:c.k=1
 ·have q1:(c.k==1)=true:=beq_iff_eq.2 e1;have hC:cellB c=In.num8 c.n:=if_pos e1;have hwu:IntKind.u64.wrap c.n=In.u c.n:=In.QcA c.n;have hu:=In.u_bd c.n;have HP:=hid (QnY base _ n l (In.u c.n) 8 _ HO.out HBA.out hu.1 hu.2 (by omega) (by omega) (by omega));obtain⟨v,hv⟩:∃v,v=In.u c.n:=⟨_,rfl⟩;rw[←hv]at HP hwu;have HC:Hid (cellB c=Oct.putB 8 v):=hid (by rw[hC,hv];rfl);have HL:Hid ((cellB c).length=8):=hid (by rw[hC];exact In.Qu _);clear e1 hC hu hv hown hB hb1 h2;go_enter Tryz.func37,Tryz.ntmps37
  go_wp2_with fail
  refine HP.out.mono ?_;rintro e w1 ⟨g1,k1,rfl,hown1,hg⟩;have HF:Hid (GrowT base w (l++cellB c) (n+(cellB c).length) (.returned (.slice (some ⟨g1,0,none⟩) (n+8) k1)) w1):=hid ⟨g1,k1,by rw[HL.out],by rw[HL.out,HC.out];exact hown1,HB.out.trans hg⟩;clear hown1 hg;dsimp only;go_wp2;go_ret
  exact HF.out
 ·have q1:(c.k==1)=false:=beq_eq_false_iff_ne.2 e1;by_cases e2:c.k=2
  ·have q2:(c.k==2)=true:=beq_iff_eq.2 e2;have hC:cellB c=[c.n]:=by unfold cellB;rw[if_neg e1,if_pos e2]
   have hb:=h2 e2;have hwu:IntKind.u8.wrap c.n=c.n:=by rw[IntKind.wrap_u8];omega
   have HS:Hid (Bs.Seg ((w.alloc (.cells #[.int .i64 c.k,.int .i64 c.n,.string c.s] 24)).alloc (.cells #[.int .u8 c.n] 5)) (some ⟨w.heap.size+1,0,none⟩) 1 1 [c.n]):=hid (by
    have h:=Bs.QbV (w.alloc (.cells #[.int .i64 c.k,.int .i64 c.n,.string c.s] 24)) [c.n] (by simp);rw[World.size_alloc]at h;exact h)
   have HO2:=hid (HO.out.alloc (.cells #[.int .u8 c.n] 5));have HB2:=hid (HB.out.alloc HBA.out (.cells #[.int .u8 c.n] 5));have HBB:Hid (base≤((w.alloc (.cells #[.int .i64 c.k,.int .i64 c.n,.string c.s] 24)).alloc (.cells #[.int .u8 c.n] 5)).heap.size):=hid (by rw[World.size_alloc,World.size_alloc];omega);have HG:=hid (HO2.out.lt _ rfl).1;have HC:=hid hC;clear e1 e2 hC hb hown hB hb1 h2;go_enter Tryz.func37,Tryz.ntmps37
   go_wp2_with (at_builtin;refine Bs.Qr rfl (.tmp 16) (.tmp 20) 45 rfl base 5 i0 Tryz.underlying45 hi0 hz0 hz1 hz2 g n c0 _ rfl HO2.out (some ⟨w.heap.size+1,0,none⟩) 1 1 [c.n] rfl HS.out (by omega) HBB.out ?_;intro g1 k1 w1 hown1 hgrow1)
   have HF:Hid (GrowT base w (l++cellB c) (n+(cellB c).length) (.returned (.slice (some ⟨g1,0,none⟩) (n+1) k1)) w1):=hid ⟨g1,k1,by rw[HC.out];rfl,by rw[HC.out,List.map_append];exact hown1,HB2.out.grown (e:=0) HO2.out hgrow1 HBB.out rfl⟩;clear hown1 hgrow1;go_wp2;go_ret
   exact HF.out
  ·have q2:(c.k==2)=false:=beq_eq_false_iff_ne.2 e2;have hC:cellB c=Tx.strB (nm c.s):=by unfold cellB;rw[if_neg e1,if_neg e2]
   have hT:=Ql2 base (.slice (some ⟨g,0,none⟩) n c0) n l (nm c.s) _ HO.out HBA.out (by omega) (Qd1 _) (by rw[Qb7];exact hs);rw[QjA,←hC]at hT;have HP:=hid hT;clear e1 e2 hC hT hown hB hb1 h2;go_enter Tryz.func37,Tryz.ntmps37
   go_wp2_with fail
   refine HP.out.mono ?_;rintro e w1 ⟨g1,k1,rfl,hown1,hg⟩;have HF:Hid (GrowT base w (l++cellB c) (n+(cellB c).length) (.returned (.slice (some ⟨g1,0,none⟩) (n+(cellB c).length) k1)) w1):=hid ⟨g1,k1,rfl,hown1,HB.out.trans hg⟩;clear hown1 hg;dsimp only;go_wp2;go_ret
   exact HF.out
end Sg
namespace Sg
open Go.RowKit Go.Joins Zn Zr
open Is (IsI Qax)
open Bs (Qj)
theorem QT{w w':World}{base e s n:Nat}{v:Value}{xs:List Value}{o:Option Nat}(h:w.ownsRow base e s v n xs)(hg:w.grownBy w' o)(hne:∀g,v.ownBlock=some g→o≠some g):w'.ownsRow base e s v n xs:=by
 obtain⟨hl,h⟩:=h;refine⟨hl,?_⟩;rcases h with ⟨rfl,h0⟩|⟨g,cap,cur,rfl,hb,hgg,rest⟩
 ·exact .inl ⟨rfl,h0⟩
 ·refine .inr ⟨g,cap,cur,rfl,hb,?_,rest⟩;rw[hg.block g (Array.getElem?_eq_some_iff.1 hgg).1 (fun e=>hne g rfl e.symm)];exact hgg
theorem Qas{w:World}{base e1 e2 s1 s2 n1 n2:Nat}{v1 v2:Value}{xs ys:List Value}(h1:w.ownsRow base e1 s1 v1 n1 xs)(h2:w.ownsRow base e2 s2 v2 n2 ys)(hne:e1≠e2):∀g,v1.ownBlock=some g→v2.ownBlock≠some g:=by
 intro g e1' e2';rcases h1.2 with ⟨rfl,_⟩|⟨g1,cap1,cur1,rfl,_,hg1,_⟩
 ·cases e1'
 ·rcases h2.2 with ⟨rfl,_⟩|⟨g2,cap2,cur2,rfl,_,hg2,_⟩
  ·cases e2'
  ·obtain rfl:g1=g:=Option.some.inj e1';obtain rfl:g2=g1:=Option.some.inj e2';rw[hg1]at hg2
   injection hg2 with hg2
   injection hg2 with _ h3 _
   exact hne h3
def intV(c:Cel):Value:=.int .i64 c.n
def bitV(c:Cel):Value:=.int .u64 (In.u c.n)
def strV(c:Cel):Value:=.string c.s
theorem Qci{f:Cel→Value}{l:List Cel}{k:Nat}(h:k<l.length):(l.take (k+1)).map f=(l.take k).map f++[f (l.getD k zeroC)]:=by
 rw[Qa7 l k h,List.map_append];rfl
theorem Qks(l:List Cel):l.map intV=(l.map (·.n)).map (Value.int .i64):=by rw[List.map_map];rfl
theorem QkH(l:List Cel):l.map bitV=(l.map fun c=>In.u c.n).map (Value.int .u64):=by rw[List.map_map];rfl
theorem Qkw(l:List Cel):l.map strV=(l.map fun c=>nm c.s).map Ss.encW:=by
 rw[List.map_map];refine List.map_congr_left fun c _=>?_
 show Value.string c.s=Value.string (strOfNums (nm c.s))
 rw[QjA]
theorem QlW(kind:Int)(a:Option Addr)(n c:Nat)(l:List Cel)(w:World)(hs:CSeg w a n c l)(hn:n≤4096)(hi:IntOk l)(ht:∀x∈l,x.s.size≤65536)(k1:1≤kind)(k3:kind≤3)(h2:kind=2→∀x∈l,0≤x.n∧x.n<2) :
  Calls Tryz.prog 38 #[.int .i64 kind,.slice a n c] w fun e w'=>∃a k,e=.returned (.slice a (bodyS kind l).length k)∧Bs.Seg w' a (bodyS kind l).length k (bodyS kind l)∧Below w.heap.size w w':=by
 obtain⟨i0,ii,iz0,iz1,iz2⟩:=info_parts Qax;obtain⟨j0,ji,jz0,jz1,jz2⟩:=info_parts Us.Qak;obtain⟨s0,si,sz0,sz1,sz2⟩:=info_parts Ss.Q4;have HS:=hid hs;have HL:=hid hs.len;clear hs;go_enter Tryz.func38,Tryz.ntmps38
 go_wp2
 go_loopw [5,6,7,8] (fun v1 v2 v3 iv wx=>∃(k:Nat) (V1 V2 V3:Value),iv=.int .i64 k∧k≤n∧V1=v1∧V2=v2∧V3=v3∧wx.ownsRow w.heap.size 2 1 V1 k ((l.take k).map intV)∧wx.ownsRow w.heap.size 85 1 V2 k ((l.take k).map bitV)∧wx.ownsRow w.heap.size 9 1 V3 k ((l.take k).map strV)∧w.grownBy wx none) (fun _ _ _ iv _=>n-(intOf iv).toNat)
 case atStart=>exact⟨0,_,_,_,rfl,Nat.zero_le _,rfl,rfl,rfl,World.ownsRow_nil _ _ _ _,World.ownsRow_nil _ _ _ _,World.ownsRow_nil _ _ _ _,Qaz _⟩
 case round=>
  obtain⟨k,V1,V2,V3,rfl,hk,rfl,rfl,rfl,r1,r2,r3,hg⟩:=hrel;have HG:=hid hg;have R1:=hid r1;have R2:=hid r2;have R3:=hid r3;clear r1 r2 r3 hg;by_cases hlt:k<n
  ·obtain⟨B,O,rfl,hcs⟩:=(HS.out.old HG.out).form (by omega);obtain⟨x,hx⟩:∃x,x=l.getD k zeroC:=⟨_,rfl⟩;have HXE:=hid hx;have M1:=hid (Qci (f:=intV) (l:=l) (k:=k) (by rw[HL.out];exact hlt));have M2:=hid (Qci (f:=bitV) (l:=l) (k:=k) (by rw[HL.out];exact hlt));have M3:=hid (Qci (f:=strV) (l:=l) (k:=k) (by rw[HL.out];exact hlt));rw[←hx]at M1 M2 M3;have hwu:IntKind.u64.wrap x.n=In.u x.n:=In.QcA x.n;clear hcs hx;obtain⟨c0,c1,c2⟩:=Qp (HS.out.old HG.out) hlt HXE.out;go_upto_region 8 with (at_builtin;refine wpList_append_own _ rfl (.tmp 16) (.tmp 22) 131 rfl w.heap.size 2 i0 (.int .i64 0) 1 8 Tryz.underlying131 ii iz0 iz1 iz2 rfl (by decide) V1 k _ rfl (R1.out.alloc _) ⟨wr.heap.size,0,none⟩ 1 1 [.int .i64 x.n] rfl rfl (by intro y u hy;match y,hy with|0,hy=>simp at hy;subst hy;exact Pk.Qm wr _ _) (by intro u hu;simp at hu;subst hu;rfl) (by unfold maxLen;omega) (by omega) (by have:=HG.out.size;simp;omega) ?_;intro V4 w4 hown4 hg4 hnil4)
   have HG4:=hid (Bs.grownBy_trans (Qa HG.out (Qb _ _)) hg4 (fun i e=>(R1.out.lt i e).1));have R14:Hid (w4.ownsRow w.heap.size 2 1 V4 (k+1) ((l.take (k+1)).map intV)):=hid (by rw[M1.out];exact hown4);have R24:=hid (QT (R2.out.alloc _) hg4 (Qas R2.out R1.out (by decide)));have R34:=hid (QT (R3.out.alloc _) hg4 (Qas R3.out R1.out (by decide)));clear hown4 hg4 hnil4 c0 c1 c2 R1 R2 R3 M1;have HB4:=hid HG4.out.size;obtain⟨c0,c1,c2⟩:=Qp (HS.out.old HG4.out) hlt HXE.out;go_upto_region 9 with (at_builtin;refine wpList_append_own _ rfl (.tmp 24) (.tmp 31) 88 rfl w.heap.size 85 j0 (.int .u64 0) 1 8 Tryz.underlying88 ji jz0 jz1 jz2 rfl (by decide) V2 k _ rfl (R24.out.alloc _) ⟨w4.heap.size,0,none⟩ 1 1 [.int .u64 (In.u x.n)] rfl rfl (by intro y u hy;match y,hy with|0,hy=>simp at hy;subst hy;exact Pk.Qm w4 _ _) (by intro u hu;simp at hu;subst hu;rfl) (by unfold maxLen;omega) (by omega) (by have:=HB4.out;simp;omega) ?_;intro V5 w5 hown5 hg5 hnil5)
   have HG5:=hid (Bs.grownBy_trans (Qa HG4.out (Qb _ _)) hg5 (fun i e=>(R24.out.lt i e).1));have R25:Hid (w5.ownsRow w.heap.size 85 1 V5 (k+1) ((l.take (k+1)).map bitV)):=hid (by rw[M2.out];exact hown5);have R15:=hid (QT (R14.out.alloc _) hg5 (Qas R14.out R24.out (by decide)));have R35:=hid (QT (R34.out.alloc _) hg5 (Qas R34.out R24.out (by decide)));clear hown5 hg5 hnil5 c0 c1 c2 R14 R24 R34 M2 HG4 HB4;have HB5:=hid HG5.out.size;obtain⟨c0,c1,c2⟩:=Qp (HS.out.old HG5.out) hlt HXE.out;go_wp2_with (at_builtin;refine wpList_append_own _ rfl (.tmp 33) (.tmp 39) 132 rfl w.heap.size 9 s0 (.string ⟨#[]⟩) 1 16 Tryz.underlying132 si sz0 sz1 sz2 rfl (by decide) V3 k _ rfl (R35.out.alloc _) ⟨w5.heap.size,0,none⟩ 1 1 [.string x.s] rfl rfl (by intro y u hy;match y,hy with|0,hy=>simp at hy;subst hy;exact Pk.Qm w5 _ _) (by intro u hu;simp at hu;subst hu;rfl) (by unfold maxLen;omega) (by omega) (by have:=HB5.out;simp;omega) ?_;intro V6 w6 hown6 hg6 hnil6)
   have HG6:=hid (Bs.grownBy_trans (Qa HG5.out (Qb _ _)) hg6 (fun i e=>(R35.out.lt i e).1));have R36:Hid (w6.ownsRow w.heap.size 9 1 V6 (k+1) ((l.take (k+1)).map strV)):=hid (by rw[M3.out];exact hown6);have R16:=hid (QT (R15.out.alloc _) hg6 (Qas R15.out R35.out (by decide)));have R26:=hid (QT (R25.out.alloc _) hg6 (Qas R25.out R35.out (by decide)));clear hown6 hg6 hnil6 c0 c1 c2 R15 R25 R35 M3 HG5 HB5;go_wp2;go_roundw
   case rel=>exact⟨k+1,_,_,_,by go_num,by omega,rfl,rfl,rfl,R16.out,R26.out,R36.out,HG6.out⟩
   case measure=>simp[intOf];omega
  ·obtain rfl:k=n:=by omega
   have hT:l.take k=l:=List.take_of_length_le (by rw[HL.out];exact Nat.le_refl _);rw[hT]at R1 R2 R3;rw[Qks]at R1;rw[QkH]at R2;rw[Qkw]at R3;have HI:Hid (IsI (l.map (·.n))):=hid (fun y hy=>by
    obtain⟨z,hz,rfl⟩:=List.mem_map.1 hy;exact hi z hz)
   clear hlt hT;by_cases e1:kind=1
   ·have q1:(kind==1)=true:=beq_iff_eq.2 e1;have hB:bodyS kind l=In.bestB (l.map (·.n)):=if_pos e1;have hP:∃a1 c1,V1=.slice a1 k c1∧Is.Seg wr a1 k c1 (l.map (·.n)):=by
     rcases R1.out.2 with ⟨rfl,h0⟩|⟨g,cap,cur,rfl,_⟩
     ·subst h0;obtain rfl:l=[]:=List.length_eq_zero_iff.1 HL.out;exact⟨none,0,rfl,Is.Seg.nil wr⟩
     ·exact⟨_,_,rfl,Is.Seg.own R1.out⟩
    obtain⟨a1,c1,rfl,hseg⟩:=hP;have hc:=In.Qm8 a1 k c1 (l.map (·.n)) wr hseg;rw[In.Qe1 (by rw[List.length_map,HL.out];exact hn),←hB]at hc;have HC:=hid hc;clear e1 hB hseg hc R1 R2 R3 HI h2 hi ht;go_wp2_with fail
    refine HC.out.mono ?_;rintro e w9 ⟨a9,m9,k9,he,rfl,hs9,hb9⟩;have HF:Hid (∃a k,(Ending.returned (.slice a9 (bodyS kind l).length k9))=.returned (.slice a (bodyS kind l).length k)∧Bs.Seg w9 a (bodyS kind l).length k (bodyS kind l)∧Below w.heap.size w w9):=hid ⟨a9,k9,rfl,hs9,(QW HG.out).trans (In.Qf hb9 HG.out.size)⟩;subst he;clear hs9 hb9 HC;dsimp only;go_wp2;go_ret
    exact HF.out
   ·have q1:(kind==1)=false:=beq_eq_false_iff_ne.2 e1;by_cases e2:kind=2
    ·have q2:(kind==2)=true:=beq_iff_eq.2 e2;have hB:bodyS kind l=(Pk.putR (l.map (·.n)) 1).2:=by unfold bodyS;rw[if_neg e1,if_pos e2]
     have hbit:=h2 e2;have hM:(l.map fun c=>In.u c.n)=l.map (·.n):=List.map_congr_left fun y hy=>by
      have:=hbit y hy;unfold In.u;omega
     rw[hM]at R2;have hU:Pk.IsU (l.map (·.n)):=fun y hy=>by
      obtain⟨z,hz,rfl⟩:=List.mem_map.1 hy;have:=hbit z hz;omega
     have hP:∃a1 c1,V2=.slice a1 k c1∧Us.Seg wr a1 k c1 (l.map (·.n)):=by
      rcases R2.out.2 with ⟨rfl,h0⟩|⟨g,cap,cur,rfl,_⟩
      ·subst h0;obtain rfl:l=[]:=List.length_eq_zero_iff.1 HL.out;exact⟨none,0,rfl,Us.Seg.nil wr⟩
      ·exact⟨_,_,rfl,Us.Seg.own R2.out⟩
     obtain⟨a1,c1,rfl,hseg⟩:=hP;have hc:=Pk.Qay a1 k c1 (l.map (·.n)) 1 wr hseg hU;unfold Pk.PutX at hc;rw[←hB]at hc;obtain⟨E,hE⟩:∃E,E=(Pk.putR (l.map (·.n)) 1).1:=⟨_,rfl⟩;rw[←hE]at hc;have HC:=hid hc;clear e1 e2 hB hseg hc R1 R2 R3 HI h2 hi ht hbit hM hU hE;go_wp2_with fail
     refine HC.out.mono ?_;rintro e w9 ⟨a9,k9,he,hs9,hg9,-⟩;have HF:Hid (∃a k,(Ending.returned (.slice a9 (bodyS kind l).length k9))=.returned (.slice a (bodyS kind l).length k)∧Bs.Seg w9 a (bodyS kind l).length k (bodyS kind l)∧Below w.heap.size w w9):=hid ⟨a9,k9,rfl,hs9,QW (Qa HG.out hg9)⟩;subst he;clear hs9 hg9 HC;dsimp only;go_wp2;go_ret
     exact HF.out
    ·have q2:(kind==2)=false:=beq_eq_false_iff_ne.2 e2;have q3:(kind==3)=true:=beq_iff_eq.2 (by omega);have hB:bodyS kind l=Tx.bestT (l.map fun c=>nm c.s):=by unfold bodyS;rw[if_neg e1,if_neg e2]
     have hOk:Tx.okB (l.map fun c=>nm c.s)=true:=(Tx.QaJ _).2 ⟨by rw[List.length_map,HL.out];exact hn,fun y hy=>by
      obtain⟨z,hz,rfl⟩:=List.mem_map.1 hy;rw[Qb7];exact ht z hz⟩
     have hA:Tx.AllB (l.map fun c=>nm c.s):=fun y hy=>by
      obtain⟨z,hz,rfl⟩:=List.mem_map.1 hy;exact Qd1 _
     have hP:∃a1 c1,V3=.slice a1 k c1∧Ss.Seg wr a1 k c1 (l.map fun c=>nm c.s):=by
      rcases R3.out.2 with ⟨rfl,h0⟩|⟨g,cap,cur,rfl,_⟩
      ·subst h0;obtain rfl:l=[]:=List.length_eq_zero_iff.1 HL.out;exact⟨none,0,rfl,Ss.Seg.nil wr⟩
      ·exact⟨_,_,rfl,Ss.Seg.own R3.out⟩
     obtain⟨a1,c1,rfl,hseg⟩:=hP;have hc:=Tx.QmO a1 k c1 (l.map fun c=>nm c.s) wr hseg hA;unfold Tx.formR at hc;rw[if_pos hOk,←hB]at hc;have HC:=hid hc;clear e1 e2 hB hseg hc R1 R2 R3 HI h2 hi ht hOk hA;go_wp2_with fail
     refine HC.out.mono ?_;rintro e w9 ⟨a9,k9,he,hs9,hb9⟩;have HF:Hid (∃a k,(Ending.returned (.slice a9 (bodyS kind l).length k9))=.returned (.slice a (bodyS kind l).length k)∧Bs.Seg w9 a (bodyS kind l).length k (bodyS kind l)∧Below w.heap.size w w9):=hid ⟨a9,k9,rfl,hs9,(QW HG.out).trans (In.Qf hb9 HG.out.size)⟩;subst he;clear hs9 hb9 HC;dsimp only;go_wp2;go_ret
     exact HF.out
end Sg
namespace Sg
open Go.RowKit Go.Joins Zn Zr
open Is (IsI Qax)
open Bs (Qj)
open Nu (roomF fillF encN cnt)
theorem QlK(S:Nat)(hS:S≤1000000)(W:World):(Instr.makeSlice 44 (.int .i64 (S:Int)) (.int .i64 (S:Int))).run Tryz.prog W=.ok (.slice (some ⟨W.heap.size,0,none⟩) S S) (W.alloc (.cells (roomF S) 4)):=by
 obtain⟨i0,hi,hz0,hz1,hz2⟩:=info_parts Bl.QbY;have h:=run_make (P:=Tryz.prog) W 44 4 i0 (.bool false) Tryz.underlying44 hi hz0 .i64 .i64 (S:Int) (S:Int) (by omega) (by omega) (by rw[hz2];omega) (by omega);rw[hz1,Int.toNat_natCast,Nat.mul_one]at h;exact h
theorem Qhs{l:List Cel}{k:Nat}(h:k<l.length):someL (l.take (k+1))=if (l.getD k zeroC).k=0 then someL (l.take k) else someL (l.take k)++[l.getD k zeroC]:=by
 rw[Qa7 l k h,Qnm,QeL];by_cases e:(l.getD k zeroC).k=0
 ·rw[if_pos e,if_pos e,show someL []=[] from rfl,List.append_nil]
 ·rw[if_neg e,if_neg e,show someL []=[] from rfl]
theorem QnF{l:List Cel}{k:Nat}(h:k<l.length):(nullsL l).getD k false=decide ((l.getD k zeroC).k=0):=by
 unfold nullsL;rw[List.getD_eq_getElem?_getD,List.getElem?_map,List.getElem?_eq_getElem h,List.getD_eq_getElem?_getD,List.getElem?_eq_getElem h]
 rfl
theorem Qph{D:List Bool}{k:Nat}(h:k<D.length):(fillF D (k+1))[k]?=some (D.getD k false):=by
 rw[←Nu.Qdo D k h];have hl:=Nu.Qdv D k (by omega);rw[List.getElem?_set_self (by omega)]
theorem Qc9(W:World)(x:Cel):∀(j:Nat) (u:Value),(flatC [x])[j]?=some u→(W.alloc (.cells #[.int .i64 x.k,.int .i64 x.n,.string x.s] 24)).cell? ((⟨W.heap.size,0,none⟩:Addr).add j)=some u:=by
 have h:=(CSeg.lit W [x] (by simp)).at_ _ rfl;exact h
theorem Qpq{w w':World}{b base e s n:Nat}{v:Value}{xs:List Value}(h:w.ownsRow base e s v n xs)(k:Bt b w w')(hne:e≠5):w'.ownsRow base e s v n xs:=by
 obtain⟨hl,h⟩:=h;refine⟨hl,?_⟩;rcases h with ⟨rfl,h0⟩|⟨g,cap,cur,rfl,hb,hgg,rest⟩
 ·exact .inl ⟨rfl,h0⟩
 ·refine .inr ⟨g,cap,cur,rfl,hb,?_,rest⟩;rw[k.else_ g (Array.getElem?_eq_some_iff.1 hgg).1 (fun c' f' e'=>by
   rw[hgg]at e'
   injection e' with e'
   injection e' with _ e2 _
   exact hne e2)]
  exact hgg
theorem zb_bt{w w':World}{b g:Nat}{z:Zon}(h:ZB w g z)(k:Bt b w w'):ZB w' g z:=by
 have h1:=h;unfold ZB at h1;unfold ZB;rw[k.else_ g h.lt (fun c' f' e'=>by
  rw[h1]at e'
  injection e' with e'
  injection e' with _ e2 _
  revert e2
  decide)]
 exact h1
theorem Qf6{w:World}{base m:Nat}{v:Value}{l:List Cel}(h:w.ownsRow base 24 3 v m (flatC l))(hl:l.length=m):∃a c,v=.slice a m c∧CSeg w a m c l:=by
 rcases h.2 with ⟨rfl,h0⟩|⟨g,cap,cur,rfl,_⟩
 ·subst h0;obtain rfl:l=[]:=List.length_eq_zero_iff.1 hl;exact⟨none,0,rfl,CSeg.nil w⟩
 ·exact⟨_,_,rfl,CSeg.own h⟩
theorem Qi{w w':World}{base e s n:Nat}{v:Value}{xs:List Value}(h:w.ownsRow base e s v n xs)(k:w.grownBy w' none):w'.ownsRow base e s v n xs:=QT h k (fun _ _ e=>by cases e)
theorem Qo3(b:Nat)(w:World):Bt b w w.drew:=⟨⟨rfl,rfl,rfl,Nat.le_refl _,fun _ _=>rfl⟩,fun _ _ _=>rfl⟩
theorem QbU{kind:Int}{c:Cel}(h:CelOk kind c):c.k=2→0≤c.n∧c.n<256:=fun e=>by
 rcases QcG h.ok with q|q|q|q
 ·omega
 ·omega
 ·have:=q.2.1;omega
 ·omega
theorem Qdt{kind:Int}{c:Cel}(h:CelOk kind c):(cellB c).length≤65600:=by
 have hs:=QaM h.ok;unfold cellB;by_cases e1:c.k=1
 ·rw[if_pos e1,In.Qu];omega
 ·rw[if_neg e1];by_cases e2:c.k=2
  ·rw[if_pos e2];simp
  ·rw[if_neg e2];have:=Tx.Qej (nm c.s);rw[Qb7]at this;omega
theorem QdU{w:World}{base m c:Nat}{a:Option Addr}{l:List Cel}(h:w.ownsRow base 24 3 (.slice a m c) m (flatC l))(hl:l.length=m):CSeg w a m c l:=by
 obtain⟨a',c',e,hs⟩:=Qf6 h hl;cases e
 exact hs
theorem QbR(kind:Int){l:List Cel}(hl:l.length≤4096)(h:∀c∈l,CelOk kind c):(bodyS kind l).length≤300000000:=by
 unfold bodyS;by_cases e1:kind=1
 ·rw[if_pos e1];have h1:=In.Qba 1 (l.map (·.n)) (by rw[List.length_map];exact hl);have h2:=In.Qba 2 (l.map (·.n)) (by rw[List.length_map];exact hl);have h3:=In.Qba 3 (l.map (·.n)) (by rw[List.length_map];exact hl);rw[In.QnK];omega
 ·rw[if_neg e1];by_cases e2:kind=2
  ·rw[if_pos e2];have:=Pk.Qc0 (l.map (·.n)) 1;omega
  ·rw[if_neg e2];have hb:(Tx.bestT (l.map fun c=>nm c.s)).length≤(Tx.plainT (l.map fun c=>nm c.s)).length:=by
    unfold Tx.bestT
    split <;> omega
   have hs:=Tx.QhN (l.map fun c=>nm c.s) (fun s hs=>by
    obtain⟨c,hc,rfl⟩:=List.mem_map.1 hs;rw[Qb7];exact QaM (h c hc).ok)
   have hv:=Oct.QE 9 ((l.map fun c=>nm c.s).length:Int);unfold Tx.plainT at hb;rw[List.length_cons,List.length_append]at hb;rw[List.length_map]at hs hv hb;have h4:l.length*65546≤4096*65546:=Nat.mul_le_mul_right _ hl;omega
def PutSX(w:World)(kind:Int)(l:List Cel)(e:Ending)(w':World):Prop:=e=.returned (.tuple #[.string (strOfNums (putS kind l).2),.int .i64 (putS kind l).1])∧Below w.heap.size w w'
theorem Qay(kind:Int)(a:Option Addr)(n c:Nat)(l:List Cel)(w:World)(hs:CSeg w a n c l)(hi:IntOk l):Calls Tryz.prog 16 #[.int .i64 kind,.slice a n c] w (PutSX w kind l):=by
 obtain⟨i0,ii,iz0,iz1,iz2⟩:=QaZ;have HS:=hid hs;have HL:=hid hs.len;have HCK:=hid (Qcb kind a n c l w hs);obtain⟨E,hE⟩:∃E,E=checkS kind l:=⟨_,rfl⟩;rw[←hE]at HCK;clear hs;by_cases h0:E=0
 ·have hcol:Col kind l:=QbW.1 (by rw[←hE];exact h0);have q0:(E != 0)=false:=by rw[h0];rfl
  have HCOL:=hid hcol;have hn:n≤4096:=by rw[←HL.out];exact hcol.few
  have HR:Hid (putS kind l=(0,encS kind l)):=hid (Qe9 hcol);have hmk:=QlK n (by omega);clear h0 hE hcol;go_enter Tryz.func16,Tryz.ntmps16
  go_wp2_with fail
  refine HCK.out.mono ?_;rintro e w1 ⟨rfl,hg⟩;have G1:=hid hg;clear hg HCK;dsimp only;go_wp2;obtain⟨W2,hW2⟩:∃V,w1.alloc (.cells (roomF n) 4)=V:=⟨_,rfl⟩;have HO:=Nu.QcP w1 (nullsL l) n (by omega) (by rw[QaX,HL.out]);have G2:Hid (w.grownBy W2 none):=hid (by rw[←hW2];exact Qa G1.out (Qb _ _));have N2:Hid (W2.ownsRow w.heap.size 4 1 (.slice (some ⟨w1.heap.size,0,none⟩) n n) n ((fillF (nullsL l) 0).map Value.bool)):=hid (by
   rw[←hW2];obtain⟨q1,q2⟩:=HO;refine⟨q1,?_⟩;rcases q2 with ⟨q3,_⟩|⟨g,cap,cur,q3,q4,q5⟩
   ·cases q3
   ·exact .inr ⟨g,cap,cur,q3,Nat.le_trans G1.out.size q4,q5⟩)
  rw[hW2];clear hW2 HO G1 hmk;generalize w1.heap.size=gn at *
  go_loopw [8,9] (fun sv iv wx=>∃(k:Nat) (VS:Value),iv=.int .i64 k∧k≤n∧VS=sv∧wx.ownsRow w.heap.size 4 1 (.slice (some ⟨gn,0,none⟩) n n) n ((fillF (nullsL l) k).map Value.bool)∧wx.ownsRow w.heap.size 24 3 VS (someL (l.take k)).length (flatC (someL (l.take k)))∧w.grownBy wx none) (fun _ iv _=>n-(intOf iv).toNat)
  case atStart=>exact⟨0,_,rfl,Nat.zero_le _,rfl,N2.out,World.ownsRow_nil _ _ _ _,G2.out⟩
  case round=>
   obtain⟨k,VS,rfl,hk,rfl,rn,rs,hg⟩:=hrel;have HG:=hid hg;have RN:=hid rn;have RS:=hid rs;clear rn rs hg N2 G2;by_cases hlt:k<n
   ·obtain⟨B,O,rfl,hcs⟩:=(HS.out.old HG.out).form (by omega);obtain⟨x,hx⟩:∃x,x=l.getD k zeroC:=⟨_,rfl⟩;have HXE:=hid hx;have hkl:k<l.length:=by rw[HL.out];exact hlt
    have hnl:k<(nullsL l).length:=by rw[QaX];exact hkl
    have ht:=Qhs hkl;have hnk:=QnF hkl;have hfa:=Qph hnl;have hfs:=Nu.Qdo (nullsL l) k hnl;rw[←hx]at ht hnk;rw[hnk]at hfa hfs;have HT:=hid ht;have HFS:=hid hfs;have HFA:=hid hfa;have hcell:=RN.out.cellAt k (by omega);have hfl:k<(fillF (nullsL l) k).length:=by rw[Nu.Qdv _ _ (by omega)];exact hnl
    rw[List.getElem?_map,List.getElem?_eq_getElem hfl]at hcell;simp only[Option.map_some]at hcell;have hfree:=RN.out.frozenAt k;generalize (fillF (nullsL l) k)[k]'_=q at hcell;have hlen:(someL (l.take k)).length≤k:=by
     have h1:=Qa8 (l.take k);rw[List.length_take]at h1;omega
    clear hcs hx ht hnk hfa hfs hkl hnl hfl;have hlt2:(k:Int)<(n:Int):=by omega
    obtain⟨c0,c1,c2⟩:=Qp (HS.out.old HG.out) hlt HXE.out;by_cases hx0:x.k=0
    ·have q1:(x.k==0)=true:=beq_iff_eq.2 hx0;have HT2:=hid (HT.out.trans (if_pos hx0));rw[decide_eq_true hx0]at HFS HFA;clear hx0 HT;go_upto_region 10 with (fail)
     have hst:=RN.out.stored k (.bool true);rw[←List.map_set,HFS.out]at hst;obtain⟨W3,hW3⟩:∃V,wr.setCell ⟨gn,k,none⟩ (.bool true)=V:=⟨_,rfl⟩;rw[hW3]at hst;have RN3:=hid hst.1;have RS3:=hid (QT RS.out hst.2 (Qas RS.out RN.out (by decide)));have HG3:=hid (Bs.grownBy_trans HG.out hst.2 (fun i e=>by cases e;exact(RN.out.lt _ rfl).1));rw[hW3];clear hW3 hst hcell hfree c0 c1 c2 RN RS HG HFS;have hcell:=RN3.out.cellAt k (by omega);rw[List.getElem?_map,HFA.out]at hcell;simp only[Option.map_some]at hcell;obtain⟨c0,c1,c2⟩:=Qp (HS.out.old HG3.out) hlt HXE.out;go_wp2;go_roundw
     case rel=>exact⟨k+1,_,by go_num,by omega,rfl,RN3.out,by rw[HT2.out];exact RS3.out,HG3.out⟩
     case measure=>simp[intOf];omega
    ·have q1:(x.k==0)=false:=beq_eq_false_iff_ne.2 hx0;have HT2:=hid (HT.out.trans (if_neg hx0));rw[decide_eq_false hx0]at HFS HFA;clear hx0 HT;go_upto_region 10 with (fail)
     have hst:=RN.out.stored k (.bool false);rw[←List.map_set,HFS.out]at hst;obtain⟨W3,hW3⟩:∃V,wr.setCell ⟨gn,k,none⟩ (.bool false)=V:=⟨_,rfl⟩;rw[hW3]at hst;have RN3:=hid hst.1;have RS3:=hid (QT RS.out hst.2 (Qas RS.out RN.out (by decide)));have HG3:=hid (Bs.grownBy_trans HG.out hst.2 (fun i e=>by cases e;exact(RN.out.lt _ rfl).1));rw[hW3];clear hW3 hst hcell hfree c0 c1 c2 RN RS HG HFS;have hcell:=RN3.out.cellAt k (by omega);rw[List.getElem?_map,HFA.out]at hcell;simp only[Option.map_some]at hcell;obtain⟨c0,c1,c2⟩:=Qp (HS.out.old HG3.out) hlt HXE.out;have HB3:=hid HG3.out.size;go_wp2_with (at_builtin;refine wpList_append_own _ rfl (.tmp 43) (.tmp 48) 26 rfl w.heap.size 24 i0 (.agg #[.int .i64 0,.int .i64 0,.string ⟨#[]⟩]) 3 32 Tryz.underlying26 ii iz0 iz1 iz2 rfl (by decide) VS (someL (l.take k)).length _ rfl (RS3.out.alloc _) ⟨W3.heap.size,0,none⟩ 1 1 (flatC [x]) rfl rfl (Qc9 W3 x) (by intro u hu;simp[flatC]at hu;rcases hu with rfl|rfl|rfl <;> rfl) (by unfold maxLen;omega) (by omega) (by have:=HB3.out;simp;omega) ?_;intro V4 w4 hown4 hg4 hnil4)
     have RN4:=hid (QT (RN3.out.alloc _) hg4 (Qas RN3.out RS3.out (by decide)));have HG4:=hid (Bs.grownBy_trans (Qa HG3.out (Qb _ _)) hg4 (fun i e=>(RS3.out.lt i e).1));have RS4:Hid (w4.ownsRow w.heap.size 24 3 V4 (someL (l.take (k+1))).length (flatC (someL (l.take (k+1))))):=hid (by
      rw[HT2.out,List.length_append,Qbo];exact hown4)
     clear hown4 hg4 hnil4 c0 c1 c2 hcell RN3 RS3 HG3 HB3;go_wp2;go_roundw
     case rel=>exact⟨k+1,_,by go_num,by omega,rfl,RN4.out,RS4.out,HG4.out⟩
     case measure=>simp[intOf];omega
   ·obtain rfl:k=n:=by omega
    have hT:l.take k=l:=List.take_of_length_le (by rw[HL.out];exact Nat.le_refl _);rw[hT]at RS;have hFA:fillF (nullsL l) k=nullsL l:=by
     have h:=Nu.QeK (nullsL l)
     rwa [QaX,HL.out]at h
    rw[hFA]at RN;have NS:=hid (Bl.Seg.own RN.out);have hk1:=HCOL.out.k1;have hk3:=HCOL.out.k3;have hku:IntKind.u8.wrap kind=kind:=by rw[IntKind.wrap_u8];omega
    have hel:=Nu.QdV (l:=nullsL l) (by rw[QaX,HL.out];omega);obtain⟨q,hq⟩:∃q,(encN (nullsL l)).length=q:=⟨_,rfl⟩;have HPN:=hid (Nu.Qa5 (l:=nullsL l) (E:=0) (B:=encN (nullsL l)) (m:=q) (by unfold Nu.putN;rw[if_neg (by rw[QaX,HL.out];omega)]) hq _ k k wr NS.out);rw[hq]at hel;obtain⟨m,hm⟩:∃m,m=(someL l).length:=⟨_,rfl⟩;rw[←hm]at RS;have hmk:m≤k:=by
     have h1:=Qa8 l;have h2:=HL.out;omega
    have HM:=hid hm;have HQ:=hid hq;clear hT hFA RN hlt NS hm hq;go_wp2_with fail
    refine HPN.out.mono ?_;rintro e w5 ⟨a5,k5,he,hs5,ht5⟩;have G5:=hid (Qa HG.out ht5.grown);have RS5:=hid (Qi RS.out ht5.grown);have S5:=hid (hs5.grown (Qb w5 (.cells #[.int .u8 kind] 5)));subst he;clear hs5 ht5 HPN HG RS;obtain⟨u0,hui,huz0,huz1,huz2⟩:=info_parts Qj;have HLIT:=hid (World.ownsRow_lit (base:=w5.heap.size) (e:=5) (size:=1) w5 #[.int .u8 kind] 1 (Nat.le_refl _) (by unfold maxLen;omega) rfl);dsimp only;go_upto_region 14 with (at_builtin;refine Bs.Qr rfl (.tmp 57) (.tmp 58) 45 rfl w5.heap.size 5 u0 Tryz.underlying45 hui huz0 huz1 huz2 w5.heap.size 1 1 _ rfl HLIT.out a5 q k5 (encN (nullsL l)) rfl S5.out (by omega) (by simp) ?_;intro g6 c6 w6 hown6 hg6)
    have G6:=hid (Bs.grownBy_trans (Qa G5.out (Qb _ _)) hg6 (fun i e=>by cases e;exact G5.out.size));have RS6:=hid (QT (RS5.out.alloc _) hg6 (fun g e1 e2=>by
     have h1:=(RS5.out.lt g e1).2;cases e2
     omega))
    have RO6:Hid (w6.ownsRow w5.heap.size 5 1 (.slice (some ⟨g6,0,none⟩) (1+q) c6) (1+q) ((kind :: encN (nullsL l)).map (Value.int .u8))):=hid hown6;have hw5:w.heap.size≤w5.heap.size:=G5.out.size;have h56:w5.heap.size≤w6.heap.size:=by have:=hg6.size;rw[World.size_alloc]at this;omega
    clear hown6 hg6 RS5 S5 HLIT G5;by_cases hs0:someL l=[]
    ·have hm0:m=0:=by rw[HM.out,hs0];rfl
     have HT:Hid (encS kind l=kind :: encN (nullsL l)):=hid (by unfold encS tailS;rw[if_pos hs0,List.append_nil]);obtain⟨sa,sc,rfl,hseg⟩:=Qf6 RS6.out HM.out.symm;have hmz:¬(0:Int)<(m:Int):=by omega
     have hcv:=In.QG (Bs.Seg.own RO6.out) (by omega);clear hs0 hm0 hseg RS6 hw5 h56;go_wp2;go_ret2
     exact⟨by rw[HR.out,HT.out];rfl,QW G6.out⟩
    ·have hm0:0<m:=by rw[HM.out];exact List.length_pos_iff.2 hs0
     have HT:Hid (encS kind l=kind :: (encN (nullsL l)++(cellB (ofZ l).min++(cellB (ofZ l).max++bodyS kind (someL l))))):=hid (by unfold encS tailS;rw[if_neg hs0]);obtain⟨o1,o2,m1,m2,_⟩:=QiK HCOL.out hs0;have hof:=Qhc l;have hmin:=hi _ m1;have hmax:=hi _ m2;obtain⟨sa,sc,rfl,hseg⟩:=Qf6 RS6.out HM.out.symm;have hmp:(0:Int)<(m:Int):=by omega
     obtain⟨z,hz⟩:∃z,z=ofZ (someL l):=⟨_,rfl⟩;have HOF:=hid (QgY sa m sc (someL l) w6 hseg (by omega));rw[←hz]at HOF hof;rw[hof.1,hof.2.1]at HT;rw[hof.1]at o1 hmin;rw[hof.2.1]at o2 hmax;have HSM:=hid HCOL.out.some;have HSI:Hid (IntOk (someL l)):=hid (fun x hx=>hi x (Qf3.1 hx).1);have HMIN:Hid (CelOk kind z.min∧-9223372036854775808≤z.min.n∧z.min.n≤9223372036854775807):=hid ⟨o1,hmin⟩;have HMAX:Hid (CelOk kind z.max∧-9223372036854775808≤z.max.n∧z.max.n≤9223372036854775807):=hid ⟨o2,hmax⟩;clear hs0 hseg hz hof o1 o2 m1 m2 hmin hmax;go_wp2_with fail
     refine HOF.out.mono ?_;rintro e w7 ⟨rfl,hg⟩;have G7:=hid (Qa G6.out hg);have RS7:=hid (Qi RS6.out hg);have RO7:=hid (Qi RO6.out hg);have h57:w5.heap.size≤w7.heap.size:=Nat.le_trans h56 hg.size;clear hg HOF G6 RS6 RO6 h56;dsimp only;go_upto_region 16 with (fail)
     obtain⟨W8,hW8⟩:∃V,w7.alloc (.cells #[.int .i64 z.cnt,.int .i64 z.nul,.int .i64 z.min.k,.int .i64 z.min.n,.string z.min.s,.int .i64 z.max.k,.int .i64 z.max.n,.string z.max.s] 33)=V:=⟨_,rfl⟩;have hg:w7.grownBy W8 none:=by rw[←hW8];exact Qb _ _
     have ZB8:Hid (ZB W8 w7.heap.size z):=hid (by rw[←hW8];exact ZB.new w7 z);have G8:=hid (Qa G7.out hg);have RS8:=hid (Qi RS7.out hg);have RO8:=hid (Qi RO7.out hg);have h58:w5.heap.size≤W8.heap.size:=Nat.le_trans h57 hg.size;rw[hW8];clear hW8 hg G7 RS7 RO7 h57;generalize w7.heap.size=gz at *;obtain⟨p,hp⟩:∃p,(cellB z.min).length=p:=⟨_,rfl⟩;obtain⟨p2,hp2⟩:∃p2,(cellB z.max).length=p2:=⟨_,rfl⟩;have hpl:p≤65600∧p2≤65600:=by
      rw[←hp,←hp2];exact⟨Qdt HMIN.out.1,Qdt HMAX.out.1⟩
     have HP1:=hid hp;have HP2:=hid hp2;have HC1:Hid (∀(W:World) (g c0:Nat),W.ownsRow w5.heap.size 5 1 (.slice (some ⟨g,0,none⟩) (1+q) c0) (1+q) ((kind :: encN (nullsL l)).map (Value.int .u8))→w5.heap.size≤W.heap.size→Calls Tryz.prog 37 #[.slice (some ⟨g,0,none⟩) (1+q) c0,.agg #[.int .i64 z.min.k,.int .i64 z.min.n,.string z.min.s]] W (GrowT w5.heap.size W ((kind :: encN (nullsL l))++cellB z.min) (1+q+p))):=hid (fun W g c0 h1 h2=>by
      rw[←HP1.out];exact Qgc w5.heap.size g c0 (1+q) _ z.min W h1 h2 (by omega) HMIN.out.2 (QbU HMIN.out.1) (QaM HMIN.out.1.ok))
     have HC2:Hid (∀(W:World) (g c0:Nat),W.ownsRow w5.heap.size 5 1 (.slice (some ⟨g,0,none⟩) (1+q+p) c0) (1+q+p) (((kind :: encN (nullsL l))++cellB z.min).map (Value.int .u8))→w5.heap.size≤W.heap.size→Calls Tryz.prog 37 #[.slice (some ⟨g,0,none⟩) (1+q+p) c0,.agg #[.int .i64 z.max.k,.int .i64 z.max.n,.string z.max.s]] W (GrowT w5.heap.size W (((kind :: encN (nullsL l))++cellB z.min)++cellB z.max) (1+q+p+p2))):=hid (fun W g c0 h1 h2=>by
      rw[←HP2.out];exact Qgc w5.heap.size g c0 (1+q+p) _ z.max W h1 h2 (by omega) HMAX.out.2 (QbU HMAX.out.1) (QaM HMAX.out.1.ok))
     clear hp hp2;have GC:Hid (Bt w5.heap.size W8 W8.drew):=hid (Qo3 _ W8);have ROd:=hid (Qi RO8.out (QbE W8));have h5d:w5.heap.size≤W8.drew.heap.size:=h58;obtain⟨z0,z1,⟨z2,z3,z4⟩,z5,z6,z7⟩:=ZB8.out.cells;clear RO8
     go_region_held3 (fun w'=>w'.cell? ⟨gz,0,none⟩=some (.int .i64 z.cnt)∧w'.cell? ⟨gz,1,none⟩=some (.int .i64 z.nul)∧w'.cell? ⟨gz,2,none⟩=some (.int .i64 z.min.k)∧w'.cell? ⟨gz,3,none⟩=some (.int .i64 z.min.n)∧w'.cell? ⟨gz,4,none⟩=some (.string z.min.s)∧w'.cell? ⟨gz,5,none⟩=some (.int .i64 z.max.k)∧w'.cell? ⟨gz,6,none⟩=some (.int .i64 z.max.n)∧w'.cell? ⟨gz,7,none⟩=some (.string z.max.s)) (go_keep)
      (first
       |(go_at_call 37;(with_reducible refine(HC1.out _ _ _ ROd.out h5d).mono ?_);rintro e wa ⟨ga,ca,rfl,rowa,bta⟩;have RA:=hid rowa;have h5a:w5.heap.size≤wa.heap.size:=Nat.le_trans h58 bta.below.size;have GA:=hid (GC.out.trans bta);clear rowa bta;obtain⟨z0,z1,⟨z2,z3,z4⟩,z5,z6,z7⟩:=(zb_bt ZB8.out GA.out).cells)
       |(go_at_call 37;(with_reducible refine(HC2.out _ _ _ RA.out h5a).mono ?_);rintro e wb ⟨gb,cb,rfl,rowb,btb⟩;have RB:=hid rowb;have h5b:w5.heap.size≤wb.heap.size:=Nat.le_trans h5a btb.below.size;have GB:=hid (GA.out.trans btb);clear rowb btb;obtain⟨z0,z1,⟨z2,z3,z4⟩,z5,z6,z7⟩:=(zb_bt ZB8.out GB.out).cells)
       |fail)
     have RSb:=hid (Qpq RS8.out GB.out (by decide));have SCb:=hid (QdU RSb.out HM.out.symm);have HBY:=hid (QlW kind sa m sc (someL l) wb SCb.out (by omega) HSI.out (fun x hx=>QaM (HSM.out x hx).ok) hk1 hk3 (fun e x hx=>by
      have h1:=(HSM.out x hx).k;have h3:=QcG (HSM.out x hx).ok;omega))
     have hbl:=QbR kind (l:=someL l) (by rw[←HM.out];omega) HSM.out;have HTT:=hid HT.out;obtain⟨B,hB⟩:∃B,B=bodyS kind (someL l):=⟨_,rfl⟩;rw[←hB]at HBY HTT hbl;have hwb:w.heap.size≤wb.heap.size:=Nat.le_trans hw5 h5b;have HWW:Hid (Below w.heap.size w wb):=hid ((QW G8.out).trans (In.Qf GB.out.below hw5));clear hB SCb RSb RS8 HSI HSM HMIN HMAX HT HC1 HC2 RA GA GC GB G8 ZB8 h5a h5d h58 z0 z1 z2 z3 z4 z5 z6 z7 hi;go_wp2_with fail
     refine HBY.out.mono ?_;rintro e w11 ⟨a11,k11,he,hs11,hb11⟩;have RO11:=hid (In.own_below RB.out hb11);have S11:=hid hs11;have h511:w5.heap.size≤w11.heap.size:=Nat.le_trans h5b hb11.size;have HW11:Hid (Below w.heap.size w w11):=hid (HWW.out.trans (In.Qf hb11 hwb));have hgb:=(RB.out.lt _ rfl).1;subst he;clear hs11 hb11 HBY RB;dsimp only;go_upto_region 18 with (at_builtin;refine Bs.Qr rfl (.tmp 72) (.tmp 75) 45 rfl w5.heap.size 5 u0 Tryz.underlying45 hui huz0 huz1 huz2 gb (1+q+p+p2) cb _ rfl RO11.out a11 B.length k11 B rfl S11.out (by omega) h511 ?_;intro g12 c12 w12 hown12 hg12)
     have HW12:Hid (Below w.heap.size w w12):=hid (HW11.out.grown hg12 (Nat.le_trans hw5 h511) (fun i e=>by cases e;exact Nat.le_trans hw5 hgb));rw[←List.map_append]at hown12;have hcv:=In.QG (Bs.Seg.own hown12) (by omega);clear hown12 hg12 RO11 S11 HW11 hgb;go_wp2;go_ret2
     exact⟨by rw[HR.out,HTT.out];rfl,HW12.out⟩
 ·have q0:(E != 0)=true:=bne_iff_ne.2 h0;have HR:Hid (putS kind l=(E,[])):=hid (by unfold putS;rw[←hE,if_pos h0]);clear h0 hE;go_enter Tryz.func16,Tryz.ntmps16
  go_wp2_with fail
  refine HCK.out.mono ?_;rintro e w1 ⟨rfl,hg⟩;have G1:=hid hg;clear hg HCK;dsimp only;go_wp2;go_ret2
  exact⟨by rw[HR.out];rfl,QW G1.out⟩
end Sg
namespace Sg
open Go.RowKit Go.Joins Zn Zr
open Dv (Turn nowhere)
open In (RR RRead sg)
open Tx (RReadX)
def RCellX(b g:Nat)(w:World)(o:Option (Cel×List Int))(e:Ending)(w':World):Prop:=
 Turn w w' (In.At b)∧∃r c ok,e=.returned (.tuple #[.agg #[.int .i64 c.k,.int .i64 c.n,.string c.s],.bool ok])∧RR w' b g r∧Oct.IsB r∧r.length≤100000000∧(match (generalizing:=false) o with
  |some (x,rest)=>ok=true∧c=x∧r=rest
  |none=>ok=false)
theorem QU{w w1 w2:World}{b g:Nat}(h:Turn w w1 (In.At b))(k:Turn w1 w2 (·=g))(hg:w.heap.size≤g):Turn w w2 (In.At b):=
 ⟨k.os.trans h.os,k.tape.trans h.tape,k.output.trans h.output,Nat.le_trans h.size k.size,fun i hi hn=>(k.block i (Nat.lt_of_lt_of_le hi h.size) (fun e=>by omega)).trans (h.block i hi hn)⟩
theorem Qcn{w:World}{g:Nat}{c:Cel}(h:CB w g c)(j:Nat):w.frozen? ⟨g,j,none⟩=false:=by
 unfold CB at h;simp[World.frozen?,h]
theorem Qx{w:World}{ops:Array Oper}{rest:List Oper}{o:Oper}{a:Act}{Q:Exit→Act→World→Prop}(hgd:o.guard=none)(x y:Operand)(ho:o.op=.store 24 x y)
  (g:Nat) (hx:a.eval x=.pointer (some ⟨g,0,none⟩)) (c:Cel) (hy:a.eval y=.agg #[.int .i64 c.k,.int .i64 c.n,.string c.s]) (q:Cel) (hg:CB w g q)
  (h:∀w',CB w' g c→Turn w w' (·=g)→wpList Tryz.prog ops Q rest (a.put o.dst undef) w'):wpList Tryz.prog ops Q (o :: rest) a w:=by
 refine wpList_store_row hgd _ x y ho g _ hx hy _ _ hg QbM rfl (by simp[Value.oneCell']) ?_;exact h _ (setRow_heap w g _ _ _ _ hg) ⟨rfl,rfl,rfl,by simp[World.setRow],fun k _ hk=>setRow_other w g k _ hk⟩
theorem Qam{fn:Func}{p u:Tmp}(h:fn.results=#[.cell p 24,.tmp u])(tmps:Array Value)(w:World)(g:Nat)(c:Cel)(v:Value)(hp:tmps.getD p undef=.pointer (some ⟨g,0,none⟩))
  (hg:CB w g c) (hv:tmps.getD u undef=v):(results fn tmps).run Tryz.prog w=.ok (.tuple #[.agg #[.int .i64 c.k,.int .i64 c.n,.string c.s],v]) w:=by
 rw[←hv];exact Bs.Qfv h tmps w g _ _ _ _ hp hg Tryz.underlying24 rfl QbM
theorem Qgx(kind:Int)(b g:Nat)(bs:List Int)(w:World)(h:RR w b g bs)(hg:g<w.heap.size)(hb:Oct.IsB bs)(hl:bs.length≤100000000)(k1:1≤kind)(k3:kind≤3) :
  Calls Tryz.prog 72 #[.pointer (some ⟨b,0,none⟩),.int .i64 kind] w (RCellX b g w (readCell kind bs)):=by
 have HBL:=hid h.lt;have HGL:=hid hg;have hbl:=h.lt;obtain⟨W1,hW1⟩:∃V,(w.alloc (.cells #[.int .i64 0,.int .i64 0,.string ⟨#[]⟩] 24)).alloc (.cells #[.int .i64 kind,.int .i64 0,.string ⟨#[]⟩] 24)=V:=⟨_,rfl⟩;have hgr:w.grownBy W1 none:=by rw[←hW1];exact Qa (Qb _ _) (Qb _ _)
 have HT1:Hid (Turn w W1 (In.At b)):=hid (Turn.QD hgr (fun i e=>by cases e));have R1:=hid (h.turn (QbD hgr) id id);have HG1:Hid (g<W1.heap.size):=hid (Nat.lt_of_lt_of_le hg hgr.size);have Z1:Hid (CB W1 w.heap.size zeroC):=hid (by rw[←hW1];exact(CB.new w zeroC).old (Qb _ _));have C1:Hid (CB W1 (w.heap.size+1) ⟨kind,0,⟨#[]⟩⟩):=hid (by
  have h:=CB.new (w.alloc (.cells #[.int .i64 0,.int .i64 0,.string ⟨#[]⟩] 24)) ⟨kind,0,⟨#[]⟩⟩;rw[World.size_alloc]at h;rw[←hW1];exact h)
 have HW1:=hid hW1;clear hW1 hgr h hg;by_cases e1:kind=1
 ·have q1:(kind==1)=true:=beq_iff_eq.2 e1;by_cases h8:bs.length<8
  ·have hO:readCell kind bs=none:=by unfold readCell;rw[if_pos e1,if_pos h8]
   have HC:=hid (In.QaQ b g bs 8 W1 R1.out (by omega) (by omega) h8);have h2d:Oct.IsB bs∧bs.length≤100000000∧True:=⟨hb,hl,trivial⟩;rw[hO];clear e1 h8 hO hb hl;go_enter Tryz.func72,Tryz.ntmps72
   go_wp2_with fail
   rw[HW1.out];refine HC.out.mono ?_;rintro e w2 ⟨rfl,ht,hr⟩;have T2:=hid (HT1.out.trans ht (fun _ _ h=>h));have R2:=hid hr;have C2:Hid (CB w2 (w.heap.size+1) ⟨kind,0,⟨#[]⟩⟩):=hid (Qk C1.out ht (by unfold In.At;omega));have Z2:Hid (CB w2 w.heap.size zeroC):=hid (Qk Z1.out ht (by unfold In.At;omega));have HD2:=hid h2d;have yk:=Qcn C2.out 1;obtain⟨c0,c1,c2⟩:=C2.out.cells;clear ht hr h2d;dsimp only;go_upto_region 6 with (fail)
   obtain⟨W3,hW3⟩:∃V,w2.setCell ⟨w.heap.size+1,1,none⟩ (.int .i64 0)=V:=⟨_,rfl⟩;have t3:Turn w2 W3 (·=w.heap.size+1):=by rw[←hW3];exact Turn.setCell _ _ _ (S:=(·=w.heap.size+1)) rfl
   have C3:Hid (CB W3 (w.heap.size+1) ⟨kind,0,⟨#[]⟩⟩):=hid (by rw[←hW3];exact Go.heap_setCell_same _ _ 1 _ _ _ C2.out);have Z3:Hid (CB W3 w.heap.size zeroC):=hid (Qk Z2.out t3 (by omega));have R3:=hid (R2.out.turn t3 (by omega) (by have:=HGL.out;omega));have T3:=hid (QU T2.out t3 (by omega));rw[hW3];clear hW3 t3 yk c0 c1 c2 C2 Z2 R2 T2;obtain⟨c0,c1,c2⟩:=C3.out.cells;go_wp2_with (first
    |(with_reducible refine Qx rfl (.tmp 4) (.tmp 26) rfl w.heap.size rfl ⟨kind,0,⟨#[]⟩⟩ rfl zeroC Z3.out ?_;intro w9 hz9 ht9)
    |fail)
   refine bodyPost_ret (Qam rfl _ _ _ _ _ rfl hz9 rfl) rfl ?_;exact⟨QU T3.out ht9 (Nat.le_refl _),_,⟨kind,0,⟨#[]⟩⟩,_,rfl,R3.out.turn ht9 (by have:=HBL.out;omega) (by have:=HGL.out;omega),HD2.out.1,HD2.out.2.1,rfl⟩
  ·have hb8:Oct.IsB (bs.take 8):=fun x hx=>hb x (List.mem_of_mem_take hx)
   have ht8:(bs.take 8).length=8:=by rw[List.length_take];omega
   have hv:=In.QaG _ hb8 ht8;have hwr:IntKind.i64.wrap (Oct.ofB (bs.take 8))=sg (Oct.ofB (bs.take 8)):=by rw[IntWalk.i64_left];exact In.QbT _ hv.1 hv.2
   have hO:readCell kind bs=some (⟨1,sg (Oct.ofB (bs.take 8)),⟨#[]⟩⟩,bs.drop 8):=by unfold readCell;rw[if_pos e1,if_neg h8]
   have HC:=hid (In.Qai b g bs 8 W1 R1.out hb (by omega) (by omega) (by omega));obtain⟨v,hvv⟩:∃v,v=Oct.ofB (bs.take 8):=⟨_,rfl⟩;obtain⟨r,hr⟩:∃r,r=bs.drop 8:=⟨_,rfl⟩;have h2d:Oct.IsB r∧r.length≤100000000∧True:=⟨by rw[hr];exact fun x hx=>hb x (List.mem_of_mem_drop hx),by rw[hr,List.length_drop];omega,trivial⟩;rw[hO];rw[←hvv]at hwr HC ⊢;rw[←hr]at HC ⊢;obtain⟨y,hy⟩:∃y,y=sg v:=⟨_,rfl⟩;rw[←hy]at hwr ⊢;have HK:=hid e1;clear e1 h8 hO hb hl hb8 ht8 hv hvv hr hy;go_enter Tryz.func72,Tryz.ntmps72
   go_wp2_with fail
   rw[HW1.out];refine HC.out.mono ?_;rintro e w2 ⟨rfl,ht,hr⟩;have T2:=hid (HT1.out.trans ht (fun _ _ h=>h));have R2:=hid hr;have C2:Hid (CB w2 (w.heap.size+1) ⟨kind,0,⟨#[]⟩⟩):=hid (Qk C1.out ht (by unfold In.At;omega));have Z2:Hid (CB w2 w.heap.size zeroC):=hid (Qk Z1.out ht (by unfold In.At;omega));have HD2:=hid h2d;have yk:=Qcn C2.out 1;obtain⟨c0,c1,c2⟩:=C2.out.cells;clear ht hr h2d;dsimp only;go_upto_region 6 with (fail)
   obtain⟨W3,hW3⟩:∃V,w2.setCell ⟨w.heap.size+1,1,none⟩ (.int .i64 y)=V:=⟨_,rfl⟩;have t3:Turn w2 W3 (·=w.heap.size+1):=by rw[←hW3];exact Turn.setCell _ _ _ (S:=(·=w.heap.size+1)) rfl
   have C3:Hid (CB W3 (w.heap.size+1) ⟨kind,y,⟨#[]⟩⟩):=hid (by rw[←hW3];exact Go.heap_setCell_same _ _ 1 _ _ _ C2.out);have Z3:Hid (CB W3 w.heap.size zeroC):=hid (Qk Z2.out t3 (by omega));have R3:=hid (R2.out.turn t3 (by omega) (by have:=HGL.out;omega));have T3:=hid (QU T2.out t3 (by omega));rw[hW3];clear hW3 t3 yk c0 c1 c2 C2 Z2 R2 T2;obtain⟨c0,c1,c2⟩:=C3.out.cells;go_wp2_with (first
    |(with_reducible refine Qx rfl (.tmp 4) (.tmp 26) rfl w.heap.size rfl ⟨kind,y,⟨#[]⟩⟩ rfl zeroC Z3.out ?_;intro w9 hz9 ht9)
    |fail)
   refine bodyPost_ret (Qam rfl _ _ _ _ _ rfl hz9 rfl) rfl ?_;exact⟨QU T3.out ht9 (Nat.le_refl _),_,⟨kind,y,⟨#[]⟩⟩,_,rfl,R3.out.turn ht9 (by have:=HBL.out;omega) (by have:=HGL.out;omega),HD2.out.1,HD2.out.2.1,⟨rfl,by rw[HK.out],rfl⟩⟩
 ·have q1:(kind==1)=false:=beq_eq_false_iff_ne.2 e1;by_cases e2:kind=2
  ·have q2:(kind==2)=true:=beq_iff_eq.2 e2;have HK:=hid e2;cases bs with
   |nil=>
    have hO:readCell kind []=none:=by unfold readCell;rw[if_neg e1,if_pos e2]
    have HC:=hid (In.Qw b g [] W1 R1.out hb);have h2d:Oct.IsB []∧([]:List Int).length≤100000000∧True:=⟨hb,hl,trivial⟩;rw[hO];clear e1 e2 hO hb hl;go_enter Tryz.func72,Tryz.ntmps72
    go_wp2_with fail
    rw[HW1.out];refine HC.out.mono ?_;rintro e w2 ⟨rfl,ht,hr⟩;have T2:=hid (HT1.out.trans ht (fun _ _ h=>h));have R2:=hid hr;have C2:Hid (CB w2 (w.heap.size+1) ⟨kind,0,⟨#[]⟩⟩):=hid (Qk C1.out ht (by unfold In.At;omega));have Z2:Hid (CB w2 w.heap.size zeroC):=hid (Qk Z1.out ht (by unfold In.At;omega));have HD2:=hid h2d;have yk:=Qcn C2.out 1;obtain⟨c0,c1,c2⟩:=C2.out.cells;clear ht hr h2d;dsimp only;go_upto_region 10 with (fail)
    obtain⟨W3,hW3⟩:∃V,w2.setCell ⟨w.heap.size+1,1,none⟩ (.int .i64 0)=V:=⟨_,rfl⟩;have t3:Turn w2 W3 (·=w.heap.size+1):=by rw[←hW3];exact Turn.setCell _ _ _ (S:=(·=w.heap.size+1)) rfl
    have C3:Hid (CB W3 (w.heap.size+1) ⟨kind,0,⟨#[]⟩⟩):=hid (by rw[←hW3];exact Go.heap_setCell_same _ _ 1 _ _ _ C2.out);have Z3:Hid (CB W3 w.heap.size zeroC):=hid (Qk Z2.out t3 (by omega));have R3:=hid (R2.out.turn t3 (by omega) (by have:=HGL.out;omega));have T3:=hid (QU T2.out t3 (by omega));rw[hW3];clear hW3 t3 yk c0 c1 c2 C2 Z2 R2 T2;obtain⟨c0,c1,c2⟩:=C3.out.cells;go_wp2_with (first
     |(with_reducible refine Qx rfl (.tmp 4) (.tmp 39) rfl w.heap.size rfl ⟨kind,0,⟨#[]⟩⟩ rfl zeroC Z3.out ?_;intro w9 hz9 ht9)
     |fail)
    refine bodyPost_ret (Qam rfl _ _ _ _ _ rfl hz9 rfl) rfl ?_;exact⟨QU T3.out ht9 (Nat.le_refl _),_,⟨kind,0,⟨#[]⟩⟩,_,rfl,R3.out.turn ht9 (by have:=HBL.out;omega) (by have:=HGL.out;omega),HD2.out.1,HD2.out.2.1,rfl⟩
   |cons x r=>
    have hx:=hb x (List.mem_cons_self ..);have hwr:IntKind.i64.wrap x=x:=IntWalk.i64_in _ (by omega);have HC:=hid (In.Qw b g (x :: r) W1 R1.out hb);have h2d:Oct.IsB r∧r.length≤100000000∧True:=⟨fun y hy=>hb y (List.mem_cons_of_mem _ hy),by rw[List.length_cons]at hl;omega,trivial⟩;by_cases hx1:1<x
    ·have hO:readCell kind (x :: r)=none:=by
      unfold readCell;rw[if_neg e1,if_pos e2]
      show(if 1<x then none else some ((⟨2,x,⟨#[]⟩⟩:Cel),r))=none
      rw[if_pos hx1]
     have hx2:¬x≤1:=by omega
     rw[hO];clear e1 e2 hO hb hl hx1 hx;go_enter Tryz.func72,Tryz.ntmps72
     go_wp2_with fail
     rw[HW1.out];refine HC.out.mono ?_;rintro e w2 ⟨rfl,ht,hr⟩;have T2:=hid (HT1.out.trans ht (fun _ _ h=>h));have R2:=hid hr;have C2:Hid (CB w2 (w.heap.size+1) ⟨kind,0,⟨#[]⟩⟩):=hid (Qk C1.out ht (by unfold In.At;omega));have Z2:Hid (CB w2 w.heap.size zeroC):=hid (Qk Z1.out ht (by unfold In.At;omega));have HD2:=hid h2d;have yk:=Qcn C2.out 1;obtain⟨c0,c1,c2⟩:=C2.out.cells;clear ht hr h2d;dsimp only;go_upto_region 10 with (fail)
     obtain⟨W3,hW3⟩:∃V,w2.setCell ⟨w.heap.size+1,1,none⟩ (.int .i64 x)=V:=⟨_,rfl⟩;have t3:Turn w2 W3 (·=w.heap.size+1):=by rw[←hW3];exact Turn.setCell _ _ _ (S:=(·=w.heap.size+1)) rfl
     have C3:Hid (CB W3 (w.heap.size+1) ⟨kind,x,⟨#[]⟩⟩):=hid (by rw[←hW3];exact Go.heap_setCell_same _ _ 1 _ _ _ C2.out);have Z3:Hid (CB W3 w.heap.size zeroC):=hid (Qk Z2.out t3 (by omega));have R3:=hid (R2.out.turn t3 (by omega) (by have:=HGL.out;omega));have T3:=hid (QU T2.out t3 (by omega));rw[hW3];clear hW3 t3 yk c0 c1 c2 C2 Z2 R2 T2;obtain⟨c0,c1,c2⟩:=C3.out.cells;go_wp2_with (first
      |(with_reducible refine Qx rfl (.tmp 4) (.tmp 39) rfl w.heap.size rfl ⟨kind,x,⟨#[]⟩⟩ rfl zeroC Z3.out ?_;intro w9 hz9 ht9)
      |fail)
     refine bodyPost_ret (Qam rfl _ _ _ _ _ rfl hz9 rfl) rfl ?_;exact⟨QU T3.out ht9 (Nat.le_refl _),_,⟨kind,x,⟨#[]⟩⟩,_,rfl,R3.out.turn ht9 (by have:=HBL.out;omega) (by have:=HGL.out;omega),HD2.out.1,HD2.out.2.1,(by first|rfl|exact decide_eq_false (by omega))⟩
    ·have hO:readCell kind (x :: r)=some (⟨2,x,⟨#[]⟩⟩,r):=by
      unfold readCell;rw[if_neg e1,if_pos e2]
      show(if 1<x then none else some ((⟨2,x,⟨#[]⟩⟩:Cel),r))=_
      rw[if_neg hx1]
     have hx2:x≤1:=by omega
     rw[hO];clear e1 e2 hO hb hl hx1 hx;go_enter Tryz.func72,Tryz.ntmps72
     go_wp2_with fail
     rw[HW1.out];refine HC.out.mono ?_;rintro e w2 ⟨rfl,ht,hr⟩;have T2:=hid (HT1.out.trans ht (fun _ _ h=>h));have R2:=hid hr;have C2:Hid (CB w2 (w.heap.size+1) ⟨kind,0,⟨#[]⟩⟩):=hid (Qk C1.out ht (by unfold In.At;omega));have Z2:Hid (CB w2 w.heap.size zeroC):=hid (Qk Z1.out ht (by unfold In.At;omega));have HD2:=hid h2d;have yk:=Qcn C2.out 1;obtain⟨c0,c1,c2⟩:=C2.out.cells;clear ht hr h2d;dsimp only;go_upto_region 10 with (fail)
     obtain⟨W3,hW3⟩:∃V,w2.setCell ⟨w.heap.size+1,1,none⟩ (.int .i64 x)=V:=⟨_,rfl⟩;have t3:Turn w2 W3 (·=w.heap.size+1):=by rw[←hW3];exact Turn.setCell _ _ _ (S:=(·=w.heap.size+1)) rfl
     have C3:Hid (CB W3 (w.heap.size+1) ⟨kind,x,⟨#[]⟩⟩):=hid (by rw[←hW3];exact Go.heap_setCell_same _ _ 1 _ _ _ C2.out);have Z3:Hid (CB W3 w.heap.size zeroC):=hid (Qk Z2.out t3 (by omega));have R3:=hid (R2.out.turn t3 (by omega) (by have:=HGL.out;omega));have T3:=hid (QU T2.out t3 (by omega));rw[hW3];clear hW3 t3 yk c0 c1 c2 C2 Z2 R2 T2;obtain⟨c0,c1,c2⟩:=C3.out.cells;go_wp2_with (first
      |(with_reducible refine Qx rfl (.tmp 4) (.tmp 39) rfl w.heap.size rfl ⟨kind,x,⟨#[]⟩⟩ rfl zeroC Z3.out ?_;intro w9 hz9 ht9)
      |fail)
     refine bodyPost_ret (Qam rfl _ _ _ _ _ rfl hz9 rfl) rfl ?_;exact⟨QU T3.out ht9 (Nat.le_refl _),_,⟨kind,x,⟨#[]⟩⟩,_,rfl,R3.out.turn ht9 (by have:=HBL.out;omega) (by have:=HGL.out;omega),HD2.out.1,HD2.out.2.1,⟨(by first|rfl|exact decide_eq_true hx2),by rw[HK.out],rfl⟩⟩
  ·have q2:(kind==2)=false:=beq_eq_false_iff_ne.2 e2;have HK:Hid (kind=3):=hid (by omega);have HC:=hid (Tx.Qhv b g bs W1 R1.out HG1.out hb hl);cases hrd:Tx.readS bs with
   |none=>
    have hO:readCell kind bs=none:=by unfold readCell;rw[if_neg e1,if_neg e2,hrd]
    rw[hrd]at HC;rw[hO];clear e1 e2 hO hb hl hrd;go_enter Tryz.func72,Tryz.ntmps72
    go_wp2_with fail
    rw[HW1.out];refine HC.out.mono ?_;rintro e w2 ⟨ht,r,hr,hrb,hrl,S,rfl⟩;have h2d:Oct.IsB r∧r.length≤100000000∧True:=⟨hrb,hrl,trivial⟩;clear hrb hrl;have T2:=hid (HT1.out.trans ht (fun _ _ h=>h));have R2:=hid hr;have C2:Hid (CB w2 (w.heap.size+1) ⟨kind,0,⟨#[]⟩⟩):=hid (Qk C1.out ht (by unfold In.At;omega));have Z2:Hid (CB w2 w.heap.size zeroC):=hid (Qk Z1.out ht (by unfold In.At;omega));have HD2:=hid h2d;have yk:=Qcn C2.out 2;obtain⟨c0,c1,c2⟩:=C2.out.cells;clear ht hr h2d;dsimp only;go_upto_region 13 with (fail)
    obtain⟨W3,hW3⟩:∃V,w2.setCell ⟨w.heap.size+1,2,none⟩ (.string S)=V:=⟨_,rfl⟩;have t3:Turn w2 W3 (·=w.heap.size+1):=by rw[←hW3];exact Turn.setCell _ _ _ (S:=(·=w.heap.size+1)) rfl
    have C3:Hid (CB W3 (w.heap.size+1) ⟨kind,0,S⟩):=hid (by rw[←hW3];exact Go.heap_setCell_same _ _ 2 _ _ _ C2.out);have Z3:Hid (CB W3 w.heap.size zeroC):=hid (Qk Z2.out t3 (by omega));have R3:=hid (R2.out.turn t3 (by omega) (by have:=HGL.out;omega));have T3:=hid (QU T2.out t3 (by omega));rw[hW3];clear hW3 t3 yk c0 c1 c2 C2 Z2 R2 T2;obtain⟨c0,c1,c2⟩:=C3.out.cells;go_wp2_with (first
     |(with_reducible refine Qx rfl (.tmp 4) (.tmp 53) rfl w.heap.size rfl ⟨kind,0,S⟩ rfl zeroC Z3.out ?_;intro w9 hz9 ht9)
     |fail)
    refine bodyPost_ret (Qam rfl _ _ _ _ _ rfl hz9 rfl) rfl ?_;exact⟨QU T3.out ht9 (Nat.le_refl _),_,⟨kind,0,S⟩,_,rfl,R3.out.turn ht9 (by have:=HBL.out;omega) (by have:=HGL.out;omega),HD2.out.1,HD2.out.2.1,rfl⟩
   |some p=>
    obtain⟨s,rest⟩:=p;have hO:readCell kind bs=some (⟨3,0,strOfNums s⟩,rest):=by unfold readCell;rw[if_neg e1,if_neg e2,hrd]
    rw[hrd]at HC;rw[hO];obtain⟨S,hS⟩:∃S,S=strOfNums s:=⟨_,rfl⟩;have HSS:=hid hS;clear e1 e2 hO hb hl hrd hS;go_enter Tryz.func72,Tryz.ntmps72
    go_wp2_with fail
    rw[HW1.out];refine HC.out.mono ?_;rintro e w2 ⟨ht,r,hr,hrb,hrl,hrr,he⟩;rw[←HSS.out]at he;subst he;have HRR:=hid hrr;have h2d:Oct.IsB r∧r.length≤100000000∧True:=⟨hrb,hrl,trivial⟩;clear hrb hrl hrr;have T2:=hid (HT1.out.trans ht (fun _ _ h=>h));have R2:=hid hr;have C2:Hid (CB w2 (w.heap.size+1) ⟨kind,0,⟨#[]⟩⟩):=hid (Qk C1.out ht (by unfold In.At;omega));have Z2:Hid (CB w2 w.heap.size zeroC):=hid (Qk Z1.out ht (by unfold In.At;omega));have HD2:=hid h2d;have yk:=Qcn C2.out 2;obtain⟨c0,c1,c2⟩:=C2.out.cells;clear ht hr h2d;dsimp only;go_upto_region 13 with (fail)
    obtain⟨W3,hW3⟩:∃V,w2.setCell ⟨w.heap.size+1,2,none⟩ (.string S)=V:=⟨_,rfl⟩;have t3:Turn w2 W3 (·=w.heap.size+1):=by rw[←hW3];exact Turn.setCell _ _ _ (S:=(·=w.heap.size+1)) rfl
    have C3:Hid (CB W3 (w.heap.size+1) ⟨kind,0,S⟩):=hid (by rw[←hW3];exact Go.heap_setCell_same _ _ 2 _ _ _ C2.out);have Z3:Hid (CB W3 w.heap.size zeroC):=hid (Qk Z2.out t3 (by omega));have R3:=hid (R2.out.turn t3 (by omega) (by have:=HGL.out;omega));have T3:=hid (QU T2.out t3 (by omega));rw[hW3];clear hW3 t3 yk c0 c1 c2 C2 Z2 R2 T2;obtain⟨c0,c1,c2⟩:=C3.out.cells;go_wp2_with (first
     |(with_reducible refine Qx rfl (.tmp 4) (.tmp 53) rfl w.heap.size rfl ⟨kind,0,S⟩ rfl zeroC Z3.out ?_;intro w9 hz9 ht9)
     |fail)
    refine bodyPost_ret (Qam rfl _ _ _ _ _ rfl hz9 rfl) rfl ?_;exact⟨QU T3.out ht9 (Nat.le_refl _),_,⟨kind,0,S⟩,_,rfl,R3.out.turn ht9 (by have:=HBL.out;omega) (by have:=HGL.out;omega),HD2.out.1,HD2.out.2.1,⟨rfl,by rw[HK.out,HSS.out],HRR.out⟩⟩
end Sg
namespace Sg
open Go.RowKit Go.Joins Zn Zr Dv
theorem QmG:(Tryz.prog.info? 99).map (·.size)=some 6:=by kernel_rfl
theorem Qhi(b:Nat){w:World}{ops:Array Oper}{rest:List Oper}{o:Oper}{a:Act}{Q:Exit→Act→World→Prop}(hgd:o.guard=none)(x y:Operand)(ho:o.op=.store 99 x y)
  (g:Nat) (hx:a.eval x=.pointer (some ⟨g,0,none⟩)) (hy:a.eval y=.agg #[.func (.func 89) #[] #[],.func (.func 90) #[] #[],.func (.func 91) #[] #[],.func (.func 93) #[] #[],.func (.func 95) #[] #[],.func (.func 140) #[] #[.pointer (some ⟨b,0,none⟩)]]) (old:Array Value) (hg:w.heap[g]?=some (.cells old 99 (0,0))) (hold:old.size=6)
  (h:∀w',w'.heap[g]?=some (.cells #[.func (.func 89) #[] #[],.func (.func 90) #[] #[],.func (.func 91) #[] #[],.func (.func 93) #[] #[],.func (.func 95) #[] #[],.func (.func 140) #[] #[.pointer (some ⟨b,0,none⟩)]] 99 (0,0))→Turn w w' (·=g)→wpList Tryz.prog ops Q rest (a.put o.dst undef) w'):wpList Tryz.prog ops Q (o :: rest) a w:=by
 refine wpList_store_row hgd _ x y ho g _ hx hy _ _ hg QmG hold (by simp[Value.oneCell']) ?_;exact h _ (setRow_heap w g _ _ _ _ hg) ⟨rfl,rfl,rfl,by simp[World.setRow],fun k _ hk=>setRow_other w g k _ hk⟩
def BoxI(w:World)(b:Nat):Prop:=w.heap[b]?=some (.cells #[.func (.func 97) #[] #[]] 140 (0,0))
theorem BoxI.old{w w':World}{b:Nat}(h:BoxI w b)(k:Turn w w' nowhere):BoxI w' b:=Qae h k.grown
theorem BoxI.cell{w:World}{b:Nat}(h:BoxI w b):w.cell? ⟨b,0,none⟩=some (.func (.func 97) #[] #[]):=by
 unfold BoxI at h;rw[cell_of_row _ _ _ _ _ _ h];rfl
def MadeI(w:World)(e:Ending)(w':World):Prop:=∃b,e=.returned (.agg #[.func (.func 89) #[] #[],.func (.func 90) #[] #[],.func (.func 91) #[] #[],.func (.func 93) #[] #[],.func (.func 95) #[] #[],.func (.func 140) #[] #[.pointer (some ⟨b,0,none⟩)]])∧BoxI w' b∧Turn w w' nowhere
theorem QoP(w:World):Calls Tryz.prog 53 #[] w (MadeI w):=by
 have q:=hid (heap_alloc_new w (.cells #[.nilFunc,.nilFunc,.nilFunc,.nilFunc,.nilFunc,.nilFunc] 99));have HX:=hid (fun W=>QlT W);go_enter Tryz.func53,Tryz.ntmps53
 go_wp2_with fail
 refine(HX.out _).mono ?_;rintro e w1 ⟨rfl,hw1⟩;have hb:BoxI w1 (w.alloc (.cells #[.nilFunc,.nilFunc,.nilFunc,.nilFunc,.nilFunc,.nilFunc] 99)).heap.size:=by rw[hw1];exact heap_alloc_new _ _
 have ht:Turn w w1 nowhere:=by rw[hw1];exact(Turn.alloc w _ nowhere).trans (Turn.alloc _ _ nowhere) (fun _ _ h=>h)
 have hq:w1.heap[w.heap.size]?=some (.cells #[.nilFunc,.nilFunc,.nilFunc,.nilFunc,.nilFunc,.nilFunc] 99 (0,0)):=by rw[hw1];exact(Below.heap_alloc _ _ _ (by simp)).trans q.out
 rw[World.size_alloc]at hb;have HB:=hid hb;have HT:=hid ht;have HQ:=hid hq;have hz:w.heap.size<w1.heap.size:=by rw[hw1];simp;omega
 clear hw1 hb ht hq q;go_wp2_with (first
  |(with_reducible refine Qhi (w.heap.size+1) rfl (.tmp 0) (.tmp 2) rfl w.heap.size rfl rfl _ HQ.out rfl ?_;intro w2 hq2 ht2)
  |fail)
 have HF:Hid (MadeI w (.returned (.agg #[.func (.func 89) #[] #[],.func (.func 90) #[] #[],.func (.func 91) #[] #[],.func (.func 93) #[] #[],.func (.func 95) #[] #[],.func (.func 140) #[] #[.pointer (some ⟨w.heap.size+1,0,none⟩)]])) w2):=hid ⟨w.heap.size+1,rfl,Qk HB.out ht2 (by omega),Pk.Qc (Ql HT.out.grown ht2 (Nat.le_refl _))⟩;refine bodyPost_ret (v:=.agg #[.func (.func 89) #[] #[],.func (.func 90) #[] #[],.func (.func 91) #[] #[],.func (.func 93) #[] #[],.func (.func 95) #[] #[],.func (.func 140) #[] #[.pointer (some ⟨w.heap.size+1,0,none⟩)]]) (Qaf rfl _ _ _ _ _ (0,0) _ rfl hq2 Tryz.underlying99 rfl QmG) rfl HF.out
theorem QlN:(Tryz.prog.info? 108).map (·.size)=some 6:=by kernel_rfl
theorem Qhd{w:World}{ops:Array Oper}{rest:List Oper}{o:Oper}{a:Act}{Q:Exit→Act→World→Prop}(hgd:o.guard=none)(x y:Operand)(ho:o.op=.store 108 x y)
  (g:Nat) (hx:a.eval x=.pointer (some ⟨g,0,none⟩)) (hy:a.eval y=.agg #[.func (.func 98) #[] #[],.func (.func 99) #[] #[],.func (.func 100) #[] #[],.func (.func 101) #[] #[],.func (.func 102) #[] #[],.func (.func 103) #[] #[]]) (old:Array Value) (hg:w.heap[g]?=some (.cells old 108 (0,0))) (hold:old.size=6)
  (h:∀w',w'.heap[g]?=some (.cells #[.func (.func 98) #[] #[],.func (.func 99) #[] #[],.func (.func 100) #[] #[],.func (.func 101) #[] #[],.func (.func 102) #[] #[],.func (.func 103) #[] #[]] 108 (0,0))→Turn w w' (·=g)→wpList Tryz.prog ops Q rest (a.put o.dst undef) w'):wpList Tryz.prog ops Q (o :: rest) a w:=by
 refine wpList_store_row hgd _ x y ho g _ hx hy _ _ hg QlN hold (by simp[Value.oneCell']) ?_;exact h _ (setRow_heap w g _ _ _ _ hg) ⟨rfl,rfl,rfl,by simp[World.setRow],fun k _ hk=>setRow_other w g k _ hk⟩
theorem Qo5(w:World):Calls Tryz.prog 54 #[] w fun e w'=>e=.returned (.agg #[.func (.func 98) #[] #[],.func (.func 99) #[] #[],.func (.func 100) #[] #[],.func (.func 101) #[] #[],.func (.func 102) #[] #[],.func (.func 103) #[] #[]])∧Turn w w' nowhere:=by
 have q:=hid (heap_alloc_new w (.cells #[.nilFunc,.nilFunc,.nilFunc,.nilFunc,.nilFunc,.nilFunc] 108));have HG:=hid (Qb w (.cells #[.nilFunc,.nilFunc,.nilFunc,.nilFunc,.nilFunc,.nilFunc] 108));go_enter Tryz.func54,Tryz.ntmps54
 go_wp2_with (first
  |(with_reducible refine Qhd rfl (.tmp 0) (.tmp 1) rfl w.heap.size rfl rfl _ q.out rfl ?_;intro w2 hq2 ht2)
  |fail)
 refine bodyPost_ret (v:=.agg #[.func (.func 98) #[] #[],.func (.func 99) #[] #[],.func (.func 100) #[] #[],.func (.func 101) #[] #[],.func (.func 102) #[] #[],.func (.func 103) #[] #[]]) (Qaf rfl _ _ _ _ _ (0,0) _ rfl hq2 Tryz.underlying108 rfl QlN) rfl ⟨rfl,Pk.Qc (Ql HG.out ht2 (Nat.le_refl _))⟩
theorem QmY:(Tryz.prog.info? 117).map (·.size)=some 6:=by kernel_rfl
theorem Qhe(b:Nat){w:World}{ops:Array Oper}{rest:List Oper}{o:Oper}{a:Act}{Q:Exit→Act→World→Prop}(hgd:o.guard=none)(x y:Operand)(ho:o.op=.store 117 x y)
  (g:Nat) (hx:a.eval x=.pointer (some ⟨g,0,none⟩)) (hy:a.eval y=.agg #[.func (.func 105) #[] #[],.func (.func 106) #[] #[],.func (.func 107) #[] #[],.func (.func 108) #[] #[],.func (.func 109) #[] #[],.func (.func 146) #[] #[.pointer (some ⟨b,0,none⟩)]]) (old:Array Value) (hg:w.heap[g]?=some (.cells old 117 (0,0))) (hold:old.size=6)
  (h:∀w',w'.heap[g]?=some (.cells #[.func (.func 105) #[] #[],.func (.func 106) #[] #[],.func (.func 107) #[] #[],.func (.func 108) #[] #[],.func (.func 109) #[] #[],.func (.func 146) #[] #[.pointer (some ⟨b,0,none⟩)]] 117 (0,0))→Turn w w' (·=g)→wpList Tryz.prog ops Q rest (a.put o.dst undef) w'):wpList Tryz.prog ops Q (o :: rest) a w:=by
 refine wpList_store_row hgd _ x y ho g _ hx hy _ _ hg QmY hold (by simp[Value.oneCell']) ?_;exact h _ (setRow_heap w g _ _ _ _ hg) ⟨rfl,rfl,rfl,by simp[World.setRow],fun k _ hk=>setRow_other w g k _ hk⟩
def BoxT(w:World)(b:Nat):Prop:=w.heap[b]?=some (.cells #[.func (.func 111) #[] #[]] 144 (0,0))
theorem BoxT.old{w w':World}{b:Nat}(h:BoxT w b)(k:Turn w w' nowhere):BoxT w' b:=Qae h k.grown
theorem BoxT.cell{w:World}{b:Nat}(h:BoxT w b):w.cell? ⟨b,0,none⟩=some (.func (.func 111) #[] #[]):=by
 unfold BoxT at h;rw[cell_of_row _ _ _ _ _ _ h];rfl
def MadeT(w:World)(e:Ending)(w':World):Prop:=∃b,e=.returned (.agg #[.func (.func 105) #[] #[],.func (.func 106) #[] #[],.func (.func 107) #[] #[],.func (.func 108) #[] #[],.func (.func 109) #[] #[],.func (.func 146) #[] #[.pointer (some ⟨b,0,none⟩)]])∧BoxT w' b∧Turn w w' nowhere
theorem Qpn(w:World):Calls Tryz.prog 55 #[] w (MadeT w):=by
 have q:=hid (heap_alloc_new w (.cells #[.nilFunc,.nilFunc,.nilFunc,.nilFunc,.nilFunc,.nilFunc] 117));have HX:=hid (fun W=>Qmz W);go_enter Tryz.func55,Tryz.ntmps55
 go_wp2_with fail
 refine(HX.out _).mono ?_;rintro e w1 ⟨rfl,hw1⟩;have hb:BoxT w1 (w.alloc (.cells #[.nilFunc,.nilFunc,.nilFunc,.nilFunc,.nilFunc,.nilFunc] 117)).heap.size:=by rw[hw1];exact heap_alloc_new _ _
 have ht:Turn w w1 nowhere:=by rw[hw1];exact(Turn.alloc w _ nowhere).trans (Turn.alloc _ _ nowhere) (fun _ _ h=>h)
 have hq:w1.heap[w.heap.size]?=some (.cells #[.nilFunc,.nilFunc,.nilFunc,.nilFunc,.nilFunc,.nilFunc] 117 (0,0)):=by rw[hw1];exact(Below.heap_alloc _ _ _ (by simp)).trans q.out
 rw[World.size_alloc]at hb;have HB:=hid hb;have HT:=hid ht;have HQ:=hid hq;have hz:w.heap.size<w1.heap.size:=by rw[hw1];simp;omega
 clear hw1 hb ht hq q;go_wp2_with (first
  |(with_reducible refine Qhe (w.heap.size+1) rfl (.tmp 0) (.tmp 2) rfl w.heap.size rfl rfl _ HQ.out rfl ?_;intro w2 hq2 ht2)
  |fail)
 have HF:Hid (MadeT w (.returned (.agg #[.func (.func 105) #[] #[],.func (.func 106) #[] #[],.func (.func 107) #[] #[],.func (.func 108) #[] #[],.func (.func 109) #[] #[],.func (.func 146) #[] #[.pointer (some ⟨w.heap.size+1,0,none⟩)]])) w2):=hid ⟨w.heap.size+1,rfl,Qk HB.out ht2 (by omega),Pk.Qc (Ql HT.out.grown ht2 (Nat.le_refl _))⟩;refine bodyPost_ret (v:=.agg #[.func (.func 105) #[] #[],.func (.func 106) #[] #[],.func (.func 107) #[] #[],.func (.func 108) #[] #[],.func (.func 109) #[] #[],.func (.func 146) #[] #[.pointer (some ⟨w.heap.size+1,0,none⟩)]]) (Qaf rfl _ _ _ _ _ (0,0) _ rfl hq2 Tryz.underlying117 rfl QmY) rfl HF.out
def CodV(w:World)(kind:Int)(v:Value):Prop:=
 (kind=1∧∃b,v=.iface 99 (.agg #[.func (.func 89) #[] #[],.func (.func 90) #[] #[],.func (.func 91) #[] #[],.func (.func 93) #[] #[],.func (.func 95) #[] #[],.func (.func 140) #[] #[.pointer (some ⟨b,0,none⟩)]])∧BoxI w b)∨(kind=2∧v=.iface 108 (.agg #[.func (.func 98) #[] #[],.func (.func 99) #[] #[],.func (.func 100) #[] #[],.func (.func 101) #[] #[],.func (.func 102) #[] #[],.func (.func 103) #[] #[]]))∨(kind=3∧∃b,v=.iface 117 (.agg #[.func (.func 105) #[] #[],.func (.func 106) #[] #[],.func (.func 107) #[] #[],.func (.func 108) #[] #[],.func (.func 109) #[] #[],.func (.func 146) #[] #[.pointer (some ⟨b,0,none⟩)]])∧BoxT w b)
def CoderX(w:World)(kind:Int)(e:Ending)(w':World):Prop:=∃v,e=.returned v∧CodV w' kind v∧Turn w w' nowhere
theorem Qmw(w:World):Calls Tryz.prog 31 #[.int .i64 1] w (CoderX w 1):=by
 have HC:=hid (fun W=>QoP W);go_enter Tryz.func31,Tryz.ntmps31
 go_wp2_with fail
 refine(HC.out _).mono ?_;rintro e w1 ⟨b,rfl,hb,ht⟩;have HF:Hid (CoderX w 1 (.returned (.iface 99 (.agg #[.func (.func 89) #[] #[],.func (.func 90) #[] #[],.func (.func 91) #[] #[],.func (.func 93) #[] #[],.func (.func 95) #[] #[],.func (.func 140) #[] #[.pointer (some ⟨b,0,none⟩)]]))) w1):=hid ⟨_,rfl,.inl ⟨rfl,b,rfl,hb⟩,ht⟩;clear hb ht;go_wp2;go_ret
 exact HF.out
theorem Qmo(w:World):Calls Tryz.prog 31 #[.int .i64 2] w (CoderX w 2):=by
 have HC:=hid (fun W=>Qo5 W);go_enter Tryz.func31,Tryz.ntmps31
 go_wp2_with fail
 refine(HC.out _).mono ?_;rintro e w1 ⟨rfl,ht⟩;have HF:Hid (CoderX w 2 (.returned (.iface 108 (.agg #[.func (.func 98) #[] #[],.func (.func 99) #[] #[],.func (.func 100) #[] #[],.func (.func 101) #[] #[],.func (.func 102) #[] #[],.func (.func 103) #[] #[]]))) w1):=hid ⟨_,rfl,.inr (.inl ⟨rfl,rfl⟩),ht⟩;clear ht;go_wp2;go_ret
 exact HF.out
theorem Qmb(w:World):Calls Tryz.prog 31 #[.int .i64 3] w (CoderX w 3):=by
 have HC:=hid (fun W=>Qpn W);go_enter Tryz.func31,Tryz.ntmps31
 go_wp2_with fail
 refine(HC.out _).mono ?_;rintro e w1 ⟨b,rfl,hb,ht⟩;have HF:Hid (CoderX w 3 (.returned (.iface 117 (.agg #[.func (.func 105) #[] #[],.func (.func 106) #[] #[],.func (.func 107) #[] #[],.func (.func 108) #[] #[],.func (.func 109) #[] #[],.func (.func 146) #[] #[.pointer (some ⟨b,0,none⟩)]]))) w1):=hid ⟨_,rfl,.inr (.inr ⟨rfl,b,rfl,hb⟩),ht⟩;clear hb ht;go_wp2;go_ret
 exact HF.out
theorem QJ(kind:Int)(w:World)(k1:1≤kind)(k3:kind≤3):Calls Tryz.prog 31 #[.int .i64 kind] w (CoderX w kind):=by
 rcases(by omega:kind=1∨kind=2∨kind=3) with rfl|rfl|rfl
 ·exact Qmw w
 ·exact Qmo w
 ·exact Qmb w
theorem Qgj(kind:Int)(w:World)(h:kind<1∨3<kind):Calls Tryz.prog 31 #[.int .i64 kind] w fun e w'=>e=.returned .nilIface∧w=w':=by
 have q1:(kind==1)=false:=beq_eq_false_iff_ne.2 (by omega);have q2:(kind==2)=false:=beq_eq_false_iff_ne.2 (by omega);have q3:(kind==3)=false:=beq_eq_false_iff_ne.2 (by omega);go_enter Tryz.func31,Tryz.ntmps31
 go_wp2;go_ret
 exact⟨rfl,rfl⟩
end Sg
namespace Sg
open Go.RowKit Go.Joins Bs Dv Zn Zr
theorem Qde{w:World}{kind:Int}{v:Value}(h:CodV w kind v):∀W,(binOp .eql 63 v .nilIface).run Tryz.prog W=.ok (.bool false) W:=by
 rcases h with ⟨_,b,rfl,_⟩|⟨_,rfl⟩|⟨_,b,rfl,_⟩
 ·exact fun W=>by kernel_rfl
 ·exact fun W=>by kernel_rfl
 ·exact fun W=>by kernel_rfl
theorem Qby{w:World}{kind:Int}{v:Value}(h:CodV w kind v):∀(x y:Operand) (W:World),(eqGuard .eql 63 x y v .nilIface).run Tryz.prog W=.ok () W:=by
 rcases h with ⟨_,b,rfl,_⟩|⟨_,rfl⟩|⟨_,b,rfl,_⟩
 ·exact fun x y W=>rfl
 ·exact fun x y W=>rfl
 ·exact fun x y W=>rfl
theorem Qkx:∀W,(binOp .eql 63 .nilIface .nilIface).run Tryz.prog W=.ok (.bool true) W:=fun W=>by kernel_rfl
theorem QbB(kind:Int)(a:Option Addr)(n c:Nat)(l:List Cel)(w:World)(hs:CSeg w a n c l) :
  Calls Tryz.prog 19 #[.int .i64 kind,.slice a n c] w fun e w'=>e=.returned (.int .i64 (checkS kind l))∧w.grownBy w' none:=by
 have HS:=hid hs;have HL:=hid hs.len;have hcap:=hs.le;have hcap2:=hs.cap;unfold maxLen at hcap2;obtain⟨E,hE⟩:∃E,E=checkS kind l:=⟨_,rfl⟩;rw[←hE];unfold checkS at hE;rw[HL.out]at hE;clear hs;by_cases k1:kind<1∨3<kind
 ·rw[if_pos k1]at hE;subst hE;have HC:=hid (fun W=>Qgj kind W k1);have hny:=Qkx;clear k1;go_enter Tryz.func19,Tryz.ntmps19
  go_wp2_with fail
  refine(HC.out _).mono ?_;rintro e w1 ⟨rfl,rfl⟩;go_wp2;go_ret
  exact⟨rfl,Qaz _⟩
 rw[if_neg k1]at hE;have HC:=hid (fun W=>QJ kind W (by omega) (by omega));by_cases hm:4096<n
 ·rw[if_pos hm]at hE;subst hE;have hm':(4096:Int)<(n:Int):=by omega
  clear k1;go_enter Tryz.func19,Tryz.ntmps19
  go_wp2_with fail
  refine(HC.out _).mono ?_;rintro e w1 ⟨v,rfl,hv,ht⟩;have hnn:=Qde hv;have hng:=Qby hv;have HG:=hid ht.grown;clear hv ht;dsimp only;go_wp2;go_ret
  exact⟨rfl,HG.out⟩
 rw[if_neg hm]at hE;have HE:=hid hE;have hm':¬(4096:Int)<(n:Int):=by omega
 clear hE k1;go_enter Tryz.func19,Tryz.ntmps19
 go_wp2_with fail
 refine(HC.out _).mono ?_;rintro e w1 ⟨v,rfl,hv,ht⟩;have hnn:=Qde hv;have hng:=Qby hv;have HG1:=hid ht.grown;clear hv ht;dsimp only;go_wp2;clear hnn hng
 go_loopw [16] (fun iv wx=>∃k:Nat,iv=.int .i64 k∧k≤n∧E=firstE kind (l.drop k)∧w.grownBy wx none) (fun iv _=>n-(intOf iv).toNat)
 case atStart=>exact⟨0,rfl,Nat.zero_le _,HE.out,HG1.out⟩
 case round=>
  obtain⟨k,rfl,hk,he,hg⟩:=hrel;have HG:=hid hg;have HK:=hid he;clear hg he HE HG1;by_cases hlt:k<n
  ·obtain⟨B,O,rfl,hcs⟩:=(HS.out.old HG.out).form (by omega);obtain⟨c0,c1,c2⟩:=hcs k hlt;clear hcs;have HD:=hid (HK.out.trans (Qgn (by rw[HL.out];exact hlt)));obtain⟨x,hx⟩:∃x,x=l.getD k zeroC:=⟨_,rfl⟩;rw[←hx]at c0 c1 c2 HD;have HX:=hid (fun W=>QfF x W);obtain⟨r,hr⟩:∃r,r=cellE x:=⟨_,rfl⟩;rw[←hr]at HX HD;have HXE:=hid hx;clear hx hr HK;go_wp2_with fail
   refine(HX.out _).mono ?_;rintro e wk ⟨rfl,hg⟩;have BX:=hid ((CB.new wr x).old hg);have HG:=hid (Qa (Qa HG.out (Qb _ _)) hg);clear hg c0 c1 c2;obtain⟨c0,c1,c2⟩:=BX.out.cells;dsimp only;by_cases h0:r=0
   ·have q0:(r != 0)=false:=by rw[h0];rfl
    have HD2:=hid (HD.out.trans (if_neg (by rw[h0];simp)));clear HD h0;by_cases h2:x.k=0
    ·have q2:(x.k != 0)=false:=by rw[h2];rfl
     have HF:=hid (HD2.out.trans (if_neg (fun e=>e.2 h2)));clear HD2 h2;go_wp2;go_roundw
     case rel=>exact⟨k+1,by go_num,by omega,HF.out,HG.out⟩
     case measure=>simp[intOf];omega
    ·have q2:(x.k != 0)=true:=bne_iff_ne.2 h2;by_cases h1:x.k=kind
     ·have q1:(x.k != kind)=false:=by rw[h1];exact bne_self_eq_false _
      have HF:=hid (HD2.out.trans (if_neg (fun e=>e.1 h1)));clear HD2 h1 h2;go_wp2;go_roundw
      case rel=>exact⟨k+1,by go_num,by omega,HF.out,HG.out⟩
      case measure=>simp[intOf];omega
     ·have q1:(x.k != kind)=true:=bne_iff_ne.2 h1;have HF:=hid (HD2.out.trans (if_pos ⟨h1,h2⟩));clear HD2 h1 h2;go_wp2;go_ret
      exact⟨Qq HF.out.symm,HG.out⟩
   ·have q0:(r != 0)=true:=bne_iff_ne.2 h0;have HD2:=hid (HD.out.trans (if_pos h0));clear HD h0;go_wp2;go_ret
    exact⟨Qq HD2.out.symm,HG.out⟩
  ·obtain rfl:k=n:=by omega
   have HF:Hid (E=0):=hid (by rw[HK.out,List.drop_of_length_le (by rw[HL.out];exact Nat.le_refl _)];rfl);clear hlt HK;go_wp2;go_ret
   exact⟨Qq HF.out.symm,HG.out⟩
end Sg
end Go.Proofs.YtljanfnhmhimiaaGreat
