/- Parts of the proof. -/
import Derived.Deep.Cut
import Derived.Test.YtgffbbdcbkikhaaGreatDoorKbO
set_option maxRecDepth 100000
set_option maxHeartbeats 8000000
open Go.Lib (hid)
namespace Go.Proofs.YtgffbbdcbkikhaaGreatDoor
namespace Su
open Go.RowKit Bs Dv Gr
open Fr (Qg room)
def flagsF(N:Nat)(M:List Int):List Bool:=(List.range N).map fun j:Nat=>decide ((j:Int)∈M)
theorem QaJ(N:Nat)(M:List Int):(flagsF N M).length=N:=by simp[flagsF]
theorem Qe8{N k:Nat}(M:List Int)(h:k<N):(flagsF N M).getD k false=decide ((k:Int)∈M):=by simp[flagsF,List.getD,h]
theorem Qe9(N k:Nat)(M:List Int):(flagsF N M).set k true=flagsF N (M++[(k:Int)]):=by
 apply List.ext_getElem?
 intro j;by_cases hj:j<N
 ·by_cases e:k=j
  ·subst e;rw[List.getElem?_set_self (by rw[QaJ];exact hj)];simp[flagsF,hj]
  ·rw[List.getElem?_set_ne e];have e2:¬(j:Int)=(k:Int):=by omega
   simp[flagsF,hj,e2]
 ·rw[List.getElem?_eq_none (by rw[List.length_set,QaJ];omega),List.getElem?_eq_none (by rw[QaJ];omega)]
theorem QhY(N:Nat):List.replicate N false=flagsF N []:=by
 apply List.ext_getElem?
 intro j;by_cases hj:j<N <;> simp[flagsF,hj]
def freeAll(blocks:Int):List Int→List Int→Prop
 |_,[]=>True
 |M,p :: l=>(p<blocks∧p∉M)∧freeAll blocks (M++[p]) l
theorem Qa2(blocks:Int):∀(l M:List Int),freeAll blocks M l↔(∀p∈l,p<blocks∧p∉M)∧l.Nodup
 | [],M=>by simp[freeAll]
 |p :: l,M=>by
  rw[freeAll,Qa2 blocks l (M++[p]),List.nodup_cons]
  constructor
  ·rintro⟨h1,h2,h3⟩;refine⟨fun q hq=>?_,fun hp=>(h2 p hp).2 (by simp),h3⟩;rcases List.mem_cons.1 hq with rfl|hq
   ·exact h1
   ·exact⟨(h2 q hq).1,fun hm=>(h2 q hq).2 (by simp[hm])⟩
  ·rintro⟨h1,h2,h3⟩;refine⟨h1 p (by simp),fun q hq=>⟨(h1 q (by simp[hq])).1,fun hm=>?_⟩,h3⟩;rcases List.mem_append.1 hm with hm|hm
   ·exact(h1 q (by simp[hq])).2 hm
   ·rw[List.mem_singleton]at hm;subst hm;exact h2 hq
def marks(root:Int):List Int:=[0,1]++(if root=0 then [] else [root])
theorem Qit{s:Sup}(hg:GeoOk s.size s.blocks)(h0:s.gen≠0)(hr:s.root=0∨pageP s.blocks s.root)(hl:(s.pages.length:Int)=pagesF s.size s.blocks)(hw:Ws.IsW s.pages) :
  Valid s↔freeAll s.blocks (marks s.root) s.pages:=by
 rw[Qa2];unfold Valid pagesOk
 constructor
 ·rintro⟨_,_,_,_,h5,h6⟩;refine⟨fun p hp=>?_,h6⟩;obtain⟨h7,h8⟩:=h5 p hp;refine⟨h7.2,fun hm=>?_⟩;have:=h7.1;unfold marks at hm;by_cases e:s.root=0
  ·rw[if_pos e]at hm;simp at hm;omega
  ·rw[if_neg e]at hm;simp at hm;omega
 ·rintro⟨h5,h6⟩;refine⟨hg,h0,hr,hl,fun p hp=>?_,h6⟩;obtain⟨h7,h8⟩:=h5 p hp;have hw1:=hw p hp;unfold marks at h8;by_cases e:s.root=0
  ·rw[if_pos e]at h8;simp at h8;exact⟨⟨by omega,h7⟩,by omega⟩
  ·rw[if_neg e]at h8;simp at h8;exact⟨⟨by omega,h7⟩,h8.2.2⟩
theorem Qbv(g N:Nat)(M:List Int)(p:Int)(w:World)(hN:N≤1000000)(hp:0≤p∧p<4294967296)(hF:Fl w g (flagsF N M)) :
  Calls Tryz.prog 128 #[.slice (some ⟨g,0,none⟩) N N,.int .u32 p] w fun e w'=>Turn w w' (·=g)∧((e=.returned (.bool true)∧(p<(N:Int)∧p∉M)∧Fl w' g (flagsF N (M++[p])))∨(e=.returned (.bool false)∧¬(p<(N:Int)∧p∉M))):=by
 obtain⟨k,rfl⟩:=Int.eq_ofNat_of_zero_le hp.1;by_cases h1:(k:Int)<(N:Int)
 ·have hk:k<N:=by omega
  by_cases h2:(k:Int)∈M
  ·refine(QjM g N k _ w (QaJ N M) hN hk hF (by rw[Qe8 M hk];simpa using h2)).mono fun e w' h=>?_
   obtain⟨rfl,rfl⟩:=h;exact⟨Turn.refl _ _,.inr ⟨rfl,fun h=>h.2 h2⟩⟩
  ·refine(QjK g N k _ w (QaJ N M) hN hk hF (by rw[Qe8 M hk];simpa using h2)).mono fun e w' h=>?_
   obtain⟨rfl,hf,ht⟩:=h;rw[Qe9]at hf;exact⟨ht,.inl ⟨rfl,⟨h1,h2⟩,hf⟩⟩
 ·refine(Qk4 g N _ (k:Int) w (QaJ N M) hN hp (by omega)).mono fun e w' h=>?_
  obtain⟨rfl,rfl⟩:=h;exact⟨Turn.refl _ _,.inr ⟨rfl,fun h=>h1 h.1⟩⟩
theorem Qdo(l:List Int)(k:Nat)(h:k<l.length):l.take (k+1)=l.take k++[l.getD k 0]∧l.drop k=l.getD k 0 :: l.drop (k+1):=by
 have e:l.getD k 0=l[k]:=by simp[List.getD,h]
 rw[e];exact⟨List.take_succ_eq_append_getElem h,List.drop_eq_getElem_cons h⟩
theorem QjO(s:Sup)(a:Option Addr)(n c:Nat)(w:World)(hs:Ws.Seg w a n c s.pages)(ho:SupOk s) :
  Calls Tryz.prog 106 #[.agg #[.int .u64 s.gen,.int .i64 s.size,.int .i64 s.blocks,.int .u32 s.root,.slice a n c]] w fun e w'=>e=.returned (.bool (decide (Valid s)))∧w.grownBy w' none:=by
 have HB0:=hid (SB.new w s a n c);have HG0:=hid (Qb w (.cells #[.int .u64 s.gen,.int .i64 s.size,.int .i64 s.blocks,.int .u32 s.root,.slice a n c] 92));have HW:Hid (Ws.IsW s.pages):=hid (fun x hx=>by have:=ho.pages x hx;omega);have hro:=ho.root;have hgen:=ho.gen;have HVF:=hid (fun(h1:GeoOk s.size s.blocks) h2 h3 h4=>Qit (s:=s) h1 h2 h3 h4 HW.out);have HVD:Hid (Valid s→GeoOk s.size s.blocks∧s.gen≠0∧(s.root=0∨pageP s.blocks s.root)∧(s.pages.length:Int)=pagesF s.size s.blocks):=hid (fun h=>⟨h.1,h.2.1,h.2.2.1,h.2.2.2.1⟩);have HL:=hid hs.len;have hle:=hs.le;have hcap:=hs.cap;unfold maxLen at hcap;have HS:=hid hs;obtain⟨V,hV⟩:∃V,Valid s=V:=⟨_,rfl⟩;have HDV:Hid (∀b:Bool,(V↔b=true)→decide (Valid s)=b):=hid (fun b h=>by
  have:Valid s↔b=true:=by rw[hV];exact h
  by_cases hv:Valid s
  ·rw[decide_eq_true hv,this.1 hv]
  ·rw[decide_eq_false hv];cases b with
   |false=>rfl
   |true=>exact absurd (this.2 rfl) hv)
 rw[hV]at HVF HVD;obtain⟨R,hR⟩:∃R,decide (Valid s)=R:=⟨_,rfl⟩;rw[hR]at HDV;rw[hR];clear hV hR hs ho;obtain⟨gen,size,blocks,root,pages⟩:=s;dsimp only at *;obtain⟨E,hE⟩:∃E,geoE size blocks=E:=⟨_,rfl⟩;have HCQ:Hid (∀W,Calls Tryz.prog 68 #[.agg #[.int .i64 size,.int .i64 blocks]] W fun e w'=>e=.returned (.int .i64 E)∧W.grownBy w' none):=hid (fun W=>(QT size blocks W).mono fun e w' ⟨h1,h2⟩=>⟨by rw[←hE];exact h1,by rw[h2];exact Qb _ _⟩);have HPQ:=hid (fun W=>Qah size blocks W);have HGE:Hid (GeoOk size blocks↔E=0):=hid (by rw[←hE];exact(QaE size blocks).symm);clear hE;obtain⟨P,hP⟩:∃P,pagesF size blocks=P:=⟨_,rfl⟩;rw[hP]at HPQ HVF HVD;clear hP;obtain⟨W0,hW0⟩:∃X,w.alloc (.cells #[.int .u64 gen,.int .i64 size,.int .i64 blocks,.int .u32 root,.slice a n c] 92)=X:=⟨_,rfl⟩;rw[hW0]at HB0;rw[hW0]at HG0;obtain⟨c0,c1,c2,c3,c4⟩:=HB0.out.gw;by_cases q0:E=0
 ·have hgeo:GeoOk size blocks:=HGE.out.2 q0;by_cases q1:gen=0
  ·have e0:(E != 0)=false:=by rw[q0];rfl
   have e1:(gen==0)=true:=beq_iff_eq.2 q1;have HF:Hid (R=false):=hid (HDV.out false ⟨fun h=>absurd q1 (HVD.out h).2.1,fun h=>by cases h⟩);clear q0 q1 hgeo HVF HVD;go_enter Tryz.func106,Tryz.ntmps106
   go_upto_region 1 with (fail)
   refine Qs (by kernel_rfl) ?_
   repeat(go_big_quiet_step (first|(go_at_call 68;with_reducible exact Calls.QS (HCQ.out _))|(go_at_call 71;with_reducible exact Calls.QS (HPQ.out _))|fail))
   refine wpQuiet_nil ?_;rintro _ ⟨p,rfl⟩;have HGF:=hid (Qa HG0.out p.grown);go_wp2;go_ret
   have hF:=HF.out;subst hF;exact⟨rfl,HGF.out⟩
  ·by_cases q2:(n:Int)=P
   ·have e0:(E != 0)=false:=by rw[q0];rfl
    have e1:(gen==0)=false:=beq_eq_false_iff_ne.2 q1;have e2:((n:Int) != P)=false:=by rw[q2];simp
    have hb:8≤blocks∧blocks≤4096:=⟨hgeo.2.2.2.1,hgeo.2.2.2.2⟩;have HFA:Hid ((root=0∨pageP blocks root)→(V↔freeAll blocks (marks root) pages)):=hid (fun h=>HVF.out hgeo q1 h (by rw[HL.out];exact q2));have HRO:Hid (V→root=0∨pageP blocks root):=hid (fun h=>(HVD.out h).2.2.1);obtain⟨N,rfl⟩:=Int.eq_ofNat_of_zero_le (show 0≤blocks by omega);have hN:8≤N∧N≤4096:=by omega
    have hmk:=Qie N (by omega);clear q0 q1 q2 hgeo HVF HVD hb HGE;go_enter Tryz.func106,Tryz.ntmps106
    go_upto_region 1 with (fail)
    refine Qs (by kernel_rfl) ?_
    repeat(go_big_quiet_step (first|(go_at_call 68;with_reducible exact Calls.QS (HCQ.out _))|(go_at_call 71;with_reducible exact Calls.QS (HPQ.out _))|fail))
    refine wpQuiet_nil ?_;rintro _ ⟨p,rfl⟩;have HG1:=hid (Qa HG0.out p.grown);have HB1:=hid (HB0.out.old p.grown);clear c0 c1 c2 c3 c4;obtain⟨w1,hw1⟩:∃X,X=p.at_:=⟨_,rfl⟩;rw[←hw1]at HG1 HB1 ⊢;clear hw1 p;have HFL:=hid (Qls w1 N);have HG2:=hid (Qa HG1.out (Qb w1 (.cells (roomB N) 4)));have HB2:=hid (HB1.out.old (Qb w1 (.cells (roomB N) 4)));have hwg:w.heap.size≤w1.heap.size:=HG1.out.size;have hgg:w.heap.size≠w1.heap.size:=by have:=HB1.out.lt;omega
    obtain⟨-,-,b2,-,-⟩:=HB1.out.cells;clear HB1 HG1;go_wp2;obtain⟨W2,hW2⟩:∃X,w1.alloc (.cells (roomB N) 4)=X:=⟨_,rfl⟩;obtain⟨B,hB⟩:∃g,w1.heap.size=g:=⟨_,rfl⟩;rw[hW2,hB]at HFL;rw[hW2]at HG2 HB2;rw[hB]at hwg hgg;clear b2 hmk
    go_loopw [29] (fun si wr=>∃k:Nat,k≤2∧si=.int .i64 k∧Hid (Fl wr B (flagsF N ([0,1].take k)))∧Hid (Turn W2 wr (·=B))) (fun si _=>2-(intOf si).toNat)
    case atStart=>exact⟨0,by omega,rfl,hid (by rw[hW2];show Fl W2 B (flagsF N []);rw[←QhY];exact HFL.out),hid (by rw[hW2];exact Turn.refl _ _)⟩
    case round=>
     obtain⟨k,hk,rfl,HFk,HTk⟩:=hrel;by_cases hlt:k<2
     ·obtain⟨x0,x1⟩:=HFk.out k (by rw[QaJ];omega);have HF1:Hid (Fl (wr.setCell ⟨B,k,none⟩ (.bool true)) B (flagsF N ([0,1].take (k+1)))):=hid (by
       have h:=HFk.out.set k;rw[Qe9]at h;rcases(show k=0∨k=1 by omega) with rfl|rfl <;> exact h)
      have HT1:Hid (Turn W2 (wr.setCell ⟨B,k,none⟩ (.bool true)) (·=B)):=hid (HTk.out.trans (Turn.setCell _ _ _ (S:=(·=B)) rfl) (fun _ _ e=>e));obtain⟨x,hx⟩:∃x,(flagsF N ([0,1].take k)).getD k false=x:=⟨_,rfl⟩;rw[hx]at x0;clear hx;go_wp2;go_roundw
      case rel=>exact⟨k+1,by omega,by go_num,HF1,HT1⟩
      case measure=>simp[intOf];omega
     ·obtain rfl:k=2:=by omega
      have HF2:Hid (Fl wr B (flagsF N [0,1])):=HFk;have HB3:=hid (HB2.out.not HTk.out hgg);have HG3:=hid (Qh HG2.out HTk.out hwg);obtain⟨-,-,-,b3,-⟩:=HB3.out.cells;clear HFk HTk HB2 HG2 HFL hW2;by_cases hr0:root=0
      ·have q0:(root != 0)=false:=by rw[hr0];rfl
       have HVA:Hid (V↔freeAll (N:Int) (marks root) pages):=hid (HFA.out (.inl hr0));have HFA1:Hid (Fl wr B (flagsF N (marks root))):=hid (by unfold marks;rw[if_pos hr0];exact HF2.out);have HGA:=HG3;have HBA:=HB3;clear hr0 HFA HRO HF2 HG3 HB3;obtain⟨-,-,-,-,b4⟩:=HBA.out.cells;go_wp2;clear b3 b4 HBA
       go_loopw [49] (fun si wr=>∃k:Nat,k≤n∧si=.int .i64 k∧Hid (Fl wr B (flagsF N (marks root++pages.take k)))∧Hid (w.grownBy wr none)∧Hid (V↔freeAll (N:Int) (marks root++pages.take k) (pages.drop k))) (fun si _=>n-(intOf si).toNat)
       case atStart=>exact⟨0,Nat.zero_le _,rfl,hid (by rw[List.take_zero,List.append_nil];exact HFA1.out),HGA,hid (by rw[List.take_zero,List.append_nil];exact HVA.out)⟩
       case round=>
        clear HGA HFA1 HVA;obtain⟨k,hk,rfl,HFk,HGk,HVk⟩:=hrel;by_cases hlt:k<n
        ·have HTD:=Qdo pages k (by rw[HL.out];exact hlt);obtain⟨ga,oa,rfl,hc⟩:=(HS.out.grown HGk.out).addr (by omega);have hck:=hc k hlt;have hp:=bd HW.out k;obtain⟨p,hpp⟩:∃p,pages.getD k 0=p:=⟨_,rfl⟩;rw[hpp]at HTD hck hp;have HT:=hid HTD;have HTA:=hid (Qbv B N (marks root++pages.take k) p wr (by omega) hp HFk.out);clear hc hpp HTD;go_wp2_with fail
         refine HTA.out.mono ?_;rintro e w4 ⟨ht,h⟩;have HG4:=hid (Qh HGk.out ht hwg);rcases h with ⟨rfl,hin,hf⟩|⟨rfl,hno⟩
         ·have HF4:Hid (Fl w4 B (flagsF N (marks root++pages.take (k+1)))):=hid (by rw[HT.out.1,←List.append_assoc];exact hf);have HV4:Hid (V↔freeAll (N:Int) (marks root++pages.take (k+1)) (pages.drop (k+1))):=hid (by
           rw[HVk.out,HT.out.2,freeAll,HT.out.1,←List.append_assoc];exact and_iff_right hin)
          clear ht hin hf HTA HGk HFk HVk hck;dsimp only;go_wp2;go_roundw
          case rel=>exact⟨k+1,by omega,by go_num,HF4,HG4,HV4⟩
          case measure=>simp[intOf];omega
         ·have hR:R=false:=HDV.out false ⟨fun hv=>by rw[HVk.out,HT.out.2,freeAll]at hv;exact absurd hv.1 hno,fun h=>by cases h⟩;clear ht hno HTA HGk HFk HVk hck;dsimp only;go_wp2;go_ret
          subst hR;exact⟨rfl,HG4.out⟩
        ·obtain rfl:k=n:=by omega
         have hR:R=true:=HDV.out true ⟨fun _=>rfl,fun _=>by rw[HVk.out,List.drop_of_length_le (by rw[HL.out];exact Nat.le_refl _)];exact trivial⟩;clear HFk HVk;go_wp2;go_ret
         subst hR;exact⟨rfl,HGk.out⟩
      ·have q0:(root != 0)=true:=bne_iff_ne.2 hr0;have HTA:=hid (Qbv B N [0,1] root wr (by omega) hro HF2.out);go_wp2_with fail
       refine HTA.out.mono ?_;rintro e w4 ⟨ht,h⟩;have HGA:=hid (Qh HG3.out ht hwg);have HBA:=hid (HB3.out.not ht hgg);rcases h with ⟨rfl,hin,hf⟩|⟨rfl,hno⟩
       ·have hpg:pageP (N:Int) root:=by
         have h2:=hin.2;simp at h2;exact⟨by omega,hin.1⟩
        have HVA:Hid (V↔freeAll (N:Int) (marks root) pages):=hid (HFA.out (.inr hpg));have HFA1:Hid (Fl w4 B (flagsF N (marks root))):=hid (by unfold marks;rw[if_neg hr0];exact hf);clear hr0 HFA HRO HF2 HG3 HB3 ht hin hf HTA b3 hpg;dsimp only;obtain⟨-,-,-,-,b4⟩:=HBA.out.cells;go_wp2;clear b4 HBA
        go_loopw [49] (fun si wr=>∃k:Nat,k≤n∧si=.int .i64 k∧Hid (Fl wr B (flagsF N (marks root++pages.take k)))∧Hid (w.grownBy wr none)∧Hid (V↔freeAll (N:Int) (marks root++pages.take k) (pages.drop k))) (fun si _=>n-(intOf si).toNat)
        case atStart=>exact⟨0,Nat.zero_le _,rfl,hid (by rw[List.take_zero,List.append_nil];exact HFA1.out),HGA,hid (by rw[List.take_zero,List.append_nil];exact HVA.out)⟩
        case round=>
         clear HGA HFA1 HVA;obtain⟨k,hk,rfl,HFk,HGk,HVk⟩:=hrel;by_cases hlt:k<n
         ·have HTD:=Qdo pages k (by rw[HL.out];exact hlt);obtain⟨ga,oa,rfl,hc⟩:=(HS.out.grown HGk.out).addr (by omega);have hck:=hc k hlt;have hp:=bd HW.out k;obtain⟨p,hpp⟩:∃p,pages.getD k 0=p:=⟨_,rfl⟩;rw[hpp]at HTD hck hp;have HT:=hid HTD;have HTA:=hid (Qbv B N (marks root++pages.take k) p wr (by omega) hp HFk.out);clear hc hpp HTD;go_wp2_with fail
          refine HTA.out.mono ?_;rintro e w4 ⟨ht,h⟩;have HG4:=hid (Qh HGk.out ht hwg);rcases h with ⟨rfl,hin,hf⟩|⟨rfl,hno⟩
          ·have HF4:Hid (Fl w4 B (flagsF N (marks root++pages.take (k+1)))):=hid (by rw[HT.out.1,←List.append_assoc];exact hf);have HV4:Hid (V↔freeAll (N:Int) (marks root++pages.take (k+1)) (pages.drop (k+1))):=hid (by
            rw[HVk.out,HT.out.2,freeAll,HT.out.1,←List.append_assoc];exact and_iff_right hin)
           clear ht hin hf HTA HGk HFk HVk hck;dsimp only;go_wp2;go_roundw
           case rel=>exact⟨k+1,by omega,by go_num,HF4,HG4,HV4⟩
           case measure=>simp[intOf];omega
          ·have hR:R=false:=HDV.out false ⟨fun hv=>by rw[HVk.out,HT.out.2,freeAll]at hv;exact absurd hv.1 hno,fun h=>by cases h⟩;clear ht hno HTA HGk HFk HVk hck;dsimp only;go_wp2;go_ret
           subst hR;exact⟨rfl,HG4.out⟩
         ·obtain rfl:k=n:=by omega
          have hR:R=true:=HDV.out true ⟨fun _=>rfl,fun _=>by rw[HVk.out,List.drop_of_length_le (by rw[HL.out];exact Nat.le_refl _)];exact trivial⟩;clear HFk HVk;go_wp2;go_ret
          subst hR;exact⟨rfl,HGk.out⟩
       ·have hR:R=false:=HDV.out false ⟨fun hv=>by
         rcases HRO.out hv with h|h
         ·exact absurd h hr0
         ·exact absurd ⟨h.2,by have:=h.1;simp;omega⟩ hno,fun h=>by cases h⟩
        clear hr0 HFA HRO HF2 HG3 HB3 ht hno HTA b3;dsimp only;go_wp2;go_ret
        subst hR;exact⟨rfl,HGA.out⟩
   ·have e0:(E != 0)=false:=by rw[q0];rfl
    have e1:(gen==0)=false:=beq_eq_false_iff_ne.2 q1;have e2:((n:Int) != P)=true:=bne_iff_ne.2 q2;have HF:Hid (R=false):=hid (HDV.out false ⟨fun h=>absurd (by rw[←HL.out];exact(HVD.out h).2.2.2) q2,fun h=>by cases h⟩);clear q0 q1 q2 hgeo HVF HVD;go_enter Tryz.func106,Tryz.ntmps106
    go_upto_region 1 with (fail)
    refine Qs (by kernel_rfl) ?_
    repeat(go_big_quiet_step (first|(go_at_call 68;with_reducible exact Calls.QS (HCQ.out _))|(go_at_call 71;with_reducible exact Calls.QS (HPQ.out _))|fail))
    refine wpQuiet_nil ?_;rintro _ ⟨p,rfl⟩;have HGF:=hid (Qa HG0.out p.grown);go_wp2;go_ret
    have hF:=HF.out;subst hF;exact⟨rfl,HGF.out⟩
 ·have e0:(E != 0)=true:=bne_iff_ne.2 q0;have HF:Hid (R=false):=hid (HDV.out false ⟨fun h=>absurd (HGE.out.1 (HVD.out h).1) q0,fun h=>by cases h⟩);clear q0 HVF HVD;go_enter Tryz.func106,Tryz.ntmps106
  go_upto_region 1 with (fail)
  refine Qs (by kernel_rfl) ?_
  repeat(go_big_quiet_step (first|(go_at_call 68;with_reducible exact Calls.QS (HCQ.out _))|(go_at_call 71;with_reducible exact Calls.QS (HPQ.out _))|fail))
  refine wpQuiet_nil ?_;rintro _ ⟨p,rfl⟩;have HGF:=hid (Qa HG0.out p.grown);go_wp2;go_ret
  have hF:=HF.out;subst hF;exact⟨rfl,HGF.out⟩
end Su
namespace Su
open Go.RowKit Bs Dv Gr
open Fr (room)
theorem Qc4(s:Sup)(a:Option Addr)(n c:Nat)(w:World)(hs:Ws.Seg w a n c s.pages)(ho:SupOk s) :
  Calls Tryz.prog 72 #[.agg #[.int .u64 s.gen,.int .i64 s.size,.int .i64 s.blocks,.int .u32 s.root,.slice a n c]] w fun e w'=>e=.returned (.int .i64 (supE s))∧w.grownBy w' none:=by
 have HB0:=hid (SB.new w s a n c);have HG0:=hid (Qb w (.cells #[.int .u64 s.gen,.int .i64 s.size,.int .i64 s.blocks,.int .u32 s.root,.slice a n c] 92));obtain⟨W0,hW0⟩:∃X,w.alloc (.cells #[.int .u64 s.gen,.int .i64 s.size,.int .i64 s.blocks,.int .u32 s.root,.slice a n c] 92)=X:=⟨_,rfl⟩;rw[hW0]at HB0 HG0;have HV:=hid (QjO s a n c W0 (hs.grown HG0.out) ho);have HR:=hid (fun W=>Fr.Qan s.size W);have HL:=hid hs.len;obtain⟨b,hb⟩:∃b,decide (Valid s)=b:=⟨_,rfl⟩;rw[hb]at HV;have hle:=hs.le;have hcap:=hs.cap;unfold maxLen at hcap;obtain⟨q0,q1,q2,q3,q4⟩:=HB0.out.cells;cases b with
 |false=>
  have hE:supE s=2:=by unfold supE;rw[if_neg (of_decide_eq_false hb)]
  rw[hE];clear hb hE hs ho;go_enter Tryz.func72,Tryz.ntmps72
  go_wp2_with fail
  refine HV.out.mono ?_;rintro e w1 ⟨rfl,hg⟩;have HG1:=hid (Qa HG0.out hg);clear hg q0 q1 q2 q3 q4 HV;dsimp only;go_wp2;go_ret
  exact⟨rfl,HG1.out⟩
 |true=>
  have hv:Valid s:=of_decide_eq_true hb;have hE:supE s=if room s.size<14+4*(n:Int) then 3 else 0:=by unfold supE;rw[if_pos hv,HL.out]
  have hn:n≤74:=by
   have h1:=hv.2.2.2.1;have h2:=QB hv.1;rw[HL.out]at h1;omega
  rw[hE];obtain⟨r,hr⟩:∃r,room s.size=r:=⟨_,rfl⟩;rw[hr]at HR ⊢;have e1:IntKind.i64.wrap (4*(n:Int))=4*(n:Int):=IntWalk.i64_in _ (by omega);have e2:IntKind.i64.wrap (14+4*(n:Int))=14+4*(n:Int):=IntWalk.i64_in _ (by omega);clear hb hE hs ho hv hr;by_cases h3:r<14+4*(n:Int)
  ·rw[if_pos h3];have e3:decide (r<14+4*(n:Int))=true:=decide_eq_true h3;clear h3;go_enter Tryz.func72,Tryz.ntmps72
   go_wp2_with fail
   refine HV.out.mono ?_;rintro e w1 ⟨rfl,hg⟩;have HG1:=hid (Qa HG0.out hg);obtain⟨c0,c1,c2,c3,c4⟩:=(HB0.out.old hg).gw;clear hg q0 q1 q2 q3 q4 HV;dsimp only;go_upto_region 3 with (fail)
   refine Qs (by kernel_rfl) ?_
   repeat(go_big_quiet_step (first|(go_at_call 105;with_reducible exact Calls.QS (HR.out _))|fail))
   refine wpQuiet_nil ?_;rintro _ ⟨p,rfl⟩;have HGF:=hid (Qa HG1.out p.grown);clear c0 c1 c2 c3 c4;go_wp2;go_ret
   exact⟨rfl,HGF.out⟩
  ·rw[if_neg h3];have e3:decide (r<14+4*(n:Int))=false:=decide_eq_false h3;clear h3;go_enter Tryz.func72,Tryz.ntmps72
   go_wp2_with fail
   refine HV.out.mono ?_;rintro e w1 ⟨rfl,hg⟩;have HG1:=hid (Qa HG0.out hg);obtain⟨c0,c1,c2,c3,c4⟩:=(HB0.out.old hg).gw;clear hg q0 q1 q2 q3 q4 HV;dsimp only;go_upto_region 3 with (fail)
   refine Qs (by kernel_rfl) ?_
   repeat(go_big_quiet_step (first|(go_at_call 105;with_reducible exact Calls.QS (HR.out _))|fail))
   refine wpQuiet_nil ?_;rintro _ ⟨p,rfl⟩;have HGF:=hid (Qa HG1.out p.grown);clear c0 c1 c2 c3 c4;go_wp2;go_ret
   exact⟨rfl,HGF.out⟩
end Su
namespace Su
open Go.RowKit Bs Dv Gr
open Oct (putB)
open Ref1 (GrowB)
theorem Qfr{w w':World}{base e s n:Nat}{v:Value}{xs:List Value}(h:w.ownsRow base e s v n xs)(hg:w.grownBy w' none):w'.ownsRow base e s v n xs:=
 h.kept hg (by cases hv:v.ownBlock <;> simp)
theorem QbL{B:Nat}{w w':World}(h:w.grownBy w' none)(hB:B≤w.heap.size):Below B w w':=(Below.refl B w).grown h hB (fun _ e=>by cases e)
theorem QL{w:World}{base e n:Nat}{v:Value}{xs:List Value}(h:w.ownsRow base e 1 v n xs)(h0:0<n):∃g c,v=.slice (some ⟨g,0,none⟩) n c:=by
 rcases h.2 with ⟨rfl,rfl⟩|⟨g,c,cur,rfl,_⟩
 ·omega
 ·exact⟨g,c,rfl⟩
def szL:List Nat:=[4,4,4,2]
def T4(w:World):Prop:=∀j,j<4→w.cell? ⟨0,j,none⟩=some (.int .i64 ((szL.getD j 0:Nat):Int))
theorem T4.grown{w w':World}(h:T4 w)(k:w.grownBy w' none):T4 w':=fun j hj=>k.cell (h j hj) (by simp)
theorem T4.below{w w':World}(h:T4 w)(k:Below w.heap.size w w'):T4 w':=h.grown (below_grown k)
theorem sz_bd{k:Nat}(h:k<4):1≤szL.getD k 0∧szL.getD k 0≤8:=by
 rcases(show k=0∨k=1∨k=2∨k=3 by omega) with rfl|rfl|rfl|rfl <;> decide
def headB(v:List Int):Nat→List Int
 |0=>[]
 |k+1=>headB v k++putB (szL.getD k 0) (v.getD k 0)
def headN:Nat→Nat
 |0=>0
 |k+1=>headN k+szL.getD k 0
theorem Qf1(v:List Int):∀k,(headB v k).length=headN k
 |0=>rfl
 |k+1=>by rw[headB,List.length_append,Qf1 v k,Oct.Qe];rfl
theorem head_data(s:Sup):headB [s.size,s.blocks,s.root,(s.pages.length:Int)] 4++fours s.pages=dataS s:=by
 show((([]++putB 4 s.size)++putB 4 s.blocks)++putB 4 s.root)++putB 2 (s.pages.length:Int)++fours s.pages=dataS s
 unfold dataS;simp only[List.nil_append,List.append_assoc]
theorem Qdl{fn:Func}{p:Tmp}{ty:TypeId}(h:fn.results=#[.cell p ty])(tmps:Array Value)(P:Program)(w:World) :
  (results fn tmps).run P w=((asAddr (tmps.getD p undef)).run P w).andThen fun a w₁=>(loadVar ty a).run P w₁:=by
 simp only[results,h];simp[Sem.run_bind,Result.andThen]
theorem Qcn{P:Program}{fn:Func}{p:Tmp}{ty:TypeId}(h:fn.results=#[.cell p ty])(tmps:Array Value)(w:World)(g:Nat)(t:TypeId)(cs:Array Value)(fr:Nat×Nat)(d:TypeDesc)
  (hp:tmps.getD p undef=.pointer (some ⟨g,0,none⟩)) (hg:w.heap[g]?=some (.cells cs t fr))
  (hu:P.underlying ty=some d) (hd:(match d with | .struct _ | .array _ _=>true|_=>false)=true) (hi:(P.info? ty).map (·.size)=some cs.size) :
  (results fn tmps).run P w=.ok (.agg cs) w:=by
 rw[Qdl h,hp];simp[asAddr,Result.andThen,run_loadVar_row w g t ty cs fr d hg hu hd hi]
def HB(w:World)(g:Nat)(gen size blocks root m:Int):Prop:=w.heap[g]?=some (.cells #[.int .u64 gen,.int .i64 size,.int .i64 blocks,.int .u32 root,.int .i64 m] 217 (0,0))
theorem HB.old{w w':World}{g:Nat}{gen size blocks root m:Int}(h:HB w g gen size blocks root m)(k:w.grownBy w' none):HB w' g gen size blocks root m:=Qd h k
theorem HB.cells{w:World}{g:Nat}{gen size blocks root m:Int}(h:HB w g gen size blocks root m):w.cell? ⟨g,0,none⟩=some (.int .u64 gen)∧w.cell? ⟨g,1,none⟩=some (.int .i64 size)∧w.cell? ⟨g,2,none⟩=some (.int .i64 blocks) ∧
  w.cell? ⟨g,3,none⟩=some (.int .u32 root)∧w.cell? ⟨g,4,none⟩=some (.int .i64 m):=by
 refine⟨?_,?_,?_,?_,?_⟩ <;> rw[cell_of_row w g _ _ _ _ h] <;> rfl
theorem Qdc:(Tryz.prog.info? 217).map (·.size)=some 5:=by kernel_rfl
theorem QaU{w:World}{ops:Array Oper}{rest:List Oper}{o:Oper}{a:Act}{Q:Exit→Act→World→Prop}(hgd:o.guard=none)(x y:Operand)(ho:o.op=.store 217 x y)
  (g:Nat) (hx:a.eval x=.pointer (some ⟨g,0,none⟩)) (gen size blocks root m:Int) (hy:a.eval y=.agg #[.int .u64 gen,.int .i64 size,.int .i64 blocks,.int .u32 root,.int .i64 m])
  (o0 o1 o2 o3 o4:Int) (hg:HB w g o0 o1 o2 o3 o4)
  (h:∀w',HB w' g gen size blocks root m→Turn w w' (·=g)→wpList Tryz.prog ops Q rest (a.put o.dst undef) w'):wpList Tryz.prog ops Q (o :: rest) a w:=by
 refine wpList_store_row hgd _ x y ho g _ hx hy _ _ hg Qdc rfl (by simp[Value.oneCell']) ?_;exact h _ (setRow_heap w g _ _ _ _ hg) ⟨rfl,rfl,rfl,by simp[World.setRow],fun k _ hk=>setRow_other w g k _ hk⟩
theorem Qeq(s:Sup)(a:Option Addr)(n c:Nat)(w:World) :
  Calls Tryz.prog 141 #[.agg #[.int .u64 s.gen,.int .i64 s.size,.int .i64 s.blocks,.int .u32 s.root,.slice a n c]] w fun e w'=>e=.returned (.agg #[.int .u64 s.gen,.int .i64 s.size,.int .i64 s.blocks,.int .u32 s.root,.int .i64 n])∧w.grownBy w' none:=by
 have HB0:=hid (SB.new w s a n c);have HG0:=hid (Qb w (.cells #[.int .u64 s.gen,.int .i64 s.size,.int .i64 s.blocks,.int .u32 s.root,.slice a n c] 92));obtain⟨W0,hW0⟩:∃X,w.alloc (.cells #[.int .u64 s.gen,.int .i64 s.size,.int .i64 s.blocks,.int .u32 s.root,.slice a n c] 92)=X:=⟨_,rfl⟩;rw[hW0]at HB0 HG0;have Q0:Hid (HB (W0.alloc (.cells #[.int .u64 0,.int .i64 0,.int .i64 0,.int .u32 0,.int .i64 0] 217)) W0.heap.size 0 0 0 0 0):=hid (heap_alloc_new W0 _);have HG1:=hid (Qa HG0.out (Qb W0 (.cells #[.int .u64 0,.int .i64 0,.int .i64 0,.int .u32 0,.int .i64 0] 217)));obtain⟨c0,c1,c2,c3,c4⟩:=(HB0.out.old (Qb W0 (.cells #[.int .u64 0,.int .i64 0,.int .i64 0,.int .u32 0,.int .i64 0] 217))).cells;have hsz:w.heap.size≤W0.heap.size:=HG0.out.size;go_enter Tryz.func141,Tryz.ntmps141
 go_wp2_with (first
  |(with_reducible refine QaU rfl (.tmp 2) (.tmp 12) rfl W0.heap.size rfl s.gen s.size s.blocks s.root n rfl _ _ _ _ _ Q0.out ?_;intro w2 hq2 ht2)
  |fail)
 refine bodyPost_ret (Qcn rfl _ _ _ _ _ (0,0) _ rfl hq2 Tryz.underlying217 rfl Qdc) rfl ⟨rfl,Qh HG1.out ht2 hsz⟩
theorem u64n{n:Nat}(h:n≤1000000):IntKind.u64.wrap (n:Int)=(n:Int):=by rw[IntKind.wrap_u64];omega
theorem u64i{v:Int}(h:0≤v∧v<4294967296):IntKind.u64.wrap v=v:=by rw[IntKind.wrap_u64];omega
theorem Qg3(gen size blocks root:Int)(n:Nat)(w:World)(h1:0≤size∧size<4294967296)(h2:0≤blocks∧blocks<4294967296)(h3:0≤root∧root<4294967296)(h4:n≤1000000)(hT:T4 w) :
  Calls Tryz.prog 142 #[.agg #[.int .u64 gen,.int .i64 size,.int .i64 blocks,.int .u32 root,.int .i64 n]] w (GrowB w.heap.size w (headB [size,blocks,root,(n:Int)] 4) 14):=by
 obtain⟨i0,hi,hz0,hz1,hz2⟩:=info_parts QU;have e1:=u64i h1;have e2:=u64i h2;have e3:=u64i h3;have e4:=u64n h4;have hv:∀k:Nat,k<4→∀W,(Instr.index 233 (.agg #[.int .u64 size,.int .u64 blocks,.int .u64 root,.int .u64 n]) (.int .i64 (k:Int))).run Tryz.prog W=.ok (.int .u64 ([size,blocks,root,(n:Int)].getD k 0)) W:=fun k hk W=>by
  rcases(show k=0∨k=1∨k=2∨k=3 by omega) with rfl|rfl|rfl|rfl <;> rfl
 have hvb:∀k,k<4→0≤[size,blocks,root,(n:Int)].getD k 0∧[size,blocks,root,(n:Int)].getD k 0<18446744073709551616:=fun k hk=>by
  rcases(show k=0∨k=1∨k=2∨k=3 by omega) with rfl|rfl|rfl|rfl <;> simp <;> omega
 have HV:=hid hv;have HVB:=hid hvb;have B0:Hid (HB (w.alloc (.cells #[.int .u64 gen,.int .i64 size,.int .i64 blocks,.int .u32 root,.int .i64 n] 217)) w.heap.size gen size blocks root n):=hid (heap_alloc_new w _);have G0:=hid (Qb w (.cells #[.int .u64 gen,.int .i64 size,.int .i64 blocks,.int .u32 root,.int .i64 n] 217));obtain⟨W0,hW0⟩:∃X,w.alloc (.cells #[.int .u64 gen,.int .i64 size,.int .i64 blocks,.int .u32 root,.int .i64 n] 217)=X:=⟨_,rfl⟩;rw[hW0]at B0 G0;have HL0:=hid (QbL G0.out (Nat.le_refl w.heap.size));have HT:=hid hT;obtain⟨c0,c1,c2,c3,c4⟩:=B0.out.cells;obtain⟨v,hvv⟩:∃v,[size,blocks,root,(n:Int)]=v:=⟨_,rfl⟩;rw[hvv]at HV HVB ⊢;clear h1 h2 h3 h4 hv hvb hT hvv;go_enter Tryz.func142,Tryz.ntmps142
 go_wp2;clear c0 c1 c2 c3 c4 B0
 go_loopw [3,21] (fun so si wr=>∃(k:Nat) (V:Value),k≤4∧si=.int .i64 k∧V=so∧Hid (wr.ownsRow w.heap.size 5 1 V (headN k) ((headB v k).map (Value.int .u8)))∧Hid (Below w.heap.size w wr)) (fun _ si _=>4-(intOf si).toNat)
 case atStart=>exact⟨0,_,Nat.zero_le _,rfl,rfl,hid ⟨rfl,.inl ⟨rfl,rfl⟩⟩,HL0⟩
 case round=>
  obtain⟨k,V,hk,rfl,rfl,HO,HB1⟩:=hrel;by_cases hlt:k<4
  ·have hsz:=sz_bd hlt;have t1:=(HT.out.below HB1.out) k hlt;have hx:=HV.out k hlt;have hxb:=HVB.out k hlt;have hN:headN k≤100:=by rcases(show k=0∨k=1∨k=2∨k=3 by omega) with rfl|rfl|rfl|rfl <;> decide
   have HS:Hid (headB v (k+1)=headB v k++putB (szL.getD k 0) (v.getD k 0)∧headN (k+1)=headN k+szL.getD k 0):=hid ⟨rfl,rfl⟩;obtain⟨m,hm⟩:∃m,szL.getD k 0=m:=⟨_,rfl⟩;obtain⟨x,hxx⟩:∃x,v.getD k 0=x:=⟨_,rfl⟩;obtain⟨q,hq⟩:∃q,headN k=q:=⟨_,rfl⟩;rw[hm]at hsz t1 HS;rw[hxx]at hx hxb HS;rw[hq]at HO hN HS;clear hm hxx hq;have HP:=hid (Oct.Qu none 0 0 [] x m wr (Seg.nil wr) hxb.1 hxb.2 hsz.1 hsz.2 (by decide));clear hxb;go_wp2_with fail
   refine HP.out.mono ?_;rintro e w1 hnew;rw[List.nil_append]at hnew;obtain⟨g,q1,rfl,hf⟩:=hnew.value;obtain⟨hq1,hown1,hg⟩:=hf.is;rw[Oct.Qe]at hq1;subst hq1;have HSG:=hid ((Seg.own hown1).at_ _ rfl);have HO1:=hid (Qfr HO.out hg);have HB2:=hid (HB1.out.trans (QbL hg HB1.out.size));have hsz1:w.heap.size≤w1.heap.size:=HB2.out.size;have HL:Hid (((putB q1 x).map (Value.int .u8)).length=q1*1):=hid (by rw[List.length_map,Oct.Qe,Nat.mul_one]);clear hnew hf hown1 hg HO HB1 HP t1 hx;dsimp only;go_wp2_with (first
    |(at_builtin;refine wpList_append_own _ rfl (.tmp 25) (.tmp 30) 46 rfl w.heap.size 5 i0 (.int .u8 0) 1 1 Tryz.underlying46 hi hz0 hz1 hz2 rfl (by decide) V q ((headB v k).map (Value.int .u8)) rfl HO1.out ⟨g,0,none⟩ q1 q1 ((putB q1 x).map (Value.int .u8)) rfl HL.out HSG.out (ints_oneCell _ _) (by unfold maxLen;omega) (by omega) hsz1 ?_;intro v' w2 hown2 hgrow2 _)
    |fail)
   have HO2:Hid (w2.ownsRow w.heap.size 5 1 v' (headN (k+1)) ((headB v (k+1)).map (Value.int .u8))):=hid (by rw[HS.out.1,HS.out.2,List.map_append];exact hown2);have HB3:=hid (HB2.out.grown hgrow2 hsz1 (fun i e=>(HO1.out.lt i e).1));clear hown2 hgrow2 HO1 HB2;go_roundw
   case rel=>exact⟨k+1,_,by omega,by go_num,rfl,HO2,HB3⟩
   case measure=>simp[intOf];omega
  ·obtain rfl:k=4:=by omega
   obtain⟨g',c',rfl⟩:=QL HO.out (by decide);have HF:Hid (GrowB w.heap.size w (headB v 4) 14 (.returned (.slice (some ⟨g',0,none⟩) 14 c')) wr):=hid ⟨g',c',rfl,HO.out,HB1.out⟩;clear HO HB1;go_wp2;go_ret
   exact HF.out
end Su
namespace Su
open Go.RowKit Bs Dv Gr
open Oct (putB)
open Ref1 (GrowB)
open Fr (putF FmOk strE)
theorem QcL(l:List Int)(k:Nat)(h:k<l.length):fours (l.take (k+1))=fours (l.take k)++putB 4 (l.getD k 0):=by
 rw[(Qdo l k h).1,Qfa]
 show _++(putB 4 _++[])=_
 rw[List.append_nil]
theorem Qj1(s:Sup)(a:Option Addr)(n c:Nat)(w:World)(hs:Ws.Seg w a n c s.pages)(ho:SupOk s)(h1:0≤s.size∧s.size<4294967296)(h2:0≤s.blocks∧s.blocks<4294967296)(h4:n≤100000)(hT:T4 w) :
  Calls Tryz.prog 122 #[.agg #[.int .u64 s.gen,.int .i64 s.size,.int .i64 s.blocks,.int .u32 s.root,.slice a n c]] w fun e w'=>e=.returned (.string (strOfNums (dataS s)))∧w.grownBy w' none:=by
 obtain⟨i0,hi,hz0,hz1,hz2⟩:=info_parts QU;have HB0:=hid (SB.new w s a n c);have HG0:=hid (Qb w (.cells #[.int .u64 s.gen,.int .i64 s.size,.int .i64 s.blocks,.int .u32 s.root,.slice a n c] 92));obtain⟨W0,hW0⟩:∃X,w.alloc (.cells #[.int .u64 s.gen,.int .i64 s.size,.int .i64 s.blocks,.int .u32 s.root,.slice a n c] 92)=X:=⟨_,rfl⟩;rw[hW0]at HB0 HG0;have HH:=hid (Qeq s a n c W0);have HPT:=hid (fun W (k:w.grownBy W none)=>Qg3 s.gen s.size s.blocks s.root n W h1 h2 ho.root (by omega) (hT.grown k));have HW:Hid (Ws.IsW s.pages):=hid (fun x hx=>by have:=ho.pages x hx;omega);have HD:Hid (dataS s=headB [s.size,s.blocks,s.root,(n:Int)] 4++fours s.pages):=hid (by rw[←head_data,hs.len]);have HHL:Hid ((headB [s.size,s.blocks,s.root,(n:Int)] 4).length=14):=hid (Qf1 _ 4);have HL:=hid hs.len;have hle:=hs.le;have hcap:=hs.cap;unfold maxLen at hcap;have HS:=hid hs;obtain⟨H,hH⟩:∃H,headB [s.size,s.blocks,s.root,(n:Int)] 4=H:=⟨_,rfl⟩;rw[hH]at HD HPT HHL;have HIB:=hid (QaZ s);clear hH hs ho h1 h2 hT;obtain⟨q0,q1,q2,q3,q4⟩:=HB0.out.cells;go_enter Tryz.func122,Tryz.ntmps122
 go_wp2_with fail
 refine HH.out.mono ?_;rintro e w1 ⟨rfl,hg⟩;have HG1:=hid (Qa HG0.out hg);have HB1:=hid (HB0.out.old hg);clear hg q0 q1 q2 q3 q4 HH HB0;dsimp only;go_wp2_with fail
 refine(HPT.out w1 HG1.out).mono ?_;rintro e w2 ⟨g,cc,rfl,hown,hbel⟩;have HG2:=hid (Qa HG1.out (below_grown hbel));have HB2:=hid (HB1.out.old (below_grown hbel));have hsz0:w.heap.size≤w1.heap.size:=HG1.out.size;have HO2:Hid (w2.ownsRow w.heap.size 5 1 (.slice (some ⟨g,0,none⟩) 14 cc) 14 (H.map (Value.int .u8))):=hid (QA hown hsz0);have HL2:=hid (QbL HG2.out (Nat.le_refl w.heap.size));obtain⟨-,-,-,-,b4⟩:=HB2.out.cells;clear hown hbel HB1 HPT HG1;dsimp only;go_wp2;clear b4 HB2
 go_loopw [3,12] (fun so si wr=>∃(k:Nat) (V:Value),k≤n∧si=.int .i64 k∧V=so∧Hid (wr.ownsRow w.heap.size 5 1 V (14+4*k) ((H++fours (s.pages.take k)).map (Value.int .u8)))∧Hid (Below w.heap.size w wr)) (fun _ si _=>n-(intOf si).toNat)
 case atStart=>exact⟨0,_,Nat.zero_le _,rfl,rfl,by rw[List.take_zero];show Hid (w2.ownsRow _ _ _ _ _ ((H++[]).map _));rw[List.append_nil];exact HO2,HL2⟩
 case round=>
  clear HO2 HL2 hsz0;obtain⟨k,V,hk,rfl,rfl,HO,HB1⟩:=hrel;by_cases hlt:k<n
  ·obtain⟨ga,oa,rfl,hc⟩:=(HS.out.grown (below_grown HB1.out)).addr (by omega);have hck:=hc k hlt;have hp:=bd HW.out k;have HF4:=hid (QcL s.pages k (by rw[HL.out];exact hlt));obtain⟨x,hx⟩:∃x,s.pages.getD k 0=x:=⟨_,rfl⟩;rw[hx]at hck hp HF4;have e1:=u64i hp;have HP:=hid (Oct.Qu none 0 0 [] x 4 wr (Seg.nil wr) hp.1 (by omega) (by decide) (by decide) (by decide));clear hc hx;go_wp2_with fail
   refine HP.out.mono ?_;rintro e w3 hnew;rw[List.nil_append]at hnew;obtain⟨g3,q1,rfl,hf⟩:=hnew.value;obtain⟨hq1,hown1,hg⟩:=hf.is;rw[Oct.Qe]at hq1;subst hq1;have HSG:=hid ((Seg.own hown1).at_ _ rfl);have HO1:=hid (Qfr HO.out hg);have HB2:=hid (HB1.out.trans (QbL hg HB1.out.size));have hsz1:w.heap.size≤w3.heap.size:=HB2.out.size;have HLL:Hid (((putB 4 x).map (Value.int .u8)).length=4*1):=hid (by rw[List.length_map,Oct.Qe]);clear hnew hf hown1 hg HO HB1 HP hck;dsimp only;go_wp2_with (first
    |(at_builtin;refine wpList_append_own _ rfl (.tmp 16) (.tmp 19) 46 rfl w.heap.size 5 i0 (.int .u8 0) 1 1 Tryz.underlying46 hi hz0 hz1 hz2 rfl (by decide) V (14+4*k) ((H++fours (s.pages.take k)).map (Value.int .u8)) rfl HO1.out ⟨g3,0,none⟩ 4 4 ((putB 4 x).map (Value.int .u8)) rfl HLL.out HSG.out (ints_oneCell _ _) (by unfold maxLen;omega) (by omega) hsz1 ?_;intro v' w4 hown2 hgrow2 _)
    |fail)
   have HO2:Hid (w4.ownsRow w.heap.size 5 1 v' (14+4*(k+1)) ((H++fours (s.pages.take (k+1))).map (Value.int .u8))):=hid (by rw[HF4.out,←List.append_assoc,List.map_append];exact hown2);have HB3:=hid (HB2.out.grown hgrow2 hsz1 (fun i e=>(HO1.out.lt i e).1));clear hown2 hgrow2 HO1 HB2;go_roundw
   case rel=>exact⟨k+1,_,by omega,by go_num,rfl,HO2,HB3⟩
   case measure=>simp[intOf];omega
  ·obtain rfl:k=n:=by omega
   obtain⟨g',c',rfl⟩:=QL HO.out (by omega);have hd:H++fours (s.pages.take k)=dataS s:=by rw[HD.out,List.take_of_length_le (by rw[HL.out];exact Nat.le_refl _)]
   have hown:=HO.out;rw[hd]at hown;have hcv:=Qaw g' 0 (14+4*k) c' (dataS s) wr (Reg.own hown) (by rw[Qax,HL.out]);clear HO hown hd;go_wp2;go_ret
   exact⟨rfl,below_grown HB1.out⟩
theorem QlP(s:Sup)(a:Option Addr)(n c:Nat)(w:World)(hs:Ws.Seg w a n c s.pages)(ho:SupOk s)(hT:T4 w) :
  Calls Tryz.prog 95 #[.agg #[.int .u64 s.gen,.int .i64 s.size,.int .i64 s.blocks,.int .u32 s.root,.slice a n c]] w fun e w'=>e=strE (putS s)∧w.grownBy w' none:=by
 have HB0:=hid (SB.new w s a n c);have HG0:=hid (Qb w (.cells #[.int .u64 s.gen,.int .i64 s.size,.int .i64 s.blocks,.int .u32 s.root,.slice a n c] 92));obtain⟨W0,hW0⟩:∃X,w.alloc (.cells #[.int .u64 s.gen,.int .i64 s.size,.int .i64 s.blocks,.int .u32 s.root,.slice a n c] 92)=X:=⟨_,rfl⟩;rw[hW0]at HB0 HG0;have HC:=hid (Qc4 s a n c W0 (hs.grown HG0.out) ho);obtain⟨q0,q1,q2,q3,q4⟩:=HB0.out.cells;obtain⟨E,hE⟩:∃E,supE s=E:=⟨_,rfl⟩;rw[hE]at HC;by_cases h0:E=0
 ·have e0:(E != 0)=false:=by rw[h0];rfl
  have hv:=(Qaq (hE.trans h0)).1;have hg:=hv.1;unfold GeoOk at hg;have hn:n≤74:=by
   have h1:=hv.2.2.2.1;have h2:=QB hv.1;rw[hs.len]at h1;omega
  have HPS:Hid (putS s=putF s.size (1,s.gen,dataS s)):=hid (if_neg (fun h=>h (hE.trans h0)));have HDQ:=hid (fun W (k:w.grownBy W none)=>Qj1 s a n c W (hs.grown k) ho (by omega) (by omega) (by omega) (hT.grown k));have hfm:FmOk (1,s.gen,dataS s):=⟨⟨(by show(0:Int)≤1;decide),(by show(1:Int)<256;decide)⟩,ho.gen,QaZ s⟩;obtain⟨⟨PB,PE⟩,hp⟩:∃r,putF s.size (1,s.gen,dataS s)=r:=⟨_,rfl⟩;have HPQ:Hid (∀W,Calls Tryz.prog 83 #[.int .i64 s.size,.agg #[.int .u8 1,.int .u64 s.gen,.string (strOfNums (dataS s))]] W fun e w'=>e=.returned (.tuple #[.string (strOfNums PB),.int .i64 PE])∧W.grownBy w' none):=hid (fun W=>(Fr.QbU s.size (1,s.gen,dataS s) W hfm).mono fun e w' ⟨h1,h2⟩=>⟨by rw[h1,hp];rfl,h2⟩);rw[hp]at HPS;obtain⟨S,hS⟩:∃S,strOfNums (dataS s)=S:=⟨_,rfl⟩;rw[hS]at HDQ HPQ;clear hs ho hT hE hv hg hn hfm hp hS;subst h0;go_enter Tryz.func95,Tryz.ntmps95
  go_wp2_with fail
  refine HC.out.mono ?_;rintro e w1 ⟨rfl,hg⟩;have HG1:=hid (Qa HG0.out hg);have HD1:Hid (∀q:Gw w1,Calls Tryz.prog 122 #[.agg #[.int .u64 s.gen,.int .i64 s.size,.int .i64 s.blocks,.int .u32 s.root,.slice a n c]] q.at_ fun e w'=>e=.returned (.string S)∧q.at_.grownBy w' none):=hid (fun q=>HDQ.out _ (Qa HG1.out q.grown));obtain⟨c0,c1,c2,c3,c4⟩:=(HB0.out.old hg).gw;clear hg q0 q1 q2 q3 q4 HC;dsimp only;go_upto_region 4 with (fail)
  refine Qs (by kernel_rfl) ?_
  repeat(go_big_quiet_step (first|(go_at_call 122;with_reducible exact Calls.QS (HD1.out _))|(go_at_call 83;with_reducible exact Calls.QS (HPQ.out _))|fail))
  refine wpQuiet_nil ?_;rintro _ ⟨p,rfl⟩;have HGF:=hid (Qa HG1.out p.grown);clear c0 c1 c2 c3 c4;go_wp2;go_ret2
  exact⟨by rw[HPS.out];rfl,HGF.out⟩
 ·have e0:(E != 0)=true:=bne_iff_ne.2 h0;have HPS:Hid (putS s=([],E)):=hid (by rw[Qb7 (by rw[hE];exact h0),hE]);clear hs ho hT hE h0;go_enter Tryz.func95,Tryz.ntmps95
  go_wp2_with fail
  refine HC.out.mono ?_;rintro e w1 ⟨rfl,hg⟩;have HG1:=hid (Qa HG0.out hg);clear hg q0 q1 q2 q3 q4 HC;dsimp only;go_wp2;go_ret2
  exact⟨by rw[HPS.out];rfl,HG1.out⟩
end Su
namespace Su
open Go.RowKit Bs Dv Gr
open Oct (ofB Rd ReadN)
open Fr (Qg)
def Nl(w:World)(g:Nat)(l:List Int):Prop:=∀j,j<l.length→w.cell? ⟨g,j,none⟩=some (.int .u64 (l.getD j 0))∧w.frozen? ⟨g,j,none⟩=false
theorem Nl.turn{w w':World}{g:Nat}{l:List Int}{S:Nat→Prop}(h:Nl w g l)(k:Turn w w' S)(hS:¬S g):Nl w' g l:=fun j hj=>by
 obtain⟨h1,h2⟩:=h j hj;exact⟨k.cell h1 hS,(k.frozen (p:=⟨g,j,none⟩) (World.block_lt_of_cell? w _ h1) hS).trans h2⟩
theorem Nl.set{w:World}{g:Nat}{l:List Int}(h:Nl w g l)(p:Nat)(x:Int):Nl (w.setCell ⟨g,p,none⟩ (.int .u64 x)) g (l.set p x):=fun j hj=>by
 rw[List.length_set]at hj;obtain⟨h1,h2⟩:=h j hj;refine⟨?_,by rw[World.frozen?_setCell];exact h2⟩;by_cases e:p=j
 ·subst e;rw[World.cell?_setCell_same _ _ _ h1];simp[List.getD,hj]
 ·rw[World.cell?_setCell_other _ _ _ _ (fun q=>e (by cases q;rfl)),h1];simp[List.getD,List.getElem?_set_ne e]
def fieldB(l:List Int)(k:Nat):Int:=ofB ((l.drop (headN k)).take (szL.getD k 0))
def valsB(l:List Int)(k:Nat):List Int:=(List.range 4).map fun j=>if j<k then fieldB l j else 0
theorem Qbx(l:List Int)(k:Nat):(valsB l k).length=4:=by simp[valsB]
theorem Qk7(l:List Int)(k:Nat)(h:k<4):(valsB l k).set k (fieldB l k)=valsB l (k+1):=by
 rcases(show k=0∨k=1∨k=2∨k=3 by omega) with rfl|rfl|rfl|rfl <;> rfl
theorem Qb1{l:List Int}(hb:Bs.IsB l)(k:Nat)(h:k<4):0≤fieldB l k∧fieldB l k<4294967296:=by
 unfold fieldB;have h1:=Oct.Qv ((l.drop (headN k)).take (szL.getD k 0)) (fun x hx=>hb x (List.mem_of_mem_drop (List.mem_of_mem_take hx)));have h2:((l.drop (headN k)).take (szL.getD k 0)).length≤4:=by
  rw[List.length_take];have:szL.getD k 0≤4:=by rcases(show k=0∨k=1∨k=2∨k=3 by omega) with rfl|rfl|rfl|rfl <;> decide
  omega
 refine⟨h1.1,Int.lt_of_lt_of_le h1.2 ?_⟩;generalize ((l.drop (headN k)).take (szL.getD k 0)).length=k at h2;have:k=0∨k=1∨k=2∨k=3∨k=4:=by omega
 rcases this with rfl|rfl|rfl|rfl|rfl <;> (show _≤(4294967296:Int);decide)
def HeadX(w:World)(b g:Nat)(gen:Int)(l:List Int)(e:Ending)(w':World):Prop:=
 w.grownBy w' (some b)∧((14≤l.length∧e=.returned (.tuple #[.agg #[.int .u64 gen,.int .i64 (fieldB l 0),.int .i64 (fieldB l 1),.int .u32 (fieldB l 2),.int .i64 (fieldB l 3)],.bool true])∧Rd w' b g (l.drop 14)) ∨
  (l.length<14∧e=.returned (.tuple #[.agg #[.int .u64 0,.int .i64 0,.int .i64 0,.int .u32 0,.int .i64 0],.bool false])))
theorem idx4(k:Nat)(hk:k<4)(W:World):(Instr.index 234 (.agg #[.int .i64 4,.int .i64 4,.int .i64 4,.int .i64 2]) (.int .i64 (k:Int))).run Tryz.prog W=.ok (.int .i64 ((szL.getD k 0:Nat):Int)) W:=by
 rcases(show k=0∨k=1∨k=2∨k=3 by omega) with rfl|rfl|rfl|rfl <;> rfl
theorem Qca{fn:Func}{p u:Tmp}(h:fn.results=#[.cell p 217,.tmp u])(tmps:Array Value)(w:World)(g:Nat)(gen size blocks root m:Int)(hp:tmps.getD p undef=.pointer (some ⟨g,0,none⟩))
  (hg:HB w g gen size blocks root m) (v:Value) (hv:tmps.getD u undef=v):(results fn tmps).run Tryz.prog w=.ok (.tuple #[.agg #[.int .u64 gen,.int .i64 size,.int .i64 blocks,.int .u32 root,.int .i64 m],v]) w:=by
 rw[←hv];exact QZ h tmps w g _ _ _ _ hp hg Tryz.underlying217 rfl Qdc
theorem HB.not{w w':World}{g k:Nat}{gen size blocks root m:Int}(h:HB w g gen size blocks root m)(t:Turn w w' (·=k))(hne:g≠k):HB w' g gen size blocks root m:=Qg h t hne
theorem QN{w w':World}{b:Nat}(h:w.grownBy w' (some b)):Turn w w' (·=b):=Turn.Qf h (fun _ e _=>(Option.some.inj e).symm)
theorem Q7{w w':World}{b:Nat}(h:Turn w w' (·=b)):w.grownBy w' (some b):=⟨h.os,h.tape,h.output,h.size,fun i hi hn=>h.block i hi (fun e=>hn (by rw[e]))⟩
theorem Qgy(gen:Int)(b g:Nat)(l:List Int)(w:World)(hr:Rd w b g l)(hb:Bs.IsB l)(hbl:b<w.heap.size)(hgl:g<w.heap.size)(hT:T4 w) :
  Calls Tryz.prog 143 #[.int .u64 gen,.pointer (some ⟨b,0,none⟩)] w (HeadX w b g gen l):=by
 have G0:=Qb w (.cells #[.int .u64 0,.int .i64 0,.int .i64 0,.int .u32 0,.int .i64 0] 217);have Q0:HB (w.alloc (.cells #[.int .u64 0,.int .i64 0,.int .i64 0,.int .u32 0,.int .i64 0] 217)) w.heap.size 0 0 0 0 0:=heap_alloc_new w _;obtain⟨W0,hW0⟩:∃X,w.alloc (.cells #[.int .u64 0,.int .i64 0,.int .i64 0,.int .u32 0,.int .i64 0] 217)=X:=⟨_,rfl⟩;rw[hW0]at G0 Q0;have hs0:W0.heap.size=w.heap.size+1:=by rw[←hW0];simp
 have G1:=Qa G0 (Qb W0 (.cells #[.int .u64 0,.int .u64 0,.int .u64 0,.int .u64 0] 233));have Q1:=Q0.old (Qb W0 (.cells #[.int .u64 0,.int .u64 0,.int .u64 0,.int .u64 0] 233));have N1:Nl (W0.alloc (.cells #[.int .u64 0,.int .u64 0,.int .u64 0,.int .u64 0] 233)) W0.heap.size (valsB l 0):=fun j hj=>by
  have q:=heap_alloc_new W0 (.cells #[.int .u64 0,.int .u64 0,.int .u64 0,.int .u64 0] 233);refine⟨?_,by simp only[World.frozen?,q];simp⟩;rw[cell_of_row _ _ _ _ _ _ q];rw[Qbx]at hj;rcases(show j=0∨j=1∨j=2∨j=3 by omega) with rfl|rfl|rfl|rfl <;> rfl
 obtain⟨W1,hW1⟩:∃X,W0.alloc (.cells #[.int .u64 0,.int .u64 0,.int .u64 0,.int .u64 0] 233)=X:=⟨_,rfl⟩;rw[hW1]at G1 Q1 N1;have HR1:=hid (hr.kept G1 (by simp) (by simp));have HQ1:=hid Q1;have HN1:=hid N1;have HG1:=hid G1;have t0:W1.cell? ⟨0,0,none⟩=some (.int .i64 4):=(hT.grown G1) 0 (by decide);have t1:W1.cell? ⟨0,1,none⟩=some (.int .i64 4):=(hT.grown G1) 1 (by decide);have t2:W1.cell? ⟨0,2,none⟩=some (.int .i64 4):=(hT.grown G1) 2 (by decide);have t3:W1.cell? ⟨0,3,none⟩=some (.int .i64 2):=(hT.grown G1) 3 (by decide);have HB:=hid hb;obtain⟨vb,hvb⟩:∃v,v=w.heap.size+1:=⟨_,rfl⟩;obtain⟨hd,hhd⟩:∃v,v=w.heap.size:=⟨_,rfl⟩;rw[hs0,←hvb]at HN1;rw[←hhd]at HQ1;clear hr hb hT G0 Q0 G1 Q1 N1;go_enter Tryz.func143,Tryz.ntmps143
 go_wp2;rw[←hvb,←hhd];have hbd:b<hd:=by omega
 have hgd:g<hd:=by omega
 have hdv:hd<vb:=by omega
 have hwd:w.heap.size≤hd:=by omega
 have HIX:=hid idx4;have HLEN:=hid (rfl:l.length=l.length);obtain⟨n,hn⟩:∃n,n=l.length:=⟨_,rfl⟩;have HN:=hid hn;clear t0 t1 t2 t3 hW0 hW1 hs0 hvb hhd hbl hgl hn
 go_loopw [12] (fun si wr=>∃k:Nat,k≤4∧si=.int .i64 k∧headN k≤n∧Hid (Rd wr b g (l.drop (headN k)))∧Hid (w.grownBy wr (some b))∧Hid (Nl wr vb (valsB l k))∧Hid (Su.HB wr hd 0 0 0 0 0)) (fun si _=>4-(intOf si).toNat)
 case atStart=>exact⟨0,by omega,rfl,Nat.zero_le _,HR1,hid (Q7 (Turn.mono (Qc HG1.out) (fun _ _ h=>h.elim))),HN1,HQ1⟩
 case round=>
  clear HR1 HN1 HQ1 HG1;obtain⟨k,hk,rfl,hkn,HR,HG,HN4,HQ⟩:=hrel;by_cases hlt:k<4
  ·have hsz:=sz_bd hlt;have hix:=HIX.out k hlt;have hNx:headN (k+1)=headN k+szL.getD k 0:=rfl;have HFB:Hid (fieldB l k=ofB ((l.drop (headN k)).take (szL.getD k 0))):=hid rfl;have HVS:=hid (Qk7 l k hlt);have hfb:=Qb1 HB.out k hlt;have hdl:(l.drop (headN k)).length=n-headN k:=by rw[List.length_drop,HN.out]
   have hbk:Bs.IsB (l.drop (headN k)):=fun x hx=>HB.out x (List.mem_of_mem_drop hx)
   obtain⟨m,hm⟩:∃m,szL.getD k 0=m:=⟨_,rfl⟩;rw[hm]at hsz hNx HFB hix;by_cases hfit:m≤(l.drop (headN k)).length
   ·have HNU:=hid (Oct.QbO b g _ m wr HR.out hbk hsz.1 hsz.2 hfit);have hkn1:headN (k+1)≤n:=by omega
    have HDR:Hid ((l.drop (headN k)).drop m=l.drop (headN (k+1))):=hid (by rw[List.drop_drop,hNx]);rw[←HFB.out]at HNU;obtain⟨x,hx⟩:∃x,fieldB l k=x:=⟨_,rfl⟩;rw[hx]at HNU hfb HVS;clear hm hdl hbk hfit hNx HFB hx hsz;go_wp2_with fail
    refine HNU.out.mono ?_;rintro e w1 ⟨rfl,hg1,hr1⟩;have HR1:Hid (Rd w1 b g (l.drop (headN (k+1)))):=hid (by rw[←HDR.out];exact hr1);have ht1:=QN hg1;have hT1:=(QN HG.out).trans ht1 (fun _ _ h=>h);have hN1:=HN4.out.turn ht1 (by omega);have HQ1:=hid (HQ.out.not ht1 (by omega));obtain⟨v0,v1⟩:=hN1 k (by rw[Qbx];exact hlt);have hN2:=hN1.set k x;rw[HVS.out]at hN2;obtain⟨y,hy⟩:∃y,(valsB l k).getD k 0=y:=⟨_,rfl⟩;rw[hy]at v0;have ht2:=Turn.setCell w1 ⟨vb,k,none⟩ (.int .u64 x) (S:=(·=vb)) rfl;obtain⟨W2,hW2⟩:∃X,w1.setCell ⟨vb,k,none⟩ (.int .u64 x)=X:=⟨_,rfl⟩;rw[hW2]at hN2 ht2;have HN2:=hid hN2;have HR2:Hid (Rd W2 b g (l.drop (headN (k+1)))):=hid (HR1.out.kept (Q7 ht2) (by simp;omega) (by simp;omega));have HQ2:=hid (HQ1.out.not ht2 (by omega));have HG2:Hid (w.grownBy W2 (some b)):=hid (Q7 (hT1.trans ht2 (fun i h e=>by omega)));clear hr1 hg1 ht1 hT1 hN1 hN2 hy ht2 HNU HR HG HN4 HQ HR1 HQ1 HDR HVS hkn;dsimp only;go_wp2;go_roundw
    case rel=>exact⟨k+1,by omega,by go_num,hkn1,HR2,HG2,HN2,HQ2⟩
    case measure=>simp[intOf];omega
   ·have HNU:=hid (Oct.Qbz b g _ (m:Int) wr HR.out (by omega) (by omega) (by omega));have hl14:l.length<14:=by
     rw[←HN.out];have e1:headN (k+1)≤14:=by rcases(show k=0∨k=1∨k=2∨k=3 by omega) with rfl|rfl|rfl|rfl <;> decide
     omega
    have HL14:=hid hl14;clear hm hdl hbk hfit hNx HFB hsz hl14;go_wp2_with fail
    refine HNU.out.mono ?_;rintro e w1 ⟨rfl,rfl⟩;dsimp only;go_wp2_with (first
     |(with_reducible refine QaU rfl (.tmp 4) (.tmp 24) rfl hd rfl 0 0 0 0 0 rfl _ _ _ _ _ HQ.out ?_;intro w2 hq2 ht2)
     |fail)
    refine bodyPost_ret (Qca rfl _ _ _ _ _ _ _ _ rfl hq2 (.bool false) rfl) rfl ⟨?_,.inr ⟨HL14.out,rfl⟩⟩;exact Q7 ((QN HG.out).trans ht2 (fun i h e=>by omega))
  ·obtain rfl:k=4:=by omega
   obtain⟨p0,f0⟩:=HN4.out 0 (by rw[Qbx];decide);obtain⟨p1,f1⟩:=HN4.out 1 (by rw[Qbx];decide);obtain⟨p2,f2⟩:=HN4.out 2 (by rw[Qbx];decide);obtain⟨p3,f3⟩:=HN4.out 3 (by rw[Qbx];decide);have b0:=Qb1 HB.out 0 (by decide);have b1:=Qb1 HB.out 1 (by decide);have b2:=Qb1 HB.out 2 (by decide);have b3:=Qb1 HB.out 3 (by decide);have HL14:Hid (14≤l.length):=hid (by rw[←HN.out];exact hkn);have c0:wr.cell? ⟨vb,0,none⟩=some (.int .u64 (fieldB l 0)):=p0;have c1:wr.cell? ⟨vb,1,none⟩=some (.int .u64 (fieldB l 1)):=p1;have c2:wr.cell? ⟨vb,2,none⟩=some (.int .u64 (fieldB l 2)):=p2;have c3:wr.cell? ⟨vb,3,none⟩=some (.int .u64 (fieldB l 3)):=p3;clear p0 p1 p2 p3;obtain⟨x0,hx0⟩:∃x,fieldB l 0=x:=⟨_,rfl⟩;rw[hx0]at c0 b0;have HX0:=hid hx0;clear hx0;obtain⟨x1,hx1⟩:∃x,fieldB l 1=x:=⟨_,rfl⟩;rw[hx1]at c1 b1;have HX1:=hid hx1;clear hx1;obtain⟨x2,hx2⟩:∃x,fieldB l 2=x:=⟨_,rfl⟩;rw[hx2]at c2 b2;have HX2:=hid hx2;clear hx2;obtain⟨x3,hx3⟩:∃x,fieldB l 3=x:=⟨_,rfl⟩;rw[hx3]at c3 b3;have HX3:=hid hx3;clear hx3;have e0:IntKind.i64.wrap x0=x0:=IntWalk.i64_in _ (by omega);have e1:IntKind.i64.wrap x1=x1:=IntWalk.i64_in _ (by omega);have e2:IntKind.u32.wrap x2=x2:=by rw[IntKind.wrap_u32];omega
   have e3:IntKind.i64.wrap x3=x3:=IntWalk.i64_in _ (by omega);clear f0 f1 f2 f3 b0 b1 b2 b3;go_wp2_with (first
    |(with_reducible refine QaU rfl (.tmp 4) (.tmp 43) rfl hd rfl gen x0 x1 x2 x3 rfl _ _ _ _ _ HQ.out ?_;intro w2 hq2 ht2)
    |fail)
   refine bodyPost_ret (Qca rfl _ _ _ _ _ _ _ _ rfl hq2 (.bool true) rfl) rfl ⟨?_,.inl ⟨HL14.out,by rw[HX0.out,HX1.out,HX2.out,HX3.out],?_⟩⟩
   ·exact Q7 ((QN HG.out).trans ht2 (fun i h e=>by omega))
   ·exact HR.out.kept (Q7 ht2) (by simp;omega) (by simp;omega)
end Su
namespace Su
open Go.RowKit Bs Dv Gr Dr
open Oct (ofB Rd ReadN)
open Fr (Qg)
theorem QcG:∀(f:Nat) (l:List Int) (k:Nat),4*(k+1)≤l.length→l.length≤4*f→(chunks f l)[k]?=some (ofB ((l.drop (4*k)).take 4))
 |0,l,k,h1,h2=>by omega
 |f+1,l,k,h1,h2=>by
  rw[chunks,if_neg (by omega)];cases k with
  |zero=>rfl
  |succ k=>
   rw[List.getElem?_cons_succ,QcG f (l.drop 4) k (by rw[List.length_drop];omega) (by rw[List.length_drop];omega),List.drop_drop,show 4+4*k=4*(k+1) by omega]
theorem QdE(f:Nat)(l:List Int)(k:Nat)(h1:4*(k+1)≤l.length)(h2:l.length≤4*f):(chunks f l).take (k+1)=(chunks f l).take k++[ofB ((l.drop (4*k)).take 4)]:=by
 obtain⟨hk,h3⟩:=List.getElem?_eq_some_iff.1 (QcG f l k h1 h2);rw[List.take_succ_eq_append_getElem hk,h3]
theorem QM{w w':World}{base e size n:Nat}{v:Value}{xs:List Value}{S:Nat→Prop}(h:w.ownsRow base e size v n xs)(k:Turn w w' S)(hS:∀i,base≤i→¬S i):w'.ownsRow base e size v n xs:=by
 refine⟨h.1,?_⟩;rcases h.2 with h2|⟨g,cap,cur,e1,h3,h4,h5⟩
 ·exact .inl h2
 ·refine .inr ⟨g,cap,cur,e1,h3,?_,h5⟩;rw[k.block g (Array.getElem?_eq_some_iff.1 h4).1 (hS g h3)];exact h4
theorem QaP{w:World}{base e n:Nat}{v:Value}{xs:List Value}(h:w.ownsRow base e 1 v n xs):∃a c,v=.slice a n c∧∀ad,a=some ad→base≤ad.block:=by
 rcases h.2 with ⟨rfl,rfl⟩|⟨g,c,cur,rfl,hb,_⟩
 ·exact⟨none,0,rfl,fun _ h=>by cases h⟩
 ·exact⟨_,c,rfl,fun ad had=>by cases had;exact hb⟩
theorem Qcc{w:World}{base e n c:Nat}{a:Option Addr}{l:List Int}(h:w.ownsRow base e 1 (.slice a n c) n (l.map (Value.int .u32))):Ws.Seg w a n c l:=by
 rcases h.2 with ⟨e1,h0⟩|⟨g,cap,cur,e1,_⟩
 ·cases e1
  have hl:=h.1;rw[List.length_map]at hl;obtain rfl:l=[]:=List.length_eq_zero_iff.1 (by omega);exact Ws.Seg.nil w
 ·cases e1
  exact Ws.Seg.own h
theorem Qac(W:World)(x:Value)(t:TypeId):(W.alloc (.cells #[x] t)).cell? ((⟨W.heap.size,0,none⟩:Addr).add 0)=some x:=by
 rw[Addr.add_lit,cell_of_row _ _ _ _ _ _ (heap_alloc_new W _)];rfl
theorem SB.Qjp{w:World}{g:Nat}{s:Sup}{a:Option Addr}{n c:Nat}(h:SB w g s a n c)(a':Option Addr)(n' c':Nat):SB (w.setCell ⟨g,4,none⟩ (.slice a' n' c')) g s a' n' c':=
 Go.heap_setCell_same w g 4 _ _ (.slice a' n' c') h
theorem QbV{w w':World}{b g:Nat}{l:List Int}{S:Nat→Prop}(h:Rd w b g l)(t:Turn w w' S)(hb:¬S b)(hg:¬S g):Rd w' b g l:=by
 obtain⟨o,c,h0,hle,hc,hj⟩:=h.cells;have lt:=World.block_lt_of_cell? w _ h0;exact⟨h.ne,⟨o,c,t.cell h0 hb,hle,hc,fun j hjl=>t.cell (hj j hjl) hg⟩,t.cell h.self hb,(t.frozen (p:=⟨b,0,none⟩) lt hb).trans h.free⟩
def ReadX(w:World)(gen:Int)(d:List Int)(e:Ending)(w':World):Prop:=
 w.grownBy w' none∧∃(s:Sup) (a:Option Addr) (n c:Nat),e=.returned (.tuple #[.agg #[.int .u64 s.gen,.int .i64 s.size,.int .i64 s.blocks,.int .u32 s.root,.slice a n c],.bool (decide (OkD gen d))]) ∧
  (OkD gen d→s=readS gen d∧Ws.Seg w' a n c s.pages∧∀ad,a=some ad→w.heap.size≤ad.block)
theorem ReadX.no{w w':World}{gen:Int}{d:List Int}(h:¬OkD gen d)(hg:w.grownBy w' none):ReadX w gen d (.returned (.tuple #[.agg #[.int .u64 0,.int .i64 0,.int .i64 0,.int .u32 0,.slice none 0 0],.bool false])) w':=
 ⟨hg,zeroS,none,0,0,by rw[decide_eq_false h];rfl,fun h'=>absurd h' h⟩
theorem Qb8(t gen:Int)(d:List Int)(w:World)(hb:Bs.IsB d)(hl:d.length≤4096)(hT:T4 w) :
  Calls Tryz.prog 124 #[.agg #[.int .u8 t,.int .u64 gen,.string (strOfNums d)]] w (ReadX w gen d):=by
 obtain⟨i0,hi,hz0,hz1,hz2⟩:=info_parts Ws.Qbp;have G0:=Qb w (.cells #[.int .u8 t,.int .u64 gen,.string (strOfNums d)] 132);have B0:=heap_alloc_new w (.cells #[.int .u8 t,.int .u64 gen,.string (strOfNums d)] 132);obtain⟨W0,hW0⟩:∃X,w.alloc (.cells #[.int .u8 t,.int .u64 gen,.string (strOfNums d)] 132)=X:=⟨_,rfl⟩;rw[hW0]at G0 B0;have hs0:W0.heap.size=w.heap.size+1:=by rw[←hW0];simp
 have G1:=Qa G0 (Qb W0 (.cells #[.int .u64 0,.int .i64 0,.int .i64 0,.int .u32 0,.slice none 0 0] 92));have B1:=Qd B0 (Qb W0 (.cells #[.int .u64 0,.int .i64 0,.int .i64 0,.int .u32 0,.slice none 0 0] 92));have S1:=SB.new W0 zeroS none 0 0;obtain⟨W1,hW1⟩:∃X,W0.alloc (.cells #[.int .u64 0,.int .i64 0,.int .i64 0,.int .u32 0,.slice none 0 0] 92)=X:=⟨_,rfl⟩;have S1:SB W1 W0.heap.size zeroS none 0 0:=by rw[←hW1];exact S1
 rw[hW1]at G1 B1;obtain⟨cap,W2,hcv,hreg,htn,hcap1,hcap2⟩:=Qbj d hb (by omega) W1;have HRN:=hid (Oct.Qcz (some ⟨W1.heap.size,0,none⟩) d.length cap d W2 (hreg.seg hcap1 hcap2) (by omega));have HB1:=hid B1;have HG1:=hid G1;have HG2:=hid (Qa G1 htn.grown);have HS2:=hid (S1.old htn.grown);have HB2:=hid (Qd B1 htn.grown);have HZ:Hid (W1.heap.size=W0.heap.size+1∧W1.heap.size≤W2.heap.size):=hid ⟨by rw[←hW1,World.size_alloc],htn.size⟩;have hw0:w.heap.size<W0.heap.size:=by omega
 clear hs0;have HT:=hid hT;have HBB:=hid hb;obtain⟨S,hS⟩:∃S,strOfNums d=S:=⟨_,rfl⟩;rw[hS]at hcv HB1 HB2 hW0 ⊢;have q2:W1.cell? ⟨w.heap.size,2,none⟩=some (.string S):=by rw[cell_of_row _ _ _ _ _ _ HB1.out];rfl
 have p1:W2.cell? ⟨w.heap.size,1,none⟩=some (.int .u64 gen):=by rw[cell_of_row _ _ _ _ _ _ HB2.out];rfl
 clear hb hT G0 B0 G1 B1 S1 hreg htn hcap1 hcap2 hS p1;go_enter Tryz.func124,Tryz.ntmps124
 go_wp2_with fail
 refine HRN.out.mono ?_;rintro e w3 ⟨b,g,rfl,hb3,hg3,hbl,hgl,hr3,hg⟩;have HG3:=hid (Qa HG2.out hg);have HS3:=hid (HS2.out.old hg);have HB3:=hid (Qd HB2.out hg);have HH:=hid (Qgy gen b g d w3 hr3 HBB.out hbl hgl (HT.out.grown HG3.out));have q1:w3.cell? ⟨w.heap.size,1,none⟩=some (.int .u64 gen):=by rw[cell_of_row _ _ _ _ _ _ HB3.out];rfl
 have hz1:=HZ.out.1;have hz2:=HZ.out.2;have hwb:W0.heap.size<b:=by omega
 have hwg:W0.heap.size<g:=by omega
 clear hg hr3 HG2 HS2 HB2 HRN q2 hcv hz1 hz2 HZ hb3 hg3;dsimp only;go_wp2_with fail
 refine HH.out.mono ?_;rintro e w4 ⟨hg4,hx⟩;have ht4:=QN hg4;have HG4:=hid (Qh HG3.out ht4 (by omega));have HS4:=hid (HS3.out.not ht4 (by omega));have hbl4:b<w4.heap.size:=Nat.lt_of_lt_of_le hbl hg4.size;have hgl4:g<w4.heap.size:=Nat.lt_of_lt_of_le hgl hg4.size;clear hg4 ht4 HG3 HS3 HB3 HH q1 HB1 HG1 hbl hgl hW0 hW1;rcases hx with ⟨h14,rfl,hr4⟩|⟨h14,rfl⟩
 ·obtain⟨N,hN⟩:∃N,d.length-14=N:=⟨_,rfl⟩;have HNd:Hid ((d.drop 14).length=N):=hid (by rw[List.length_drop,hN]);have hN1:N≤4082:=by omega
  obtain⟨ps,hps⟩:∃ps,chunks d.length (d.drop 14)=ps:=⟨_,rfl⟩;have HPL:Hid (ps.length=N / 4):=hid (by rw[←hps,chunks_len _ _ (by rw[HNd.out];omega),HNd.out]);have HPT:Hid (∀k,4*(k+1)≤N→ps.take (k+1)=ps.take k++[ofB (((d.drop 14).drop (4*k)).take 4)]):=hid (fun k hk=>by rw[←hps];exact QdE _ _ k (by rw[HNd.out];exact hk) (by rw[HNd.out];omega));have HRS:Hid (readS gen d=⟨gen,fieldB d 0,fieldB d 1,fieldB d 2,ps⟩):=hid (by rw[←hps];rfl);have HOK:Hid (OkD gen d↔N % 4=0∧(ps.length:Int)=fieldB d 3):=hid (by
   unfold OkD;rw[HRS.out,hN];exact⟨fun h=>⟨h.2.1,h.2.2⟩,fun h=>⟨h14,h.1,h.2⟩⟩)
  have HBR:Hid (Bs.IsB (d.drop 14)):=hid (fun x hx=>HBB.out x (List.mem_of_mem_drop hx));obtain⟨ds,hds⟩:∃ds,d.drop 14=ds:=⟨_,rfl⟩;rw[hds]at HNd HPT HBR hr4;obtain⟨r,hr⟩:∃r,decide (OkD gen d)=r:=⟨_,rfl⟩;have HRD:=hid hr;obtain⟨x0,hx0⟩:∃x,fieldB d 0=x:=⟨_,rfl⟩;obtain⟨x1,hx1⟩:∃x,fieldB d 1=x:=⟨_,rfl⟩;obtain⟨x2,hx2⟩:∃x,fieldB d 2=x:=⟨_,rfl⟩;obtain⟨x3,hx3⟩:∃x,fieldB d 3=x:=⟨_,rfl⟩;rw[hx0,hx1,hx2]at HRS;rw[hx3]at HOK;have H5:Hid (HB (w4.alloc (.cells #[.int .u64 gen,.int .i64 x0,.int .i64 x1,.int .u32 x2,.int .i64 x3] 217)) w4.heap.size gen x0 x1 x2 x3):=hid (heap_alloc_new w4 _);have hg5:=Qb w4 (.cells #[.int .u64 gen,.int .i64 x0,.int .i64 x1,.int .u32 x2,.int .i64 x3] 217);have hs5:(w4.alloc (.cells #[.int .u64 gen,.int .i64 x0,.int .i64 x1,.int .u32 x2,.int .i64 x3] 217)).heap.size=w4.heap.size+1:=by simp
  rw[hx0,hx1,hx2,hx3];obtain⟨W5,hW5⟩:∃X,w4.alloc (.cells #[.int .u64 gen,.int .i64 x0,.int .i64 x1,.int .u32 x2,.int .i64 x3] 217)=X:=⟨_,rfl⟩;rw[hW5]at H5 hg5 hs5;have hg6:=Qb W5 (.cells #[.int .u64 gen,.int .i64 x0,.int .i64 x1,.int .u32 x2,.slice none 0 0] 92);have hs6:(W5.alloc (.cells #[.int .u64 gen,.int .i64 x0,.int .i64 x1,.int .u32 x2,.slice none 0 0] 92)).heap.size=W5.heap.size+1:=by simp
  have S7:SB (W5.alloc (.cells #[.int .u64 gen,.int .i64 x0,.int .i64 x1,.int .u32 x2,.slice none 0 0] 92)) W5.heap.size ⟨gen,x0,x1,x2,ps⟩ none 0 0:=heap_alloc_new W5 _;obtain⟨W6,hW6⟩:∃X,W5.alloc (.cells #[.int .u64 gen,.int .i64 x0,.int .i64 x1,.int .u32 x2,.slice none 0 0] 92)=X:=⟨_,rfl⟩;rw[hW6]at hg6 hs6 S7;have HS7:=hid S7;have HH6:=hid (H5.out.old hg6);have HG6:=hid (Qa (Qa HG4.out hg5) hg6);have HS6:=hid (HS4.out.old (Qa hg5 hg6));have HR6:=hid (QbV hr4 (Qc (Qa hg5 hg6)) id id);have hz4:w4.heap.size<W5.heap.size:=by omega
  have hz5:W5.heap.size<W6.heap.size:=by omega
  have HIH:=hid (fun W a (k:Nat) c=>Qeq ⟨gen,x0,x1,x2,ps⟩ a k c W);obtain⟨c0,c1,c2,c3,-⟩:=H5.out.cells;clear hr4 h14 hN hps hds hr hx0 hx1 hx2 hx3 hg5 hs5 hg6 hs6 S7 HG4 HS4 H5 S1;dsimp only;have HW6:=hid hW6;clear hW6;go_wp2;rw[HW6.out];clear c0 c1 c2 c3 HW6
  go_loopg [8] N (fun gh _ wr=>∃(k:Nat) (a:Option Addr) (c:Nat),4*k+gh=N∧Hid (Rd wr b g (ds.drop (4*k)))∧Hid (wr.ownsRow W6.heap.size 30 1 (.slice a k c) k ((ps.take k).map (Value.int .u32)))∧Hid (w.grownBy wr none)∧Hid (W6.heap.size≤wr.heap.size) ∧
   Hid (SB wr W5.heap.size ⟨gen,x0,x1,x2,ps⟩ a k c)∧Hid (SB wr W0.heap.size zeroS none 0 0)∧Hid (Su.HB wr w4.heap.size gen x0 x1 x2 x3))
  case atStart=>exact⟨0,none,0,by omega,HR6,hid ⟨rfl,.inl ⟨rfl,rfl⟩⟩,HG6,hid (Nat.le_refl _),HS7,HS6,HH6⟩
  case round=>
   clear HR6 HG6 HS7 HS6 HH6 hW5;obtain⟨k,a,c,hk,HR,HO,HG,HL6,HS,HZ0,HHd⟩:=hrel;have hrl:(ds.drop (4*k)).length=gk:=by rw[List.length_drop,HNd.out];omega
   have HLF:=hid (Oct.Qgd b g _ wr HR.out);rw[hrl]at HLF;have hkk:=hk;have hl6:=HL6.out;clear hk;go_wp2_with fail
   refine HLF.out.mono ?_;rintro e w1 ⟨rfl,rfl⟩;dsimp only;by_cases h0:gk=0
   ·have q0:decide (0<gk)=false:=decide_eq_false (by omega);have hps:ps.length=k:=by rw[HPL.out];omega
    have hok:OkD gen d↔(k:Int)=x3:=by
     rw[HOK.out,hps];exact⟨fun h=>h.2,fun h=>⟨by omega,h⟩⟩
    have hr2:decide ((k:Int)=x3)=r:=by rw[←HRD.out];exact decide_eq_decide.2 hok.symm
    have htk:ps.take k=ps:=List.take_of_length_le (Nat.le_of_eq hps);rw[htk]at HO;clear h0 hrl HLF hkk hps hok htk HR;go_upto_region 11 with (fail)
    refine Qee (I:=fun a0 L x W=>VI [3,49,50,51,52,53] [49,50,51,52,53,1000,3]
     [.agg #[.int .u64 gen,.int .i64 x0,.int .i64 x1,.int .u32 x2,.slice a k c],.agg #[.int .u64 gen,.int .i64 x0,.int .i64 x1,.int .u32 x2,.slice a k c],.agg #[.int .u64 gen,.int .i64 x0,.int .i64 x1,.int .u32 x2,.int .i64 k],.agg #[.int .u64 gen,.int .i64 x0,.int .i64 x1,.int .u32 x2,.int .i64 x3],.bool r,undef,.bool r]
     (fun L W=>Turn wr.drew W (·=W0.heap.size)∧∃s' a' n' c',SB W W0.heap.size s' a' n' c'∧(L 5=true→s'=⟨gen,x0,x1,x2,ps⟩∧a'=a∧n'=k∧c'=c)) a0 L x W) (by kernel_rfl) (by kernel_rfl)
     (VI.start 54 (by simp) (by decide) ⟨Turn.refl _ _,zeroS,none,0,0,HZ0.out.old (Qn wr),fun h=>by cases h⟩) ?_ ?_
    ·show ∀i,i<7→_
     refine QP (QP (QP (QP (QP (QP (QP all_nil ?o0) ?o1) ?o2) ?o3) ?o4) ?o5) ?o6
     case o0=>
      refine StepAt.mk rfl (ns:=[]) (by kernel_rfl) rfl ?_;intro L x W h0 hn hI;have e1:x.tmps[7]?.getD undef=.pointer (some ⟨W5.heap.size,0,none⟩):=hI.old 7 (by decide);have hB:SB W W5.heap.size ⟨gen,x0,x1,x2,ps⟩ a k c:=HS.out.not (((Turn.drew wr (·=W0.heap.size))).trans hI.mem.1 (fun _ _ h=>h)) (by omega);obtain⟨c0,c1,c2,c3,c4⟩:=hB.cells;refine Qa7 (v:=.agg #[.int .u64 gen,.int .i64 x0,.int .i64 x1,.int .u32 x2,.slice a k c]) ?_ (hI.value (by decide) 0 (by decide) (by decide) rfl ⟨hI.mem.1,by obtain⟨s',a',n',c',q1,q2⟩:=hI.mem.2;exact⟨s',a',n',c',q1,fun h=>q2 (Qi h (by decide))⟩⟩);simp[go_sem,e1,c0,c1,c2,c3,c4]
     case o1=>
      refine StepAt.mk rfl (ns:=[]) (by kernel_rfl) rfl ?_;intro L x W h0 hn hI;have e1:x.tmps[7]?.getD undef=.pointer (some ⟨W5.heap.size,0,none⟩):=hI.old 7 (by decide);have hB:SB W W5.heap.size ⟨gen,x0,x1,x2,ps⟩ a k c:=HS.out.not (((Turn.drew wr (·=W0.heap.size))).trans hI.mem.1 (fun _ _ h=>h)) (by omega);obtain⟨c0,c1,c2,c3,c4⟩:=hB.cells;refine Qa7 (v:=.agg #[.int .u64 gen,.int .i64 x0,.int .i64 x1,.int .u32 x2,.slice a k c]) ?_ (hI.value (by decide) 1 (by decide) (by decide) rfl ⟨hI.mem.1,by obtain⟨s',a',n',c',q1,q2⟩:=hI.mem.2;exact⟨s',a',n',c',q1,fun h=>q2 (Qi h (by decide))⟩⟩);simp[go_sem,e1,c0,c1,c2,c3,c4]
     case o2=>
      refine StepAt.mk rfl (ns:=[1]) (by kernel_rfl) rfl ?_;intro L x W h0 hn hI;have e1:x.tmps[50]?.getD undef=.agg #[.int .u64 gen,.int .i64 x0,.int .i64 x1,.int .u32 x2,.slice a k c]:=hI.get 1 (by decide) (by decide) (hn 1 (by simp));refine QhF (v:=.agg #[.int .u64 gen,.int .i64 x0,.int .i64 x1,.int .u32 x2,.int .i64 k]) (R:=fun w'=>W.grownBy w' none) (f:=141) (vs:=#[.agg #[.int .u64 gen,.int .i64 x0,.int .i64 x1,.int .u32 x2,.slice a k c]]) ?_ (HIH.out W a k c)
       (fun w' hg=>hI.value (by decide) 2 (by decide) (by decide) rfl ⟨hI.mem.1.trans (Turn.mono (Qc hg) (fun _ _ h=>h.elim)) (fun _ _ h=>h),by obtain⟨s',a',n',c',q1,q2⟩:=hI.mem.2;exact⟨s',a',n',c',q1.old hg,fun h=>q2 (Qi h (by decide))⟩⟩)
      simp[go_sem,e1]
     case o3=>
      refine StepAt.mk rfl (ns:=[]) (by kernel_rfl) rfl ?_;intro L x W h0 hn hI;have e1:x.tmps[5]?.getD undef=.pointer (some ⟨w4.heap.size,0,none⟩):=hI.old 5 (by decide);have hB:Su.HB W w4.heap.size gen x0 x1 x2 x3:=HHd.out.not (((Turn.drew wr (·=W0.heap.size))).trans hI.mem.1 (fun _ _ h=>h)) (by omega);obtain⟨c0,c1,c2,c3,c4⟩:=hB.cells;refine Qa7 (v:=.agg #[.int .u64 gen,.int .i64 x0,.int .i64 x1,.int .u32 x2,.int .i64 x3]) ?_ (hI.value (by decide) 3 (by decide) (by decide) rfl ⟨hI.mem.1,by obtain⟨s',a',n',c',q1,q2⟩:=hI.mem.2;exact⟨s',a',n',c',q1,fun h=>q2 (Qi h (by decide))⟩⟩);simp[go_sem,e1,c0,c1,c2,c3,c4]
     case o4=>
      refine StepAt.mk rfl (ns:=[2,3]) (by kernel_rfl) rfl ?_;intro L x W h0 hn hI;have e1:x.tmps[51]?.getD undef=.agg #[.int .u64 gen,.int .i64 x0,.int .i64 x1,.int .u32 x2,.int .i64 k]:=hI.get 2 (by decide) (by decide) (hn 2 (by simp));have e2:x.tmps[52]?.getD undef=.agg #[.int .u64 gen,.int .i64 x0,.int .i64 x1,.int .u32 x2,.int .i64 x3]:=hI.get 3 (by decide) (by decide) (hn 3 (by simp));refine Qa7 (v:=.bool r) ?_ (hI.value (by decide) 4 (by decide) (by decide) rfl ⟨hI.mem.1,by obtain⟨s',a',n',c',q1,q2⟩:=hI.mem.2;exact⟨s',a',n',c',q1,fun h=>q2 (Qi h (by decide))⟩⟩);simp[go_sem,e1,e2];rw[←hr2];by_cases hx:(k:Int)=x3 <;> simp[hx]
     case o5=>
      refine StepAt.mk rfl (ns:=[0,2,0]) (by kernel_rfl) rfl ?_;intro L x W h0 hn hI;obtain⟨s',a',n',c',q1,q2⟩:=hI.mem.2;refine QeZ rfl (.tmp 2) (.tmp 49) rfl W0.heap.size ?_ ⟨gen,x0,x1,x2,ps⟩ a k c ?_ s' a' n' c' q1 (fun w' hs ht=>hI.other 5 (by decide) ⟨hI.mem.1.trans ht (fun _ _ h=>h),_,_,_,_,hs,fun _=>⟨rfl,rfl,rfl,rfl⟩⟩)
      ·exact(hI.agr.at_ (by decide)).trans rfl
      ·exact hI.vals 0 (by decide) (by decide) (hn 0 (by simp))
     case o6=>
      refine StepAt.mk rfl (ns:=[4,5,0,1,2,3,4,5]) (by kernel_rfl) rfl ?_;intro L x W h0 hn hI;have e1:x.tmps[53]?.getD undef=.bool r:=hI.get 4 (by decide) (by decide) (hn 4 (by simp));refine Qa7 (v:=.bool r) ?_ (hI.value (by decide) 6 (by decide) (by decide) rfl ⟨hI.mem.1,by obtain⟨s',a',n',c',q1,q2⟩:=hI.mem.2;exact⟨s',a',n',c',q1,fun h=>q2 (Qi h (by decide))⟩⟩);simp[go_sem,e1]
    ·intro L x W hL hI;replace hL:∀i,i<7→L i=true:=hL;have hform:=hI.agr.form;have v0:At x 49=.agg #[.int .u64 gen,.int .i64 x0,.int .i64 x1,.int .u32 x2,.slice a k c]:=hI.vals 0 (by decide) (by decide) (hL 0 (by omega));have v1:At x 50=.agg #[.int .u64 gen,.int .i64 x0,.int .i64 x1,.int .u32 x2,.slice a k c]:=hI.vals 1 (by decide) (by decide) (hL 1 (by omega));have v2:At x 51=.agg #[.int .u64 gen,.int .i64 x0,.int .i64 x1,.int .u32 x2,.int .i64 k]:=hI.vals 2 (by decide) (by decide) (hL 2 (by omega));have v3:At x 52=.agg #[.int .u64 gen,.int .i64 x0,.int .i64 x1,.int .u32 x2,.int .i64 x3]:=hI.vals 3 (by decide) (by decide) (hL 3 (by omega));have v4:At x 53=.bool r:=hI.vals 4 (by decide) (by decide) (hL 4 (by omega));have v6:At x 3=.bool r:=hI.vals 6 (by decide) (by decide) (hL 6 (by omega));obtain⟨s',a',n',c',q1,q2⟩:=hI.mem.2;obtain⟨rfl,rfl,rfl,rfl⟩:=q2 (hL 5 (by omega));have HT9:=hI.mem.1;clear hI q2 hL HIH;rw[List.foldl_cons,List.foldl_cons,List.foldl_cons,List.foldl_cons,List.foldl_cons,List.foldl_cons,List.foldl_nil,v6,v0,v1,v2,v3,v4]at hform;clear v0 v1 v2 v3 v4 v6;subst hform;have HT8:Turn wr W (·=W0.heap.size):=(Turn.drew wr _).trans HT9 (fun _ _ h=>h);have HF:Hid (ReadX w gen d (.returned (.tuple #[.agg #[.int .u64 gen,.int .i64 x0,.int .i64 x1,.int .u32 x2,.slice a' n' c'],.bool r])) W):=hid ⟨Qh HG.out HT8 (by omega),⟨gen,x0,x1,x2,ps⟩,a',n',c',by rw[HRD.out],fun _=>⟨HRS.out.symm,Qcc (QM HO.out HT8 (fun i h e=>by omega)),fun ad had=>by
      obtain⟨a2,c2,e2,h2⟩:=QaP HO.out;cases e2
      have:=h2 ad had;have:=HG.out.size;omega⟩⟩
     have HQ:=hid q1;clear q1 HT9 HT8 HO HG HL6 HS HZ0 HHd hl6 hr2;go_wp2;exact bodyPost_ret (Qw rfl _ _ _ _ _ _ _ rfl HQ.out (.bool r) rfl) rfl HF.out
   ·by_cases h4:4≤gk
    ·have q0:decide (0<gk)=true:=decide_eq_true (by omega);have HNU:=hid (Oct.QbO b g _ 4 wr HR.out (fun x hx=>HBR.out x (List.mem_of_mem_drop hx)) (by decide) (by decide) (by rw[hrl];exact h4));have HPK:=hid (HPT.out k (by omega));have hxb:=Oct.Qv ((ds.drop (4*k)).take 4) (fun x hx=>HBR.out x (List.mem_of_mem_drop (List.mem_of_mem_take hx)));have hx4:((ds.drop (4*k)).take 4).length=4:=by rw[List.length_take];omega
     rw[hx4]at hxb;have HDD:Hid ((ds.drop (4*k)).drop 4=ds.drop (4*(k+1))):=hid (by rw[List.drop_drop,Nat.mul_add]);obtain⟨x,hx⟩:∃x,ofB ((ds.drop (4*k)).take 4)=x:=⟨_,rfl⟩;rw[hx]at HNU HPK hxb;rw[show(256:Int) ^ 4=4294967296 from by decide]at hxb;have e2:IntKind.u32.wrap x=x:=by rw[IntKind.wrap_u32];omega
     clear h0 hrl HLF hx hx4 hxb;go_wp2_with fail
     refine HNU.out.mono ?_;rintro e w1 ⟨rfl,hg1,hr1⟩;have ht1:=QN hg1;have HR1:Hid (Rd w1 b g (ds.drop (4*(k+1)))):=hid (by rw[←HDD.out];exact hr1);have HO1:=hid (QM HO.out ht1 (fun i h e=>by omega));have HG1:=hid (Qh HG.out ht1 (by omega));have hl1:W6.heap.size≤w1.heap.size:=Nat.le_trans hl6 ht1.size;have HS1:=hid (HS.out.not ht1 (by omega));have HZ1:=hid (HZ0.out.not ht1 (by omega));have HH1:=hid (HHd.out.not ht1 (by omega));have b4:=HS1.out.cells.2.2.2.2;clear ht1 hr1 hg1 HR HO HG HL6 HS HZ0 HHd HNU HDD q0;dsimp only;go_wp2_with (first
      |(at_builtin;go_loud (refine wpList_append_own _ rfl (.tmp 43) (.tmp 46) 39 rfl W6.heap.size 30 i0 (.int .u32 0) 1 4 Tryz.underlying39 hi hz0 hz1 hz2 rfl (by decide) (.slice a k c) k _ rfl (HO1.out.alloc _) ⟨w1.heap.size,0,none⟩ 1 1 [.int .u32 x] rfl rfl (by intro t u ht;match t,ht with|0,ht=>simp at ht;subst ht;exact Qac w1 _ _) (by intro u hu;simp at hu;subst hu;rfl) (by unfold maxLen;omega) (by omega) (by simp only[World.size_alloc];omega) ?_;intro v' w4' hown hgr _;obtain⟨g',c',rfl⟩:=QL hown (by omega);have hgr0:=hgr;have HTA:=hid ((Turn.alloc w1 (.cells #[.int .u32 x] 30) (fun i=>W6.heap.size≤i)).trans (Turn.Qf hgr (fun i e _=>((HO1.out.alloc (.cells #[.int .u32 x] 30)).lt i (by first|exact e|(rw[←e]))).1)) (fun _ _ h=>h));have HOW:=hid hown;have HS2:Hid (SB w4' W5.heap.size ⟨gen,x0,x1,x2,ps⟩ a k c):=hid (Qg HS1.out HTA.out (by omega));have b5:=HS2.out.cells.2.2.2.2;have b6:=HS2.out.froz 4;clear hown hgr hgr0))
      |fail)
     have HO3:Hid (w4'.ownsRow W6.heap.size 30 1 (.slice (some ⟨g',0,none⟩) (k+1) c') (k+1) ((ps.take (k+1)).map (Value.int .u32))):=hid (by rw[HPK.out,List.map_append];exact HOW.out);have HG3:Hid (w.grownBy w4' none):=hid (Turn.grown ((Qc HG1.out).trans HTA.out (fun i h e=>by have e2:W6.heap.size≤i:=e;omega)));have hl3:W6.heap.size≤w4'.heap.size:=Nat.le_trans hl1 HTA.out.size;have HZ3:Hid (SB w4' W0.heap.size zeroS none 0 0):=hid (Qg HZ1.out HTA.out (by omega));have HH3:Hid (Su.HB w4' w4.heap.size gen x0 x1 x2 x3):=hid (Qg HH1.out HTA.out (by omega));have HR3:=hid (QbV HR1.out HTA.out (by omega) (by omega));have ht5:=Turn.setCell w4' ⟨W5.heap.size,4,none⟩ (.slice (some ⟨g',0,none⟩) (k+1) c') (S:=(·=W5.heap.size)) rfl;have hs5:=HS2.out.Qjp (some ⟨g',0,none⟩) (k+1) c';obtain⟨W8,hW8⟩:∃X,w4'.setCell ⟨W5.heap.size,4,none⟩ (.slice (some ⟨g',0,none⟩) (k+1) c')=X:=⟨_,rfl⟩;rw[hW8]at ht5 hs5;have HS5:=hid hs5;have HO5:=hid (QM HO3.out ht5 (fun i h e=>by omega));have HG5:=hid (Qh HG3.out ht5 (by omega));have HZ5:=hid (HZ3.out.not ht5 (by omega));have HH5:=hid (HH3.out.not ht5 (by omega));have HR5:=hid (QbV HR3.out ht5 (by omega) (by omega));have HL5:Hid (W6.heap.size≤W8.heap.size):=hid (Nat.le_trans hl3 ht5.size);clear ht5 hs5 HO3 HG3 HZ3 HH3 HR3 HS2 HTA HOW HO1 HG1 HS1 HZ1 HH1 HR1 HPK b4;go_wp2
     go_roundg (gk-4)
     case rel=>rw[hW8];exact⟨k+1,_,c',by omega,HR5,HO5,HG5,HL5,HS5,HZ5,HH5⟩
     case measure=>omega
    ·have q0:decide (0<gk)=true:=decide_eq_true (by omega);have HNU:=hid (Oct.Qbz b g _ 4 wr HR.out (by decide) (by decide) (by rw[hrl];omega));have HNO:Hid (¬OkD gen d):=hid (fun h=>by have:=(HOK.out.1 h).1;omega);clear h0 hrl HLF h4 hkk HR HO HL6 HS HHd;go_wp2_with fail
     refine HNU.out.mono ?_;rintro e w1 ⟨rfl,rfl⟩;dsimp only;go_wp2_with (first
      |(with_reducible refine QC rfl (.tmp 2) (.tmp 41) rfl W0.heap.size rfl zeroS none 0 0 rfl zeroS none 0 0 HZ0.out ?_;intro w6 hq6 ht6)
      |fail)
     refine bodyPost_ret (Qw rfl _ _ _ _ _ _ _ rfl hq6 (.bool false) rfl) rfl (ReadX.no HNO.out (Qh HG.out ht6 (by omega)))
 ·have HNO:Hid (¬OkD gen d):=hid (fun h=>by have:=h.1;omega);have G5:=Qa HG4.out (Qb w4 (.cells #[.int .u64 0,.int .i64 0,.int .i64 0,.int .u32 0,.int .i64 0] 217));have S5:=HS4.out.old (Qb w4 (.cells #[.int .u64 0,.int .i64 0,.int .i64 0,.int .u32 0,.int .i64 0] 217));have HG5:=hid G5;have HS5:=hid S5;clear G5 S5 HG4 HS4 h14;dsimp only;go_wp2_with (first
   |(with_reducible refine QC rfl (.tmp 2) (.tmp 23) rfl W0.heap.size rfl zeroS none 0 0 rfl zeroS none 0 0 HS5.out ?_;intro w6 hq6 ht6)
   |fail)
  refine bodyPost_ret (Qw rfl _ _ _ _ _ _ _ rfl hq6 (.bool false) rfl) rfl (ReadX.no HNO.out (Qh HG5.out ht6 (by omega)))
end Su
end Go.Proofs.YtgffbbdcbkikhaaGreatDoor
