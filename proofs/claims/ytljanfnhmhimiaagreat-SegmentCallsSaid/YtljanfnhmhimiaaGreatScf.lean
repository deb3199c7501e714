/- Parts of the proof. -/
import Derived.Test.YtljanfnhmhimiaaGreatScP
import Derived.Test.YtljanfnhmhimiaaGreatScS
import Derived.Test.YtljanfnhmhimiaaGreatScc
set_option maxRecDepth 100000
set_option maxHeartbeats 8000000
open Go.Lib (hid)
namespace Go.Proofs.YtljanfnhmhimiaaGreat
namespace Nu
open Go.RowKit
open Dv (Turn nowhere)
open Pk (Turn.then)
theorem Qnx(l:List Bool)(k:Nat)(hk:k<l.length):cnt (l.take (k+1))=cnt (l.take k)+(if l.getD k false=true then 1 else 0):=by
 rw[List.take_succ_eq_append_getElem hk,QbL,List.getD_eq_getElem?_getD,List.getElem?_eq_getElem hk];simp[cnt]
theorem Qce(a:Option Addr)(n c:Nat)(l:List Bool)(w:World)(hs:Bl.Seg w a n c l) :
  Calls Tryz.prog 45 #[.slice a n c] w fun e w'=>e=.returned (.int .i64 (cnt l:Int))∧w=w':=by
 have hcap:=hs.cap;have hle:=hs.le;unfold maxLen at hcap;have HL:=hid hs.len;have HS:=hid hs;clear hs;go_enter Tryz.func45,Tryz.ntmps45
 go_wp2
 go_loopw [3,4] (fun sn si wr=>∃k z:Nat,k≤n∧si=.int .i64 k∧sn=.int .i64 z∧w=wr∧Hid (cnt (l.take k)=z)∧z≤k) (fun _ si _=>n-(intOf si).toNat)
 case atStart=>exact⟨0,0,Nat.zero_le _,rfl,rfl,rfl,hid rfl,Nat.le_refl _⟩
 case round=>
  obtain⟨k,z,hk,rfl,rfl,rfl,HZ,hz⟩:=hrel;by_cases hlt:k<n
  ·obtain⟨g,o,rfl,hc⟩:=HS.out.addr (by omega);have hck:=hc k hlt;have h1:=Qnx l k (by rw[HL.out];exact hlt);rw[HZ.out]at h1;obtain⟨b,hb⟩:∃b,l.getD k false=b:=⟨_,rfl⟩;rw[hb]at hck h1;clear hc hb;cases b with
   |true=>
    have H1:Hid (cnt (l.take (k+1))=z+1):=hid (by simpa using h1);clear h1;go_wp2;go_roundw
    case rel=>exact⟨k+1,z+1,by omega,by go_num,by go_num,trivial,H1,by omega⟩
    case measure=>simp[intOf];omega
   |false=>
    have H1:Hid (cnt (l.take (k+1))=z):=hid (by simpa using h1);clear h1;go_wp2;go_roundw
    case rel=>exact⟨k+1,z,by omega,by go_num,rfl,trivial,H1,by omega⟩
    case measure=>simp[intOf];omega
  ·obtain rfl:k=n:=by omega
   have HF:Hid (cnt l=z):=hid (by have:=HZ.out;rwa [List.take_of_length_le (Nat.le_of_eq HL.out)]at this);go_wp2;go_ret
   exact⟨Bs.Qq (by rw[HF.out]),rfl⟩
theorem QiI(a:Option Addr)(n c:Nat)(l:List Bool)(w:World)(hs:Bl.Seg w a n c l)(hn:n≤65536) :
  Calls Tryz.prog 47 #[.slice a n c] w fun e w'=>e=.returned (.slice (some ⟨w.heap.size,0,none⟩) n n)∧Us.Seg w' (some ⟨w.heap.size,0,none⟩) n n (numsL l)∧Turn w w' nowhere:=by
 have hmk:=Pk.Qfc n (by omega);have HL:=hid hs.len;have HO0:Hid ((w.alloc (.cells (Pk.roomU n) 85)).ownsRow w.heap.size 85 1 (.slice (some ⟨w.heap.size,0,none⟩) n n) n ((fillN l 0).map (Value.int .u64))):=hid (by
  rw[QgS,HL.out];exact Pk.QfN w n (by omega))
 have HB0:Hid (Below w.heap.size w (w.alloc (.cells (Pk.roomU n) 85))):=hid ((Below.refl _ w).alloc (Nat.le_refl _) _);have HS:=hid hs;clear hs;go_enter Tryz.func47,Tryz.ntmps47
 go_wp2
 go_loopw [4] (fun si wr=>∃k:Nat,k≤n∧si=.int .i64 k∧Hid (wr.ownsRow w.heap.size 85 1 (.slice (some ⟨w.heap.size,0,none⟩) n n) n ((fillN l k).map (Value.int .u64)))∧Hid (Below w.heap.size w wr)) (fun si _=>n-(intOf si).toNat)
 case atStart=>exact⟨0,Nat.zero_le _,rfl,HO0,HB0⟩
 case round=>
  obtain⟨k,hk,rfl,HO,HB⟩:=hrel;by_cases hlt:k<n
  ·obtain⟨g,o,rfl,hc⟩:=(Qbe HS.out HB.out rfl).addr (by omega);have hck:=hc k hlt;obtain⟨f1,f2,f3⟩:=QgO l k (by rw[HL.out];exact hlt);obtain⟨b,hb⟩:∃b,l.getD k false=b:=⟨_,rfl⟩;rw[hb]at hck f1 f2;clear hc hb;cases b with
   |false=>
    have HO2:Hid (wr.ownsRow w.heap.size 85 1 (.slice (some ⟨w.heap.size,0,none⟩) n n) n ((fillN l (k+1)).map (Value.int .u64))):=hid (by rw[f1 rfl];exact HO.out);clear f1 f2 f3;go_wp2;go_roundw
    case rel=>exact⟨k+1,by omega,by go_num,HO2,HB⟩
    case measure=>simp[intOf];omega
   |true=>
    have hcell:=HO.out.cellAt k (by omega);have hkl:k<(fillN l k).length:=by rw[Qhp l k (by rw[HL.out];exact hk),HL.out];exact hlt
    rw[List.getElem?_map,List.getElem?_eq_getElem hkl]at hcell;simp only[Option.map_some]at hcell;have hfree:=HO.out.frozenAt k;have HO2:Hid ((wr.setCell ⟨w.heap.size,k,none⟩ (.int .u64 1)).ownsRow w.heap.size 85 1 (.slice (some ⟨w.heap.size,0,none⟩) n n) n ((fillN l (k+1)).map (Value.int .u64))):=hid (by
     rw[f2 rfl,List.map_set];exact(HO.out.stored k (.int .u64 1)).1)
    have HB2:Hid (Below w.heap.size w (wr.setCell ⟨w.heap.size,k,none⟩ (.int .u64 1))):=hid (HB.out.setCell (p:=⟨w.heap.size,k,none⟩) (Nat.le_refl _) _);generalize (fillN l k)[k]'_=z at hcell;clear f1 f2 f3;go_wp2;go_roundw
    case rel=>exact⟨k+1,by omega,by go_num,HO2,HB2⟩
    case measure=>simp[intOf];omega
  ·obtain rfl:k=n:=by omega
   have HF:Hid (Us.Seg wr (some ⟨w.heap.size,0,none⟩) k k (numsL l)):=hid (by
    have h:=HO.out;have e:fillN l k=numsL l:=by have:=QhP l;rwa [HL.out]at this
    rw[e]at h;exact Us.Seg.own h)
   go_wp2;go_ret
   exact⟨rfl,HF.out,Qd HB.out⟩
theorem Qfw(l:List Bool)(k:Nat)(hk:k<l.length)(b:Bool)(hb:l.getD k false=b):placesF 0 (l.take (k+1))=placesF 0 (l.take k)++[if b=true then -1 else(nextP (l.take k):Int)]∧nextP (l.take (k+1))=nextP (l.take k)+(if b=true then 0 else 1):=by
 have e:l.take (k+1)=l.take k++[b]:=by
  rw[List.take_succ_eq_append_getElem hk,←hb,List.getD_eq_getElem?_getD,List.getElem?_eq_getElem hk];rfl
 rw[e];exact⟨Qcu _ _,Qd5 _ _⟩
end Nu
namespace Nu
open Go.RowKit
open Dv (Turn nowhere)
open Pk (Turn.then)
end Nu
namespace Nu
open Go.RowKit
open Dv (Turn nowhere)
open Pk (Turn.then PutF putR IsU)
open Bs (Qj)
open Oct (varB)
theorem QkP{l:List Int}{v E:Int}{B:List Int}{m:Nat}(hR:putR l v=(E,B))(hm:B.length=m)(hu:IsU l)(a:Option Addr)(n c:Nat)(W:World)(hs:Us.Seg W a n c l) :
  Calls Tryz.prog 46 #[.slice a n c,.int .i64 v] W (Pk.PutO W m E B):=
 (Pk.Qay a n c l v W hs hu).mono fun e w' h=>by
  rw[hR]at h;obtain⟨a',k,he,h1,h2,h3⟩:=h;subst hm;exact⟨a',k,he,h1,Pk.Qc h2,h3⟩
theorem QnQ{w w8:World}{a:Option Addr}{n c g:Nat}{l:List Int}{tmp:Obj}(h:Bs.Seg w a n c l)(hg:(w.alloc tmp).grownBy w8 (some g))(hne:∀ad,a=some ad→g≠ad.block):Bs.Seg w8 a n c l:=
 (h.grown (World.grownBy_alloc w tmp none)).kept hg (fun ad had e=>hne ad had (Option.some.inj e))
theorem Qmi(a:Option Addr)(n c:Nat)(w:World)(hn:4096<n) :
  Calls Tryz.prog 24 #[.slice a n c] w (PutF w 0 3 []):=by
 have hn':(4096:Int)<(n:Int):=by omega
 clear hn;go_enter Tryz.func24,Tryz.ntmps24
 go_wp2;go_ret2
 exact⟨none,0,rfl,Bs.Seg.nil w,Turn.refl _ _⟩
theorem QkI{w w2 w8:World}{l:List Bool}{p g c:Nat}{f:Int}{tmp:Obj}{V:Value}{xs:List Int}(hb:Below w.heap.size w w2)(ho:w2.ownsRow w.heap.size 5 1 V p (xs.map (Value.int .u8)))(hp:xs.length=p)(he:encN l=xs++[f])
  (hown8:w8.ownsRow w.heap.size 5 1 (.slice (some ⟨g,0,none⟩) (p+1) c) (p+1) (xs.map (Value.int .u8)++[Value.int .u8 f])) (hg8:(w2.alloc tmp).grownBy w8 V.ownBlock) :
  PutF w (encN l).length 0 (encN l) (.returned (.tuple #[.slice (some ⟨g,0,none⟩) (p+1) c,.int .i64 0])) w8:=by
 have hl:(encN l).length=p+1:=by rw[he,List.length_append,hp];rfl
 refine⟨_,c,by rw[hl],?_,Qd ((hb.alloc hb.size _).grown hg8 (by have:=hb.size;simp;omega) (fun j e=>((ho.alloc tmp).lt j e).1))⟩;rw[hl,he];refine Bs.Seg.own (base:=w.heap.size) (e:=5) ?_;rw[List.map_append];exact hown8
theorem Qm0(a:Option Addr)(n c:Nat)(l:List Bool)(w:World)(hs:Bl.Seg w a n c l)(hn:n≤4096)(h0:cnt l=0) :
  Calls Tryz.prog 24 #[.slice a n c] w (PutF w (encN l).length 0 (encN l)):=by
 obtain⟨i0,hi,hz0,hz1,hz2⟩:=info_parts Qj;have hlen:=hs.len;have HC:=hid (fun W hs=>Qce a n c l W hs);rw[h0]at HC;have HV:=hid (In.Qao w.heap.size (.slice none 0 0) 0 [] (n:Int) w (World.ownsRow_nil _ _ _ _) (Nat.le_refl _) (by omega) (by omega) (by decide));have hfm:formN l=0:=by unfold formN;rw[if_pos h0]
 have he:encN l=([]++varB 9 (n:Int))++[0]:=by
  rw[Qc8];unfold headN restB;rw[hfm,if_neg (by decide),hlen,List.append_nil];rfl
 have HE:=hid he;have HS:=hid hs;have hvl:=Oct.QE 9 (n:Int);obtain⟨p,hp⟩:∃p,0+(varB 9 (n:Int)).length=p:=⟨_,rfl⟩;rw[hp]at HV;have HP:Hid ((([]++varB 9 (n:Int)):List Int).length=p):=hid (by rw[←hp];simp);have hpb:p≤10:=by omega
 have hwu:=wrap_u64 (n:=n) (by omega);have hn':¬(4096:Int)<(n:Int):=by omega
 clear hs hlen he hfm h0 hvl hp;go_enter Tryz.func24,Tryz.ntmps24
 go_wp2_with fail
 refine HV.out.mono ?_;rintro e w2 ⟨g2,c2,rfl,hown2,hb2⟩;have HB2:=hid hb2;have HO2:=hid hown2;have HC2:=hid (HC.out w2 (Qbe HS.out hb2 rfl));have HS2:=hid hb2.size;clear hown2 hb2;dsimp only;go_wp2_with fail
 refine HC2.out.mono ?_;rintro e w' ⟨rfl,rfl⟩;dsimp only;go_wp2_with (first
  |(at_builtin;refine wpList_append_own _ rfl (.tmp 18) (.tmp 19) 45 rfl w.heap.size 5 i0 (.int .u8 0) 1 1 Tryz.underlying45 hi hz0 hz1 hz2 rfl (by decide) _ p _ rfl (HO2.out.alloc _) ⟨w2.heap.size,0,none⟩ 1 1 [.int .u8 0] rfl rfl (by intro t u ht;match t,ht with|0,ht=>simp at ht;subst ht;exact Pk.Qm w2 _ _) (by intro u hu;simp at hu;subst hu;rfl) (by unfold maxLen;omega) (by omega) (by have:=HS2.out;simp;omega) ?_;intro v8 w8 hown8 hg8 hnil8;obtain⟨g8,c8,rfl⟩:=ownsRow_form hown8 (by omega))
  |fail)
 have HFin:=hid (QkI HB2.out HO2.out HP.out HE.out hown8 hg8);clear hown8 hg8;go_ret2
 exact HFin.out
theorem QoL(a:Option Addr)(n c:Nat)(l:List Bool)(w:World)(hs:Bl.Seg w a n c l)(hn:n≤4096)(h0:¬cnt l=0)(h1:cnt l=l.length) :
  Calls Tryz.prog 24 #[.slice a n c] w (PutF w (encN l).length 0 (encN l)):=by
 obtain⟨i0,hi,hz0,hz1,hz2⟩:=info_parts Qj;have hlen:=hs.len;have HC:=hid (fun W hs=>Qce a n c l W hs);have hfm:formN l=1:=by unfold formN;rw[if_neg h0,if_pos h1]
 rw[h1,hlen]at HC;rw[h1,hlen]at h0;have HV:=hid (In.Qao w.heap.size (.slice none 0 0) 0 [] (n:Int) w (World.ownsRow_nil _ _ _ _) (Nat.le_refl _) (by omega) (by omega) (by decide));have he:encN l=([]++varB 9 (n:Int))++[1]:=by
  rw[Qc8];unfold headN restB;rw[hfm,if_neg (by decide),hlen,List.append_nil];rfl
 have HE:=hid he;have HS:=hid hs;have hvl:=Oct.QE 9 (n:Int);obtain⟨p,hp⟩:∃p,0+(varB 9 (n:Int)).length=p:=⟨_,rfl⟩;rw[hp]at HV;have HP:Hid ((([]++varB 9 (n:Int)):List Int).length=p):=hid (by rw[←hp];simp);have hpb:p≤10:=by omega
 have hwu:=wrap_u64 (n:=n) (by omega);have hn':¬(4096:Int)<(n:Int):=by omega
 have e0:((n:Int)==0)=false:=beq_eq_false_iff_ne.2 (by omega);have e1:((n:Int)==(n:Int))=true:=beq_self_eq_true _;clear hs hlen he hfm h0 h1 hvl hp;go_enter Tryz.func24,Tryz.ntmps24
 go_wp2_with fail
 refine HV.out.mono ?_;rintro e w2 ⟨g2,c2,rfl,hown2,hb2⟩;have HB2:=hid hb2;have HO2:=hid hown2;have HC2:=hid (HC.out w2 (Qbe HS.out hb2 rfl));have HS2:=hid hb2.size;clear hown2 hb2;dsimp only;go_wp2_with fail
 refine HC2.out.mono ?_;rintro e w' ⟨rfl,rfl⟩;dsimp only;go_wp2_with (first
  |(at_builtin;refine wpList_append_own _ rfl (.tmp 25) (.tmp 26) 45 rfl w.heap.size 5 i0 (.int .u8 0) 1 1 Tryz.underlying45 hi hz0 hz1 hz2 rfl (by decide) _ p _ rfl (HO2.out.alloc _) ⟨w2.heap.size,0,none⟩ 1 1 [.int .u8 1] rfl rfl (by intro t u ht;match t,ht with|0,ht=>simp at ht;subst ht;exact Pk.Qm w2 _ _) (by intro u hu;simp at hu;subst hu;rfl) (by unfold maxLen;omega) (by omega) (by have:=HS2.out;simp;omega) ?_;intro v8 w8 hown8 hg8 hnil8;obtain⟨g8,c8,rfl⟩:=ownsRow_form hown8 (by omega))
  |fail)
 have HFin:=hid (QkI HB2.out HO2.out HP.out HE.out hown8 hg8);clear hown8 hg8;go_ret2
 exact HFin.out
theorem Qml(a:Option Addr)(n c:Nat)(l:List Bool)(w:World)(hs:Bl.Seg w a n c l)(hn:n≤4096)(h0:¬cnt l=0)(h1:¬cnt l=l.length) :
  Calls Tryz.prog 24 #[.slice a n c] w (PutF w (encN l).length 0 (encN l)):=by
 obtain⟨i0,hi,hz0,hz1,hz2⟩:=info_parts Qj;have hlen:=hs.len;have HC:=hid (fun W hs=>Qce a n c l W hs);have h2:formN l=2:=by unfold formN;rw[if_neg h0,if_neg h1]
 rw[hlen]at h1;have HV:=hid (In.Qao w.heap.size (.slice none 0 0) 0 [] (n:Int) w (World.ownsRow_nil _ _ _ _) (Nat.le_refl _) (by omega) (by omega) (by decide));have he:encN l=(([]++varB 9 (n:Int))++[2])++bitsB l:=by
  rw[Qc8];unfold headN restB;rw[if_pos h2,hlen,h2];rfl
 have HE:=hid he;have HS:=hid hs;have hvl:=Oct.QE 9 (n:Int);obtain⟨p,hp⟩:∃p,0+(varB 9 (n:Int)).length=p:=⟨_,rfl⟩;rw[hp]at HV;have HP:Hid ((([]++varB 9 (n:Int)):List Int).length=p):=hid (by rw[←hp];simp);have hpb:p≤10:=by omega
 have hwu:=wrap_u64 (n:=n) (by omega);have hn':¬(4096:Int)<(n:Int):=by omega
 obtain⟨z,hz⟩:∃z,cnt l=z:=⟨_,rfl⟩;rw[hz]at HC h0 h1;have e0:((z:Int)==0)=false:=beq_eq_false_iff_ne.2 (by omega);have e1:((z:Int)==(n:Int))=false:=beq_eq_false_iff_ne.2 (by omega);have hl6:l.length≤65536:=by omega
 have HPB:Hid (Pk.putR (numsL l) 1=(0,bitsB l)):=hid (Qjf hl6);obtain⟨pl,hpl⟩:∃p,(bitsB l).length=p:=⟨_,rfl⟩;have hplb:pl≤8192:=by rw[←hpl,QfQ hl6];exact Qcg hl6
 have HNum:=hid (fun W h=>QiI a n c l W h (by omega));have HPut:=hid (fun a' c' W h=>QkP (l:=numsL l) (v:=1) HPB.out hpl (Qf0 l) a' n c' W h);have HPL:=hid hpl;clear hs hlen he h2 h0 h1 hvl hp hz hpl hl6;go_enter Tryz.func24,Tryz.ntmps24
 go_wp2_with fail
 refine HV.out.mono ?_;rintro e w2 ⟨g2,c2,rfl,hown2,hb2⟩;have HB2:=hid hb2;have HO2:=hid hown2;have HC2:=hid (HC.out w2 (Qbe HS.out hb2 rfl));have HN2:=hid (HNum.out w2 (Qbe HS.out hb2 rfl));clear hown2 hb2;dsimp only;go_wp2_with fail
 refine HC2.out.mono ?_;rintro e w' ⟨rfl,rfl⟩;dsimp only;go_wp2_with fail
 refine HN2.out.mono ?_;rintro e w3 ⟨rfl,hsN,htN⟩;have HO3:Hid (w3.ownsRow w.heap.size 5 1 (.slice (some ⟨g2,0,none⟩) p c2) p (([]++varB 9 (n:Int)).map (Value.int .u8))):=hid (Pk.QaL HO2.out htN id);have HB3:Hid (Below w.heap.size w w3):=hid (QI (Turn.then (Qd HB2.out) htN));have HPut3:=hid (HPut.out _ _ w3 hsN);clear hsN htN HN2;dsimp only;go_wp2_with fail
 refine HPut3.out.mono ?_;rintro e w4 ⟨a4,k4,rfl,hs4,ht4,hnew⟩;obtain⟨g4,ha4,hown4⟩:=hnew rfl;have HNe:Hid (∀ad,a4=some ad→g2≠ad.block):=hid (fun ad had e=>by
  rw[ha4]at had;cases had
  have h1:=(hown4.lt _ rfl).1;have h2:=(HO3.out.lt _ rfl).2;dsimp only at h1 h2 e;omega)
 have HO4:Hid (w4.ownsRow w.heap.size 5 1 (.slice (some ⟨g2,0,none⟩) p c2) p (([]++varB 9 (n:Int)).map (Value.int .u8))):=hid (Pk.QaL HO3.out ht4 id);have HB4:Hid (Below w.heap.size w w4):=hid (QI (Turn.then (Qd HB3.out) ht4));have HS4:=hid hs4;have HZ4:=hid HB4.out.size;clear hs4 ht4 HPut3 hnew ha4 hown4;dsimp only;go_wp2_with (first
  |(at_builtin;refine wpList_append_own _ rfl (.tmp 34) (.tmp 35) 45 rfl w.heap.size 5 i0 (.int .u8 0) 1 1 Tryz.underlying45 hi hz0 hz1 hz2 rfl (by decide) _ p _ rfl (HO4.out.alloc _) ⟨w4.heap.size,0,none⟩ 1 1 [.int .u8 2] rfl rfl (by intro t u ht;match t,ht with|0,ht=>simp at ht;subst ht;exact Pk.Qm w4 _ _) (by intro u hu;simp at hu;subst hu;rfl) (by unfold maxLen;omega) (by omega) (by have:=HZ4.out;simp;omega) ?_;intro v8 w8 hown8 hg8 hnil8;obtain⟨g8,c8,rfl⟩:=ownsRow_form hown8 (by omega);have HO8:=hid hown8;have HB8:Hid (Below w.heap.size w w8):=hid ((HB4.out.alloc HB4.out.size _).grown hg8 (by have:=HZ4.out;simp;omega) (fun j e=>((HO4.out.alloc (.cells #[.int .u8 2] 5)).lt j e).1));have HS8:Hid (Bs.Seg w8 a4 pl k4 (bitsB l)):=hid (QnQ HS4.out hg8 HNe.out);have HZ8:=hid HB8.out.size;clear hown8 hg8 hnil8)
  |(at_builtin;refine Bs.Qr rfl (.tmp 36) (.tmp 37) 45 rfl w.heap.size 5 i0 Tryz.underlying45 hi hz0 hz1 hz2 g8 (p+1) c8 _ rfl HO8.out a4 pl k4 (bitsB l) rfl HS8.out (by omega) HZ8.out ?_;intro g9 c9 w9 hown9 hg9)
  |fail)
 have HFin:Hid (PutF w (encN l).length 0 (encN l) (.returned (.tuple #[.slice (some ⟨g9,0,none⟩) (p+1+pl) c9,.int .i64 0])) w9):=by
  have hl:(encN l).length=p+1+pl:=by rw[HE.out,List.length_append,List.length_append,HP.out,HPL.out];rfl
  refine hid ⟨_,c9,by rw[hl],?_,Qd (HB8.out.grown hg9 HZ8.out (fun j e=>(HO8.out.lt j e).1))⟩;rw[hl,HE.out];refine Bs.Seg.own (base:=w.heap.size) (e:=5) ?_;rw[List.map_append,List.map_append];exact hown9
 clear hown9 hg9;go_ret2
 exact HFin.out
theorem Qa5{l:List Bool}{E:Int}{B:List Int}{m:Nat}(hR:putN l=(E,B))(hm:B.length=m)(a:Option Addr)(n c:Nat)(W:World)(hs:Bl.Seg W a n c l) :
  Calls Tryz.prog 24 #[.slice a n c] W (PutF W m E B):=by
 have hl:=hs.len;subst hm;unfold putN at hR;by_cases h:4096<l.length
 ·rw[if_pos h]at hR;cases hR
  exact Qmi a n c W (by omega)
 ·rw[if_neg h]at hR;cases hR
  by_cases h0:cnt l=0
  ·exact Qm0 a n c l W hs (by omega) h0
  ·by_cases h1:cnt l=l.length
   ·exact QoL a n c l W hs (by omega) h0 h1
   ·exact Qml a n c l W hs (by omega) h0 h1
end Nu
namespace Nu
open Go.RowKit
open Dv (Turn nowhere)
open Pk (Turn.then getR sizeN Fit)
open Oct (readV ofB)
open In (At RR RRead RVarX rvar_any QV Qw Qh below_grown)
theorem QgM{l:List Int}{n v E:Int}{B:List Int}{m:Nat}(hR:getR l n v=(E,B))(hm:B.length=m)(hb:Fit 8 l)(a:Option Addr)(len c:Nat)(W:World)(hs:Bs.Seg W a len c l) :
  Calls Tryz.prog 74 #[.slice a len c,.int .i64 n,.int .i64 v] W (Pk.GetF W m E B):=
 (Pk.Qew a len c l n v W hs hb).mono fun e w' h=>by
  rw[hR]at h;obtain⟨a',k,he,h1,h2⟩:=h;subst hm;exact⟨a',k,he,h1,Pk.Qc h2⟩
theorem Qcz(b g:Nat)(l:List Int)(w:World)(h:RR w b g l) :
  Calls Tryz.prog 129 #[.pointer (some ⟨b,0,none⟩)] w fun e w'=>e=.returned (.int .i64 l.length)∧w=w':=by
 obtain⟨o,c,h0,hle,hc,hj⟩:=h.cells;obtain⟨m,hm⟩:∃m,l.length=m:=⟨_,rfl⟩;rw[hm]at h0 ⊢;clear hj hle hc h hm;go_enter Tryz.func129,Tryz.ntmps129
 go_wp2;go_ret
 exact⟨rfl,rfl⟩
theorem Qms(b g:Nat)(l:List Int)(w:World)(h:RR w b g l)(hb:Oct.IsB l):∃x f r,(f=0∨f=7)∧(l=[]→f=7) ∧
  Calls Tryz.prog 127 #[.pointer (some ⟨b,0,none⟩),.int .i64 1] w (RRead b g w x f r):=by
 have:=Qw b g l w h hb;cases l with
 |nil=>exact⟨0,7,[],.inr rfl,fun _=>rfl,this⟩
 |cons x r=>exact⟨x,0,r,.inl rfl,(fun h=>by cases h),this⟩
theorem Qlm(a:Option Addr)(n c:Nat)(bs:List Int)(w:World)(hs:Bs.Seg w a n c bs)(hb:Oct.IsB bs)(hn:n≤100000000)(hc:readC bs=none) :
  Calls Tryz.prog 70 #[.slice a n c] w (GetX w 0 [] 0 4):=by
 have HNew:=hid (QV a n c bs w hs (by omega));have HB:=hid hb;have hbad:¬(readV 0 0 bs).2.1=0∨4096<(readV 0 0 bs).1:=by
  unfold readC at hc
  split at hc
  ·rename_i h;exact h
  ·cases hc
 obtain⟨v,er,nn,hv⟩:∃v er nn,readV 0 0 bs=(v,er,nn):=⟨_,_,_,rfl⟩;have HVe:=hid hv;have hv0:er=0→0≤v:=fun h0=>by subst h0;exact(In.QQ bs hb v nn hv).1
 rw[hv]at hbad;dsimp only at hbad;clear hs hb hn hc hv;go_enter Tryz.func70,Tryz.ntmps70
 go_wp2_with fail
 refine HNew.out.mono ?_;rintro e w1 ⟨b,g,rfl,hb0,hrd,hgr,hg1⟩;have HVar:=hid (rvar_any b g bs w1 hrd HB.out);unfold RVarX at HVar;rw[HVe.out]at HVar;have HB1:Hid (Below w.heap.size w w1):=hid (below_grown hgr (Nat.le_refl _));have HB0:=hid hb0;clear hb0 hrd hgr hg1;dsimp only at HVar;dsimp only;go_wp2_with fail
 refine HVar.out.mono ?_;rintro e w2 ⟨rfl,ht2,hr2⟩;obtain⟨x,f,r,hf,-,hnum⟩:=Qms b g (bs.drop nn) w2 hr2 (In.Qn HB.out nn);have HNum:=hid hnum;have HB2:Hid (Below w.heap.size w w2):=hid (Qh HB1.out ht2 HB0.out);clear ht2 hr2 HVar hnum;dsimp only;go_wp2_with fail
 refine HNum.out.mono ?_;rintro e w3 ⟨rfl,ht3,hr3⟩;have HF:Hid (GetX w 0 [] 0 4 (.returned (.tuple #[.slice none 0 0,.int .i64 0,.int .i64 4])) w3):=hid (Qal (Qh HB2.out ht3 HB0.out));clear ht3 hr3 HNum;dsimp only;by_cases he:er=0
 ·subst he;have h4:4096<v:=by simpa using hbad
  have hv1:=hv0 rfl;clear hbad hv0;rcases hf with rfl|rfl
  ·go_wp2;go_ret3
   exact HF.out
  ·go_wp2;go_ret3
   exact HF.out
 ·have he1:(er != 0)=true:=bne_iff_ne.2 he;have he2:(er==0)=false:=beq_eq_false_iff_ne.2 he;clear hbad hv0 hf;go_wp2;go_ret3
  exact HF.out
theorem Qcc{bs:List Int}(hb:Oct.IsB bs){m:Nat}{r:List Int}(hc:readC bs=some (m,r)):∀b g W,RR W b g bs →
  Calls Tryz.prog 126 #[.pointer (some ⟨b,0,none⟩)] W (RRead b g W (m:Int) 0 r):=by
 obtain⟨hm,hbe⟩:=Q5 hb hc;have hv:readV 0 0 bs=((m:Int),0,(Oct.varB 9 (m:Int)).length):=by rw[hbe];exact In.readV_var m r (by omega)
 have hd:bs.drop (Oct.varB 9 (m:Int)).length=r:=by rw[hbe];exact In.QbQ m r
 intro b g W h;have:=rvar_any b g bs W h hb;unfold RVarX at this;rw[hv]at this;dsimp only at this;rw[hd]at this;exact this
theorem Qht(a:Option Addr)(n c:Nat)(bs:List Int)(m:Nat)(r:List Int)(w:World)(hs:Bs.Seg w a n c bs)(hb:Oct.IsB bs)(hn:n≤100000000)(hc:readC bs=some (m,r))(hr:r=[]∨∃k t,r=k :: t∧2<k) :
  Calls Tryz.prog 70 #[.slice a n c] w (GetX w 0 [] 0 4):=by
 have HNew:=hid (QV a n c bs w hs (by omega));obtain⟨hm,hbe⟩:=Q5 hb hc;have HRB:Hid (Oct.IsB r):=hid (Qz (hbe▸hb));have HVar:=hid (Qcc hb hc);have hm4:¬(4096:Int)<(m:Int):=by omega
 clear hs hb hn hc hbe;go_enter Tryz.func70,Tryz.ntmps70
 go_wp2_with fail
 refine HNew.out.mono ?_;rintro e w1 ⟨b,g,rfl,hb0,hrd,hgr,hg1⟩;have HV1:=hid (HVar.out b g w1 hrd);have HB1:Hid (Below w.heap.size w w1):=hid (below_grown hgr (Nat.le_refl _));have HB0:=hid hb0;clear hb0 hrd hgr hg1;dsimp only;go_wp2_with fail
 refine HV1.out.mono ?_;rintro e w2 ⟨rfl,ht2,hr2⟩;have hnum:=Qw b g r w2 hr2 HRB.out;have HB2:Hid (Below w.heap.size w w2):=hid (Qh HB1.out ht2 HB0.out);rcases hr with rfl|⟨k,t,rfl,hk⟩
 ·have HNum:Hid (Calls Tryz.prog 127 #[.pointer (some ⟨b,0,none⟩),.int .i64 1] w2 (RRead b g w2 0 7 [])):=hid hnum;clear ht2 hr2 HV1 hnum;dsimp only;go_wp2_with fail
  refine HNum.out.mono ?_;rintro e w3 ⟨rfl,ht3,hr3⟩;have HF:Hid (GetX w 0 [] 0 4 (.returned (.tuple #[.slice none 0 0,.int .i64 0,.int .i64 4])) w3):=hid (Qal (Qh HB2.out ht3 HB0.out));clear ht3 hr3 HNum;dsimp only;go_wp2;go_ret3
  exact HF.out
 ·have HNum:Hid (Calls Tryz.prog 127 #[.pointer (some ⟨b,0,none⟩),.int .i64 1] w2 (RRead b g w2 k 0 t)):=hid hnum;clear ht2 hr2 HV1 hnum;dsimp only;go_wp2_with fail
  refine HNum.out.mono ?_;rintro e w3 ⟨rfl,ht3,hr3⟩;have HF:Hid (GetX w 0 [] 0 4 (.returned (.tuple #[.slice none 0 0,.int .i64 0,.int .i64 4])) w3):=hid (Qal (Qh HB2.out ht3 HB0.out));clear ht3 hr3 HNum;dsimp only;go_wp2;go_ret3
  exact HF.out
def fillF(D:List Bool)(j:Nat):List Bool:=D.take j++List.replicate (D.length-j) false
theorem QgL(D:List Bool):fillF D 0=List.replicate D.length false:=by simp[fillF]
theorem QeK(D:List Bool):fillF D D.length=D:=by simp[fillF]
theorem Qdv(D:List Bool)(j:Nat)(h:j≤D.length):(fillF D j).length=D.length:=by
 unfold fillF;rw[List.length_append,List.length_take,List.length_replicate];omega
theorem Qdo(D:List Bool)(j:Nat)(h:j<D.length):(fillF D j).set j (D.getD j false)=fillF D (j+1):=by
 have e2:D.length-j=(D.length-(j+1))+1:=by omega
 have hl:(D.take j).length=j:=by rw[List.length_take];omega
 unfold fillF;rw[e2,List.replicate_succ,List.set_append_right _ _ (by omega),hl,Nat.sub_self,List.set_cons_zero,List.take_succ_eq_append_getElem h,List.append_assoc,List.getD_eq_getElem?_getD,List.getElem?_eq_getElem h]
 rfl
theorem Qca(S:Nat)(hS:S≤1000000)(W:World):(Instr.makeSlice 44 (.int .u64 (S:Int)) (.int .u64 (S:Int))).run Tryz.prog W=.ok (.slice (some ⟨W.heap.size,0,none⟩) S S) (W.alloc (.cells (roomF S) 4)):=by
 obtain⟨i0,hi,hz0,hz1,hz2⟩:=info_parts Bl.QbY;have h:=run_make (P:=Tryz.prog) W 44 4 i0 (.bool false) Tryz.underlying44 hi hz0 .u64 .u64 (S:Int) (S:Int) (by omega) (by omega) (by rw[hz2];omega) (by omega);rw[hz1,Int.toNat_natCast,Nat.mul_one]at h;exact h
theorem Qlz(S:Nat):(roomF S).toList=(List.replicate S false).map Value.bool:=by
 have h:(roomF S).toList=List.replicate S (Value.bool false):=toList_madeCells_one _ _;rw[h,List.map_replicate]
theorem QcP(W:World)(D:List Bool)(S:Nat)(hS:S≤1000000)(hD:D.length=S):(W.alloc (.cells (roomF S) 4)).ownsRow W.heap.size 4 1 (.slice (some ⟨W.heap.size,0,none⟩) S S) S ((fillF D 0).map Value.bool):=by
 rw[QgL,hD];exact⟨by simp,.inr ⟨W.heap.size,S,roomF S,rfl,Nat.le_refl _,heap_alloc_new W _,Nat.le_refl _,by unfold maxLen;omega,by rw[Qgi,Nat.mul_one],by rw[Qlz];exact List.take_of_length_le (by simp)⟩⟩
end Nu
namespace Nu
open Go.RowKit
open Dv (Turn nowhere)
open Pk (Turn.then getR sizeN Fit PutF)
open Oct (readV ofB)
open In (At RR RRead RVarX rvar_any QV Qw Qh below_grown Qe)
theorem QeI{a b:ByteArray}(h:a≠b):¬a.toList=b.toList:=by
 rw[Go.ByteArray.toList_eq,Go.ByteArray.toList_eq];intro e;apply h
 obtain⟨⟨a⟩⟩:=a;obtain⟨⟨b⟩⟩:=b;have:a=b:=e;rw[this]
theorem QaH{a b:List Int}(ha:Bs.IsB a)(hb:Bs.IsB b)(h:¬a=b):((strOfNums a).toList==(strOfNums b).toList)=false:=
 beq_eq_false_iff_ne.2 (QeI fun e=>h (Dv.QbF ha hb e))
theorem Qpz(a:Option Addr)(n c:Nat)(bs:List Int)(m:Nat)(r:List Int)(w:World)(hs:Bs.Seg w a n c bs)(hb:Oct.IsB bs)(hn:n≤100000000)(hc:readC bs=some (m,0 :: r))(M:Nat)(L:List Bool)(z E:Int)(hR:resN bs (rgetN bs)=(L,z,E))(hM:L.length=M) :
  Calls Tryz.prog 70 #[.slice a n c] w (GetX w M L z E):=by
 have HNew:=hid (QV a n c bs w hs (by omega));obtain⟨hm,hbe⟩:=Q5 hb hc;have hRB:Oct.IsB r:=fun x hx=>Qz (hbe▸hb) x (List.mem_cons_of_mem _ hx)
 have HRB:Hid (Oct.IsB (0 :: r)):=hid (Qz (hbe▸hb));have HVar:=hid (Qcc hb hc);have hlen:=hs.len;have hbl:=congrArg List.length hbe;rw[List.length_append,List.length_cons,hlen]at hbl;have hvp:=Oct.QaN 9 (m:Int);have HSeg:=hid hs;have HBs:=hid hb;have hsr:True:=trivial;obtain⟨l,hl⟩:∃l,List.replicate m false=l:=⟨_,rfl⟩;have hlm:l.length=m:=by rw[←hl,List.length_replicate]
 have HLm:Hid (l.length=m):=hid hlm;have HPN:Hid (putN l=(0,encN l)):=hid (by unfold putN;rw[if_neg (by omega)]);obtain⟨pl,hpl⟩:∃p,(encN l).length=p:=⟨_,rfl⟩;have HPl:=hid hpl;have HPp:Hid (0<pl):=hid (by have:=(QdV (l:=l) (by omega)).1;omega);have HPB:=hid (QaS (l:=l) (by omega));obtain⟨t,ht⟩:∃t,r.length=t:=⟨_,rfl⟩;have HSl:=hid ht;have htn:t+2≤n:=by omega
 obtain⟨y,hy⟩:∃y,n-t=y:=⟨_,rfl⟩;have HX:Hid (rgetN bs=if encN l=bs.take y then some (l,r) else none):=hid (by
  unfold rgetN;rw[show rdN bs=some (0,l,r) from by unfold rdN;rw[hc];simp only;rw[←hl];rfl];simp only;rw[hlen,ht,hy])
 have HY:Hid (2≤y∧y≤n):=hid (by omega);have hyw:IntKind.i64.wrap ((n:Int)-(t:Int))=(y:Int):=by rw[IntKind.wrap_i64];omega
 have HYe:Hid ((n:Int)-(t:Int)=(y:Int)):=hid (by omega);have HN:Hid (bs.length=n):=hid hlen;have hy0:(0:Int)≤(y:Int):=by omega
 have hyc:(y:Int)≤(c:Int):=by have:=hs.le;omega
 have hmk:=Qca m (by omega);have hm4:¬(4096:Int)<(m:Int):=by omega
 have hma:=Nat.le_trans hm (by decide:4096≤1000000);have hwm:IntKind.i64.wrap (m:Int)=(m:Int):=by rw[IntKind.wrap_i64];omega
 clear hs hb hc hbe hlen hbl hvp hpl ht hy hlm htn hRB hsr;go_enter Tryz.func70,Tryz.ntmps70
 go_wp2_with fail
 refine HNew.out.mono ?_;rintro e w1 ⟨b,g,rfl,hb0,hrd,hgr,hg1⟩;have HV1:=hid (HVar.out b g w1 hrd);have HB1:Hid (Below w.heap.size w w1):=hid (below_grown hgr (Nat.le_refl _));have HB0:=hid hb0;have HG1:=hid hg1;clear hb0 hrd hgr hg1;dsimp only;go_wp2_with fail
 refine HV1.out.mono ?_;rintro e w2 ⟨rfl,ht2,hr2⟩;have HNum:Hid (Calls Tryz.prog 127 #[.pointer (some ⟨b,0,none⟩),.int .i64 1] w2 (RRead b g w2 0 0 r)):=hid (Qw b g (0 :: r) w2 hr2 HRB.out);have HB2:Hid (Below w.heap.size w w2):=hid (Qh HB1.out ht2 HB0.out);have HG2:Hid (g<w2.heap.size):=hid (Nat.lt_of_lt_of_le HG1.out ht2.size);clear ht2 hr2 HV1;dsimp only;go_wp2_with fail
 refine HNum.out.mono ?_;rintro e w3 ⟨rfl,ht3,hr3⟩;have HB3:Hid (Below w.heap.size w w3):=hid (Qh HB2.out ht3 HB0.out);have HG3:Hid (g<w3.heap.size):=hid (Nat.lt_of_lt_of_le HG2.out ht3.size);have HR3:=hid hr3;have HBL:Hid (b<w3.heap.size):=hid hr3.lt;clear ht3 hr3 HNum;dsimp only;have HB4:Hid (Below w.heap.size w (w3.alloc (.cells (roomF m) 4))):=hid (HB3.out.alloc HB3.out.size _);have HR4:Hid (RR (w3.alloc (.cells (roomF m) 4)) b g r):=hid (HR3.out.turn (Turn.alloc w3 _ nowhere) id id);have HO4:=hid (QcP w3 l m (by omega) HLm.out);obtain⟨G,hG⟩:∃G,w3.heap.size=G:=⟨_,rfl⟩;have hwG:w.heap.size≤G:=by rw[←hG];exact HB3.out.size
 have HL0:Hid (l=fillF l 0):=hid (by rw[QgL,HLm.out,hl]);have HSg4:Hid (Bl.Seg (w3.alloc (.cells (roomF m) 4)) (some ⟨G,0,none⟩) m m l):=hid (by
  have h:=HO4.out;rw[←HL0.out,hG]at h;exact Bl.Seg.own h)
 have HWG:=hid hwG;clear hl hwG;go_wp2
 try rw[hG]
 obtain⟨wr,hwr⟩:∃wr,w3.alloc (.cells (roomF m) 4)=wr:=⟨_,rfl⟩;rw[hwr]at HB4 HR4 HSg4 ⊢;clear hwr hG HO4;have HBr:=HB4;have HRd:=HR4;have HSg:=HSg4;clear HB4 HR4 HSg4;refine wp_loop_rounds 1 ?_;rw[rounds_succ];by_cases hm0:m=0
 ·have hlt:decide ((0:Int)<(m:Int))=false:=decide_eq_false (by omega);have hlt2:¬(0:Int)<(m:Int):=by omega
  clear hm0;have HLf:=hid (Qcz b g r wr HRd.out);have HPut:=hid (Qa5 HPN.out HPl.out (some ⟨G,0,none⟩) m m wr HSg.out);rw[HSl.out]at HLf;go_wp2_with (first
   |(go_at_call 129;refine HLf.out.mono ?_;rintro e w' ⟨rfl,rfl⟩)
   |fail)
  refine HPut.out.mono ?_;rintro e w6 ⟨a6,k6,rfl,hs6,hT6⟩;have HB6:Hid (Below w.heap.size w w6):=hid (QI (Turn.then (Qd HBr.out) hT6));have HS6:Hid (Bl.Seg w6 (some ⟨G,0,none⟩) m m l):=hid (Qad HSg.out hT6);have hc1:∀q,(convert 45 9 (.slice a6 pl k6)).run Tryz.prog (w6.drewN q)=.ok (.string (strOfNums (encN l))) (w6.drewN q):=fun q=>In.QG (hs6.grown (Turn.drewN w6 q nowhere).grown) HPp.out
  have hc2:∀q,(convert 45 9 (.slice a y c)).run Tryz.prog (w6.drewN q)=.ok (.string (strOfNums (bs.take y))) (w6.drewN q):=fun q=>In.QG (((HSeg.out.grown (Bs.grown_of HB6.out)).take HY.out.2).grown (Turn.drewN w6 q nowhere).grown) (by have:=HY.out.1;omega)
  clear hs6 hT6 HPut HLf;dsimp only;have hX:=HX.out;by_cases hsame:encN l=bs.take y
  ·rw[if_pos hsame]at hX;rw[hX]at hR;simp only[resN,Prod.mk.injEq]at hR;obtain⟨rfl,rfl,rfl⟩:=hR;obtain rfl:m=M:=by rw[←hM,HLm.out]
   have HF:Hid (∀q,GetX w m l (((bs.length:Nat):Int)-((r.length:Nat):Int)) 0 (.returned (.tuple #[.slice (some ⟨G,0,none⟩) m m,.int .i64 (y:Int),.int .i64 0])) (w6.drewN q)):=hid (fun q=>⟨_,m,by rw[HN.out,HSl.out,HYe.out],Qad HS6.out (Turn.drewN w6 q nowhere),Qd (Bs.below_drewN q HB6.out)⟩);rw[hsame]at hc1;obtain⟨Z,hZ⟩:∃Z,strOfNums (bs.take y)=Z:=⟨_,rfl⟩;rw[hZ]at hc1 hc2;clear hsame hX hM hZ;go_wp2
   go_quiet (fail)
   go_wp2;go_ret3
   exact HF.out _
  ·rw[if_neg hsame]at hX;rw[hX]at hR;simp only[resN,Prod.mk.injEq]at hR;obtain⟨rfl,rfl,rfl⟩:=hR;obtain rfl:M=0:=by rw[←hM];rfl
   have HF:Hid (∀q,GetX w 0 [] 0 4 (.returned (.tuple #[.slice none 0 0,.int .i64 0,.int .i64 4])) (w6.drewN q)):=hid (fun q=>Qal (Bs.below_drewN q HB6.out));have hne:=QaH HPB.out (In.QB HBs.out y) hsame;obtain⟨Z1,hZ1⟩:∃Z,strOfNums (encN l)=Z:=⟨_,rfl⟩;obtain⟨Z2,hZ2⟩:∃Z,strOfNums (bs.take y)=Z:=⟨_,rfl⟩;rw[hZ1]at hc1 hne;rw[hZ2]at hc2 hne;clear hsame hX hM hZ1 hZ2;go_wp2
   go_quiet (fail)
   go_wp2;go_ret3
   exact HF.out _
 ·have hlt:decide ((0:Int)<(m:Int))=true:=decide_eq_true (by omega);have hlt2:(0:Int)<(m:Int):=by omega
  clear hm0;have HLf:=hid (Qcz b g r wr HRd.out);have HPut:=hid (Qa5 HPN.out HPl.out (some ⟨G,0,none⟩) m m wr HSg.out);rw[HSl.out]at HLf;go_wp2_with (first
   |(go_at_call 129;refine HLf.out.mono ?_;rintro e w' ⟨rfl,rfl⟩)
   |fail)
  refine HPut.out.mono ?_;rintro e w6 ⟨a6,k6,rfl,hs6,hT6⟩;have HB6:Hid (Below w.heap.size w w6):=hid (QI (Turn.then (Qd HBr.out) hT6));have HS6:Hid (Bl.Seg w6 (some ⟨G,0,none⟩) m m l):=hid (Qad HSg.out hT6);have hc1:∀q,(convert 45 9 (.slice a6 pl k6)).run Tryz.prog (w6.drewN q)=.ok (.string (strOfNums (encN l))) (w6.drewN q):=fun q=>In.QG (hs6.grown (Turn.drewN w6 q nowhere).grown) HPp.out
  have hc2:∀q,(convert 45 9 (.slice a y c)).run Tryz.prog (w6.drewN q)=.ok (.string (strOfNums (bs.take y))) (w6.drewN q):=fun q=>In.QG (((HSeg.out.grown (Bs.grown_of HB6.out)).take HY.out.2).grown (Turn.drewN w6 q nowhere).grown) (by have:=HY.out.1;omega)
  clear hs6 hT6 HPut HLf;dsimp only;have hX:=HX.out;by_cases hsame:encN l=bs.take y
  ·rw[if_pos hsame]at hX;rw[hX]at hR;simp only[resN,Prod.mk.injEq]at hR;obtain⟨rfl,rfl,rfl⟩:=hR;obtain rfl:m=M:=by rw[←hM,HLm.out]
   have HF:Hid (∀q,GetX w m l (((bs.length:Nat):Int)-((r.length:Nat):Int)) 0 (.returned (.tuple #[.slice (some ⟨G,0,none⟩) m m,.int .i64 (y:Int),.int .i64 0])) (w6.drewN q)):=hid (fun q=>⟨_,m,by rw[HN.out,HSl.out,HYe.out],Qad HS6.out (Turn.drewN w6 q nowhere),Qd (Bs.below_drewN q HB6.out)⟩);rw[hsame]at hc1;obtain⟨Z,hZ⟩:∃Z,strOfNums (bs.take y)=Z:=⟨_,rfl⟩;rw[hZ]at hc1 hc2;clear hsame hX hM hZ;go_wp2
   go_quiet (fail)
   go_wp2;go_ret3
   exact HF.out _
  ·rw[if_neg hsame]at hX;rw[hX]at hR;simp only[resN,Prod.mk.injEq]at hR;obtain⟨rfl,rfl,rfl⟩:=hR;obtain rfl:M=0:=by rw[←hM];rfl
   have HF:Hid (∀q,GetX w 0 [] 0 4 (.returned (.tuple #[.slice none 0 0,.int .i64 0,.int .i64 4])) (w6.drewN q)):=hid (fun q=>Qal (Bs.below_drewN q HB6.out));have hne:=QaH HPB.out (In.QB HBs.out y) hsame;obtain⟨Z1,hZ1⟩:∃Z,strOfNums (encN l)=Z:=⟨_,rfl⟩;obtain⟨Z2,hZ2⟩:∃Z,strOfNums (bs.take y)=Z:=⟨_,rfl⟩;rw[hZ1]at hc1 hne;rw[hZ2]at hc2 hne;clear hsame hX hM hZ1 hZ2;go_wp2
   go_quiet (fail)
   go_wp2;go_ret3
   exact HF.out _
theorem Qi9(a:Option Addr)(n c:Nat)(bs:List Int)(m:Nat)(r:List Int)(w:World)(hs:Bs.Seg w a n c bs)(hb:Oct.IsB bs)(hn:n≤100000000)(hc:readC bs=some (m,1 :: r))(M:Nat)(L:List Bool)(z E:Int)(hR:resN bs (rgetN bs)=(L,z,E))(hM:L.length=M) :
  Calls Tryz.prog 70 #[.slice a n c] w (GetX w M L z E):=by
 have HNew:=hid (QV a n c bs w hs (by omega));obtain⟨hm,hbe⟩:=Q5 hb hc;have hRB:Oct.IsB r:=fun x hx=>Qz (hbe▸hb) x (List.mem_cons_of_mem _ hx)
 have HRB:Hid (Oct.IsB (1 :: r)):=hid (Qz (hbe▸hb));have HVar:=hid (Qcc hb hc);have hlen:=hs.len;have hbl:=congrArg List.length hbe;rw[List.length_append,List.length_cons,hlen]at hbl;have hvp:=Oct.QaN 9 (m:Int);have HSeg:=hid hs;have HBs:=hid hb;have hsr:True:=trivial;obtain⟨l,hl⟩:∃l,List.replicate m true=l:=⟨_,rfl⟩;have hlm:l.length=m:=by rw[←hl,List.length_replicate]
 have HLm:Hid (l.length=m):=hid hlm;have HPN:Hid (putN l=(0,encN l)):=hid (by unfold putN;rw[if_neg (by omega)]);obtain⟨pl,hpl⟩:∃p,(encN l).length=p:=⟨_,rfl⟩;have HPl:=hid hpl;have HPp:Hid (0<pl):=hid (by have:=(QdV (l:=l) (by omega)).1;omega);have HPB:=hid (QaS (l:=l) (by omega));obtain⟨t,ht⟩:∃t,r.length=t:=⟨_,rfl⟩;have HSl:=hid ht;have htn:t+2≤n:=by omega
 obtain⟨y,hy⟩:∃y,n-t=y:=⟨_,rfl⟩;have HX:Hid (rgetN bs=if encN l=bs.take y then some (l,r) else none):=hid (by
  unfold rgetN;rw[show rdN bs=some (1,l,r) from by unfold rdN;rw[hc];simp only;rw[←hl];rfl];simp only;rw[hlen,ht,hy])
 have HY:Hid (2≤y∧y≤n):=hid (by omega);have hyw:IntKind.i64.wrap ((n:Int)-(t:Int))=(y:Int):=by rw[IntKind.wrap_i64];omega
 have HYe:Hid ((n:Int)-(t:Int)=(y:Int)):=hid (by omega);have HN:Hid (bs.length=n):=hid hlen;have hy0:(0:Int)≤(y:Int):=by omega
 have hyc:(y:Int)≤(c:Int):=by have:=hs.le;omega
 have hmk:=Qca m (by omega);have hm4:¬(4096:Int)<(m:Int):=by omega
 have hma:=Nat.le_trans hm (by decide:4096≤1000000);have hwm:IntKind.i64.wrap (m:Int)=(m:Int):=by rw[IntKind.wrap_i64];omega
 clear hs hb hc hbe hlen hbl hvp hpl ht hy hlm htn hRB hsr;go_enter Tryz.func70,Tryz.ntmps70
 go_wp2_with fail
 refine HNew.out.mono ?_;rintro e w1 ⟨b,g,rfl,hb0,hrd,hgr,hg1⟩;have HV1:=hid (HVar.out b g w1 hrd);have HB1:Hid (Below w.heap.size w w1):=hid (below_grown hgr (Nat.le_refl _));have HB0:=hid hb0;have HG1:=hid hg1;clear hb0 hrd hgr hg1;dsimp only;go_wp2_with fail
 refine HV1.out.mono ?_;rintro e w2 ⟨rfl,ht2,hr2⟩;have HNum:Hid (Calls Tryz.prog 127 #[.pointer (some ⟨b,0,none⟩),.int .i64 1] w2 (RRead b g w2 1 0 r)):=hid (Qw b g (1 :: r) w2 hr2 HRB.out);have HB2:Hid (Below w.heap.size w w2):=hid (Qh HB1.out ht2 HB0.out);have HG2:Hid (g<w2.heap.size):=hid (Nat.lt_of_lt_of_le HG1.out ht2.size);clear ht2 hr2 HV1;dsimp only;go_wp2_with fail
 refine HNum.out.mono ?_;rintro e w3 ⟨rfl,ht3,hr3⟩;have HB3:Hid (Below w.heap.size w w3):=hid (Qh HB2.out ht3 HB0.out);have HG3:Hid (g<w3.heap.size):=hid (Nat.lt_of_lt_of_le HG2.out ht3.size);have HR3:=hid hr3;have HBL:Hid (b<w3.heap.size):=hid hr3.lt;clear ht3 hr3 HNum;dsimp only;have HB4:Hid (Below w.heap.size w (w3.alloc (.cells (roomF m) 4))):=hid (HB3.out.alloc HB3.out.size _);have HR4:Hid (RR (w3.alloc (.cells (roomF m) 4)) b g r):=hid (HR3.out.turn (Turn.alloc w3 _ nowhere) id id);have HO4:=hid (QcP w3 l m (by omega) HLm.out);obtain⟨G,hG⟩:∃G,w3.heap.size=G:=⟨_,rfl⟩;have hwG:w.heap.size≤G:=by rw[←hG];exact HB3.out.size
 have HLt:Hid (∀k,k<m→l.getD k false=true):=hid (fun k hk=>by rw[←hl];simp[List.getD,hk]);clear hl hwG hG;have HWG:Hid (w.heap.size≤w3.heap.size):=hid HB3.out.size;go_wp2
 go_loopw [16] (fun si wr=>∃k:Nat,k≤m∧si=.int .i64 k∧Hid (wr.ownsRow w3.heap.size 4 1 (.slice (some ⟨w3.heap.size,0,none⟩) m m) m ((fillF l k).map Value.bool))∧Hid (Below w3.heap.size w3 wr)) (fun si _=>m-(intOf si).toNat)
 case atStart=>exact⟨0,Nat.zero_le _,rfl,HO4,hid ((Below.refl _ w3).alloc (Nat.le_refl _) _)⟩
 case round=>
  obtain⟨k,hk,rfl,HO,HB⟩:=hrel;by_cases hlt:k<m
  ·have hcell:=HO.out.cellAt k (by omega);have hkl:k<(fillF l k).length:=by rw[Qdv l k (by rw[HLm.out];exact hk),HLm.out];exact hlt
   rw[List.getElem?_map,List.getElem?_eq_getElem hkl]at hcell;simp only[Option.map_some]at hcell;have hfree:=HO.out.frozenAt k;have HO2:Hid ((wr.setCell ⟨w3.heap.size,k,none⟩ (.bool true)).ownsRow w3.heap.size 4 1 (.slice (some ⟨w3.heap.size,0,none⟩) m m) m ((fillF l (k+1)).map Value.bool)):=hid (by
    rw[←Qdo l k (by rw[HLm.out];exact hlt),show l.getD k false=true from HLt.out k hlt,List.map_set];exact(HO.out.stored k (.bool true)).1)
   have HB2':Hid (Below w3.heap.size w3 (wr.setCell ⟨w3.heap.size,k,none⟩ (.bool true))):=hid (HB.out.setCell (p:=⟨w3.heap.size,k,none⟩) (Nat.le_refl _) _);generalize (fillF l k)[k]'_=q at hcell;have hlt2:(k:Int)<(m:Int):=by omega
   clear hkl;go_wp2;go_roundw
   case rel=>exact⟨k+1,by omega,by go_num,HO2,HB2'⟩
   case measure=>simp[intOf];omega
  ·obtain rfl:k=m:=by omega
   have HBr:Hid (Below w.heap.size w wr):=hid (HB3.out.trans (In.Qf HB.out HWG.out));have HRd:Hid (RR wr b g r):=hid (HR3.out.turn (Qd HB.out) id id);obtain⟨G,hG⟩:∃G,w3.heap.size=G:=⟨_,rfl⟩;have HSg:Hid (Bl.Seg wr (some ⟨G,0,none⟩) k k l):=hid (by
    have h:=HO.out;have e:fillF l k=l:=by have:=QeK l;rwa [HLm.out]at this
    rw[e,hG]at h;exact Bl.Seg.own h)
   rw[hG];clear hG HO;have HLf:=hid (Qcz b g r wr HRd.out);have HPut:=hid (Qa5 HPN.out HPl.out (some ⟨G,0,none⟩) k k wr HSg.out);rw[HSl.out]at HLf;go_wp2_with (first
    |(go_at_call 129;refine HLf.out.mono ?_;rintro e w' ⟨rfl,rfl⟩)
    |fail)
   refine HPut.out.mono ?_;rintro e w6 ⟨a6,k6,rfl,hs6,hT6⟩;have HB6:Hid (Below w.heap.size w w6):=hid (QI (Turn.then (Qd HBr.out) hT6));have HS6:Hid (Bl.Seg w6 (some ⟨G,0,none⟩) k k l):=hid (Qad HSg.out hT6);have hc1:∀q,(convert 45 9 (.slice a6 pl k6)).run Tryz.prog (w6.drewN q)=.ok (.string (strOfNums (encN l))) (w6.drewN q):=fun q=>In.QG (hs6.grown (Turn.drewN w6 q nowhere).grown) HPp.out
   have hc2:∀q,(convert 45 9 (.slice a y c)).run Tryz.prog (w6.drewN q)=.ok (.string (strOfNums (bs.take y))) (w6.drewN q):=fun q=>In.QG (((HSeg.out.grown (Bs.grown_of HB6.out)).take HY.out.2).grown (Turn.drewN w6 q nowhere).grown) (by have:=HY.out.1;omega)
   clear hs6 hT6 HPut HLf;dsimp only;have hX:=HX.out;by_cases hsame:encN l=bs.take y
   ·rw[if_pos hsame]at hX;rw[hX]at hR;simp only[resN,Prod.mk.injEq]at hR;obtain⟨rfl,rfl,rfl⟩:=hR;obtain rfl:k=M:=by rw[←hM,HLm.out]
    have HF:Hid (∀q,GetX w k l (((bs.length:Nat):Int)-((r.length:Nat):Int)) 0 (.returned (.tuple #[.slice (some ⟨G,0,none⟩) k k,.int .i64 (y:Int),.int .i64 0])) (w6.drewN q)):=hid (fun q=>⟨_,k,by rw[HN.out,HSl.out,HYe.out],Qad HS6.out (Turn.drewN w6 q nowhere),Qd (Bs.below_drewN q HB6.out)⟩);rw[hsame]at hc1;obtain⟨Z,hZ⟩:∃Z,strOfNums (bs.take y)=Z:=⟨_,rfl⟩;rw[hZ]at hc1 hc2;clear hsame hX hM hZ;go_wp2
    go_quiet (fail)
    go_wp2;go_ret3
    exact HF.out _
   ·rw[if_neg hsame]at hX;rw[hX]at hR;simp only[resN,Prod.mk.injEq]at hR;obtain⟨rfl,rfl,rfl⟩:=hR;obtain rfl:M=0:=by rw[←hM];rfl
    have HF:Hid (∀q,GetX w 0 [] 0 4 (.returned (.tuple #[.slice none 0 0,.int .i64 0,.int .i64 4])) (w6.drewN q)):=hid (fun q=>Qal (Bs.below_drewN q HB6.out));have hne:=QaH HPB.out (In.QB HBs.out y) hsame;obtain⟨Z1,hZ1⟩:∃Z,strOfNums (encN l)=Z:=⟨_,rfl⟩;obtain⟨Z2,hZ2⟩:∃Z,strOfNums (bs.take y)=Z:=⟨_,rfl⟩;rw[hZ1]at hc1 hne;rw[hZ2]at hc2 hne;clear hsame hX hM hZ1 hZ2;go_wp2
    go_quiet (fail)
    go_wp2;go_ret3
    exact HF.out _
end Nu
namespace Nu
open Go.RowKit
open Dv (Turn nowhere)
open Pk (Turn.then getR sizeN Fit PutF)
open Oct (readV ofB)
open In (At RR RRead RVarX rvar_any QV Qw Qh below_grown Qe)
theorem Qed{bs:List Int}{m:Nat}{r:List Int}{k:Int}(hc:readC bs=some (m,k :: r))(h:rdK m k r=none):rgetN bs=none:=by
 unfold rgetN rdN;rw[hc];simp only;rw[h]
theorem Qlp{w:World}{base G n:Nat}{F:List Bool}(h:w.ownsRow base 4 1 (.slice (some ⟨G,0,none⟩) n n) n (F.map Value.bool)){o:Nat}{x:Int}(hc:w.cell? ⟨G,o,none⟩=some (.int .u64 x)):False:=by
 rcases h.2 with ⟨e1,_⟩|⟨g0,cap,cur,e1,hbg,hg,hnc,hcm,hcs,htake⟩
 ·cases e1
 ·cases e1
  have hl:cur.toList=F.map Value.bool:=by
   rw[←htake,List.take_of_length_le (by simp;omega)]
  unfold World.cell? at hc;rw[show(⟨G,o,none⟩:Addr).block=G from rfl,hg]at hc;simp only at hc;rw[←Array.getElem?_toList,hl]at hc;obtain⟨bb,_,hbb⟩:=List.mem_map.1 (List.mem_of_getElem? hc);cases hbb
theorem QmR(a:Option Addr)(n c:Nat)(bs:List Int)(m:Nat)(r:List Int)(w:World)(hs:Bs.Seg w a n c bs)(hb:Oct.IsB bs)(hn:n≤100000000)(hc:readC bs=some (m,2 :: r))(M:Nat)(L:List Bool)(z E:Int)(hR:resN bs (rgetN bs)=(L,z,E))(hM:L.length=M)(hshort:r.length<sizeN m 1) :
  Calls Tryz.prog 70 #[.slice a n c] w (GetX w M L z E):=by
 have HNew:=hid (QV a n c bs w hs (by omega));obtain⟨hm,hbe⟩:=Q5 hb hc;have hRB:Oct.IsB r:=fun x hx=>Qz (hbe▸hb) x (List.mem_cons_of_mem _ hx)
 have HRB:Hid (Oct.IsB (2 :: r)):=hid (Qz (hbe▸hb));have HVar:=hid (Qcc hb hc);have hlen:=hs.len;have hbl:=congrArg List.length hbe;rw[List.length_append,List.length_cons,hlen]at hbl;have hvp:=Oct.QaN 9 (m:Int);have HSeg:=hid hs;have HBs:=hid hb;rw[Qed hc (show rdK m 2 r=none from by unfold rdK;rw[if_neg (by decide),if_pos rfl];unfold rdP;rw[if_pos hshort])]at hR;simp only[resN,Prod.mk.injEq]at hR;obtain⟨rfl,rfl,rfl⟩:=hR;obtain rfl:M=0:=by rw[←hM];rfl
 have hsz:=Qcg (n:=m) (by omega);have HSz:Hid (∀W,Calls Tryz.prog 79 #[.int .i64 m,.int .i64 1] W fun e w'=>e=.returned (.int .i64 (sizeN m 1:Int))∧W=w'):=hid (fun W=>by
  have:=Pk.Qcy (m:Int) 1 W
  rwa [Qe8 (by omega)]at this)
 have hmk:=Qca m (by omega);have hm4:¬(4096:Int)<(m:Int):=by omega
 have hwm:IntKind.i64.wrap (m:Int)=(m:Int):=by rw[IntKind.wrap_i64];omega
 obtain⟨S,hS⟩:∃S,sizeN m 1=S:=⟨_,rfl⟩;rw[hS]at HSz hshort;obtain⟨E1,X1,hE1⟩:∃E1 X1,getR [] (m:Int) 1=(E1,X1):=⟨_,_,rfl⟩;obtain⟨q1,hq1⟩:∃q,X1.length=q:=⟨_,rfl⟩;have HGet:=hid (fun W=>QgM hE1 hq1 (fun x hx=>by cases hx) none 0 0 W (Bs.Seg.nil W));have HShort:=hid hshort;clear hs hb hc hbe hlen hbl hvp hRB hM hshort hS hE1 hq1 hsz;go_enter Tryz.func70,Tryz.ntmps70
 go_wp2_with fail
 refine HNew.out.mono ?_;rintro e w1 ⟨b,g,rfl,hb0,hrd,hgr,hg1⟩;have HV1:=hid (HVar.out b g w1 hrd);have HB1:Hid (Below w.heap.size w w1):=hid (below_grown hgr (Nat.le_refl _));have HB0:=hid hb0;have HG1:=hid hg1;clear hb0 hrd hgr hg1;dsimp only;go_wp2_with fail
 refine HV1.out.mono ?_;rintro e w2 ⟨rfl,ht2,hr2⟩;have HNum:Hid (Calls Tryz.prog 127 #[.pointer (some ⟨b,0,none⟩),.int .i64 1] w2 (RRead b g w2 2 0 r)):=hid (Qw b g (2 :: r) w2 hr2 HRB.out);have HB2:Hid (Below w.heap.size w w2):=hid (Qh HB1.out ht2 HB0.out);have HG2:Hid (g<w2.heap.size):=hid (Nat.lt_of_lt_of_le HG1.out ht2.size);clear ht2 hr2 HV1;dsimp only;go_wp2_with fail
 refine HNum.out.mono ?_;rintro e w3 ⟨rfl,ht3,hr3⟩;have HB3:Hid (Below w.heap.size w w3):=hid (Qh HB2.out ht3 HB0.out);have HG3:Hid (g<w3.heap.size):=hid (Nat.lt_of_lt_of_le HG2.out ht3.size);have HR3:=hid hr3;have HBL:Hid (b<w3.heap.size):=hid hr3.lt;clear ht3 hr3 HNum;dsimp only;have HR4:Hid (RR (w3.alloc (.cells (roomF m) 4)) b g r):=hid (HR3.out.turn (Turn.alloc w3 _ nowhere) id id);have HBy:=hid (In.QdL b g r S _ HR4.out HShort.out);have HB4:Hid (Below w.heap.size w (w3.alloc (.cells (roomF m) 4))):=hid (HB3.out.alloc HB3.out.size _);go_wp2_with (first
  |(go_at_call 79;refine(HSz.out _).mono ?_;rintro e w' ⟨rfl,rfl⟩)
  |fail)
 refine HBy.out.mono ?_;rintro e w4 ⟨rfl,rfl⟩;dsimp only;go_wp2_with fail
 refine(HGet.out _).mono ?_;rintro e w5 ⟨a5,k5,rfl,hs5,hT5⟩;have HF:Hid (GetX w 0 [] 0 4 (.returned (.tuple #[.slice none 0 0,.int .i64 0,.int .i64 4])) w5):=hid (Qal (QI (Turn.then (Qd HB4.out) hT5)));clear hs5 hT5;dsimp only;go_wp2;go_ret3
 exact HF.out
theorem Qjd(a:Option Addr)(n c:Nat)(bs:List Int)(m:Nat)(r:List Int)(w:World)(hs:Bs.Seg w a n c bs)(hb:Oct.IsB bs)(hn:n≤100000000)(hc:readC bs=some (m,2 :: r))(M:Nat)(L:List Bool)(z E:Int)(hR:resN bs (rgetN bs)=(L,z,E))(hM:L.length=M)(hshort:¬r.length<sizeN m 1) :
  Calls Tryz.prog 70 #[.slice a n c] w (GetX w M L z E):=by
 have HNew:=hid (QV a n c bs w hs (by omega));obtain⟨hm,hbe⟩:=Q5 hb hc;have hRB:Oct.IsB r:=fun x hx=>Qz (hbe▸hb) x (List.mem_cons_of_mem _ hx)
 have HRB:Hid (Oct.IsB (2 :: r)):=hid (Qz (hbe▸hb));have HVar:=hid (Qcc hb hc);have hlen:=hs.len;have hbl:=congrArg List.length hbe;rw[List.length_append,List.length_cons,hlen]at hbl;have hvp:=Oct.QaN 9 (m:Int);have HSeg:=hid hs;have HBs:=hid hb;have hsz:=Qcg (n:=m) (by omega);have HSz:Hid (∀W,Calls Tryz.prog 79 #[.int .i64 m,.int .i64 1] W fun e w'=>e=.returned (.int .i64 (sizeN m 1:Int))∧W=w'):=hid (fun W=>by
  have:=Pk.Qcy (m:Int) 1 W
  rwa [Qe8 (by omega)]at this)
 have hfit:Fit 8 (r.take (sizeN m 1)):=Pk.Q0 (fun x hx=>hRB x (List.mem_of_mem_take hx));have htl:(r.take (sizeN m 1)).length=sizeN m 1:=by rw[List.length_take];omega
 obtain⟨E1,X1,hE1⟩:∃E1 X1,getR (r.take (sizeN m 1)) (m:Int) 1=(E1,X1):=⟨_,_,rfl⟩;have hput:=Pk.Qau _ (m:Int) 1 hfit;rw[hE1]at hput;dsimp only at hput;obtain⟨q1,hq1⟩:∃q,X1.length=q:=⟨_,rfl⟩;have HGet:=hid (fun a' c' W h=>QgM hE1 hq1 hfit a' (sizeN m 1) c' W h);by_cases he:E1=0
 ·subst he;obtain⟨-,hp2,-,hp4⟩:=hput rfl;obtain rfl:q1=m:=by rw[←hq1];omega
  obtain⟨l,hl⟩:∃l,backL X1=l:=⟨_,rfl⟩;obtain⟨s,hsr⟩:∃s,r.drop (sizeN q1 1)=s:=⟨_,rfl⟩;have hlm:l.length=q1:=by rw[←hl,Qf9,hq1]
  have HLm:Hid (l.length=q1):=hid hlm;have HPN:Hid (putN l=(0,encN l)):=hid (by unfold putN;rw[if_neg (by omega)]);obtain⟨pl,hpl⟩:∃p,(encN l).length=p:=⟨_,rfl⟩;have HPl:=hid hpl;have HPp:Hid (0<pl):=hid (by have:=(QdV (l:=l) (by omega)).1;omega);have HPB:=hid (QaS (l:=l) (by omega));obtain⟨t,ht⟩:∃t,s.length=t:=⟨_,rfl⟩;have HSl:=hid ht;have htn:t+2≤n:=by rw[←ht,←hsr,List.length_drop];omega
  obtain⟨y,hy⟩:∃y,n-t=y:=⟨_,rfl⟩;have HX:Hid (rgetN bs=if encN l=bs.take y then some (l,s) else none):=hid (by
   unfold rgetN;rw[show rdN bs=some (2,l,s) from by unfold rdN;rw[hc];simp only;unfold rdK;rw[if_neg (by decide),if_pos rfl];unfold rdP;rw[if_neg hshort,hE1,if_neg (by simp),hl,hsr]];simp only;rw[hlen,ht,hy])
  have HY:Hid (2≤y∧y≤n):=hid (by omega);have hyw:IntKind.i64.wrap ((n:Int)-(t:Int))=(y:Int):=by rw[IntKind.wrap_i64];omega
  have HYe:Hid ((n:Int)-(t:Int)=(y:Int)):=hid (by omega);have HN:Hid (bs.length=n):=hid hlen;have hy0:(0:Int)≤(y:Int):=by omega
  have hyc:(y:Int)≤(c:Int):=by have:=hs.le;omega
  have hmk:=Qca q1 (by omega);have hm4:¬(4096:Int)<(q1:Int):=by omega
  have hma:=Nat.le_trans hm (by decide:4096≤1000000);have hwm:IntKind.i64.wrap (q1:Int)=(q1:Int):=by rw[IntKind.wrap_i64];omega
  have HLong:Hid (sizeN q1 1≤r.length∧r.length≤100000000):=hid (by omega);have HXl:Hid (X1.length=q1):=hid hq1;have HLX:=hid hl;obtain⟨S,hS⟩:∃S,sizeN q1 1=S:=⟨_,rfl⟩;rw[hS]at HSz HLong HGet hsr;have HSr:=hid hsr;clear hs hb hc hbe hlen hbl hvp hpl ht hy hlm htn hRB hS hE1 hq1 hsz hfit htl hput hp2 hp4 hshort hl hsr;go_enter Tryz.func70,Tryz.ntmps70
  go_wp2_with fail
  refine HNew.out.mono ?_;rintro e w1 ⟨b,g,rfl,hb0,hrd,hgr,hg1⟩;have HV1:=hid (HVar.out b g w1 hrd);have HB1:Hid (Below w.heap.size w w1):=hid (below_grown hgr (Nat.le_refl _));have HB0:=hid hb0;have HG1:=hid hg1;clear hb0 hrd hgr hg1;dsimp only;go_wp2_with fail
  refine HV1.out.mono ?_;rintro e w2 ⟨rfl,ht2,hr2⟩;have HNum:Hid (Calls Tryz.prog 127 #[.pointer (some ⟨b,0,none⟩),.int .i64 1] w2 (RRead b g w2 2 0 r)):=hid (Qw b g (2 :: r) w2 hr2 HRB.out);have HB2:Hid (Below w.heap.size w w2):=hid (Qh HB1.out ht2 HB0.out);have HG2:Hid (g<w2.heap.size):=hid (Nat.lt_of_lt_of_le HG1.out ht2.size);clear ht2 hr2 HV1;dsimp only;go_wp2_with fail
  refine HNum.out.mono ?_;rintro e w3 ⟨rfl,ht3,hr3⟩;have HB3:Hid (Below w.heap.size w w3):=hid (Qh HB2.out ht3 HB0.out);have HG3:Hid (g<w3.heap.size):=hid (Nat.lt_of_lt_of_le HG2.out ht3.size);have HR3:=hid hr3;have HBL:Hid (b<w3.heap.size):=hid hr3.lt;clear ht3 hr3 HNum;dsimp only;have HB4:Hid (Below w.heap.size w (w3.alloc (.cells (roomF q1) 4))):=hid (HB3.out.alloc HB3.out.size _);have HR4:Hid (RR (w3.alloc (.cells (roomF q1) 4)) b g r):=hid (HR3.out.turn (Turn.alloc w3 _ nowhere) id id);have HO4:=hid (QcP w3 l q1 (by omega) HLm.out);have HBy:=hid (In.QcN b g r S _ HR4.out HLong.out.1 HLong.out.2);obtain⟨G,hG⟩:∃G,w3.heap.size=G:=⟨_,rfl⟩;have HGz:Hid (w3.heap.size=G):=hid hG;have HWG:Hid (w.heap.size≤G):=hid (by rw[←hG];exact HB3.out.size);have HGb:Hid (¬G=b∧¬G=g):=hid (by have:=HBL.out;have:=HG3.out;omega);rw[hG]at HO4;clear hG;go_wp2_with (first
   |(go_at_call 79;refine(HSz.out _).mono ?_;rintro e w' ⟨rfl,rfl⟩)
   |fail)
  refine HBy.out.mono ?_;rintro e w4 ⟨g4,c4,rfl,hown4,hT4,hr4⟩;have HG4:=hid (HGet.out _ _ w4 (Bs.Seg.own hown4));have HB5:Hid (Below w.heap.size w w4):=hid (Qh HB4.out hT4 HB0.out);have HO5:Hid (w4.ownsRow G 4 1 (.slice (some ⟨G,0,none⟩) q1 q1) q1 ((fillF l 0).map Value.bool)):=hid (Pk.QaL HO4.out hT4 (fun h=>HGb.out.1 h));have HR5:Hid (RR w4 b g s):=hid (by rw[←HSr.out];exact hr4);have HZ5:Hid (G<w4.heap.size):=hid (HO5.out.lt _ rfl).2;clear hown4 hT4 hr4;rw[HGz.out];dsimp only;go_wp2_with fail
  refine HG4.out.mono ?_;rintro e w5 ⟨a5,k5,rfl,hs5,hT5⟩;have HB6':Hid (Below w.heap.size w w5):=hid (QI (Turn.then (Qd HB5.out) hT5));have HO6:Hid (w5.ownsRow G 4 1 (.slice (some ⟨G,0,none⟩) q1 q1) q1 ((fillF l 0).map Value.bool)):=hid (Pk.QaL HO5.out hT5 id);have HR6:Hid (RR w5 b g s):=hid (HR5.out.turn hT5 id id);have HX6:=hid hs5;have HNe:Hid (∀ad,a5=some ad→0<q1→¬G=ad.block):=hid (fun ad had h0 e=>by
   obtain⟨gx,ox,ex,hcx⟩:=hs5.addr h0;rw[ex]at had;cases had
   have h2:=hcx 0 h0;have h4:G=gx:=e;subst h4;exact Qlp HO6.out h2)
  clear hs5 hT5 HG4;dsimp only;go_wp2
  go_loopw [15] (fun si wr=>∃k:Nat,k≤q1∧si=.int .i64 k∧Hid (wr.ownsRow G 4 1 (.slice (some ⟨G,0,none⟩) q1 q1) q1 ((fillF l k).map Value.bool))∧Hid (Turn w5 wr (fun i=>i=G))) (fun si _=>q1-(intOf si).toNat)
  case atStart=>exact⟨0,Nat.zero_le _,rfl,HO6,hid (Turn.refl _ _)⟩
  case round=>
   obtain⟨k,hk,rfl,HO,HT⟩:=hrel;by_cases hlt:k<q1
   ·have hcell:=HO.out.cellAt k (by omega);have hkl:k<(fillF l k).length:=by rw[Qdv l k (by rw[HLm.out];exact hk),HLm.out];exact hlt
    rw[List.getElem?_map,List.getElem?_eq_getElem hkl]at hcell;simp only[Option.map_some]at hcell;have hfree:=HO.out.frozenAt k;obtain⟨gx,ox,ex,hcx⟩:=HX6.out.addr (by omega);have hxk:=HT.out.cell (hcx k hlt) (fun h=>HNe.out _ ex (by omega) h.symm);have HLk:Hid (l.getD k false=decide (X1.getD k 0=1)):=hid (by
     rw[←HLX.out];unfold backL;simp[List.getD,show k<X1.length from by rw[HXl.out];exact hlt])
    obtain⟨x,hx⟩:∃x,X1.getD k 0=x:=⟨_,rfl⟩;rw[hx]at hxk HLk;obtain⟨d,hd⟩:∃d,decide (x=1)=d:=⟨_,rfl⟩;have hxd:(x==1)=d:=by rw[←hd];rfl
    rw[hd]at HLk;have HO2:Hid ((wr.setCell ⟨G,k,none⟩ (.bool d)).ownsRow G 4 1 (.slice (some ⟨G,0,none⟩) q1 q1) q1 ((fillF l (k+1)).map Value.bool)):=hid (by
     rw[←Qdo l k (by rw[HLm.out];exact hlt),HLk.out,List.map_set];exact(HO.out.stored k (.bool d)).1)
    have HT2:Hid (Turn w5 (wr.setCell ⟨G,k,none⟩ (.bool d)) (fun i=>i=G)):=hid (Turn.trans HT.out (Turn.setCell wr ⟨G,k,none⟩ (.bool d) (S:=fun i=>i=G) rfl) (fun i _ h=>h));generalize (fillF l k)[k]'_=q at hcell;subst ex;have hlt2:(k:Int)<(q1:Int):=by omega
    clear hkl hcx hx hd;go_wp2;go_roundw
    case rel=>exact⟨k+1,by omega,by go_num,HO2,HT2⟩
    case measure=>simp[intOf];omega
   ·obtain rfl:k=q1:=by omega
    have HBr:Hid (Below w.heap.size w wr):=hid ⟨HT.out.os.trans HB6'.out.os,HT.out.tape.trans HB6'.out.tape,HT.out.output.trans HB6'.out.output,Nat.le_trans HB6'.out.size HT.out.size,fun i hi=>(HT.out.block i (Nat.lt_of_lt_of_le hi HB6'.out.size) (fun e=>by have:=HWG.out;omega)).trans (HB6'.out.block i hi)⟩;have HRd:Hid (RR wr b g s):=hid (HR6.out.turn HT.out (fun h=>HGb.out.1 h.symm) (fun h=>HGb.out.2 h.symm));have HSg:Hid (Bl.Seg wr (some ⟨G,0,none⟩) k k l):=hid (by
     have h:=HO.out;have e:fillF l k=l:=by have:=QeK l;rwa [HLm.out]at this
     rw[e]at h;exact Bl.Seg.own h)
    clear HO HT;go_wp2;refine wp_loop_rounds 1 ?_;rw[rounds_succ];by_cases hm0:k=0
    ·have hlt:decide ((0:Int)<(k:Int))=false:=decide_eq_false (by omega);have hlt2:¬(0:Int)<(k:Int):=by omega
     clear hm0;have HLf:=hid (Qcz b g s wr HRd.out);have HPut:=hid (Qa5 HPN.out HPl.out (some ⟨G,0,none⟩) k k wr HSg.out);rw[HSl.out]at HLf;go_wp2_with (first
      |(go_at_call 129;refine HLf.out.mono ?_;rintro e w' ⟨rfl,rfl⟩)
      |fail)
     refine HPut.out.mono ?_;rintro e w6 ⟨a6,k6,rfl,hs6,hT6⟩;have HB6:Hid (Below w.heap.size w w6):=hid (QI (Turn.then (Qd HBr.out) hT6));have HS6:Hid (Bl.Seg w6 (some ⟨G,0,none⟩) k k l):=hid (Qad HSg.out hT6);have hc1:∀q,(convert 45 9 (.slice a6 pl k6)).run Tryz.prog (w6.drewN q)=.ok (.string (strOfNums (encN l))) (w6.drewN q):=fun q=>In.QG (hs6.grown (Turn.drewN w6 q nowhere).grown) HPp.out
     have hc2:∀q,(convert 45 9 (.slice a y c)).run Tryz.prog (w6.drewN q)=.ok (.string (strOfNums (bs.take y))) (w6.drewN q):=fun q=>In.QG (((HSeg.out.grown (Bs.grown_of HB6.out)).take HY.out.2).grown (Turn.drewN w6 q nowhere).grown) (by have:=HY.out.1;omega)
     clear hs6 hT6 HPut HLf;dsimp only;have hX:=HX.out;by_cases hsame:encN l=bs.take y
     ·rw[if_pos hsame]at hX;rw[hX]at hR;simp only[resN,Prod.mk.injEq]at hR;obtain⟨rfl,rfl,rfl⟩:=hR;obtain rfl:k=M:=by rw[←hM,HLm.out]
      have HF:Hid (∀q,GetX w k l (((bs.length:Nat):Int)-((s.length:Nat):Int)) 0 (.returned (.tuple #[.slice (some ⟨G,0,none⟩) k k,.int .i64 (y:Int),.int .i64 0])) (w6.drewN q)):=hid (fun q=>⟨_,k,by rw[HN.out,HSl.out,HYe.out],Qad HS6.out (Turn.drewN w6 q nowhere),Qd (Bs.below_drewN q HB6.out)⟩);rw[hsame]at hc1;obtain⟨Z,hZ⟩:∃Z,strOfNums (bs.take y)=Z:=⟨_,rfl⟩;rw[hZ]at hc1 hc2;clear hsame hX hM hZ;go_wp2
      go_quiet (fail)
      go_wp2;go_ret3
      exact HF.out _
     ·rw[if_neg hsame]at hX;rw[hX]at hR;simp only[resN,Prod.mk.injEq]at hR;obtain⟨rfl,rfl,rfl⟩:=hR;obtain rfl:M=0:=by rw[←hM];rfl
      have HF:Hid (∀q,GetX w 0 [] 0 4 (.returned (.tuple #[.slice none 0 0,.int .i64 0,.int .i64 4])) (w6.drewN q)):=hid (fun q=>Qal (Bs.below_drewN q HB6.out));have hne:=QaH HPB.out (In.QB HBs.out y) hsame;obtain⟨Z1,hZ1⟩:∃Z,strOfNums (encN l)=Z:=⟨_,rfl⟩;obtain⟨Z2,hZ2⟩:∃Z,strOfNums (bs.take y)=Z:=⟨_,rfl⟩;rw[hZ1]at hc1 hne;rw[hZ2]at hc2 hne;clear hsame hX hM hZ1 hZ2;go_wp2
      go_quiet (fail)
      go_wp2;go_ret3
      exact HF.out _
    ·have hlt:decide ((0:Int)<(k:Int))=true:=decide_eq_true (by omega);have hlt2:(0:Int)<(k:Int):=by omega
     clear hm0;have HLf:=hid (Qcz b g s wr HRd.out);have HPut:=hid (Qa5 HPN.out HPl.out (some ⟨G,0,none⟩) k k wr HSg.out);rw[HSl.out]at HLf;go_wp2_with (first
      |(go_at_call 129;refine HLf.out.mono ?_;rintro e w' ⟨rfl,rfl⟩)
      |fail)
     refine HPut.out.mono ?_;rintro e w6 ⟨a6,k6,rfl,hs6,hT6⟩;have HB6:Hid (Below w.heap.size w w6):=hid (QI (Turn.then (Qd HBr.out) hT6));have HS6:Hid (Bl.Seg w6 (some ⟨G,0,none⟩) k k l):=hid (Qad HSg.out hT6);have hc1:∀q,(convert 45 9 (.slice a6 pl k6)).run Tryz.prog (w6.drewN q)=.ok (.string (strOfNums (encN l))) (w6.drewN q):=fun q=>In.QG (hs6.grown (Turn.drewN w6 q nowhere).grown) HPp.out
     have hc2:∀q,(convert 45 9 (.slice a y c)).run Tryz.prog (w6.drewN q)=.ok (.string (strOfNums (bs.take y))) (w6.drewN q):=fun q=>In.QG (((HSeg.out.grown (Bs.grown_of HB6.out)).take HY.out.2).grown (Turn.drewN w6 q nowhere).grown) (by have:=HY.out.1;omega)
     clear hs6 hT6 HPut HLf;dsimp only;have hX:=HX.out;by_cases hsame:encN l=bs.take y
     ·rw[if_pos hsame]at hX;rw[hX]at hR;simp only[resN,Prod.mk.injEq]at hR;obtain⟨rfl,rfl,rfl⟩:=hR;obtain rfl:k=M:=by rw[←hM,HLm.out]
      have HF:Hid (∀q,GetX w k l (((bs.length:Nat):Int)-((s.length:Nat):Int)) 0 (.returned (.tuple #[.slice (some ⟨G,0,none⟩) k k,.int .i64 (y:Int),.int .i64 0])) (w6.drewN q)):=hid (fun q=>⟨_,k,by rw[HN.out,HSl.out,HYe.out],Qad HS6.out (Turn.drewN w6 q nowhere),Qd (Bs.below_drewN q HB6.out)⟩);rw[hsame]at hc1;obtain⟨Z,hZ⟩:∃Z,strOfNums (bs.take y)=Z:=⟨_,rfl⟩;rw[hZ]at hc1 hc2;clear hsame hX hM hZ;go_wp2
      go_quiet (fail)
      go_wp2;go_ret3
      exact HF.out _
     ·rw[if_neg hsame]at hX;rw[hX]at hR;simp only[resN,Prod.mk.injEq]at hR;obtain⟨rfl,rfl,rfl⟩:=hR;obtain rfl:M=0:=by rw[←hM];rfl
      have HF:Hid (∀q,GetX w 0 [] 0 4 (.returned (.tuple #[.slice none 0 0,.int .i64 0,.int .i64 4])) (w6.drewN q)):=hid (fun q=>Qal (Bs.below_drewN q HB6.out));have hne:=QaH HPB.out (In.QB HBs.out y) hsame;obtain⟨Z1,hZ1⟩:∃Z,strOfNums (encN l)=Z:=⟨_,rfl⟩;obtain⟨Z2,hZ2⟩:∃Z,strOfNums (bs.take y)=Z:=⟨_,rfl⟩;rw[hZ1]at hc1 hne;rw[hZ2]at hc2 hne;clear hsame hX hM hZ1 hZ2;go_wp2
      go_quiet (fail)
      go_wp2;go_ret3
      exact HF.out _
 ·have he1:(E1 != 0)=true:=bne_iff_ne.2 he;have he2:(E1==0)=false:=beq_eq_false_iff_ne.2 he;rw[Qed hc (show rdK m 2 r=none from by unfold rdK;rw[if_neg (by decide),if_pos rfl];unfold rdP;rw[if_neg hshort,hE1,if_pos he])]at hR;simp only[resN,Prod.mk.injEq]at hR;obtain⟨rfl,rfl,rfl⟩:=hR;obtain rfl:M=0:=by rw[←hM];rfl
  have hmk:=Qca m (by omega);have hm4:¬(4096:Int)<(m:Int):=by omega
  have hwm:IntKind.i64.wrap (m:Int)=(m:Int):=by rw[IntKind.wrap_i64];omega
  have HLong:Hid (sizeN m 1≤r.length∧r.length≤100000000):=hid (by omega);obtain⟨S,hS⟩:∃S,sizeN m 1=S:=⟨_,rfl⟩;rw[hS]at HSz HLong HGet;clear hs hb hc hbe hlen hbl hvp hRB hM hshort hS hE1 hq1 hsz hfit htl hput he;go_enter Tryz.func70,Tryz.ntmps70
  go_wp2_with fail
  refine HNew.out.mono ?_;rintro e w1 ⟨b,g,rfl,hb0,hrd,hgr,hg1⟩;have HV1:=hid (HVar.out b g w1 hrd);have HB1:Hid (Below w.heap.size w w1):=hid (below_grown hgr (Nat.le_refl _));have HB0:=hid hb0;have HG1:=hid hg1;clear hb0 hrd hgr hg1;dsimp only;go_wp2_with fail
  refine HV1.out.mono ?_;rintro e w2 ⟨rfl,ht2,hr2⟩;have HNum:Hid (Calls Tryz.prog 127 #[.pointer (some ⟨b,0,none⟩),.int .i64 1] w2 (RRead b g w2 2 0 r)):=hid (Qw b g (2 :: r) w2 hr2 HRB.out);have HB2:Hid (Below w.heap.size w w2):=hid (Qh HB1.out ht2 HB0.out);have HG2:Hid (g<w2.heap.size):=hid (Nat.lt_of_lt_of_le HG1.out ht2.size);clear ht2 hr2 HV1;dsimp only;go_wp2_with fail
  refine HNum.out.mono ?_;rintro e w3 ⟨rfl,ht3,hr3⟩;have HB3:Hid (Below w.heap.size w w3):=hid (Qh HB2.out ht3 HB0.out);have HG3:Hid (g<w3.heap.size):=hid (Nat.lt_of_lt_of_le HG2.out ht3.size);have HR3:=hid hr3;have HBL:Hid (b<w3.heap.size):=hid hr3.lt;clear ht3 hr3 HNum;dsimp only;have HR4:Hid (RR (w3.alloc (.cells (roomF m) 4)) b g r):=hid (HR3.out.turn (Turn.alloc w3 _ nowhere) id id);have HBy:=hid (In.QcN b g r S _ HR4.out HLong.out.1 HLong.out.2);have HB4:Hid (Below w.heap.size w (w3.alloc (.cells (roomF m) 4))):=hid (HB3.out.alloc HB3.out.size _);go_wp2_with (first
   |(go_at_call 79;refine(HSz.out _).mono ?_;rintro e w' ⟨rfl,rfl⟩)
   |fail)
  refine HBy.out.mono ?_;rintro e w4 ⟨g4,c4,rfl,hown4,hT4,hr4⟩;have HG4:=hid (HGet.out _ _ w4 (Bs.Seg.own hown4));have HB5:Hid (Below w.heap.size w w4):=hid (Qh HB4.out hT4 HB0.out);clear hown4 hT4 hr4;dsimp only;go_wp2_with fail
  refine HG4.out.mono ?_;rintro e w5 ⟨a5,k5,rfl,hs5,hT5⟩;have HF:Hid (GetX w 0 [] 0 4 (.returned (.tuple #[.slice none 0 0,.int .i64 0,.int .i64 4])) w5):=hid (Qal (QI (Turn.then (Qd HB5.out) hT5)));clear hs5 hT5;dsimp only;go_wp2;go_ret3
  exact HF.out
end Nu
namespace Nu
open Go.RowKit
open Dv (Turn nowhere)
open Pk (Turn.then PutF sizeN)
theorem Qfa{bs:List Int}{L:List Bool}{z E:Int}{m:Nat}(hR:resN bs (getN bs)=(L,z,E))(hm:L.length=m)(hb:Oct.IsB bs)(hn:bs.length≤100000000)(a:Option Addr)(n c:Nat)(W:World)(hs:Bs.Seg W a n c bs) :
  Calls Tryz.prog 70 #[.slice a n c] W (GetX W m L z E):=by
 have hl:=hs.len;rw[←QdW hb]at hR;cases hc:readC bs with
 |none=>
  unfold rgetN rdN at hR;rw[hc]at hR;simp only[resN,Prod.mk.injEq]at hR;obtain⟨rfl,rfl,rfl⟩:=hR;obtain rfl:m=0:=by rw[←hm];rfl
  exact Qlm a n c bs W hs hb (by omega) hc
 |some p=>
  obtain⟨k,r⟩:=p;obtain⟨-,hbe⟩:=Q5 hb hc;cases r with
  |nil=>
   unfold rgetN rdN at hR;rw[hc]at hR;simp only[resN,Prod.mk.injEq]at hR;obtain⟨rfl,rfl,rfl⟩:=hR;obtain rfl:m=0:=by rw[←hm];rfl
   exact Qht a n c bs k [] W hs hb (by omega) hc (.inl rfl)
  |cons x r=>
   have hx:=Qz (hbe▸hb) x (by simp);by_cases h0:x=0
   ·subst h0;exact Qpz a n c bs k r W hs hb (by omega) hc m L z E hR hm
   ·by_cases h1:x=1
    ·subst h1;exact Qi9 a n c bs k r W hs hb (by omega) hc m L z E hR hm
    ·by_cases h2:x=2
     ·subst h2;by_cases hsh:r.length<sizeN k 1
      ·exact QmR a n c bs k r W hs hb (by omega) hc m L z E hR hm hsh
      ·exact Qjd a n c bs k r W hs hb (by omega) hc m L z E hR hm hsh
     ·rw[Qed hc (show rdK k x r=none from by unfold rdK;rw[if_neg (by omega),if_neg h2])]at hR;simp only[resN,Prod.mk.injEq]at hR;obtain⟨rfl,rfl,rfl⟩:=hR;obtain rfl:m=0:=by rw[←hm];rfl
      exact Qht a n c bs k (x :: r) W hs hb (by omega) hc (.inr ⟨x,r,rfl,by omega⟩)
end Nu
end Go.Proofs.YtljanfnhmhimiaaGreat
