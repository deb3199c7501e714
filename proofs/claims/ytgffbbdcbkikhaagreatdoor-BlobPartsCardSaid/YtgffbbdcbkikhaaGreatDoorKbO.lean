/- Parts of the proof. -/
import Derived.Test.YtgffbbdcbkikhaaGreatDoorKbF
import Derived.Test.YtgffbbdcbkikhaaGreatDoorKbJ
set_option maxRecDepth 100000
set_option maxHeartbeats 8000000
open Go.Lib (hid)
namespace Go.Proofs.YtgffbbdcbkikhaaGreatDoor
namespace Fr
open Go.RowKit Bs Dv
def partsV(g n:Nat):Array Value:=#[.slice (some ⟨g,0,none⟩) 1 1,.slice (some ⟨g,1,none⟩) 1 1,.slice (some ⟨g,2,none⟩) 2 2,.slice (some ⟨g,4,none⟩) 8 8,
 .slice (some ⟨g,12,none⟩) (n-16) (n-16),.slice (some ⟨g,0,none⟩) (n-4) (n-4),.slice (some ⟨g,n-4,none⟩) 4 4]
theorem Qdu(g n c:Nat)(w:World)(hn:128≤n)(hc:n≤c)(h4:n≤4096) :
  Calls Tryz.prog 113 #[.slice (some ⟨g,0,none⟩) n c] w fun e w'=>e=.returned (.agg (partsV g n))∧w.grownBy w' none:=by
 go_enter Tryz.func113,Tryz.ntmps113
 go_wp2;have HV:Hid (#[Value.slice (some ⟨g,0,none⟩) 1 1,.slice (some ⟨g,1,none⟩) 1 1,.slice (some ⟨g,2,none⟩) 2 2,.slice (some ⟨g,4,none⟩) 8 8,
   .slice (some ⟨g,12,none⟩) (n-4-12) (n-4-12),.slice (some ⟨g,0,none⟩) (n-4) (n-4),.slice (some ⟨g,n-4,none⟩) (n-(n-4)) (n-(n-4))]=partsV g n):=hid (by
  unfold partsV;rw[show n-4-12=n-16 from by omega,show n-(n-4)=4 from by omega])
 go_region
 rw[HV.out];have hi:(Tryz.prog.info? 178).map (·.size)=some (partsV g n).size:=by kernel_rfl
 have hg:=World.grownBy_alloc w (.cells (partsV g n) 178) none;have hh:(w.alloc (.cells (partsV g n) 178)).drew.heap[w.heap.size]?=some (.cells (partsV g n) 178 (0,0)):=heap_alloc_new w _;have HG:=hid hg;have HI:=hid hi;have HH:=hid hh;clear hg hi hh;generalize w.alloc (.cells (partsV g n) 178)=w1 at HG HH;go_wp2;refine bodyPost_ret (v:=.agg (partsV g n)) ?_ rfl ⟨rfl,⟨HG.out.os,HG.out.tape,HG.out.output,HG.out.size,HG.out.block⟩⟩;exact results_cell_row rfl _ _ w.heap.size _ _ _ _ rfl HH.out Tryz.underlying178 rfl HI.out
def zB(l:List Int):Bool:=l.all (·==0)
theorem QjQ{l:List Int}(h:∀x∈l,x=0):zB l=true:=List.all_eq_true.2 fun x hx=>by simpa using h x hx
theorem zB_no{l:List Int}(k:Nat)(hk:k<l.length)(h:¬l.getD k 0=0):zB l=false:=by
 rw[List.getD_eq_getElem?_getD,List.getElem?_eq_getElem hk]at h;refine Bool.eq_false_iff.2 fun e=>h ?_
 have:=List.all_eq_true.1 e _ (List.getElem_mem hk)
 simpa using this
theorem QjR{l:List Int}{k:Nat}(hk:k<l.length)(h:∀x∈l.take k,x=0)(h2:l.getD k 0=0):∀x∈l.take (k+1),x=0:=by
 intro x hx;rw[List.take_succ_eq_append_getElem hk]at hx;rcases List.mem_append.1 hx with h1|h1
 ·exact h x h1
 ·rw[List.getD_eq_getElem?_getD,List.getElem?_eq_getElem hk]at h2;simp at h1 h2;omega
theorem QcP(a:Option Addr)(n c:Nat)(l:List Int)(w:World)(hs:Seg w a n c l) :
  Calls Tryz.prog 153 #[.slice a n c] w fun e w'=>e=.returned (.bool (zB l))∧w=w':=by
 by_cases hn:n=0
 ·subst hn;obtain rfl:=List.eq_nil_of_length_eq_zero hs.len;go_enter Tryz.func153,Tryz.ntmps153
  go_wp2;refine wp_loop_rounds 1 ?_;rw[rounds_succ];go_wp2;go_ret
  exact⟨rfl,rfl⟩
 ·obtain⟨g,o,rfl,k0⟩:=hs.addr (by omega);have hm:=hs.cap;have hle:=hs.le;have HL:=hid hs.len;unfold maxLen at hm;have K0:=hid k0;clear k0 hs;go_enter Tryz.func153,Tryz.ntmps153
  go_wp2
  go_loop [7] (fun i=>∃k:Nat,k≤n∧i=.int .i64 k∧Hid (∀x∈l.take k,x=0)) (fun i=>n-(intOf i).toNat)
  case atStart=>exact⟨0,Nat.zero_le _,rfl,by simp[Hid]⟩
  case round=>
   obtain⟨k,hk,rfl,HZ⟩:=hrel;by_cases hlt:k<n
   ·have q1:=K0.out k hlt;by_cases hz:l.getD k 0=0
    ·have HS:=hid (QjR (by rw[HL.out];exact hlt) HZ.out hz);rw[hz]at q1;clear hz;go_wp2
     go_round
     case rel=>exact⟨k+1,by omega,by go_num,HS⟩
     case measure=>simp[intOf];omega
    ·have HN:=hid (zB_no k (by rw[HL.out];exact hlt) hz);generalize l.getD k 0=x at q1 hz;have e1:(x != 0)=true:=bne_iff_ne.2 hz;clear hz;go_wp2;go_ret
     exact⟨QaA HN.out.symm,rfl⟩
   ·obtain rfl:k=n:=by omega
    have HY:=hid (QjQ (l:=l) (by
     have h:=HZ.out
     rwa [List.take_of_length_le (Nat.le_of_eq HL.out)]at h))
    go_wp2;go_ret
    exact⟨QaA HY.out.symm,rfl⟩
end Fr
namespace Fr
open Go.RowKit Bs Dv
open Oct (putB ofB Qe Qx Qz Qv)
theorem QkV(l v:List Int)(h:v.length=l.length):spl l 0 v=v:=by
 unfold spl;rw[List.take_zero,List.nil_append,Nat.zero_add,h,List.drop_length,List.append_nil]
theorem QeU(b o m c:Nat)(v:Int)(l:List Int)(w:World)(h:Reg w b 0 l)(hm:1≤m)(h8:m≤8)(ho:o+m≤l.length)(h0:0≤v)(h1:v<18446744073709551616) :
  Calls Tryz.prog 114 #[.slice (some ⟨b,o,none⟩) m c,.int .u64 v] w fun e w'=>e=.returned (.tuple #[])∧Reg w' b 0 (spl l o (putB m v))∧Turn w w' (·=b):=by
 have HR:=hid h;have HB:=hid (h.lt (fun e=>by rw[e]at ho;simp at ho;omega));clear h;go_enter Tryz.func114,Tryz.ntmps114
 go_wp2_with fail
 refine(Oct.Qu none 0 0 [] v m w (Seg.nil w) h0 h1 hm h8 (by omega)).mono ?_;rintro e w1 hn;rw[List.nil_append]at hn;obtain⟨g,q,rfl,hn⟩:=hn.value;obtain⟨hq,hown,hg⟩:=hn.is;rw[Qe]at hq;subst hq;have R1:=HR.out.turn (Turn.Qf hg (S:=nowhere) (fun i e=>by cases e)) id;have RP:=((R1.sub o).take q);have ll:((l.drop o).take q).length=q:=by rw[List.length_take,List.length_drop];omega
 have R0:=hid RP;have SG:=hid (Seg.own hown);have LL:=hid ll;have R1:=hid R1;have HG:=hid hg;have HO:=hid ho;clear hn hown RP ll hg h0 h1 ho;go_wp2_with (with_reducible refine QeI rfl (.tmp 4) (.tmp 8) rfl b o q c rfl ⟨g,0,none⟩ q q _ (putB q v) rfl SG.out R0.out (Nat.le_refl _) (by rw[LL.out];exact Nat.le_refl _) ?_;intro w2 hr2 ho2)
 rw[QkV _ _ (by rw[Qe,LL.out])]at hr2;have HF:Hid (Reg w2 b 0 (spl l o (putB q v))∧Turn w w2 (·=b)):=by
  refine⟨R1.out.patch hr2 (by rw[Qe];exact ho2) (by rw[Qe];exact HO.out),?_⟩;exact(Turn.Qf HG.out (S:=(·=b)) (fun i e=>by cases e)).trans ho2.turn (fun _ _ e=>e)
 clear hr2 ho2
 go_end0
 exact⟨rfl,HF.out⟩
end Fr
namespace Fr
open Go.RowKit Bs Dv
open Oct (putB ofB Qe Qx Qz Qv)
open Crc (crc num Qb0)
def fmV(f:Fm):Value:=.agg #[.int .u8 f.1,.int .u64 f.2.1,.string (strOfNums f.2.2)]
def strE(r:List Int×Int):Ending:=.returned (.tuple #[.string (strOfNums r.1),.int .i64 r.2])
def fmE(r:Fm×Int):Ending:=.returned (.tuple #[fmV r.1,.int .i64 r.2])
theorem Qg{w w':World}{g:Nat}{o:Obj}{S:Nat→Prop}(h:w.heap[g]?=some o)(k:Turn w w' S)(hS:¬S g):w'.heap[g]?=some o:=by
 rw[k.block g (Array.getElem?_eq_some_iff.1 h).1 hS];exact h
theorem block_lt{w:World}{g:Nat}{o:Obj}(h:w.heap[g]?=some o):g<w.heap.size:=(Array.getElem?_eq_some_iff.1 h).1
theorem Qa1{w:World}{g:Nat}{x y z:Value}(h:w.heap[g]?=some (.cells #[x,y,z] 132 (0,0))) :
  w.cell? ⟨g,0,none⟩=some x∧w.cell? ⟨g,1,none⟩=some y∧w.cell? ⟨g,2,none⟩=some z:=by
 refine⟨?_,?_,?_⟩ <;> rw[cell_of_row w g _ _ _ _ h] <;> rfl
theorem Qam{w:World}{g b n:Nat}(h:w.heap[g]?=some (.cells (partsV b n) 178 (0,0))) :
  w.cell? ⟨g,0,none⟩=some (.slice (some ⟨b,0,none⟩) 1 1)∧w.cell? ⟨g,1,none⟩=some (.slice (some ⟨b,1,none⟩) 1 1)∧w.cell? ⟨g,2,none⟩=some (.slice (some ⟨b,2,none⟩) 2 2) ∧
  w.cell? ⟨g,3,none⟩=some (.slice (some ⟨b,4,none⟩) 8 8)∧w.cell? ⟨g,4,none⟩=some (.slice (some ⟨b,12,none⟩) (n-16) (n-16))∧w.cell? ⟨g,5,none⟩=some (.slice (some ⟨b,0,none⟩) (n-4) (n-4)) ∧
  w.cell? ⟨g,6,none⟩=some (.slice (some ⟨b,n-4,none⟩) 4 4):=by
 refine⟨?_,?_,?_,?_,?_,?_,?_⟩ <;> rw[cell_of_row w g _ _ _ _ h] <;> rfl
theorem Qb7(n t g:Int)(d:List Int)(w:World)(hn:¬Fits n∨(Fits n∧n-16<d.length)) :
  Calls Tryz.prog 83 #[.int .i64 n,.agg #[.int .u8 t,.int .u64 g,.string (strOfNums d)]] w fun e w'=>e=strE (putF n (t,g,d))∧w.grownBy w' none:=by
 have hg:=World.grownBy_alloc w (.cells #[.int .u8 t,.int .u64 g,.string (strOfNums d)] 132) none;have hb:=heap_alloc_new w (.cells #[.int .u8 t,.int .u64 g,.string (strOfNums d)] 132);have hsz:(strOfNums d).size=d.length:=strOfNums_size d;have HG:=hid hg;have HB:=hid hb;clear hg hb;rcases hn with hn|⟨hn,hl⟩
 ·have HE:Hid (strE (putF n (t,g,d))=strE ([],2)):=hid (by unfold putF;rw[if_pos hn]);have HR:=hid (show room n=0 from if_neg hn);clear hn;go_enter Tryz.func83,Tryz.ntmps83
  go_wp2_with fail
  refine(Qan n _).mono ?_;rintro e w1 ⟨rfl,hg1⟩;have HG1:=hid (grownBy_trans HG.out hg1 (fun _ e=>by cases e));clear hg1;rw[HR.out];go_wp2;go_ret2
  exact⟨HE.out.symm,HG1.out⟩
 ·have HE:Hid (strE (putF n (t,g,d))=strE ([],3)):=hid (by unfold putF;rw[if_neg (by simpa using hn),if_pos hl]);have HR:=hid (show room n=n-16 from if_pos hn);unfold Fits at hn;go_enter Tryz.func83,Tryz.ntmps83
  go_wp2_with fail
  refine(Qan n _).mono ?_;rintro e w1 ⟨rfl,hg1⟩;obtain⟨c0,c1,c2⟩:=Qa1 (Qg HB.out (Turn.Qf hg1 (S:=nowhere) (fun i e=>by cases e)) id);have HG1:=hid (grownBy_trans HG.out hg1 (fun _ e=>by cases e));clear hg1;rw[HR.out];go_wp2;go_ret2
  exact⟨HE.out.symm,HG1.out⟩
theorem steps(n:Nat)(t g:Int)(d:List Int)(h:d.length+16≤n) :
  spl (spl (spl ((List.replicate n 0).set 0 t) 2 (putB 2 d.length)) 4 (putB 8 g)) 12 d=body n t g d++List.replicate 4 0 ∧
  spl (body n t g d++List.replicate 4 0) (n-4) (putB 4 (crc (body n t g d):Int))=blk n t g d:=by
 have e0:List.replicate n (0:Int)=List.replicate 1 0++(List.replicate 1 0++(List.replicate 2 0++(List.replicate 8 0++(List.replicate d.length 0++(List.replicate (n-16-d.length) 0++List.replicate 4 0))))):=by
  simp only[List.replicate_append_replicate]
  congr 1
  omega
 have e1:(List.replicate n (0:Int)).set 0 t=[t,0]++(List.replicate 2 0++(List.replicate 8 0++(List.replicate d.length 0++(List.replicate (n-16-d.length) 0++List.replicate 4 0)))):=by
  rw[e0];rfl
 refine⟨?_,?_⟩
 ·rw[e1];unfold spl;rw[QbY [t,0] _ _ _ 2 rfl (by rw[Qe,List.length_replicate]),←List.append_assoc [t,0],
   QbY ([t,0]++putB 2 d.length) _ _ _ 4 (by rw[List.length_append,Qe];rfl) (by rw[Qe,List.length_replicate]),←List.append_assoc ([t,0]++putB 2 d.length),
   QbY ([t,0]++putB 2 d.length++putB 8 g) _ _ _ 12 (by rw[List.length_append,List.length_append,Qe,Qe];rfl) (by rw[List.length_replicate])]
  simp[body,List.append_assoc]
 ·have:=QbY (body n t g d) (List.replicate 4 0) [] (putB 4 (crc (body n t g d):Int)) (n-4) (QaV n t g d h) (by rw[Qe,List.length_replicate]);rw[List.append_nil,List.append_nil]at this;exact this
theorem Qu      (n:Nat) (t g:Int) (d:List Int) (w:World) (ht:0≤t∧t<256) (hgn:0≤g∧g<18446744073709551616) (hd:Bs.IsB d) (hn:Fits n) (hl:d.length+16≤n) :
    Calls Tryz.prog 83 #[.int .i64 n,.agg #[.int .u8 t,.int .u64 g,.string (strOfNums d)]] w fun e w'=>e=strE (blk n t g d,0)∧w.grownBy w' none:=by
  obtain⟨i0,hi,hz0,hz1,hz2⟩:=info_parts QU
  have hb:=heap_alloc_new w (.cells #[.int .u8 t,.int .u64 g,.string (strOfNums d)] 132)
  have hsz:(strOfNums d).size=d.length:=strOfNums_size d
  have T0:=hid (Turn.alloc w (.cells #[.int .u8 t,.int .u64 g,.string (strOfNums d)] 132) nowhere)
  have HB:=hid hb
  have ZA:=hid (show w.heap.size<(w.alloc (.cells #[.int .u8 t,.int .u64 g,.string (strOfNums d)] 132)).heap.size from block_lt hb)
  have HR:=hid (show room n=(n:Int)-16 from if_pos hn)
  unfold Fits at hn
  clear hb
  go_enter Tryz.func83,Tryz.ntmps83
  go_wp2_with fail
  refine(Qan n _).mono ?_
  rintro e w1 ⟨rfl,hg1⟩
  have t1:=Turn.Qf hg1 (S:=nowhere) (fun i e=>by cases e)
  have B1:=hid (Qg HB.out t1 id)
  have T1:=hid (T0.out.trans t1 (fun _ _ e=>e))
  have Z1:=hid (block_lt B1.out)
  obtain⟨c0,c1,c2⟩:=Qa1 B1.out
  clear hg1 t1
  rw[HR.out]
  generalize w.alloc (.cells #[.int .u8 t,.int .u64 g,.string (strOfNums d)] 132)=w0 at *
  generalize w.heap.size=p at *
  have hl':¬((n:Int)-16<(d.length:Int)):=by omega
  go_wp2_with (first
    |(refine wpList_make_full _ rfl _ _ 46 rfl w1.heap.size 5 i0 (.int .u8 0) 1 Tryz.underlying46 hi hz0 hz1 _ _ _ _ n rfl rfl rfl rfl (by rw[hz2];omega) (by unfold maxLen;omega) (Nat.le_refl _) ?_;intro w2 hown2 hgrow2)
    |fail)
  have hmk:(madeCells (Value.int .u8 0).cells (n*1)).toList=(List.replicate n (0:Int)).map (Value.int .u8):=by
    rw[Nat.mul_one,List.map_replicate]
    exact toList_madeCells_one _ _
  rw[hmk]at hown2
  clear hmk
  obtain⟨b,hbe⟩:∃b,b=w1.heap.size:=⟨_,rfl⟩
  rw[←hbe]at hown2 Z1 ⊢
  have R2:=hid (Reg.own hown2)
  have t2:=Turn.Qf hgrow2 (S:=nowhere) (fun i e=>by cases e)
  have B2:=hid (Qg B1.out t2 id)
  have T2:=hid (T1.out.trans t2 (fun _ _ e=>e))
  have Y2:=hid (show b<w2.heap.size from(hown2.lt _ rfl).2)
  have WB:=hid (show w.heap.size≤b from by rw[hbe];exact T1.out.size)
  clear hown2 hgrow2 t2 hbe c0 c1 c2 B1 T1 hl'
  refine(Qdu b n n w2 (by omega) (Nat.le_refl _) (by omega)).mono ?_
  rintro e w3 ⟨rfl,hg3⟩
  have t3:=Turn.Qf hg3 (S:=nowhere) (fun i e=>by cases e)
  have B3:=hid (Qg B2.out t3 id)
  have T3:=hid (T2.out.trans t3 (fun _ _ e=>e))
  have R3:=hid (R2.out.turn t3 id)
  have Y3:=hid (Nat.lt_of_lt_of_le Y2.out t3.size)
  obtain⟨c0,c1,c2⟩:=Qa1 B3.out
  have Y:=Y3.out
  have Z:=Z1.out
  obtain⟨r0,f0⟩:=R3.out.at_ 0 (by rw[List.length_replicate];omega)
  simp only[Nat.add_zero]at r0 f0
  clear hg3 t3 B2 T2 R2 Y2
  have X:p<w3.heap.size:=Nat.lt_trans Z Y
  simp only[partsV]
  go_wp2_with fail
  have ll0:(List.replicate n (0:Int)).length=n:=List.length_replicate
  obtain⟨q,hq⟩:∃q,q=w3.heap.size:=⟨_,rfl⟩
  have r4:=(R3.out.setCell 0 t (by rw[ll0];omega)).turn (Turn.alloc (w3.setCell ⟨b,0+0,none⟩ (.int .u8 t)) (.cells (partsV b n) 178) nowhere) id
  have t4:=(Turn.setCell w3 ⟨b,0+0,none⟩ (.int .u8 t) (S:=(·=b)) rfl).trans (Turn.alloc (w3.setCell ⟨b,0+0,none⟩ (.int .u8 t)) (.cells (partsV b n) 178) (·=b)) (fun _ _ e=>e)
  have q4:((w3.setCell ⟨b,0+0,none⟩ (.int .u8 t)).alloc (.cells (partsV b n) 178)).heap[q]?=some (.cells (partsV b n) 178 (0,0)):=by
    have h:=heap_alloc_new (w3.setCell ⟨b,0+0,none⟩ (.int .u8 t)) (.cells (partsV b n) 178)
    have e:(w3.setCell ⟨b,0+0,none⟩ (.int .u8 t)).heap.size=w3.heap.size:=by simp[World.setCell]
    rw[hq,←e]
    exact h
  have hqb:q≠b:=by omega
  have hpb:p≠b:=by omega
  rw[←hq]
  have Q4:=hid q4
  have R4:=hid r4
  have T4:=hid ((T3.out.mono (S':=(·=b)) (fun _ _ e=>e.elim)).trans t4 (fun _ _ e=>e))
  have B4:=hid (Qg B3.out t4 (by show ¬p=b;omega))
  have L4:=hid (show((List.replicate n (0:Int)).set 0 t).length=n by rw[List.length_set,ll0])
  obtain⟨s1,s2⟩:=steps n t g d hl
  clear r4 t4 q4 ll0 c0 c1 c2 r0 f0 X Y Z Y3 Z1 B3 T3 R3 hq
  generalize (List.replicate n (0:Int)).set 0 t=L0 at *
  obtain⟨L1,hL1⟩:∃L1,L1=spl L0 2 (putB 2 (d.length:Int)):=⟨_,rfl⟩
  have l1:L1.length=n:=by rw[hL1,QeW _ _ _ (by rw[Qe,L4.out];omega),L4.out]
  obtain⟨L2,hL2⟩:∃L2,L2=spl L1 4 (putB 8 g):=⟨_,rfl⟩
  have l2:L2.length=n:=by rw[hL2,QeW _ _ _ (by rw[Qe,l1];omega),l1]
  rw[←hL1,←hL2]at s1
  have hbl:=QaV n t g d hl
  have hbB:=QdN n t g d ht hd
  have HL1:=hid hL1
  have HL2:=hid hL2
  have Hl1:=hid l1
  have Hl2:=hid l2
  have HS1:=hid s1
  have HS2:=hid s2
  have HBL:=hid hbl
  have HBB:=hid hbB
  have HD:=hid hd
  clear hL1 hL2 l1 l2 s1 s2 hbl hbB hd
  refine(QeU b 2 2 2 (d.length:Int) L0 _ R4.out (by omega) (by omega) (by rw[L4.out];omega) (by omega) (by omega)).mono ?_
  rintro e w5 ⟨rfl,r5,t5⟩
  rw[←HL1.out]at r5
  have R5:=hid r5
  have T5:=hid (T4.out.trans t5 (fun _ _ e=>e))
  have Q5:=hid (Qg Q4.out t5 (show ¬q=b from hqb))
  have B5:=hid (Qg B4.out t5 (show ¬p=b from hpb))
  obtain⟨c0,c1,c2⟩:=Qa1 B5.out
  obtain⟨k0,k1,k2,k3,k4,k5,k6⟩:=Qam Q5.out
  clear r5 t5 R4 T4 Q4 B4
  go_wp2_with fail
  refine(QeU b 4 8 8 g L1 _ R5.out (by omega) (by omega) (by rw[Hl1.out];omega) hgn.1 hgn.2).mono ?_
  rintro e w6 ⟨rfl,r6,t6⟩
  rw[←HL2.out]at r6
  have R6:=hid r6
  have T6:=hid (T5.out.trans t6 (fun _ _ e=>e))
  have Q6:=hid (Qg Q5.out t6 (show ¬q=b from hqb))
  have B6:=hid (Qg B5.out t6 (show ¬p=b from hpb))
  clear r6 t6 R5 T5 Q5 B5 c0 c1 c2 k0 k1 k2 k3 k4 k5 k6
  obtain⟨c0,c1,c2⟩:=Qa1 B6.out
  obtain⟨k0,k1,k2,k3,k4,k5,k6⟩:=Qam Q6.out
  have RD:=hid (R6.out.sub 12)
  have LD:=hid (show(L2.drop 12).length=n-12 by rw[List.length_drop,Hl2.out])
  go_wp2_with (first
    |(with_reducible refine QeH rfl (.tmp 42) (.tmp 44) rfl b 12 (n-16) (n-16) rfl (L2.drop 12) d rfl RD.out HD.out (by omega) (by rw[LD.out];omega) ?_;intro w7 hr7 ho7)
    |fail)
  have r7:Reg w7 b 0 (body n t g d++List.replicate 4 0):=by
    have h:=R6.out.patch (v:=d) (by have:=hr7.take d.length;rwa [show(spl (L2.drop 12) 0 d).take d.length=d from by unfold spl;simp]at this) ho7 (by rw[Hl2.out];omega)
    rwa [HS1.out]at h
  have R7:=hid (r7.turn (Turn.drew w7 nowhere) id)
  have T7:=hid ((T6.out.trans ho7.turn (fun _ _ e=>e)).trans (Turn.drew w7 (·=b)) (fun _ _ e=>e))
  have q7:=Qg Q6.out ho7.turn (show ¬q=b from hqb)
  have SB:Hid (Seg w7.drew (some ⟨b,0,none⟩) (n-4) (n-4) (body n t g d)):=hid (by
    have h:=(R7.out.take (n-4)).seg (c:=n-4) (by rw[QG _ _ _ HBL.out,HBL.out];exact Nat.le_refl _) (by unfold maxLen;omega)
    rw[QG _ _ _ HBL.out,HBL.out]at h
    exact h)
  clear c0 c1 c2 k0 k1 k2 k3 k4 k5 k6 hr7 ho7 r7 R6 T6 Q6 B6 RD LD
  obtain⟨k0,k1,k2,k3,k4,k5,k6⟩:=Qam q7
  obtain⟨C,hC⟩:∃C,C=crc (body n t g d):=⟨_,rfl⟩
  have hC4:C<4294967296:=by rw[hC];exact Qb0 _ HBB.out
  have HC:=hid hC
  clear hC q7 k0 k1 k2 k3 k4
  have HW:Hid (IntKind.u64.wrap (C:Int)=(C:Int)):=hid (by
    have e:IntKind.u64.wrap (C:Int)=(C:Int) % 18446744073709551616:=by simp[IntKind.wrap,IntKind.bits,IntKind.signed]
    rw[e];omega)
  go_region_held3 (fun w'=>w'.cell? ⟨q,5,none⟩=some (.slice (some ⟨b,0,none⟩) (n-4) (n-4))∧w'.cell? ⟨q,6,none⟩=some (.slice (some ⟨b,n-4,none⟩) 4 4)) (go_keep)
    (first
      | (go_at_call 115
         (with_reducible refine(Crc.QaO _ _ _ (body n t g d) _ SB.out HBB.out).mono ?_)
         rintro e w8 ⟨rfl,hg8⟩
         rw[←HC.out]
         have T8:=hid (Turn.Qf hg8 (S:=nowhere) (fun i e=>by cases e))
         have R8:=hid (R7.out.turn T8.out id)
         have e5:=T8.out.cell (p:=⟨q,5,none⟩) (by exact k5) id
         have e6:=T8.out.cell (p:=⟨q,6,none⟩) (by exact k6) id
         clear hg8)
      | (go_at_call 114
         rw[HW.out]
         (with_reducible refine(QeU b (n-4) 4 4 (C:Int) (body n t g d++List.replicate 4 0) _ R8.out (by omega) (by omega) (by rw[List.length_append,HBL.out,List.length_replicate];omega) (by omega) (by omega)).mono ?_)
         rintro e w9 ⟨rfl,r9,t9⟩
         have d5:=t9.cell (p:=⟨q,5,none⟩) (by exact e5) (show ¬q=b from hqb)
         have d6:=t9.cell (p:=⟨q,6,none⟩) (by exact e6) (show ¬q=b from hqb))
      |fail)
  rw[HC.out,HS2.out]at r9
  have T9:=hid ((T7.out.trans (T8.out.mono (fun _ _ e=>e.elim)) (fun _ _ e=>e)).trans t9 (fun _ _ e=>e))
  have WB':=WB.out
  have HF:Hid (w.grownBy w9 none):=⟨T9.out.os,T9.out.tape,T9.out.output,T9.out.size,fun i hi _=>T9.out.block i hi (fun e=>by have:i=b:=e;omega)⟩
  have hcv:=Qaw b 0 n n _ w9 r9 (Qo n t g d hl)
  clear r9 t9 d5 d6 e5 e6 WB'
  go_wp2
  go_ret2
  exact⟨rfl,HF.out⟩
end Fr
namespace Fr
open Go.RowKit Bs Dv
theorem Qhm(x y z:Value):(Tryz.prog.info? 132).map (·.size)=some (#[x,y,z]:Array Value).size:=by
 rw[show(Tryz.prog.info? 132).map (·.size)=some 3 from by kernel_rfl]
 rfl
theorem Qy{w:World}{ops:Array Oper}{rest:List Oper}{o:Oper}{a:Act}{Q:Exit→Act→World→Prop}(hgd:o.guard=none)(x y:Operand)(ho:o.op=.store 132 x y)
  (g:Nat) (hx:a.eval x=.pointer (some ⟨g,0,none⟩)) (f:Fm) (hy:a.eval y=.agg #[.int .u8 f.1,.int .u64 f.2.1,.string (strOfNums f.2.2)]) (o1 o2 o3:Value)
  (hg:w.heap[g]?=some (.cells #[o1,o2,o3] 132 (0,0)))
  (h:∀w',w'.heap[g]?=some (.cells #[.int .u8 f.1,.int .u64 f.2.1,.string (strOfNums f.2.2)] 132 (0,0))→Turn w w' (·=g)→wpList Tryz.prog ops Q rest (a.put o.dst undef) w'):wpList Tryz.prog ops Q (o :: rest) a w:=by
 refine wpList_store_row hgd _ x y ho g _ hx hy _ _ hg (Qhm _ _ _) rfl (by simp[Value.oneCell']) ?_;exact h _ (setRow_heap w g _ _ _ _ hg) ⟨rfl,rfl,rfl,by simp[World.setRow],fun k _ hk=>setRow_other w g k _ hk⟩
theorem Qr{fn:Func}{p u:Tmp}(h:fn.results=#[.cell p 132,.tmp u])(tmps:Array Value)(w:World)(g:Nat)(x y z:Value)(hp:tmps.getD p undef=.pointer (some ⟨g,0,none⟩))
  (hg:w.heap[g]?=some (.cells #[x,y,z] 132 (0,0))) (v:Value) (hv:tmps.getD u undef=v):(results fn tmps).run Tryz.prog w=.ok (.tuple #[.agg #[x,y,z],v]) w:=by
 rw[←hv];exact QZ h tmps w g _ _ _ _ hp hg Tryz.underlying132 rfl (Qhm x y z)
theorem Qf2{w:World}{g:Nat}{o1 o2 o3 x y z:Value}(h:w.heap[g]?=some (.cells #[o1,o2,o3] 132 (0,0))) :
  (((w.setCell ⟨g,0,none⟩ x).setCell ⟨g,1,none⟩ y).setCell ⟨g,2,none⟩ z).heap[g]?=some (.cells #[x,y,z] 132 (0,0)):=by
 have h1:=Go.heap_setCell_same w g 0 _ _ x h;have h2:=Go.heap_setCell_same _ g 1 _ _ y h1;have h3:=Go.heap_setCell_same _ g 2 _ _ z h2;exact h3
theorem QgM(w:World)(g:Nat)(x y z:Value):Turn w (((w.setCell ⟨g,0,none⟩ x).setCell ⟨g,1,none⟩ y).setCell ⟨g,2,none⟩ z) (·=g):=
 ((Turn.setCell w _ _ (S:=(·=g)) rfl).trans (Turn.setCell _ _ _ (S:=(·=g)) rfl) (fun _ _ e=>e)).trans (Turn.setCell _ _ _ (S:=(·=g)) rfl) (fun _ _ e=>e)
end Fr
namespace Fr
open Go.RowKit Bs Dv
open Oct (putB ofB Qe Qx Qz Qv)
open Crc (crc num Qb0)
def readF(b:List Int):Fm×Int:=if ¬Shape b then(none3,4) else((b.getD 0 0,gen b,dat b),0)
theorem Qbr{w:World}{g:Nat}{B:List Int}(h:Reg w g 0 B)(o m c:Nat)(ho:o+m≤B.length)(hm:m≤c)(hc:c≤100000):Seg w (some ⟨g,o,none⟩) m c ((B.drop o).take m):=by
 have hl:((B.drop o).take m).length=m:=by rw[List.length_take,List.length_drop];omega
 have:=((h.sub o).take m).seg (c:=c) (by omega) (by unfold maxLen;omega)
 rwa [hl]at this
theorem Qk9(B:List Int)(h:2≤B.length):zB ((B.drop 1).take 1)=decide (B.getD 1 0=0):=by
 match B,h with
 |x :: y :: r,_=>simp[zB,List.getD];rfl
theorem Qb8      (g n:Nat) (B:List Int) (w:World) (h:Reg w g 0 B) (hB:Bs.IsB B) (hn:B.length=n) (hlo:128≤n) (hhi:n≤4096) :
    Calls Tryz.prog 145 #[.agg #[.slice (some ⟨g,0,none⟩) 1 1,.slice (some ⟨g,1,none⟩) 1 1,.slice (some ⟨g,2,none⟩) 2 2,.slice (some ⟨g,4,none⟩) 8 8,
      .slice (some ⟨g,12,none⟩) (n-16) (n-16),.slice (some ⟨g,0,none⟩) (n-4) (n-4),.slice (some ⟨g,n-4,none⟩) 4 4]] w fun e w'=>e=fmE (readF B)∧w.grownBy w' none:=by
  obtain⟨k0,k1⟩:=QeR B hB
  obtain⟨k,hk⟩:∃k:Nat,cnt B=k:=⟨(cnt B).toNat,by omega⟩
  have HS:=hid (show Shape B↔cnt B+16≤B.length∧B.getD 1 0=0∧∀x∈pad B,x=0 from Iff.rfl)
  have s2:=Qbr h 2 2 2 (by omega) (by omega) (by omega)
  have SC:=hid s2
  have BC:=hid (show Bs.IsB ((B.drop 2).take 2) from Qay (Qae hB 2) 2)
  have HR:=hid h
  have HC:=hid (show ofB ((B.drop 2).take 2)=(k:Int) from hk)
  have HK:=hid hk
  rw[hk]at k1
  clear s2 h hk k0
  go_enter Tryz.func145,Tryz.ntmps145
  go_wp2_with fail
  have p1:=heap_alloc2_old w (.cells #[.slice (some ⟨g,0,none⟩) 1 1,.slice (some ⟨g,1,none⟩) 1 1,.slice (some ⟨g,2,none⟩) 2 2,.slice (some ⟨g,4,none⟩) 8 8,.slice (some ⟨g,12,none⟩) (n-16) (n-16),.slice (some ⟨g,0,none⟩) (n-4) (n-4),.slice (some ⟨g,n-4,none⟩) 4 4] 178) (.cells #[.int .u8 0,.int .u64 0,.string ⟨#[]⟩] 132)
  have p2:=heap_alloc2_new w (.cells #[.slice (some ⟨g,0,none⟩) 1 1,.slice (some ⟨g,1,none⟩) 1 1,.slice (some ⟨g,2,none⟩) 2 2,.slice (some ⟨g,4,none⟩) 8 8,.slice (some ⟨g,12,none⟩) (n-16) (n-16),.slice (some ⟨g,0,none⟩) (n-4) (n-4),.slice (some ⟨g,n-4,none⟩) 4 4] 178) (.cells #[.int .u8 0,.int .u64 0,.string ⟨#[]⟩] 132)
  have t2:=(Turn.alloc w (.cells #[.slice (some ⟨g,0,none⟩) 1 1,.slice (some ⟨g,1,none⟩) 1 1,.slice (some ⟨g,2,none⟩) 2 2,.slice (some ⟨g,4,none⟩) 8 8,.slice (some ⟨g,12,none⟩) (n-16) (n-16),.slice (some ⟨g,0,none⟩) (n-4) (n-4),.slice (some ⟨g,n-4,none⟩) 4 4] 178) nowhere).trans (Turn.alloc _ (.cells #[.int .u8 0,.int .u64 0,.string ⟨#[]⟩] 132) nowhere) (fun _ _ e=>e)
  have gl:=HR.out.lt (fun e=>by rw[e]at hn;simp at hn;omega)
  generalize (w.alloc (.cells #[.slice (some ⟨g,0,none⟩) 1 1,.slice (some ⟨g,1,none⟩) 1 1,.slice (some ⟨g,2,none⟩) 2 2,.slice (some ⟨g,4,none⟩) 8 8,.slice (some ⟨g,12,none⟩) (n-16) (n-16),.slice (some ⟨g,0,none⟩) (n-4) (n-4),.slice (some ⟨g,n-4,none⟩) 4 4] 178)).alloc (.cells #[.int .u8 0,.int .u64 0,.string ⟨#[]⟩] 132)=W at *
  obtain⟨r0,r1,r2,r3,r4,r5,r6⟩:=Qam (b:=g) (n:=n) p1
  have HOF:Hid (∀m,Calls Tryz.prog 81 #[.slice (some ⟨g,2,none⟩) 2 2] (W.drewN m) fun e w'=>e=.returned (.int .u64 k)∧w'=W.drewN m):=hid (fun m=>by
    have h:=Oct.QaO g 2 2 2 _ (W.drewN m) ((SC.out.grown t2.grown).grown ⟨rfl,rfl,rfl,Nat.le_refl _,fun _ _ _=>rfl⟩) BC.out (by omega)
    rw[HC.out]at h
    exact h.mono fun e w' ⟨a,b⟩=>⟨a,b.symm⟩)
  have P1:=hid p1
  have P2:=hid p2
  have T2:=hid t2
  clear p1 p2 t2
  go_quiet ((go_at_call 81;exact Calls.quiet_of_same (HOF.out _)))
  have td:=Turn.drewN W nq nowhere
  have p1:=Qg P1.out td id
  have P2:=hid (Qg P2.out td id)
  have T2:=hid (T2.out.trans td (fun _ _ e=>e))
  have RW:=hid (HR.out.turn T2.out id)
  clear HOF P1 td r0 r1 r2 r3 r4 r5 r6
  generalize W.drewN nq=X at *
  obtain⟨r0,r1,r2,r3,r4,r5,r6⟩:=Qam (b:=g) (n:=n) p1
  have P1:=hid p1
  have hp:w.heap.size+1≠w.heap.size:=by omega
  have HGR:Hid (∀X',Turn X X' (·=w.heap.size+1)→w.grownBy X' none):=hid (fun X' h=>by
    have:=T2.out
    exact⟨h.os.trans this.os,h.tape.trans this.tape,h.output.trans this.output,Nat.le_trans this.size h.size,fun i hi _=>(h.block i (Nat.lt_of_lt_of_le hi this.size) (fun e=>by have:i=w.heap.size+1:=e;omega)).trans (this.block i hi id)⟩)
  clear p1
  by_cases c1:k+16≤n
  · have c1' : ¬((n-16:Nat):Int)<(k:Int):=by omega
    have HZ:=hid (QcP _ 1 1 _ X (Qbr RW.out 1 1 1 (by omega) (by omega) (by omega)))
    rw[Qk9 B (by omega)]at HZ
    by_cases c2:B.getD 1 0=0
    · rw [decide_eq_true c2]at HZ
      have HC2:=hid c2
      clear c2
      have hpl:pad B=(B.drop (12+k)).take (n-16-k):=by unfold pad;rw[HK.out,Int.toNat_natCast,hn]
      have hdl:dat B=(B.drop 12).take k:=by unfold dat;rw[HK.out,Int.toNat_natCast]
      have RD:=hid (show Reg X g 12 (dat B) from by rw[hdl];exact(RW.out.sub 12).take k)
      have LD:=hid (show(dat B).length=k from by rw[hdl,List.length_take,List.length_drop];omega)
      have HG8:=hid (Oct.QaO g 4 8 8 _ X.drew ((Qbr RW.out 4 8 8 (by omega) (by omega) (by omega)).grown ⟨rfl,rfl,rfl,Nat.le_refl _,fun _ _ _=>rfl⟩) (Qay (Qae hB 4) 8) (by omega))
      rw[show ofB ((B.drop 4).take 8)=gen B from rfl]at HG8
      obtain⟨gv,hgv⟩:∃gv,gv=gen B:=⟨_,rfl⟩
      rw[←hgv]at HG8
      have HGV:=hid hgv
      have hg8:=QiS B hB (by omega)
      rw[←hgv]at hg8
      clear hgv hdl
      have HP:=hid (QcP _ (n-16-k) (n-16-k) _ X (Qbr RW.out (12+k) (n-16-k) (n-16-k) (by omega) (Nat.le_refl _) (by omega)))
      rw[←hpl]at HP
      have HPL:=hid hpl
      clear hpl
      have HGN:Hid (¬g=w.heap.size+1):=hid (by omega)
      have HPN:Hid (¬w.heap.size=w.heap.size+1):=hid (by omega)
      have hk16:(k:Int)≤((n-16:Nat):Int):=by omega
      go_wp2_with fail
      refine HZ.out.mono ?_
      rintro e w' ⟨rfl,rfl⟩
      by_cases hcap:k=n-16
      · have HP0:Hid (pad B=[]):=hid (by rw[HPL.out,hcap,Nat.sub_self,List.take_zero])
        have HY:Hid (∀x∈pad B,x=0):=hid (fun x hx=>by rw[HP0.out]at hx;cases hx)
        go_wp2_with fail
        refine(QcP (some ⟨g,12,none⟩) 0 0 [] X (Seg.empty X _ 0 (by unfold maxLen;omega))).mono ?_
        rintro e w' ⟨rfl,rfl⟩
        rw[show zB []=true from rfl]
        have HCV:Hid (∀W',Turn X W' (·=w.heap.size+1)→(convert 46 9 (.slice (some ⟨g,12,none⟩) (n-16) (n-16))).run Tryz.prog W'=.ok (.string (strOfNums (dat B))) W'):=hid (fun W' h=>Qaw g 12 (n-16) (n-16) (dat B) W' (RD.out.turn h HGN.out) (by rw[LD.out,hcap]))
        have HF:Hid (fmE (readF B)=fmE ((B.getD 0 0,gen B,dat B),0)):=hid (by unfold readF;rw[if_neg (fun e=>e (HS.out.2 ⟨by rw[HK.out];omega,HC2.out,HY.out⟩))])
        obtain⟨T,hT⟩:∃T,T=strOfNums (dat B):=⟨_,rfl⟩
        rw[←hT]at HCV
        have c0:=(RW.out.at_ 0 (by omega)).1
        obtain⟨x,hx⟩:∃x,x=B.getD 0 0:=⟨_,rfl⟩
        rw[←hx]at c0
        have HF:Hid (Ending.returned (.tuple #[.agg #[.int .u8 x,.int .u64 gv,.string T],.int .i64 0])=fmE (readF B)):=hid (by rw[HF.out,hx,hT,HGV.out];rfl)
        have hcv:=HCV.out X.drew (Turn.drew X _)
        obtain⟨q0,q1,q2⟩:=Qa1 P2.out
        have hf:∀i,X.frozen? ⟨w.heap.size+1,i,none⟩=false:=fun i=>by simp[World.frozen?,P2.out]
        have f0:=hf 0
        have f1:=hf 1
        have f2:=hf 2
        clear hT hx hf
        go_wp2_with fail
        have ht3:=QgM X (w.heap.size+1) (.int .u8 x) (.int .u64 gv) (.string T)
        have H3:=hid (show(((X.setCell ⟨w.heap.size+1,0,none⟩ (.int .u8 x)).setCell ⟨w.heap.size+1,1,none⟩ (.int .u64 gv)).setCell ⟨w.heap.size+1,2,none⟩ (.string T)).drew.heap[w.heap.size+1]?=some (.cells #[.int .u8 x,.int .u64 gv,.string T] 132 (0,0)) from Qf2 P2.out)
        have HG3:=hid (HGR.out (((X.setCell ⟨w.heap.size+1,0,none⟩ (.int .u8 x)).setCell ⟨w.heap.size+1,1,none⟩ (.int .u64 gv)).setCell ⟨w.heap.size+1,2,none⟩ (.string T)).drew (ht3.trans (Turn.drew _ _) (fun _ _ e=>e)))
        have hcv3:=HCV.out (((X.setCell ⟨w.heap.size+1,0,none⟩ (.int .u8 x)).setCell ⟨w.heap.size+1,1,none⟩ (.int .u64 gv)).setCell ⟨w.heap.size+1,2,none⟩ (.string T)).drew (ht3.trans (Turn.drew _ _) (fun _ _ e=>e))
        have hgn:¬g=w.heap.size+1:=HGN.out
        have hgn2:¬w.heap.size+1=g:=fun e=>hgn e.symm
        clear ht3
        go_region_held3 (fun w'=>w'.cell? ⟨w.heap.size,0,none⟩=some (.slice (some ⟨g,0,none⟩) 1 1)∧w'.cell? ⟨w.heap.size,3,none⟩=some (.slice (some ⟨g,4,none⟩) 8 8)∧w'.cell? ⟨g,0,none⟩=some (.int .u8 x)∧(convert 46 9 (.slice (some ⟨g,12,none⟩) (n-16) (n-16))).run Tryz.prog w'=.ok (.string T) w') (go_keep)
          (first
            | (go_at_call 81
               (with_reducible refine(HG8.out).mono ?_)
               rintro e w' ⟨rfl,rfl⟩)
            |fail)
        clear hcv hcv3 q0 q1 q2 f0 f1 f2 r0 r1 r2 r3 r4 r5 r6 c0
        generalize (((X.setCell ⟨w.heap.size+1,0,none⟩ (.int .u8 x)).setCell ⟨w.heap.size+1,1,none⟩ (.int .u64 gv)).setCell ⟨w.heap.size+1,2,none⟩ (.string T)).drew=X3 at *
        go_wp2
        refine bodyPost_ret (Qr rfl _ _ _ _ _ _ rfl H3.out (.int .i64 0) rfl) rfl ⟨HF.out,HG3.out⟩
      have hcap':¬((n-16:Nat):Int)=(k:Int):=by omega
      by_cases c3:∀x∈pad B,x=0
      · have HY := hid c3
        have hz:=QjQ c3
        clear c3
        go_wp2_with fail
        refine HP.out.mono ?_
        rintro e w' ⟨rfl,rfl⟩
        rw[hz]
        clear hz
        have HCV:Hid (∀W',Turn X W' (·=w.heap.size+1)→(convert 46 9 (.slice (some ⟨g,12,none⟩) k k)).run Tryz.prog W'=.ok (.string (strOfNums (dat B))) W'):=hid (fun W' h=>Qaw g 12 k k (dat B) W' (RD.out.turn h HGN.out) LD.out)
        have HF:Hid (fmE (readF B)=fmE ((B.getD 0 0,gen B,dat B),0)):=hid (by unfold readF;rw[if_neg (fun e=>e (HS.out.2 ⟨by rw[HK.out];omega,HC2.out,HY.out⟩))])
        obtain⟨T,hT⟩:∃T,T=strOfNums (dat B):=⟨_,rfl⟩
        rw[←hT]at HCV
        have c0:=(RW.out.at_ 0 (by omega)).1
        obtain⟨x,hx⟩:∃x,x=B.getD 0 0:=⟨_,rfl⟩
        rw[←hx]at c0
        have HF:Hid (Ending.returned (.tuple #[.agg #[.int .u8 x,.int .u64 gv,.string T],.int .i64 0])=fmE (readF B)):=hid (by rw[HF.out,hx,hT,HGV.out];rfl)
        have hcv:=HCV.out X.drew (Turn.drew X _)
        obtain⟨q0,q1,q2⟩:=Qa1 P2.out
        have hf:∀i,X.frozen? ⟨w.heap.size+1,i,none⟩=false:=fun i=>by simp[World.frozen?,P2.out]
        have f0:=hf 0
        have f1:=hf 1
        have f2:=hf 2
        clear hT hx hf
        go_wp2_with fail
        have ht3:=QgM X (w.heap.size+1) (.int .u8 x) (.int .u64 gv) (.string T)
        have H3:=hid (show(((X.setCell ⟨w.heap.size+1,0,none⟩ (.int .u8 x)).setCell ⟨w.heap.size+1,1,none⟩ (.int .u64 gv)).setCell ⟨w.heap.size+1,2,none⟩ (.string T)).drew.heap[w.heap.size+1]?=some (.cells #[.int .u8 x,.int .u64 gv,.string T] 132 (0,0)) from Qf2 P2.out)
        have HG3:=hid (HGR.out (((X.setCell ⟨w.heap.size+1,0,none⟩ (.int .u8 x)).setCell ⟨w.heap.size+1,1,none⟩ (.int .u64 gv)).setCell ⟨w.heap.size+1,2,none⟩ (.string T)).drew (ht3.trans (Turn.drew _ _) (fun _ _ e=>e)))
        have hcv3:=HCV.out (((X.setCell ⟨w.heap.size+1,0,none⟩ (.int .u8 x)).setCell ⟨w.heap.size+1,1,none⟩ (.int .u64 gv)).setCell ⟨w.heap.size+1,2,none⟩ (.string T)).drew (ht3.trans (Turn.drew _ _) (fun _ _ e=>e))
        have hgn:¬g=w.heap.size+1:=HGN.out
        have hgn2:¬w.heap.size+1=g:=fun e=>hgn e.symm
        clear ht3
        go_region_held3 (fun w'=>w'.cell? ⟨w.heap.size,0,none⟩=some (.slice (some ⟨g,0,none⟩) 1 1)∧w'.cell? ⟨w.heap.size,3,none⟩=some (.slice (some ⟨g,4,none⟩) 8 8)∧w'.cell? ⟨g,0,none⟩=some (.int .u8 x)∧(convert 46 9 (.slice (some ⟨g,12,none⟩) k k)).run Tryz.prog w'=.ok (.string T) w') (go_keep)
          (first
            | (go_at_call 81
               (with_reducible refine(HG8.out).mono ?_)
               rintro e w' ⟨rfl,rfl⟩)
            |fail)
        clear hcv hcv3 q0 q1 q2 f0 f1 f2 r0 r1 r2 r3 r4 r5 r6 c0
        generalize (((X.setCell ⟨w.heap.size+1,0,none⟩ (.int .u8 x)).setCell ⟨w.heap.size+1,1,none⟩ (.int .u64 gv)).setCell ⟨w.heap.size+1,2,none⟩ (.string T)).drew=X3 at *
        go_wp2
        refine bodyPost_ret (Qr rfl _ _ _ _ _ _ rfl H3.out (.int .i64 0) rfl) rfl ⟨HF.out,HG3.out⟩
      · have hz:zB (pad B)=false:=Bool.eq_false_iff.2 fun e=>c3 (fun x hx=>by simpa using List.all_eq_true.1 e x hx)
        have HF:Hid (fmE (readF B)=fmE (none3,4)):=hid (by unfold readF;rw[if_pos (fun e=>c3 (HS.out.1 e).2.2)])
        clear c3
        go_wp2_with fail
        refine HP.out.mono ?_
        rintro e w' ⟨rfl,rfl⟩
        rw[hz]
        clear hz
        go_wp2_with (first
          |(with_reducible refine Qy rfl (.tmp 2) (.tmp 33) rfl (w.heap.size+1) rfl none3 rfl _ _ _ P2.out ?_;intro X2 hx2 ht2)
          |fail)
        refine bodyPost_ret (Qr rfl _ _ _ _ _ _ rfl hx2 (.int .i64 4) rfl) rfl ⟨HF.out.symm,HGR.out _ ht2⟩
    · have HF:Hid (fmE (readF B)=fmE (none3,4)):=hid (by unfold readF;rw[if_pos (fun e=>c2 (HS.out.1 e).2.1)])
      rw[decide_eq_false c2]at HZ
      clear c2
      go_wp2_with (first
        |(go_at_call 153;with_reducible refine HZ.out.mono ?_;rintro e w' ⟨rfl,rfl⟩)
        |(with_reducible refine Qy rfl (.tmp 2) (.tmp 33) rfl (w.heap.size+1) rfl none3 rfl _ _ _ P2.out ?_;intro X2 hx2 ht2)
        |fail)
      refine bodyPost_ret (Qr rfl _ _ _ _ _ _ rfl hx2 (.int .i64 4) rfl) rfl ⟨HF.out.symm,HGR.out _ ht2⟩
  · have HF:Hid (fmE (readF B)=fmE (none3,4)):=hid (by unfold readF;rw[if_pos (fun e=>by have:=(HS.out.1 e).1;rw[HK.out]at this;omega)])
    have c2:((n-16:Nat):Int)<(k:Int):=by omega
    go_wp2_with (first
      |(with_reducible refine Qy rfl (.tmp 2) (.tmp 33) rfl (w.heap.size+1) rfl none3 rfl _ _ _ P2.out ?_;intro X2 hx2 ht2)
      |fail)
    refine bodyPost_ret (Qr rfl _ _ _ _ _ _ rfl hx2 (.int .i64 4) rfl) rfl ⟨HF.out.symm,HGR.out _ ht2⟩
theorem Qkd{b:List Int}(h:Fits b.length)(hg:Good b):getF b=readF b:=by
 unfold getF readF;rw[if_neg (by simpa using h),if_neg (by simpa using hg)]
theorem wrap64u(C:Nat)(h:C<4294967296):IntKind.u64.wrap (C:Int)=(C:Int):=by
 have e:IntKind.u64.wrap (C:Int)=(C:Int) % 18446744073709551616:=by simp[IntKind.wrap,IntKind.bits,IntKind.signed]
 rw[e];omega
theorem Q9      (B:List Int) (w:World) (hB:Bs.IsB B) (hlen:B.length≤1000000) :
    Calls Tryz.prog 125 #[.string (strOfNums B)] w fun e w'=>e=fmE (getF B)∧w.grownBy w' none:=by
  have hsz:(strOfNums B).size=B.length:=strOfNums_size B
  have p0:=heap_alloc_new w (.cells #[.int .u8 0,.int .u64 0,.string ⟨#[]⟩] 132)
  have t0:=Turn.alloc w (.cells #[.int .u8 0,.int .u64 0,.string ⟨#[]⟩] 132) nowhere
  have P0:=hid p0
  have T0:=hid t0
  clear p0 t0
  by_cases hn:Fits B.length
  · obtain ⟨n,hnn⟩:∃n,n=B.length:=⟨_,rfl⟩
    rw[←hnn]at hsz hn hlen
    have HL:=hid hnn
    have HR:=hid (show room (n:Int)=(n:Int)-16 from if_pos hn)
    have HFT:=hid hn
    unfold Fits at hn
    have HB:=hid hB
    clear hnn hB
    go_enter Tryz.func125,Tryz.ntmps125
    go_wp2_with fail
    refine(Qan n _).mono ?_
    rintro e w1 ⟨rfl,hg1⟩
    have t1:=Turn.Qf hg1 (S:=nowhere) (fun i e=>by cases e)
    have P1:=hid (Qg P0.out t1 id)
    have T1:=hid (T0.out.trans t1 (fun _ _ e=>e))
    have Z1:=hid (block_lt P1.out)
    rw[HR.out]
    clear hg1 t1 P0 T0
    obtain⟨cap,w2,hrun,hreg,ht2,hc1,hc2⟩:=Qbj B HB.out (by rw[←HL.out];omega) w1
    rw[←HL.out]at hrun hc1
    go_wp2_with fail
    obtain⟨b,hb⟩:∃b,b=w1.heap.size:=⟨_,rfl⟩
    rw[←hb]at hreg Z1 ⊢
    clear hrun hb
    have R2:=hid hreg
    have T2:=hid (T1.out.trans ht2 (fun _ _ e=>e))
    have P2:=hid (Qg P1.out ht2 id)
    clear hreg ht2 T1 P1 hc2
    refine(Qdu b n cap w2 (by omega) hc1 (by omega)).mono ?_
    rintro e w3 ⟨rfl,hg3⟩
    have t3:=Turn.Qf hg3 (S:=nowhere) (fun i e=>by cases e)
    have R3:=R2.out.turn t3 id
    have T3:=T2.out.trans t3 (fun _ _ e=>e)
    have P3:=Qg P2.out t3 id
    clear hg3 t3 R2 T2 P2 hc1
    simp only[partsV]
    go_wp2_with fail
    have q4:=heap_alloc_new w3 (.cells #[.slice (some ⟨b,0,none⟩) 1 1,.slice (some ⟨b,1,none⟩) 1 1,.slice (some ⟨b,2,none⟩) 2 2,.slice (some ⟨b,4,none⟩) 8 8,.slice (some ⟨b,12,none⟩) (n-16) (n-16),.slice (some ⟨b,0,none⟩) (n-4) (n-4),.slice (some ⟨b,n-4,none⟩) 4 4] 178)
    have t4:=Turn.alloc w3 (.cells #[.slice (some ⟨b,0,none⟩) 1 1,.slice (some ⟨b,1,none⟩) 1 1,.slice (some ⟨b,2,none⟩) 2 2,.slice (some ⟨b,4,none⟩) 8 8,.slice (some ⟨b,12,none⟩) (n-16) (n-16),.slice (some ⟨b,0,none⟩) (n-4) (n-4),.slice (some ⟨b,n-4,none⟩) 4 4] 178) nowhere
    have R4:=hid (R3.turn t4 id)
    have T4:=hid (T3.trans t4 (fun _ _ e=>e))
    have P4:=hid (Qg P3 t4 id)
    clear R3 T3 P3 t4
    obtain⟨q,hq⟩:∃q,q=w3.heap.size:=⟨_,rfl⟩
    rw[←hq]at q4 ⊢
    clear hq
    generalize w3.alloc (.cells #[.slice (some ⟨b,0,none⟩) 1 1,.slice (some ⟨b,1,none⟩) 1 1,.slice (some ⟨b,2,none⟩) 2 2,.slice (some ⟨b,4,none⟩) 8 8,.slice (some ⟨b,12,none⟩) (n-16) (n-16),.slice (some ⟨b,0,none⟩) (n-4) (n-4),.slice (some ⟨b,n-4,none⟩) 4 4] 178)=X at *
    obtain⟨r0,r1,r2,r3,r4,r5,r6⟩:=Qam (b:=b) (n:=n) q4
    have Q4:=hid q4
    clear q4 r0 r1 r2 r3 r4
    obtain⟨C,hC⟩:∃C,C=crc (B.take (n-4)):=⟨_,rfl⟩
    obtain⟨O,hO⟩:∃O,O=ofB (B.drop (n-4)):=⟨_,rfl⟩
    have hC4:C<4294967296:=by rw[hC];exact Qb0 _ (Qay HB.out _)
    have hGood:Good B↔(C:Int)=O:=by
      unfold Good
      rw[←HL.out,hC,hO,←QeQ _ (Qae HB.out _)]
      omega
    have HC:=hid hC
    have HO:=hid hO
    have HGD:=hid hGood
    have SO:=hid (show Seg X.drew (some ⟨b,n-4,none⟩) 4 4 (B.drop (n-4)) from by
      have h:=Qbr (R4.out.turn (Turn.drew X nowhere) id) (n-4) 4 4 (by rw[←HL.out];omega) (Nat.le_refl _) (by omega)
      rwa [List.take_of_length_le (by rw[List.length_drop,←HL.out];omega)]at h)
    have SC:=hid (show Seg X.drew (some ⟨b,0,none⟩) (n-4) (n-4) (B.take (n-4)) from by
      have h:=Qbr (R4.out.turn (Turn.drew X nowhere) id) 0 (n-4) (n-4) (by rw[←HL.out];omega) (Nat.le_refl _) (by omega)
      rwa [List.drop_zero]at h)
    have BO:Hid (Oct.IsB (B.drop (n-4))):=hid (Qae HB.out _)
    have BC:Hid (Bs.IsB (B.take (n-4))):=hid (Qay HB.out _)
    have hW:=wrap64u C hC4
    clear hC hO hGood hC4
    by_cases hg:Good B
    · have e1 : (O != IntKind.u64.wrap (C:Int))=false:=by rw[hW,HGD.out.1 hg];exact bne_self_eq_false _
      have HF:Hid (fmE (getF B)=fmE (readF B)):=hid (by rw[Qkd (by rw[←HL.out];exact HFT.out) hg])
      clear hg hW
      go_region_held3 (fun w'=>w'.cell? ⟨q,5,none⟩=some (.slice (some ⟨b,0,none⟩) (n-4) (n-4))∧w'.cell? ⟨q,6,none⟩=some (.slice (some ⟨b,n-4,none⟩) 4 4)) (go_keep)
        (first
          | (go_at_call 81
             (with_reducible refine(Oct.QaO _ _ _ _ (B.drop (n-4)) _ SO.out BO.out (by omega)).mono ?_)
             rintro e w' ⟨rfl,rfl⟩
             rw[←HO.out])
          | (go_at_call 115
             (with_reducible refine(Crc.QaO _ _ _ (B.take (n-4)) _ SC.out BC.out).mono ?_)
             rintro e w8 ⟨rfl,hg8⟩
             rw[←HC.out]
             have T8:=hid ((Turn.drew X nowhere).trans (Turn.Qf hg8 (S:=nowhere) (fun i e=>by cases e)) (fun _ _ e=>e))
             have e5:=T8.out.cell (p:=⟨q,5,none⟩) r5 id
             have e6:=T8.out.cell (p:=⟨q,6,none⟩) r6 id
             clear hg8)
          |fail)
      have Q8:=hid (Qg Q4.out T8.out id)
      have P8:=hid (Qg P4.out T8.out id)
      have T8':=hid (T4.out.trans T8.out (fun _ _ e=>e))
      have HGR:Hid (∀X2,Turn w8 X2 (·=w.heap.size)→w.grownBy X2 none):=hid (fun X2 h=>⟨h.os.trans T8'.out.os,h.tape.trans T8'.out.tape,h.output.trans T8'.out.output,Nat.le_trans T8'.out.size h.size,fun i hi _=>(h.block i (Nat.lt_of_lt_of_le hi T8'.out.size) (fun e=>by have:i=w.heap.size:=e;omega)).trans (T8'.out.block i hi id)⟩)
      have R8:=hid (R4.out.turn T8.out id)
      clear e5 e6 r5 r6
      obtain⟨r0,r1,r2,r3,r4,r5,r6⟩:=Qam (b:=b) (n:=n) Q8.out
      go_wp2_with fail
      refine(Qb8 b n B w8 R8.out HB.out HL.out.symm (by omega) (by omega)).mono ?_
      rintro e w9 ⟨rfl,hg9⟩
      have t9:=Turn.Qf hg9 (S:=nowhere) (fun i e=>by cases e)
      have P9:=hid (Qg P8.out t9 id)
      have HG9:Hid (∀X2,Turn w9 X2 (·=w.heap.size)→w.grownBy X2 none):=hid (fun X2 h=>HGR.out X2 ((t9.mono (S':=(·=w.heap.size)) (fun _ _ e=>e.elim)).trans h (fun _ _ e=>e)))
      clear hg9 t9 r0 r1 r2 r3 r4 r5 r6
      simp only[fmE,fmV]
      go_wp2_with (first
        |(with_reducible refine Qy rfl (.tmp 2) (.tmp 24) rfl w.heap.size rfl (readF B).1 rfl _ _ _ P9.out ?_;intro X2 hx2 ht2)
        |fail)
      refine bodyPost_ret (Qr rfl _ _ _ _ _ _ rfl hx2 (.int .i64 (readF B).2) rfl) rfl ⟨HF.out.symm,HG9.out _ ht2⟩
    · have e1 : (O != IntKind.u64.wrap (C:Int))=true:=by rw[hW];exact bne_iff_ne.2 (fun e=>hg (HGD.out.2 e.symm))
      have HF:Hid (fmE (getF B)=fmE (none3,10)):=hid (by unfold getF;rw[if_neg (by rw[←HL.out];simpa using HFT.out),if_pos hg])
      clear hg hW
      go_region_held3 (fun w'=>w'.cell? ⟨q,5,none⟩=some (.slice (some ⟨b,0,none⟩) (n-4) (n-4))∧w'.cell? ⟨q,6,none⟩=some (.slice (some ⟨b,n-4,none⟩) 4 4)) (go_keep)
        (first
          | (go_at_call 81
             (with_reducible refine(Oct.QaO _ _ _ _ (B.drop (n-4)) _ SO.out BO.out (by omega)).mono ?_)
             rintro e w' ⟨rfl,rfl⟩
             rw[←HO.out])
          | (go_at_call 115
             (with_reducible refine(Crc.QaO _ _ _ (B.take (n-4)) _ SC.out BC.out).mono ?_)
             rintro e w8 ⟨rfl,hg8⟩
             rw[←HC.out]
             have T8:=hid ((Turn.drew X nowhere).trans (Turn.Qf hg8 (S:=nowhere) (fun i e=>by cases e)) (fun _ _ e=>e))
             have e5:=T8.out.cell (p:=⟨q,5,none⟩) r5 id
             have e6:=T8.out.cell (p:=⟨q,6,none⟩) r6 id
             clear hg8)
          |fail)
      have Q8:=hid (Qg Q4.out T8.out id)
      have P8:=hid (Qg P4.out T8.out id)
      have T8':=hid (T4.out.trans T8.out (fun _ _ e=>e))
      have HGR:Hid (∀X2,Turn w8 X2 (·=w.heap.size)→w.grownBy X2 none):=hid (fun X2 h=>⟨h.os.trans T8'.out.os,h.tape.trans T8'.out.tape,h.output.trans T8'.out.output,Nat.le_trans T8'.out.size h.size,fun i hi _=>(h.block i (Nat.lt_of_lt_of_le hi T8'.out.size) (fun e=>by have:i=w.heap.size:=e;omega)).trans (T8'.out.block i hi id)⟩)
      have R8:=hid (R4.out.turn T8.out id)
      clear e5 e6 r5 r6
      clear Q8 R8
      go_wp2_with (first
        |(with_reducible refine Qy rfl (.tmp 2) (.tmp 21) rfl w.heap.size rfl none3 rfl _ _ _ P8.out ?_;intro X2 hx2 ht2)
        |fail)
      refine bodyPost_ret (Qr rfl _ _ _ _ _ _ rfl hx2 (.int .i64 10) rfl) rfl ⟨HF.out.symm,HGR.out _ ht2⟩
  · have HR:=hid (show room (B.length:Int)=0 from if_neg hn)
    have HF:Hid (fmE (getF B)=fmE (none3,2)):=hid (by unfold getF;rw[if_pos hn])
    clear hn
    go_enter Tryz.func125,Tryz.ntmps125
    go_wp2_with fail
    refine(Qan B.length _).mono ?_
    rintro e w1 ⟨rfl,hg1⟩
    have t1:=Turn.Qf hg1 (S:=nowhere) (fun i e=>by cases e)
    have P1:=hid (Qg P0.out t1 id)
    have T1:=hid (T0.out.trans t1 (fun _ _ e=>e))
    rw[HR.out]
    clear hg1 t1
    go_wp2_with (first
      |(with_reducible refine Qy rfl (.tmp 2) (.tmp 9) rfl w.heap.size rfl none3 rfl _ _ _ P1.out ?_;intro X2 hx2 ht2)
      |fail)
    have HG:Hid (w.grownBy X2 none):=⟨ht2.os.trans T1.out.os,ht2.tape.trans T1.out.tape,ht2.output.trans T1.out.output,Nat.le_trans T1.out.size ht2.size,fun i hi _=>(ht2.block i (Nat.lt_of_lt_of_le hi T1.out.size) (fun e=>by have:i=w.heap.size:=e;omega)).trans (T1.out.block i hi id)⟩
    refine bodyPost_ret (Qr rfl _ _ _ _ _ _ rfl hx2 (.int .i64 2) rfl) rfl ⟨HF.out.symm,HG.out⟩
end Fr
namespace Fr
open Go.RowKit Bs Dv
theorem Qf9(B:List Int)(t:Int)(w:World)(hB:Bs.IsB B)(hlen:B.length≤1000000) :
  Calls Tryz.prog 101 #[.string (strOfNums B),.int .u8 t] w fun e w'=>e=fmE (kindF B t)∧w.grownBy w' none:=by
 have p0:=heap_alloc_new w (.cells #[.int .u8 0,.int .u64 0,.string ⟨#[]⟩] 132);have t0:=Turn.alloc w (.cells #[.int .u8 0,.int .u64 0,.string ⟨#[]⟩] 132) nowhere;have HGE:=hid (Q9 B (w.alloc (.cells #[.int .u8 0,.int .u64 0,.string ⟨#[]⟩] 132)) hB hlen);obtain⟨r,hr⟩:∃r,r=getF B:=⟨_,rfl⟩;have HK:=hid (show kindF B t=if r.2≠0 then(none3,r.2) else if r.1.1≠t then(none3,11) else(r.1,0) from by rw[hr];rfl);rw[←hr]at HGE;clear hr hB hlen;obtain⟨⟨x,gx,dx⟩,ex⟩:=r;go_enter Tryz.func101,Tryz.ntmps101
 go_wp2_with fail
 refine HGE.out.mono ?_;rintro e w1 ⟨rfl,hg1⟩;have t1:=Turn.Qf hg1 (S:=nowhere) (fun i e=>by cases e);have P1:=Qg p0 t1 id;have T1:=t0.trans t1 (fun _ _ e=>e);have t2:=Turn.alloc w1 (.cells #[.int .u8 x,.int .u64 gx,.string (strOfNums dx)] 132) nowhere;have P2:=hid (Qg P1 t2 id);have Q2:=hid (heap_alloc_new w1 (.cells #[.int .u8 x,.int .u64 gx,.string (strOfNums dx)] 132));have T2:=T1.trans t2 (fun _ _ e=>e);have HGR:Hid (∀X2,Turn (w1.alloc (.cells #[.int .u8 x,.int .u64 gx,.string (strOfNums dx)] 132)) X2 (·=w.heap.size)→w.grownBy X2 none):=hid (fun X2 h=>⟨h.os.trans T2.os,h.tape.trans T2.tape,h.output.trans T2.output,Nat.le_trans T2.size h.size,fun i hi _=>(h.block i (Nat.lt_of_lt_of_le hi T2.size) (fun e=>by have:i=w.heap.size:=e;omega)).trans (T2.block i hi id)⟩);clear hg1 t1 P1 T1 t2 T2 p0 t0 HGE;simp only[fmE,fmV];by_cases h1:ex=0
 ·subst h1;by_cases h2:x=t
  ·subst h2;have HF:Hid (fmE (kindF B x)=fmE ((x,gx,dx),0)):=hid (by rw[HK.out];simp);have q:=Q2.out;go_wp2_with (first
    |(with_reducible refine Qy rfl (.tmp 4) (.tmp 24) rfl w.heap.size rfl (x,gx,dx) rfl _ _ _ P2.out ?_;intro X2 hx2 ht2)
    |fail)
   refine bodyPost_ret (Qr rfl _ _ _ _ _ _ rfl hx2 (.int .i64 0) rfl) rfl ⟨HF.out.symm,HGR.out _ ht2⟩
  ·have HF:Hid (fmE (kindF B t)=fmE (none3,11)):=hid (by rw[HK.out];simp[h2]);have e2:(x != t)=true:=bne_iff_ne.2 h2;clear h2;go_wp2_with (first
    |(with_reducible refine Qy rfl (.tmp 4) (.tmp 23) rfl w.heap.size rfl none3 rfl _ _ _ P2.out ?_;intro X2 hx2 ht2)
    |fail)
   refine bodyPost_ret (Qr rfl _ _ _ _ _ _ rfl hx2 (.int .i64 11) rfl) rfl ⟨HF.out.symm,HGR.out _ ht2⟩
 ·have HF:Hid (fmE (kindF B t)=fmE (none3,ex)):=hid (by rw[HK.out];simp[h1]);have e2:(ex != 0)=true:=bne_iff_ne.2 h1;clear h1;go_wp2_with (first
   |(with_reducible refine Qy rfl (.tmp 4) (.tmp 16) rfl w.heap.size rfl none3 rfl _ _ _ P2.out ?_;intro X2 hx2 ht2)
   |fail)
  refine bodyPost_ret (Qr rfl _ _ _ _ _ _ rfl hx2 (.int .i64 ex) rfl) rfl ⟨HF.out.symm,HGR.out _ ht2⟩
end Fr
namespace Fr
open Go.RowKit Bs Dv
open Oct (putB)
theorem QbU(n:Int)(f:Fm)(w:World)(hf:FmOk f) :
  Calls Tryz.prog 83 #[.int .i64 n,.agg #[.int .u8 f.1,.int .u64 f.2.1,.string (strOfNums f.2.2)]] w fun e w'=>e=strE (putF n f)∧w.grownBy w' none:=by
 by_cases h1:Fits n
 ·by_cases h2:n-16<f.2.2.length
  ·exact Qb7 n f.1 f.2.1 f.2.2 w (.inr ⟨h1,h2⟩)
  ·have hn:((n.toNat:Nat):Int)=n:=by unfold Fits at h1;omega
   have h:=Qu n.toNat f.1 f.2.1 f.2.2 w hf.1 hf.2.1 hf.2.2 (by rw[hn];exact h1) (by omega);rw[hn]at h;refine h.mono fun e w' ⟨a,b⟩=>⟨?_,b⟩
   rw[a];unfold putF;rw[if_neg (by simpa using h1),if_neg h2]
 ·exact Qb7 n f.1 f.2.1 f.2.2 w (.inl h1)
theorem Qkl(b:List Int)(t:Int)(f:Fm)(h:getF b=(f,0)):kindF b t=if f.1=t then(f,0) else(none3,11):=by
 unfold kindF;rw[h];by_cases e:f.1=t
 ·simp[e]
 ·simp[e]
end Fr
namespace Su
open Go.RowKit Bs Dv Gr
open Fr (Qg)
def SB(w:World)(g:Nat)(s:Sup)(a:Option Addr)(n c:Nat):Prop:=w.heap[g]?=some (.cells #[.int .u64 s.gen,.int .i64 s.size,.int .i64 s.blocks,.int .u32 s.root,.slice a n c] 92 (0,0))
theorem SB.new(w:World)(s:Sup)(a:Option Addr)(n c:Nat):SB (w.alloc (.cells #[.int .u64 s.gen,.int .i64 s.size,.int .i64 s.blocks,.int .u32 s.root,.slice a n c] 92)) w.heap.size s a n c:=heap_alloc_new w _
theorem SB.old{w w':World}{g:Nat}{s:Sup}{a:Option Addr}{n c:Nat}(h:SB w g s a n c)(k:w.grownBy w' none):SB w' g s a n c:=Qd h k
theorem SB.not{w w':World}{g k:Nat}{s:Sup}{a:Option Addr}{n c:Nat}(h:SB w g s a n c)(t:Turn w w' (·=k))(hne:g≠k):SB w' g s a n c:=Qg h t hne
theorem SB.lt{w:World}{g:Nat}{s:Sup}{a:Option Addr}{n c:Nat}(h:SB w g s a n c):g<w.heap.size:=block_lt h
theorem SB.cells{w:World}{g:Nat}{s:Sup}{a:Option Addr}{n c:Nat}(h:SB w g s a n c):w.cell? ⟨g,0,none⟩=some (.int .u64 s.gen)∧w.cell? ⟨g,1,none⟩=some (.int .i64 s.size)∧w.cell? ⟨g,2,none⟩=some (.int .i64 s.blocks) ∧
  w.cell? ⟨g,3,none⟩=some (.int .u32 s.root)∧w.cell? ⟨g,4,none⟩=some (.slice a n c):=by
 refine⟨?_,?_,?_,?_,?_⟩ <;> rw[cell_of_row w g _ _ _ _ h] <;> rfl
theorem SB.froz{w:World}{g:Nat}{s:Sup}{a:Option Addr}{n c:Nat}(h:SB w g s a n c)(j:Nat):w.frozen? ⟨g,j,none⟩=false:=by
 unfold SB at h;simp[World.frozen?,h]
theorem SB.gw{W:World}{g:Nat}{s:Sup}{a:Option Addr}{n c:Nat}(h:SB W g s a n c):(∀q:Gw W,q.at_.cell? ⟨g,0,none⟩=some (.int .u64 s.gen))∧(∀q:Gw W,q.at_.cell? ⟨g,1,none⟩=some (.int .i64 s.size))∧(∀q:Gw W,q.at_.cell? ⟨g,2,none⟩=some (.int .i64 s.blocks)) ∧
  (∀q:Gw W,q.at_.cell? ⟨g,3,none⟩=some (.int .u32 s.root))∧∀q:Gw W,q.at_.cell? ⟨g,4,none⟩=some (.slice a n c):=
 ⟨fun q=>(h.old q.grown).cells.1,fun q=>(h.old q.grown).cells.2.1,fun q=>(h.old q.grown).cells.2.2.1,fun q=>(h.old q.grown).cells.2.2.2.1,fun q=>(h.old q.grown).cells.2.2.2.2⟩
theorem QbN:(Tryz.prog.info? 92).map (·.size)=some 5:=by kernel_rfl
theorem QC{w:World}{ops:Array Oper}{rest:List Oper}{o:Oper}{a:Act}{Q:Exit→Act→World→Prop}(hgd:o.guard=none)(x y:Operand)(ho:o.op=.store 92 x y)
  (g:Nat) (hx:a.eval x=.pointer (some ⟨g,0,none⟩)) (s:Sup) (p:Option Addr) (n c:Nat) (hy:a.eval y=.agg #[.int .u64 s.gen,.int .i64 s.size,.int .i64 s.blocks,.int .u32 s.root,.slice p n c])
  (s0:Sup) (p0:Option Addr) (n0 c0:Nat) (hg:SB w g s0 p0 n0 c0)
  (h:∀w',SB w' g s p n c→Turn w w' (·=g)→wpList Tryz.prog ops Q rest (a.put o.dst undef) w'):wpList Tryz.prog ops Q (o :: rest) a w:=by
 refine wpList_store_row hgd _ x y ho g _ hx hy _ _ hg QbN rfl (by simp[Value.oneCell']) ?_;exact h _ (setRow_heap w g _ _ _ _ hg) ⟨rfl,rfl,rfl,by simp[World.setRow],fun k _ hk=>setRow_other w g k _ hk⟩
theorem QeZ{w:World}{o:Oper}{a:Act}{K:Act→World→Prop}{Q:Exit→Act→World→Prop}(hgd:o.dst=none)(x y:Operand)(ho:o.op=.store 92 x y)
  (g:Nat) (hx:a.eval x=.pointer (some ⟨g,0,none⟩)) (s:Sup) (p:Option Addr) (n c:Nat) (hy:a.eval y=.agg #[.int .u64 s.gen,.int .i64 s.size,.int .i64 s.blocks,.int .u32 s.root,.slice p n c])
  (s0:Sup) (p0:Option Addr) (n0 c0:Nat) (hg:SB w g s0 p0 n0 c0)
  (h:∀w',SB w' g s p n c→Turn w w' (·=g)→K a w'):Oper.wp Tryz.prog o a w K Q:=by
 refine wp_store_row _ x y ho g _ hx hy _ _ hg QbN rfl (by simp[Value.oneCell']) ?_;rw[hgd];exact h _ (setRow_heap w g _ _ _ _ hg) ⟨rfl,rfl,rfl,by simp[World.setRow],fun k _ hk=>setRow_other w g k _ hk⟩
theorem Qw{fn:Func}{p u:Tmp}(h:fn.results=#[.cell p 92,.tmp u])(tmps:Array Value)(w:World)(g:Nat)(s:Sup)(a:Option Addr)(n c:Nat)(hp:tmps.getD p undef=.pointer (some ⟨g,0,none⟩))
  (hg:SB w g s a n c) (v:Value) (hv:tmps.getD u undef=v):(results fn tmps).run Tryz.prog w=.ok (.tuple #[.agg #[.int .u64 s.gen,.int .i64 s.size,.int .i64 s.blocks,.int .u32 s.root,.slice a n c],v]) w:=by
 rw[←hv];exact QZ h tmps w g _ _ _ _ hp hg Tryz.underlying92 rfl QbN
theorem Qg9{P:Program}{fn:Func}{p u v:Tmp}{ty:TypeId}(h:fn.results=#[.tmp u,.cell p ty,.tmp v])(tmps:Array Value)(w:World)(g:Nat)(t:TypeId)(cs:Array Value)(fr:Nat×Nat)(d:TypeDesc)
  (hp:tmps.getD p undef=.pointer (some ⟨g,0,none⟩)) (hg:w.heap[g]?=some (.cells cs t fr))
  (hu:P.underlying ty=some d) (hd:(match d with | .struct _ | .array _ _=>true|_=>false)=true) (hi:(P.info? ty).map (·.size)=some cs.size) :
  (results fn tmps).run P w=.ok (.tuple #[tmps.getD u undef,.agg cs,tmps.getD v undef]) w:=by
 have e:(results fn tmps).run P w=((asAddr (tmps.getD p undef)).run P w).andThen fun a w₁=>((loadVar ty a).run P w₁).andThen fun x w₂=>.ok (.tuple #[tmps.getD u undef,x,tmps.getD v undef]) w₂:=by
  simp only[results,h];simp[Sem.run_bind,Result.andThen]
 rw[e,hp];simp[asAddr,Result.andThen,run_loadVar_row w g t ty cs fr d hg hu hd hi]
theorem Qez{fn:Func}{p u v:Tmp}(h:fn.results=#[.tmp u,.cell p 92,.tmp v])(tmps:Array Value)(w:World)(g:Nat)(s:Sup)(a:Option Addr)(n c:Nat)(x y:Value)(hp:tmps.getD p undef=.pointer (some ⟨g,0,none⟩))
  (hg:SB w g s a n c) (hx:tmps.getD u undef=x) (hy:tmps.getD v undef=y):(results fn tmps).run Tryz.prog w=.ok (.tuple #[x,.agg #[.int .u64 s.gen,.int .i64 s.size,.int .i64 s.blocks,.int .u32 s.root,.slice a n c],y]) w:=by
 rw[←hx,←hy];exact Qg9 h tmps w g _ _ _ _ hp hg Tryz.underlying92 rfl QbN
theorem bd{l:List Int}(h:Ws.IsW l)(k:Nat):0≤l.getD k 0∧l.getD k 0<4294967296:=by
 rw[List.getD_eq_getElem?_getD];by_cases hk:k<l.length
 ·rw[List.getElem?_eq_getElem hk];have:=h _ (List.getElem_mem hk);exact⟨this.1,by show l[k] < _;omega⟩
 ·rw[List.getElem?_eq_none (by omega)];decide
def Fl(w:World)(g:Nat)(l:List Bool):Prop:=∀j,j<l.length→w.cell? ⟨g,j,none⟩=some (.bool (l.getD j false))∧w.frozen? ⟨g,j,none⟩=false
theorem Fl.set{w:World}{g:Nat}{l:List Bool}(h:Fl w g l)(p:Nat):Fl (w.setCell ⟨g,p,none⟩ (.bool true)) g (l.set p true):=fun j hj=>by
 rw[List.length_set]at hj;obtain⟨h1,h2⟩:=h j hj;refine⟨?_,by rw[World.frozen?_setCell];exact h2⟩;by_cases e:p=j
 ·subst e;rw[World.cell?_setCell_same _ _ _ h1];simp[List.getD,hj]
 ·rw[World.cell?_setCell_other _ _ _ _ (fun q=>e (by cases q;rfl)),h1];simp[List.getD,List.getElem?_set_ne e]
def roomB(S:Nat):Array Value:=madeCells (Value.bool false).cells S
theorem Qie(S:Nat)(hS:S≤1000000)(W:World):(Instr.makeSlice 197 (.int .i64 (S:Int)) (.int .i64 (S:Int))).run Tryz.prog W=.ok (.slice (some ⟨W.heap.size,0,none⟩) S S) (W.alloc (.cells (roomB S) 4)):=by
 obtain⟨i0,hi,hz0,hz1,hz2⟩:=info_parts Bl.QiX;have h:=run_make (P:=Tryz.prog) W 197 4 i0 (.bool false) Tryz.underlying197 hi hz0 .i64 .i64 (S:Int) (S:Int) (by omega) (by omega) (by rw[hz2];omega) (by omega);rw[hz1,Int.toNat_natCast,Nat.mul_one]at h;exact h
theorem Qls(W:World)(S:Nat):Fl (W.alloc (.cells (roomB S) 4)) W.heap.size (List.replicate S false):=fun j hj=>by
 rw[List.length_replicate]at hj;have q:=heap_alloc_new W (.cells (roomB S) 4);refine⟨?_,by simp only[World.frozen?,q];simp⟩;rw[cell_of_row _ _ _ _ _ _ (heap_alloc_new W _)];have h1:(roomB S).toList=List.replicate S (Value.bool false):=toList_madeCells_one _ _;rw[←Array.getElem?_toList,h1];simp[List.getD,hj]
theorem Qk4(g N:Nat)(l:List Bool)(p:Int)(w:World)(hl:l.length=N)(hN:N≤1000000)(hp:0≤p∧p<4294967296)(h:(N:Int)≤p) :
  Calls Tryz.prog 128 #[.slice (some ⟨g,0,none⟩) N N,.int .u32 p] w fun e w'=>e=.returned (.bool false)∧w=w':=by
 have e1:IntKind.u64.wrap (N:Int)=(N:Int):=Fr.wrap64u N (by omega);have e2:IntKind.u64.wrap p=p:=by
  have e:IntKind.u64.wrap p=p % 18446744073709551616:=by simp[IntKind.wrap,IntKind.bits,IntKind.signed]
  rw[e];omega
 have e3:decide ((N:Int)≤p)=true:=decide_eq_true h;clear h hl;go_enter Tryz.func128,Tryz.ntmps128
 go_wp2;go_ret
 exact⟨rfl,rfl⟩
theorem QjM(g N k:Nat)(l:List Bool)(w:World)(hl:l.length=N)(hN:N≤1000000)(hk:k<N)(hF:Fl w g l)(h:l.getD k false=true) :
  Calls Tryz.prog 128 #[.slice (some ⟨g,0,none⟩) N N,.int .u32 k] w fun e w'=>e=.returned (.bool false)∧w=w':=by
 have e1:IntKind.u64.wrap (N:Int)=(N:Int):=Fr.wrap64u N (by omega);have e2:IntKind.u64.wrap (k:Int)=(k:Int):=Fr.wrap64u k (by omega);have e3:decide ((N:Int)≤(k:Int))=false:=decide_eq_false (by omega);have q1:=(hF k (by omega)).1;rw[h]at q1;clear h hl hF;go_enter Tryz.func128,Tryz.ntmps128
 go_wp2;go_ret
 exact⟨rfl,rfl⟩
theorem QjK(g N k:Nat)(l:List Bool)(w:World)(hl:l.length=N)(hN:N≤1000000)(hk:k<N)(hF:Fl w g l)(h:l.getD k false=false) :
  Calls Tryz.prog 128 #[.slice (some ⟨g,0,none⟩) N N,.int .u32 k] w fun e w'=>e=.returned (.bool true)∧Fl w' g (l.set k true)∧Turn w w' (·=g):=by
 have e1:IntKind.u64.wrap (N:Int)=(N:Int):=Fr.wrap64u N (by omega);have e2:IntKind.u64.wrap (k:Int)=(k:Int):=Fr.wrap64u k (by omega);have e3:decide ((N:Int)≤(k:Int))=false:=decide_eq_false (by omega);obtain⟨q1,q2⟩:=hF k (by omega);rw[h]at q1;have HF:=hid (hF.set k);have HT:=hid (Turn.setCell w ⟨g,k,none⟩ (.bool true) (S:=(·=g)) rfl);clear h hl hF;go_enter Tryz.func128,Tryz.ntmps128
 go_wp2;go_ret
 exact⟨rfl,HF.out,HT.out⟩
end Su
end Go.Proofs.YtgffbbdcbkikhaaGreatDoor
