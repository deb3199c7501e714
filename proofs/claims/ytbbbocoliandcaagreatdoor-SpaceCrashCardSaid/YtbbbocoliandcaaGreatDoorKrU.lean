/- Parts of the proof. -/
import Derived.Test.YtbbbocoliandcaaGreatDoorKrG
import Derived.Test.YtbbbocoliandcaaGreatDoorKrQ
set_option maxRecDepth 100000
set_option maxHeartbeats 8000000
open Go.Lib (hid)
namespace Go.Proofs.YtbbbocoliandcaaGreatDoor
namespace Fr
open Go.RowKit Bs Dv
open Oct (putB Qh)
open Crc (crc QaV)
theorem Qj7(n:Nat)(t g:Int)(d:List Int):[t,0]++putB 2 d.length++putB 8 g++d++List.replicate (n-16-d.length) 0=body n t g d:=by simp[body,List.append_assoc]
theorem QfM(d:List Int)(h:Bs.IsB d):Lib.strCells (strOfNums d)=d.map (Value.int .u8):=Qes d h
theorem rput_yes (n:Nat) (t g:Int) (d:List Int) (w:World) (ht:0≤t∧t<256) (hgn:0≤g∧g<18446744073709551616) (hd:Bs.IsB d) (hn:Fits n) (hl:d.length+16≤n) :
    Calls Tryz.prog 173 #[.int .i64 n,.agg #[.int .u8 t,.int .u64 g,.string (strOfNums d)]] w fun e w'=>e=strE (blk n t g d,0)∧w.grownBy w' none:=by
  obtain⟨i0,hi,hz0,hz1,hz2⟩:=info_parts QX
  have hb:=heap_alloc_new w (.cells #[.int .u8 t,.int .u64 g,.string (strOfNums d)] 146)
  have hsz:(strOfNums d).size=d.length:=strOfNums_size d
  have T0:=hid (Turn.alloc w (.cells #[.int .u8 t,.int .u64 g,.string (strOfNums d)] 146) nowhere)
  have HB:=hid hb
  have HR:=hid (show room n=(n:Int)-16 from if_pos hn)
  unfold Fits at hn
  clear hb
  go_enter Tryz.func173,Tryz.ntmps173
  go_wp2_with fail
  refine(Qao n _).mono ?_
  rintro e w1 ⟨rfl,hg1⟩
  have t1:=Turn.Qm hg1 (S:=nowhere) (fun i e=>by cases e)
  have B1:=hid (Qg HB.out t1 id)
  have T1:=hid (T0.out.trans t1 (fun _ _ e=>e))
  clear hg1 t1 T0
  obtain⟨c0,c1,c2⟩:=Qac B1.out
  rw[HR.out]
  generalize w.alloc (.cells #[.int .u8 t,.int .u64 g,.string (strOfNums d)] 146)=w0 at *
  have Z1:=hid (show w.heap.size<w1.heap.size from block_lt B1.out)
  obtain⟨p,hp⟩:∃p,p=w.heap.size:=⟨_,rfl⟩
  rw[←hp]at c0 c1 c2 B1 Z1 ⊢
  have HPP:=hid hp
  clear hp HB
  have HRM:=hid (fun W=>Qao n W)
  rw[HR.out]at HRM
  have hl':¬((n:Int)-16<(d.length:Int)):=by omega
  go_wp2_with fail
  go_region_held3 (fun w'=>w'.cell? ⟨p,2,none⟩=some (.string (strOfNums d))) (go_keep)
    (first
      | (go_at_call 110
         (with_reducible refine(HRM.out _).mono ?_)
         rintro e w3 ⟨rfl,hg3⟩
         have t3:=(Turn.drew w1 nowhere).trans (Turn.Qm hg3 (S:=nowhere) (fun i e=>by cases e)) (fun _ _ e=>e)
         have e2:=t3.cell (p:=⟨p,2,none⟩) (by exact c2) id)
      |fail)
  have B3:=hid (Qg B1.out t3 id)
  have T3:=hid (T1.out.trans t3 (fun _ _ e=>e))
  have Z3:=hid (block_lt B3.out)
  clear hg3 t3 e2 c0 c1 c2 B1 T1 Z1
  obtain⟨c0,c1,c2⟩:=Qac B3.out
  have X:=Z3.out
  go_wp2_with fail
  have hown:=World.ownsRow_lit (base:=w3.heap.size) (e:=5) (size:=1) w3 (([t,0]:List Int).map (Value.int .u8)).toArray 2 (Nat.le_refl _) (by unfold maxLen;omega) (by simp)
  have e:(([t,0]:List Int).map (Value.int .u8)).toArray.toList=([t,0]:List Int).map (Value.int .u8):=by simp
  rw[e]at hown
  have hd4:d.length≤4096:=by omega
  have O4:=hid hown
  have D4:=hid ((Below.refl w3.heap.size w3).alloc (Nat.le_refl _) (.cells #[.int .u8 t,.int .u8 0] 5))
  have HDD:=hid hd
  clear hown e c0 c1 c2 hl' hd
  refine(Ref1.Qav w3.heap.size _ 2 [t,0] (d.length:Int) 2 _ O4.out D4.out.size (by omega) (by omega) (by omega) (by omega) (by omega)).mono ?_
  rintro e w5 ⟨g5,cc5,rfl,hown,hbb⟩
  simp only[Nat.reduceAdd]at hown ⊢
  have O5:=hid hown
  have D5:=hid (D4.out.trans hbb)
  have B5:=hid ((D5.out.block p X).trans B3.out)
  clear hown hbb O4 D4
  obtain⟨c0,c1,c2⟩:=Qac B5.out
  try dsimp only
  go_wp2_with fail
  refine(Ref1.Qav w3.heap.size _ 4 _ g 8 _ O5.out D5.out.size hgn.1 hgn.2 (by omega) (by omega) (by omega)).mono ?_
  rintro e w6 ⟨g6,cc6,rfl,hown,hbb⟩
  simp only[Nat.reduceAdd]at hown ⊢
  have O6:=hid hown
  have D6:=hid (D5.out.trans hbb)
  have B6:=hid ((D6.out.block p X).trans B3.out)
  clear hown hbb O5 D5 B5 c0 c1 c2
  obtain⟨c0,c1,c2⟩:=Qac B6.out
  have HS:=hid hsz
  have HK:=hid (show(n:Int)-4-(12+(d.length:Int))=((n-16-d.length:Nat):Int) from by omega)
  have HZB:Hid (12+d.length+(n-16-d.length)=n-4):=hid (by omega)
  try dsimp only
  go_wp2_with (first
    |(at_builtin;refine Lib.wpList_append_own_string _ rfl (.tmp 29) (.tmp 31) 101 9 rfl w3.heap.size 5 i0 Tryz.underlying101 Tryz.underlying9 hi hz0 hz1 hz2 _ 12 _ rfl O6.out (strOfNums d) rfl (by rw[HS.out];unfold maxLen;omega) (by rw[HS.out];omega) D6.out.size ?_;intro v7 w7 hown hg7 _;rw[HS.out,QfM d HDD.out,←List.map_append]at hown;obtain⟨g7,cc7,rfl⟩:=Go.Joins.ownsRow_form hown (by omega);have O7:=hid hown;have D7:=hid (D6.out.grown hg7 D6.out.size (fun i e=>(O6.out.lt i e).1));clear hown hg7)
    |(at_builtin;refine Qdo rfl (.tmp 33) (.tmp 38) rfl w3.heap.size g7 (12+d.length) cc7 _ rfl O7.out (n-16-d.length) (by rw[←HK.out];rfl) (by omega) D7.out.size ?_;intro g8 cc8 w8 hown hg8;rw[HZB.out,Qj7]at hown;have O8:=hid hown;have D8:=hid (D7.out.grown hg8 D7.out.size (fun i e=>(O7.out.lt i e).1));clear hown hg8)
    |fail)
  rw[HZB.out]
  have hbB:=QcX n t g d ht HDD.out
  have hbl:=QaQ n t g d hl
  obtain⟨C,hC⟩:∃C,C=crc (body n t g d):=⟨_,rfl⟩
  have hC4:C<4294967296:=by rw[hC];exact QaV _ hbB
  have HC:=hid hC
  have HBL:=hid (QD n t g d hl)
  clear hC hbl O7 D7
  refine(Crc.Qa5 _ (n-4) cc8 (body n t g d) w8 (Seg.own O8.out) hbB).mono ?_
  rintro e w9 ⟨rfl,hg9⟩
  rw[←HC.out]
  have O9:=hid (O8.out.kept hg9 (.inr (by simp[Value.ownBlock])))
  have D9:=hid (D8.out.grown hg9 D8.out.size (fun i e=>by cases e))
  clear hg9 hbB O8 D8
  try dsimp only
  go_wp2_with fail
  refine(Ref1.Qav w3.heap.size _ (n-4) _ (C:Int) 4 _ O9.out D9.out.size (by omega) (by omega) (by omega) (by omega) (by omega)).mono ?_
  rintro e wa ⟨ga,cca,rfl,hown,hbb⟩
  have D10:=hid (D9.out.trans hbb)
  have hcv:=Qat ga 0 (n-4+4) cca (blk n t g d) wa (Reg.own (by rw[HC.out]at hown;exact hown)) (by rw[HBL.out];omega)
  have HF:Hid (w.grownBy wa none):=hid ⟨D10.out.os.trans T3.out.os,D10.out.tape.trans T3.out.tape,D10.out.output.trans T3.out.output,Nat.le_trans T3.out.size D10.out.size,fun i hi _=>(D10.out.block i (Nat.lt_of_lt_of_le hi T3.out.size)).trans (T3.out.block i hi id)⟩
  clear hown hbb O9 D9
  try dsimp only
  go_wp2
  go_ret2
  exact⟨rfl,HF.out⟩
theorem rput_no (n t g:Int) (d:List Int) (w:World) (hn:¬Fits n∨(Fits n∧n-16<d.length)) :
    Calls Tryz.prog 173 #[.int .i64 n,.agg #[.int .u8 t,.int .u64 g,.string (strOfNums d)]] w fun e w'=>e=strE (putF n (t,g,d))∧w.grownBy w' none:=by
  have hg:=World.grownBy_alloc w (.cells #[.int .u8 t,.int .u64 g,.string (strOfNums d)] 146) none
  have hb:=heap_alloc_new w (.cells #[.int .u8 t,.int .u64 g,.string (strOfNums d)] 146)
  have hsz:(strOfNums d).size=d.length:=strOfNums_size d
  have HG:=hid hg
  have HB:=hid hb
  clear hg hb
  rcases hn with hn|⟨hn,hl⟩
  · have HE:Hid (strE (putF n (t,g,d))=strE ([],2)):=hid (by unfold putF;rw[if_pos hn])
    have HR:=hid (show room n=0 from if_neg hn)
    clear hn
    go_enter Tryz.func173,Tryz.ntmps173
    go_wp2_with fail
    refine(Qao n _).mono ?_
    rintro e w1 ⟨rfl,hg1⟩
    have HG1:=hid (grownBy_trans HG.out hg1 (fun _ e=>by cases e))
    clear hg1
    rw[HR.out]
    go_wp2
    go_ret2
    exact⟨HE.out.symm,HG1.out⟩
  · have HE : Hid (strE (putF n (t,g,d))=strE ([],3)):=hid (by unfold putF;rw[if_neg (by simpa using hn),if_pos hl])
    have HR:=hid (show room n=n-16 from if_pos hn)
    unfold Fits at hn
    go_enter Tryz.func173,Tryz.ntmps173
    go_wp2_with fail
    refine(Qao n _).mono ?_
    rintro e w1 ⟨rfl,hg1⟩
    have b1:=Qg HB.out (Turn.Qm hg1 (S:=nowhere) (fun i e=>by cases e)) id
    obtain⟨c0,c1,c2⟩:=Qac b1
    have HG1:=hid (grownBy_trans HG.out hg1 (fun _ e=>by cases e))
    clear hg1 b1
    have HRM:=hid (fun W=>Qao n W)
    rw[HR.out]at HRM ⊢
    generalize w.alloc (.cells #[.int .u8 t,.int .u64 g,.string (strOfNums d)] 146)=w0 at *
    go_wp2_with fail
    go_region_held3 (fun w'=>w'.cell? ⟨w.heap.size,2,none⟩=some (.string (strOfNums d))) (go_keep)
      (first
        | (go_at_call 110
           (with_reducible refine(HRM.out _).mono ?_)
           rintro e w3 ⟨rfl,hg3⟩
           have t3:=(Turn.drew w1 nowhere).trans (Turn.Qm hg3 (S:=nowhere) (fun i e=>by cases e)) (fun _ _ e=>e)
           have e2:=t3.cell (p:=⟨w.heap.size,2,none⟩) (by exact c2) id)
        |fail)
    have HG3:=hid (grownBy_trans HG1.out t3.grown (fun _ e=>by cases e))
    clear hg3 t3 e2 c0 c1 c2
    go_wp2
    go_ret2
    exact⟨HE.out.symm,HG3.out⟩
theorem Qav(n:Int)(f:Fm)(w:World)(hf:FmOk f) :
  Calls Tryz.prog 173 #[.int .i64 n,.agg #[.int .u8 f.1,.int .u64 f.2.1,.string (strOfNums f.2.2)]] w fun e w'=>e=strE (putF n f)∧w.grownBy w' none:=by
 by_cases h1:Fits n
 ·by_cases h2:n-16<f.2.2.length
  ·exact rput_no n f.1 f.2.1 f.2.2 w (.inr ⟨h1,h2⟩)
  ·have hn:((n.toNat:Nat):Int)=n:=by unfold Fits at h1;omega
   have h:=rput_yes n.toNat f.1 f.2.1 f.2.2 w hf.1 hf.2.1 hf.2.2 (by rw[hn];exact h1) (by omega);rw[hn]at h;refine h.mono fun e w' ⟨a,b⟩=>⟨?_,b⟩
   rw[a];unfold putF;rw[if_neg (by simpa using h1),if_neg h2]
 ·exact rput_no n f.1 f.2.1 f.2.2 w (.inl h1)
end Fr
namespace Fr
open Go.RowKit Bs Dv
open Oct (putB ofB Qh QS QR QI)
open Crc (crc num QaV)
theorem QdL{w:World}{ops:Array Oper}{rest:List Oper}{o:Oper}{a:Act}{Q:Exit→Act→World→Prop}(hgd:o.guard=none)(x y:Operand)(ho:o.op=.store 146 x y)
  (g:Nat) (hx:a.eval x=.pointer (some ⟨g,0,none⟩)) (t v:Int) (s:ByteArray) (hy:a.eval y=.agg #[.int .u8 t,.int .u64 v,.string s]) (o1 o2 o3:Value)
  (hg:w.heap[g]?=some (.cells #[o1,o2,o3] 146 (0,0)))
  (h:∀w',w'.heap[g]?=some (.cells #[.int .u8 t,.int .u64 v,.string s] 146 (0,0))→Turn w w' (·=g)→wpList Tryz.prog ops Q rest (a.put o.dst undef) w'):wpList Tryz.prog ops Q (o :: rest) a w:=by
 refine wpList_store_row hgd _ x y ho g _ hx hy _ _ hg (QeZ _ _ _) rfl (by simp[Value.oneCell']) ?_;exact h _ (setRow_heap w g _ _ _ _ hg) ⟨rfl,rfl,rfl,by simp[World.setRow],fun k _ hk=>setRow_other w g k _ hk⟩
theorem Qeq      (B:List Int) (w:World) (hB:Bs.IsB B) (hlen:B.length≤1000000) :
    Calls Tryz.prog 175 #[.string (strOfNums B)] w fun e w'=>e=fmE (getF B)∧w.grownBy w' none:=by
  have hsz:(strOfNums B).size=B.length:=strOfNums_size B
  have p0:=heap_alloc_new w (.cells #[.int .u8 0,.int .u64 0,.string ⟨#[]⟩] 146)
  have t0:=Turn.alloc w (.cells #[.int .u8 0,.int .u64 0,.string ⟨#[]⟩] 146) nowhere
  have P0:=hid p0
  have T0:=hid t0
  clear p0 t0
  by_cases hn:Fits B.length
  · obtain ⟨n, hnn⟩:∃n,n=B.length:=⟨_,rfl⟩
    rw[←hnn]at hsz hn hlen
    have HL:=hid hnn
    have HR:=hid (show room (n:Int)=(n:Int)-16 from if_pos hn)
    have HFT:=hid hn
    unfold Fits at hn
    have HB:=hid hB
    clear hnn hB
    go_enter Tryz.func175,Tryz.ntmps175
    go_wp2_with fail
    refine(Qao n _).mono ?_
    rintro e w1 ⟨rfl,hg1⟩
    have t1:=Turn.Qm hg1 (S:=nowhere) (fun i e=>by cases e)
    have P1:=hid (Qg P0.out t1 id)
    have T1:=hid (T0.out.trans t1 (fun _ _ e=>e))
    have Z1:=hid (block_lt P1.out)
    rw[HR.out]
    clear hg1 t1 P0 T0
    obtain⟨cap,X,hrun,hreg,ht2,hc1,hc2⟩:=QaM B HB.out (by rw[←HL.out];omega) w1
    rw[←HL.out]at hrun hc1
    obtain⟨b,hb⟩:∃b,b=w1.heap.size:=⟨_,rfl⟩
    rw[←hb]at hrun hreg Z1
    clear hb
    have R4:=hid hreg
    have T4:=hid (T1.out.trans ht2 (fun _ _ e=>e))
    have P4:=hid (Qg P1.out ht2 id)
    clear hreg ht2 T1 P1
    go_wp2_with fail
    clear hrun
    obtain⟨m,hm⟩:∃m:Nat,m=n-4:=⟨_,rfl⟩
    have hmn:n=m+4:=by omega
    obtain⟨C,hC⟩:∃C,C=crc (B.take (m)):=⟨_,rfl⟩
    obtain⟨O,hO⟩:∃O,O=ofB (B.drop (m)):=⟨_,rfl⟩
    have hC4:C<4294967296:=by rw[hC];exact QaV _ (Q7 HB.out _)
    have hGood:Good B↔(C:Int)=O:=by
      unfold Good
      rw[←HL.out,←hm,hC,hO,←QdU _ (QP HB.out _)]
      omega
    have HC:=hid hC
    have HO:=hid hO
    have HGD:=hid hGood
    have HSG:=hid (R4.out.seg (by rw[←HL.out];exact hc1) hc2)
    rw[←HL.out]at HSG
    have SO:=hid (show Seg X.drew (some ⟨b,m,none⟩) 4 (cap-(m)) (B.drop (m)) from by
      have h:=(HSG.out.drop (show m≤n by omega)).grown (w':=X.drew) ⟨rfl,rfl,rfl,Nat.le_refl _,fun _ _ _=>rfl⟩
      rwa [Nat.zero_add,show n-m=4 from by omega]at h)
    have SC:=hid (show Seg X.drew (some ⟨b,0,none⟩) (m) cap (B.take (m)) from(HSG.out.take (show m≤n by omega)).grown ⟨rfl,rfl,rfl,Nat.le_refl _,fun _ _ _=>rfl⟩)
    have BO:Hid (Oct.IsB (B.drop (m))):=hid (QP HB.out _)
    have BC:Hid (Bs.IsB (B.take (m))):=hid (Q7 HB.out _)
    have hW:=wrap64u C hC4
    have HM:=hid hm
    have HMN:=hid hmn
    clear hC hO hGood hC4
    have m1:m<cap:=by omega
    have m2:(m:Int)≤(cap:Int):=by omega
    have m3:(m:Int)≤(n:Int):=by omega
    have m4:n-m=4:=by omega
    have m5:(n:Int)-4=(m:Int):=by omega
    have m6:IntKind.i64.wrap (m:Int)=(m:Int):=by rw[IntKind.wrap_i64];omega
    have m7:wrap64 (m:Int)=(m:Int):=IntWalk.wrap64_in _ (by omega)
    clear hm hmn
    by_cases hg:Good B
    · have e1 : (IntKind.u64.wrap (C:Int) != O)=false:=by rw[hW,HGD.out.1 hg];exact bne_self_eq_false _
      have HGG:=hid hg
      clear hg hW
      go_region_held3 (fun _=>True) (trivial)
        (first
          | (go_at_call 206
             (with_reducible refine(Crc.Qa5 _ _ _ (B.take (m)) _ SC.out BC.out).mono ?_)
             rintro e w8 ⟨rfl,hg8⟩
             rw[←HC.out]
             have T8:=hid ((Turn.drew X nowhere).trans (Turn.Qm hg8 (S:=nowhere) (fun i e=>by cases e)) (fun _ _ e=>e))
             have SO8:=hid (SO.out.grown hg8)
             clear hg8)
          | (go_at_call 176
             (with_reducible refine(Ref1.Qa5 _ _ _ _ (B.drop (m)) _ SO8.out BO.out (by omega)).mono ?_)
             rintro e w' ⟨rfl,rfl⟩
             rw[←HO.out])
          |fail)
      have P8:=hid (Qg P4.out T8.out id)
      have T8':=hid (T4.out.trans T8.out (fun _ _ e=>e))
      have R8:=hid (R4.out.turn T8.out id)
      have HF:=hid (Qf9 (b:=B) (by rw[←HL.out];exact HFT.out) HGG.out)
      have HSG8:=hid (HSG.out.grown T8.out.grown)
      obtain⟨k0,k1⟩:=QcQ B HB.out
      obtain⟨k,hk⟩:∃k:Nat,cnt B=k:=⟨(cnt B).toNat,by omega⟩
      have HK:=hid hk
      have S2:=hid (show Seg w8 (some ⟨b,2,none⟩) 2 (cap-2) ((B.drop 2).take 2) from by
        have h:=(HSG8.out.drop (show 2≤n by omega)).take (show 2≤n-2 by omega)
        rwa [Nat.zero_add]at h)
      have B2:Hid (Oct.IsB ((B.drop 2).take 2)):=hid (Q7 (QP HB.out 2) 2)
      have HC2:Hid (ofB ((B.drop 2).take 2)=(k:Int)):=hid hk
      rw[hk]at k1
      clear hk k0 SO8 m1 m2 m3 m4 m5 m6 m7 e1
      have n2:(2:Int)≤(cap:Int):=by omega
      have n4:(4:Int)≤(cap:Int):=by omega
      have n5:¬cap=2:=by omega
      go_wp2_with fail
      refine(Ref1.Qa5 _ _ _ _ ((B.drop 2).take 2) _ S2.out B2.out (by omega)).mono ?_
      rintro e w' ⟨rfl,rfl⟩
      rw[HC2.out]
      go_wp2_with fail
      refine(Qao n _).mono ?_
      rintro e w9 ⟨rfl,hg9⟩
      rw[HR.out]
      have t9:=Turn.Qm hg9 (S:=nowhere) (fun i e=>by cases e)
      have P9:=hid (Qg P8.out t9 id)
      have T9:=hid (T8'.out.trans t9 (fun _ _ e=>e))
      have R9:=hid (R8.out.turn t9 id)
      have HSG9:=hid (HSG8.out.grown t9.grown)
      clear hg9 t9
      dsimp only
      by_cases hkn:k+16≤n
      · have hk2:decide ((n:Int)-16<(k:Int))=false:=decide_eq_false (by omega)
        have HKN:=hid hkn
        clear hkn
        go_wp2_with fail
        obtain⟨E,hE⟩:∃E:Nat,E=12+k:=⟨_,rfl⟩
        have E1:(12:Int)+(k:Int)=(E:Int):=by omega
        have E2:(E:Int)≤(n:Int):=by have:=HKN.out;omega
        have E3:(12:Int)≤(E:Int):=by omega
        have E4:IntKind.i64.wrap (E:Int)=(E:Int):=by rw[IntKind.wrap_i64];omega
        have E5:wrap64 (E:Int)=(E:Int):=IntWalk.wrap64_in _ (by omega)
        obtain⟨DS,hDS⟩:∃DS,DS=strOfNums (dat B):=⟨_,rfl⟩
        have hex:(strOfNums B).extract 12 E=DS:=by
          rw[QcH,hDS,hE,show 12+k-12=k from by omega]
          unfold dat
          rw[HK.out,Int.toNat_natCast]
        have c0:=(R9.out.at_ 0 (by rw[←HL.out];omega)).1
        obtain⟨x,hx⟩:∃x,x=B.getD 0 0:=⟨_,rfl⟩
        rw[←hx]at c0
        have n12:(12:Int)≤(cap:Int):=by omega
        have n40:¬cap=4:=by omega
        have n00:(0:Int)<(n:Int):=by omega
        have n01:0<n:=by omega
        have hbz:b<w9.heap.size:=R9.out.lt (fun e=>by have:=HL.out;rw[e]at this;simp at this;omega)
        have S4:=hid (fun W' (ht:Turn w9 W' nowhere)=>(show Seg W' (some ⟨b,4,none⟩) 8 (cap-4) ((B.drop 4).take 8) from by
          have h:=((HSG9.out.drop (show 4≤n by omega)).take (show 8≤n-4 by omega)).grown ht.grown
          rwa [Nat.zero_add]at h))
        have B4:Hid (Oct.IsB ((B.drop 4).take 8)):=hid (Q7 (QP HB.out 4) 8)
        obtain⟨gv,hgv⟩:∃gv,gv=gen B:=⟨_,rfl⟩
        have HC8:Hid (ofB ((B.drop 4).take 8)=gv):=hid (by rw[hgv];rfl)
        have HX:=hid hx
        have HGV:=hid hgv
        have HDS:=hid hDS
        clear hE hx hgv hDS hk2 n2 n4 n5
        -- what Put answers of what was read
        have hdl:(dat B).length=k:=by unfold dat;rw[HK.out,Int.toNat_natCast,List.length_take,List.length_drop,←HL.out];have:=HKN.out;omega
        have hok:FmOk (B.getD 0 0,gen B,dat B):=⟨Qf8 HB.out 0,Qf5 B HB.out (by rw[←HL.out];omega),Q7 (QP HB.out _) _⟩
        have hpv:putF (n:Int) (B.getD 0 0,gen B,dat B)=(blk n (B.getD 0 0) (gen B) (dat B),0):=by
          unfold putF
          rw[if_neg (by simpa using HFT.out),if_neg (by show ¬(n:Int)-16<((dat B).length:Int);rw[hdl];have:=HKN.out;omega),Int.toNat_natCast]
        have hiff:=blk_iff B HB.out (by rw[←HL.out];exact HFT.out) HGG.out (by rw[HK.out,←HL.out];have:=HKN.out;omega)
        rw[←HL.out]at hiff
        obtain⟨PB,hPB⟩:∃PB,PB=strOfNums (blk n (B.getD 0 0) (gen B) (dat B)):=⟨_,rfl⟩
        have HPT:=hid (fun W=>(Qav (n:Int) (B.getD 0 0,gen B,dat B) W hok).mono fun e w' (h:_∧_)=>(show e=.returned (.tuple #[.string PB,.int .i64 0])∧W.grownBy w' none from⟨by rw[h.1,hpv,hPB];rfl,h.2⟩))
        simp only[←HX.out,←HGV.out,←HDS.out]at HPT
        have hbB:=QaI n (B.getD 0 0) (gen B) (dat B) hok.1 hok.2.2
        have HIFF:=hid hiff
        have HPBB:=hid hPB
        have HBB:=hid hbB
        have T9':=hid (T9.out.trans ((Turn.alloc w9 (.cells #[.int .u8 x,.int .u64 gv,.string DS] 146) nowhere).trans (Turn.drew _ nowhere) (fun _ _ e=>e)) (fun _ _ e=>e))
        have P9':=hid (Qg P9.out ((Turn.alloc w9 (.cells #[.int .u8 x,.int .u64 gv,.string DS] 146) nowhere).trans (Turn.drew _ nowhere) (fun _ _ e=>e)) id)
        have Q9':=hid (show(w9.alloc (.cells #[.int .u8 x,.int .u64 gv,.string DS] 146)).drew.heap[w9.heap.size]?=some (.cells #[.int .u8 x,.int .u64 gv,.string DS] 146 (0,0)) from heap_alloc_new w9 _)
        have HFE:Hid (Ending.returned (.tuple #[.agg #[.int .u8 x,.int .u64 gv,.string DS],.int .i64 0])=fmE ((B.getD 0 0,gen B,dat B),0)):=hid (by rw[HX.out,HGV.out,HDS.out];rfl)
        clear hdl hok hpv hiff hPB hbB
        go_region_held3 (fun w'=>w'.cell? ⟨b,0,none⟩=some (.int .u8 x)) (go_keep)
          (first
            | (go_at_call 176
               (with_reducible refine(Ref1.Qa5 _ _ _ _ ((B.drop 4).take 8) _ (S4.out _ (by first|exact Turn.drew _ _|exact(Turn.alloc _ _ _).trans (Turn.drew _ _) (fun _ _ e=>e))) B4.out (by omega)).mono ?_)
               rintro e w' ⟨rfl,rfl⟩
               rw[HC8.out])
            |fail)
        all_goals
          clear c0 hex E1 E2 E3 E4 E5 n12 n40 n00 n01 hbz
          generalize (w9.alloc (.cells #[.int .u8 x,.int .u64 gv,.string DS] 146)).drew=X9 at *
          obtain⟨a0,a1,a2⟩:=Qac Q9'.out
          go_wp2_with fail
          refine(HPT.out _).mono ?_
          rintro e wp ⟨rfl,hgp⟩
          have tp:=Turn.Qm hgp (S:=nowhere) (fun i e=>by cases e)
          have Pp:=hid (Qg P9'.out tp id)
          have Qp:=hid (Qg Q9'.out tp id)
          have Tp:=hid (T9'.out.trans tp (fun _ _ e=>e))
          clear hgp tp a0 a1 a2
          dsimp only
          by_cases hsh:Shape B
          · have hs:(PB.toList==(strOfNums B).toList)=true:=by
              rw[HPBB.out,HIFF.out.2 hsh]
              exact beq_self_eq_true _
            have HE:Hid (Ending.returned (.tuple #[.agg #[.int .u8 x,.int .u64 gv,.string DS],.int .i64 0])=fmE (getF B)):=hid (by rw[HFE.out,HF.out];unfold readF;rw[if_neg (fun e=>e hsh)])
            clear hsh
            obtain⟨a0,a1,a2⟩:=Qac Qp.out
            go_wp2_with (first
              |(with_reducible refine QdL rfl (.tmp 2) (.tmp 66) rfl w.heap.size rfl x gv DS rfl _ _ _ Pp.out ?_;intro X2 hx2 ht2)
              |fail)
            have HG:Hid (w.grownBy X2 none):=⟨ht2.os.trans Tp.out.os,ht2.tape.trans Tp.out.tape,ht2.output.trans Tp.out.output,Nat.le_trans Tp.out.size ht2.size,fun i hi _=>(ht2.block i (Nat.lt_of_lt_of_le hi Tp.out.size) (fun e=>by have:i=w.heap.size:=e;omega)).trans (Tp.out.block i hi id)⟩
            refine bodyPost_ret (Qr rfl _ _ _ _ _ _ rfl hx2 (.int .i64 0) rfl) rfl ⟨HE.out,HG.out⟩
          · have hs:(PB.toList==(strOfNums B).toList)=false:=by
              rw[HPBB.out]
              exact QfD (fun e=>hsh (HIFF.out.1 (QcS HBB.out HB.out e)))
            have HE:Hid (fmE (getF B)=fmE (none3,4)):=hid (by rw[HF.out];unfold readF;rw[if_pos hsh])
            clear hsh
            go_wp2_with (first
              |(with_reducible refine Qu rfl (.tmp 2) (.tmp 65) rfl w.heap.size rfl none3 rfl _ _ _ Pp.out ?_;intro X2 hx2 ht2)
              |fail)
            have HG:Hid (w.grownBy X2 none):=⟨ht2.os.trans Tp.out.os,ht2.tape.trans Tp.out.tape,ht2.output.trans Tp.out.output,Nat.le_trans Tp.out.size ht2.size,fun i hi _=>(ht2.block i (Nat.lt_of_lt_of_le hi Tp.out.size) (fun e=>by have:i=w.heap.size:=e;omega)).trans (Tp.out.block i hi id)⟩
            refine bodyPost_ret (Qr rfl _ _ _ _ _ _ rfl hx2 (.int .i64 4) rfl) rfl ⟨HE.out.symm,HG.out⟩
      · have hk2:(n:Int)-16<(k:Int):=by omega
        have HE:Hid (fmE (getF B)=fmE (none3,4)):=hid (by rw[HF.out];unfold readF;rw[if_pos (fun e=>by have:=e.1;rw[HK.out,←HL.out]at this;omega)])
        go_wp2_with (first
          |(with_reducible refine Qu rfl (.tmp 2) (.tmp 40) rfl w.heap.size rfl none3 rfl _ _ _ P9.out ?_;intro X2 hx2 ht2)
          |fail)
        have HG:Hid (w.grownBy X2 none):=⟨ht2.os.trans T9.out.os,ht2.tape.trans T9.out.tape,ht2.output.trans T9.out.output,Nat.le_trans T9.out.size ht2.size,fun i hi _=>(ht2.block i (Nat.lt_of_lt_of_le hi T9.out.size) (fun e=>by have:i=w.heap.size:=e;omega)).trans (T9.out.block i hi id)⟩
        refine bodyPost_ret (Qr rfl _ _ _ _ _ _ rfl hx2 (.int .i64 4) rfl) rfl ⟨HE.out.symm,HG.out⟩
    · have e1 : (IntKind.u64.wrap (C:Int) != O)=true:=by rw[hW];exact bne_iff_ne.2 (fun e=>hg (HGD.out.2 e))
      have HE:Hid (fmE (getF B)=fmE (none3,10)):=hid (by unfold getF;rw[if_neg (by rw[←HL.out];simpa using HFT.out),if_pos hg])
      clear hg hW
      go_region_held3 (fun _=>True) (trivial)
        (first
          | (go_at_call 206
             (with_reducible refine(Crc.Qa5 _ _ _ (B.take (m)) _ SC.out BC.out).mono ?_)
             rintro e w8 ⟨rfl,hg8⟩
             rw[←HC.out]
             have T8:=hid ((Turn.drew X nowhere).trans (Turn.Qm hg8 (S:=nowhere) (fun i e=>by cases e)) (fun _ _ e=>e))
             have SO8:=hid (SO.out.grown hg8)
             clear hg8)
          | (go_at_call 176
             (with_reducible refine(Ref1.Qa5 _ _ _ _ (B.drop (m)) _ SO8.out BO.out (by omega)).mono ?_)
             rintro e w' ⟨rfl,rfl⟩
             rw[←HO.out])
          |fail)
      have P8:=hid (Qg P4.out T8.out id)
      have T8':=hid (T4.out.trans T8.out (fun _ _ e=>e))
      clear SO8
      go_wp2_with (first
        |(with_reducible refine Qu rfl (.tmp 2) (.tmp 31) rfl w.heap.size rfl none3 rfl _ _ _ P8.out ?_;intro X2 hx2 ht2)
        |fail)
      have HG:Hid (w.grownBy X2 none):=⟨ht2.os.trans T8'.out.os,ht2.tape.trans T8'.out.tape,ht2.output.trans T8'.out.output,Nat.le_trans T8'.out.size ht2.size,fun i hi _=>(ht2.block i (Nat.lt_of_lt_of_le hi T8'.out.size) (fun e=>by have:i=w.heap.size:=e;omega)).trans (T8'.out.block i hi id)⟩
      refine bodyPost_ret (Qr rfl _ _ _ _ _ _ rfl hx2 (.int .i64 10) rfl) rfl ⟨HE.out.symm,HG.out⟩
  · have HR:=hid (show room (B.length:Int)=0 from if_neg hn)
    have HF:Hid (fmE (getF B)=fmE (none3,2)):=hid (by unfold getF;rw[if_pos hn])
    clear hn
    go_enter Tryz.func175,Tryz.ntmps175
    go_wp2_with fail
    refine(Qao B.length _).mono ?_
    rintro e w1 ⟨rfl,hg1⟩
    have t1:=Turn.Qm hg1 (S:=nowhere) (fun i e=>by cases e)
    have P1:=hid (Qg P0.out t1 id)
    have T1:=hid (T0.out.trans t1 (fun _ _ e=>e))
    rw[HR.out]
    clear hg1 t1
    go_wp2_with (first
      |(with_reducible refine Qu rfl (.tmp 2) (.tmp 14) rfl w.heap.size rfl none3 rfl _ _ _ P1.out ?_;intro X2 hx2 ht2)
      |fail)
    have HG:Hid (w.grownBy X2 none):=⟨ht2.os.trans T1.out.os,ht2.tape.trans T1.out.tape,ht2.output.trans T1.out.output,Nat.le_trans T1.out.size ht2.size,fun i hi _=>(ht2.block i (Nat.lt_of_lt_of_le hi T1.out.size) (fun e=>by have:i=w.heap.size:=e;omega)).trans (T1.out.block i hi id)⟩
    refine bodyPost_ret (Qr rfl _ _ _ _ _ _ rfl hx2 (.int .i64 2) rfl) rfl ⟨HF.out.symm,HG.out⟩
end Fr
namespace Fr
open Go.RowKit Bs Dv
theorem QjD(B:List Int)(t:Int)(w:World)(hB:Bs.IsB B)(hlen:B.length≤1000000) :
  Calls Tryz.prog 122 #[.string (strOfNums B),.int .u8 t] w fun e w'=>e=fmE (kindF B t)∧w.grownBy w' none:=by
 have p0:=heap_alloc_new w (.cells #[.int .u8 0,.int .u64 0,.string ⟨#[]⟩] 146);have t0:=Turn.alloc w (.cells #[.int .u8 0,.int .u64 0,.string ⟨#[]⟩] 146) nowhere;have HGE:=hid (Qeq B (w.alloc (.cells #[.int .u8 0,.int .u64 0,.string ⟨#[]⟩] 146)) hB hlen);have herr:=QhC B;obtain⟨r,hr⟩:∃r,r=getF B:=⟨_,rfl⟩;have HK:=hid (show kindF B t=if r.2≠0 then(none3,r.2) else if r.1.1≠t then(none3,11) else(r.1,0) from by rw[hr];rfl);rw[←hr]at HGE herr;clear hr hB hlen;obtain⟨⟨x,gx,dx⟩,ex⟩:=r;have HER:=hid herr;clear herr;go_enter Tryz.func122,Tryz.ntmps122
 go_wp2_with fail
 refine HGE.out.mono ?_;rintro e w1 ⟨rfl,hg1⟩;have t1:=Turn.Qm hg1 (S:=nowhere) (fun i e=>by cases e);have P1:=Qg p0 t1 id;have T1:=t0.trans t1 (fun _ _ e=>e);have t2:=Turn.alloc w1 (.cells #[.int .u8 x,.int .u64 gx,.string (strOfNums dx)] 146) nowhere;have P2:=hid (Qg P1 t2 id);have Q2:=hid (heap_alloc_new w1 (.cells #[.int .u8 x,.int .u64 gx,.string (strOfNums dx)] 146));have T2:=T1.trans t2 (fun _ _ e=>e);have HGR:Hid (∀X2,Turn (w1.alloc (.cells #[.int .u8 x,.int .u64 gx,.string (strOfNums dx)] 146)) X2 (·=w.heap.size)→w.grownBy X2 none):=hid (fun X2 h=>⟨h.os.trans T2.os,h.tape.trans T2.tape,h.output.trans T2.output,Nat.le_trans T2.size h.size,fun i hi _=>(h.block i (Nat.lt_of_lt_of_le hi T2.size) (fun e=>by have:i=w.heap.size:=e;omega)).trans (T2.block i hi id)⟩);clear hg1 t1 P1 T1 t2 T2 p0 t0 HGE;simp only[fmE,fmV];by_cases h1:ex=0
 ·subst h1;by_cases h2:x=t
  ·subst h2;have HF:Hid (fmE (kindF B x)=fmE ((x,gx,dx),0)):=hid (by rw[HK.out];simp);have e2:(x != x)=false:=bne_self_eq_false _;go_wp2_with (first
    |(with_reducible refine Qu rfl (.tmp 4) (.tmp 22) rfl w.heap.size rfl (x,gx,dx) rfl _ _ _ P2.out ?_;intro X2 hx2 ht2)
    |fail)
   refine bodyPost_ret (Qr rfl _ _ _ _ _ _ rfl hx2 (.int .i64 0) rfl) rfl ⟨HF.out.symm,HGR.out _ ht2⟩
  ·have HF:Hid (fmE (kindF B t)=fmE (none3,11)):=hid (by rw[HK.out];simp[h2]);have e2:(x != t)=true:=bne_iff_ne.2 h2;clear h2;go_wp2_with (first
    |(with_reducible refine Qu rfl (.tmp 4) (.tmp 21) rfl w.heap.size rfl none3 rfl _ _ _ P2.out ?_;intro X2 hx2 ht2)
    |fail)
   refine bodyPost_ret (Qr rfl _ _ _ _ _ _ rfl hx2 (.int .i64 11) rfl) rfl ⟨HF.out.symm,HGR.out _ ht2⟩
 ·have hnn:=HER.out h1;have HF:Hid (fmE (kindF B t)=fmE ((x,gx,dx),ex)):=hid (by rw[HK.out,if_pos h1];rw[show((x,gx,dx):Fm)=none3 from hnn]);have e2:(ex==0)=false:=beq_eq_false_iff_ne.2 h1;clear h1 hnn;go_wp2_with (first
   |(with_reducible refine Qu rfl (.tmp 4) (.tmp 22) rfl w.heap.size rfl (x,gx,dx) rfl _ _ _ P2.out ?_;intro X2 hx2 ht2)
   |fail)
  refine bodyPost_ret (Qr rfl _ _ _ _ _ _ rfl hx2 (.int .i64 ex) rfl) rfl ⟨HF.out.symm,HGR.out _ ht2⟩
end Fr
end Go.Proofs.YtbbbocoliandcaaGreatDoor
