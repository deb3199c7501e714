/- Parts of the proof. -/
import Derived.Test.YtgffbbdcbkikhaaGreatDoorKbQ
import Derived.Test.YtgffbbdcbkikhaaGreatDoorKbg
set_option maxRecDepth 100000
set_option maxHeartbeats 8000000
open Go.Lib (hid)
namespace Go.Proofs.YtgffbbdcbkikhaaGreatDoor
namespace Bl
open Go.RowKit Go.Shelf Bs Dv Gr
open Sp Tr
open Oct (putB ofB)
open Cf (FeedsZ NcT QI)
attribute [local go_sem] Oper.semAt_some
def encC(R:Nat)(l:List Int)(k:Nat):Array Value:=#[.string (strOfNums (cutB R k l)),.int .i64 0]
def encE(E:Int)(_:Nat):Array Value:=#[.string ⟨#[]⟩,.int .i64 E]
theorem Qd4(sg n:Nat)(w:World) :
  Calls Tryz.prog 36 #[.pointer (some ⟨sg,0,none⟩),.int .u32 (n:Int)] w fun e w'=>
   e=.returned (.func (.func 77) #[] #[.pointer (some ⟨w.heap.size,0,none⟩),.pointer (some ⟨w.heap.size+1,0,none⟩)]) ∧
   w'=((w.alloc (.cells #[.pointer (some ⟨sg,0,none⟩)] 24)).alloc (.cells #[.int .u32 (n:Int)] 30)):=by
 have hmf:∀(fn:Fn) (first cap:Array Value) (w:World),(Instr.makeFunc fn first cap).run Tryz.prog w=.ok (.func fn first cap) w:=fun _ _ _ _=>rfl
 go_enter Tryz.func36,Tryz.ntmps36
 go_wp2;go_ret
 exact⟨rfl,rfl⟩
theorem QfF(sg n:Nat)(w:World) :
  Calls Tryz.prog 28 #[.pointer (some ⟨sg,0,none⟩),.int .u32 (n:Int)] w fun e w'=>
   e=.returned (.func (.func 67) #[] #[.pointer (some ⟨w.heap.size,0,none⟩),.pointer (some ⟨w.heap.size+1,0,none⟩)]) ∧
   w'=((w.alloc (.cells #[.pointer (some ⟨sg,0,none⟩)] 24)).alloc (.cells #[.int .u32 (n:Int)] 30)):=by
 have hmf:∀(fn:Fn) (first cap:Array Value) (w:World),(Instr.makeFunc fn first cap).run Tryz.prog w=.ok (.func fn first cap) w:=fun _ _ _ _=>rfl
 go_enter Tryz.func28,Tryz.ntmps28
 go_wp2;go_ret
 exact⟨rfl,rfl⟩
theorem Qf7{W:World}{b:Nat}{n:Int}{a:Option Addr}{k c:Nat}(h:W.heap[b]?=some (.cells #[.int .i64 n,.slice a k c] 85 (0,0))):W.cell? ⟨b,0,none⟩=some (.int .i64 n)∧W.cell? ⟨b,1,none⟩=some (.slice a k c):=by
 refine⟨?_,?_⟩ <;> rw[cell_of_row _ _ _ _ _ _ h] <;> rfl
section
variable {w0 w1 w W : World} {sg g : Nat} {A : Nat → Prop} {s : SpS} {R n : Nat} {own hown mown ks : List Nat} {T : Nat} {l : List Int}
theorem Qfo(hk:SpOk s own hown mown T)(hb:BlobAt (lp s) R n l ks)(hlen:l.length≤65536):openP R s n=(0,(l.length:Int),ints ks):=by
 obtain⟨h1,h2⟩:=QfZ hk hb.idx;unfold openP;rw[if_neg (fun q=>q h1),h2];have h3:ofB (idxPg l.length ks).data=(l.length:Int):=Oct.Qz 4 _ (by omega) (by show(l.length:Int)<256 ^ 4;omega)
 show(if (6:Int)≠6 then _ else if (putB 4 (l.length:Int)).length≠4 then _ else _)=_
 rw[if_neg (fun q=>q rfl),if_neg (fun q=>q (Oct.Qe 4 _)),h3,if_neg]
 ·rfl
 ·rintro(q|q)
  ·omega
  ·refine q ?_
   show(ints ks).length=_
   rw[Qad,hb.len,Int.toNat_natCast]
theorem QkG(m:Nat)(hm:1≤m)(y:Nat)(S:Nat→Prop)(bs bn:Nat)(h:Sh w1 w0 sg g A s)(hk:SpOk s own hown mown T)(hR:roomP s.dv.size 0=(R:Int))(h1:0<R∧R≤4096)(hb:BlobAt (lp s) R n l ks)(hlen:l.length≤65536)(K:Nat)(hK:nP l.length R=K)
  (hg0:w0.grownBy W none) (hS:∀i,S i→w0.heap.size≤i∧i<W.heap.size) (hSb:¬S bs) (hbs:Boxed W bs 24 (.pointer (some ⟨sg,0,none⟩))) (hbn:Boxed W bn 30 (.int .u32 (n:Int)))
  (J:Nat→Nat→World→Prop) (Jx:World→Prop) (hJ:∀k Z X Y,J k Z X→Turn X Y (NcT W.heap.size X)→J k Z Y)
  (hY:∀k Z W1,k<K→W.heap.size≤Z→Z≤W1.heap.size→J k Z W1→YieldAt Fence.wide (m-1) Tryz.prog y (encC R l k) W1 fun x W'=>(x=.returned (.bool true)∧J (k+1) Z W'∧KpZ S w0.heap.size W.heap.size Z W1 W')∨(x=.returned (.bool false)∧Jx W'∧KpZ S w0.heap.size W.heap.size Z W1 W')) (h0:∀Z,J 0 Z W) :
  CallsIn Fence.wide m Tryz.prog 77 #[.func (.yield y) #[] #[],.pointer (some ⟨bs,0,none⟩),.pointer (some ⟨bn,0,none⟩)] W fun e W'=>(∃z,e=.returned z)∧((∃Z,W.heap.size≤Z∧J K Z W')∨Jx W'):=by
 have hn32:n<4294967296:=by
  have h2:=(Qal hk (QaF hb.idx).1).2;have h3:=hk.dok.bhi;omega
 have HOP:=hid (open_any (h.go hg0) hk hR h1 n hn32);rw[Qfo hk hb hlen]at HOP;have hkl:ks.length=K:=by rw[hb.len,hK]
 have HPT:=hid (fun i (hi:i<K) V (hV:w0.grownBy V none) a c (hs:Ws.Seg V a K c (ints ks))=>QkF (h.go hV) hk hR h1 K hkl hK i hi (hb.kid i (by omega)) hlen a c hs);have HJ:=hid hJ;have HY:=hid hY;have HSS:=hid hS;have HG0:=hid hg0;have HBS:=hid hbs;have HSB:=hid hSb;have HBL:Hid (bs<W.heap.size):=hid hbs.lt;have H0:=hid h0;have cs:=hbs.cell;have cn:=hbn.cell;have HKL:=hid hkl;have hK6:K≤65536:=by
  apply Classical.byContradiction
  intro q;have h5:=(nP_lt (n:=l.length) (i:=65536) h1.1).1 (by omega);have:65536*1≤65536*R:=Nat.mul_le_mul_left _ h1.1;omega
 obtain⟨L,hL⟩:∃L,l.length=L:=⟨_,rfl⟩;rw[hL]at HOP HPT;clear h hk hR h1 hb hlen hK hg0 hS hSb hbs hbn hJ hY h0 hn32 hL hkl;refine callsIn_of_wp Tryz.func77 rfl trivial ?_ rfl;simp only[Tryz.ntmps77,List.size_toArray,List.length_cons,List.length_nil,Nat.reduceAdd,Nat.reduceSub,Array.replicate_succ,Array.replicate_zero,List.push_toArray,List.append_toArray,List.nil_append,List.cons_append];refine wpIn_wide.2 ?_;go_wp2_with fail
 refine HOP.out.mono ?_;rintro e w2 ⟨hg2,a,c,rfl,hseg,hnew⟩;have hil:(ints ks).length=K:=by rw[Qad,HKL.out]
 dsimp only at hseg hnew ⊢;rw[hil]at hseg ⊢;have HN3:=heap_alloc_new w2 (.cells #[.int .i64 (L:Int),.slice a K c] 85);have hg3:=Qb w2 (.cells #[.int .i64 (L:Int),.slice a K c] 85);have HSG3:=hid (hseg.grown hg3);have HWL:Hid (W.heap.size≤w2.heap.size):=hid hg2.size;obtain⟨W3,hW3⟩:∃X,w2.alloc (.cells #[.int .i64 (L:Int),.slice a K c] 85)=X:=⟨_,rfl⟩;rw[hW3]at HN3 hg3 HSG3;have HN3:=hid HN3;have HG3:=hid (Qa HG0.out (Qa hg2 hg3));have HB3:=hid (Qd HBS.out (Qa hg2 hg3));obtain⟨Z,hZ⟩:∃Z,W3.heap.size=Z:=⟨_,rfl⟩;have HJ3:Hid (J 0 Z W3):=hid (HJ.out _ _ _ _ (H0.out Z) (Turn.Qf (Qa hg2 hg3) (fun _ e=>by cases e)));have HZ0:Hid (w0.heap.size≤Z∧W.heap.size≤Z∧w2.heap.size<Z):=hid (by have:=HG3.out.size;have:=block_lt HN3.out;have:=hg2.size;omega);have HNZ:Hid (∀ad,a=some ad→0<K→ad.block<Z):=hid (fun ad had hK=>by
  obtain⟨gA,oA,e1,hc⟩:=HSG3.out.addr hK;rw[e1]at had;cases had
  have:=World.block_lt_of_cell? W3 _ (hc 0 hK);have h9:gA<W3.heap.size:=this;rw[←hZ];exact h9)
 have HBZ:Hid (bs<Z):=hid (by have:=HBL.out;have:=HZ0.out;omega);have HZ3:Hid (Z≤W3.heap.size):=hid (by omega);have HNW:=hid hnew;have HW3:=hid hW3;have hpx:W.heap.size≤w2.heap.size:=HWL.out;obtain⟨px,hpx2⟩:∃p,w2.heap.size=p:=⟨_,rfl⟩;rw[hpx2]at HN3 HWL HZ0;have HPX:=hid hpx2;clear hZ hg2 hg3 hseg hnew hW3 HBS HG0 H0 hil HOP cs cn hpx hpx2;go_upto_region 1 with fail
 rw[HW3.out,HPX.out];obtain⟨d0,d1⟩:=Qf7 HN3.out;go_wp2
 go_loopw [21] (fun si wr=>∃k,k≤K∧si=.int .i64 (k:Int)∧Hid (J k Z wr)∧Hid (Z≤wr.heap.size)∧Hid (w0.grownBy wr none)∧Hid (wr.heap[px]?=some (.cells #[.int .i64 (L:Int),.slice a K c] 85 (0,0)))∧Hid (Ws.Seg wr a K c (ints ks))∧Hid (Boxed wr bs 24 (.pointer (some ⟨sg,0,none⟩)))) (fun si _=>K-(intOf si).toNat)
 case atStart=>exact⟨0,Nat.zero_le _,rfl,HJ3,HZ3,HG3,HN3,HSG3,HB3⟩
 case round=>
  clear HJ3 HZ3 HG3 HN3 HSG3 HB3 d0 d1;obtain⟨k,hkK,rfl,HJJ,HZR,HGG,HN,HSG,HB⟩:=hrel;by_cases hlt:k<K
  ·have q9:decide (k<K)=true:=decide_eq_true hlt;have HPTk:=hid (HPT.out k hlt wr HGG.out a c HSG.out);obtain⟨d0,d1⟩:=Qf7 HN.out;have cs:=HB.out.cell;have HKT:=hid hlt;obtain⟨PS,hPS⟩:∃PS,strOfNums (cutB R k l)=PS:=⟨_,rfl⟩;rw[hPS]at HPTk;have HENC:Hid (encC R l k=#[.string PS,.int .i64 0]):=hid (by unfold encC;rw[hPS]);clear hPS;go_upto_region 6 with fail
   refine(wpIn_wide (n:=m)).1 ?_
   gi_wp2_with fail
   refine⟨trivial,?_⟩
   gi_at_call 78
   refine(callsIn_wide.2 HPTk.out).mono ?_;rintro e w4 ⟨rfl,hg4⟩;have hJ4:=HJ.out k Z wr w4 HJJ.out (Turn.Qf hg4 (fun _ e=>by cases e));obtain⟨fn,tmps,assign,body,hy,hR⟩:=HY.out k Z w4 HKT.out HZ0.out.2.1 (Nat.le_trans HZR.out hg4.size) hJ4;rw[HENC.out]at hy;have HZ4:Hid (wr.heap.size≤w4.heap.size):=hid hg4.size;have HG4:=hid (Qa HGG.out hg4);have HN4:=hid (Qd HN.out hg4);have HS4:=hid (HSG.out.grown hg4);have HB4:=hid (Qd HB.out hg4);clear hJ4 hg4 d0 d1 cs HJJ HGG HN HSG HB HPTk
   gi_wp2
   refine hR.mono ?_;rintro e W5 (⟨rfl,hJ5,hk5⟩|⟨rfl,hJx,-⟩)
   ·have HJ5:=hid hJ5;have HZ5:Hid (Z≤W5.heap.size):=hid (Nat.le_trans HZR.out (Nat.le_trans HZ4.out (Turn.size hk5)));have HG5:=hid (hk5.grown (fun i e=>(HSS.out i e).1) HZ0.out.1 HG4.out);have HN5:=hid (hk5.cells HN4.out rfl (fun e=>by have:=(HSS.out _ e).2;have:=HWL.out;omega) HZ0.out.2.2);have HS5:=hid (hk5.seg HS4.out (fun ad had=>⟨fun e=>by have:=(HSS.out _ e).2;have:=HNW.out ad had;omega,HNZ.out ad had⟩));have HB5:=hid (hk5.cells HB4.out rfl HSB.out HBZ.out);clear hJ5 hk5 hR hy HG4 HN4 HS4 HB4
    gi_wp2
    go_wp2;go_roundw
    case rel=>exact⟨k+1,by omega,by go_num,HJ5,HZ5,HG5,HN5,HS5,HB5⟩
    case measure=>simp[intOf];omega
   ·have HJx:=hid hJx;clear hJx hR hy
    gi_wp2
    go_wp2;refine bodyPost_ret (results_none rfl _ _ _) rfl ?_;exact⟨⟨_,rfl⟩,.inr HJx.out⟩
  ·have q9:decide (k<K)=false:=decide_eq_false hlt;obtain rfl:k=K:=by omega
   go_wp2
   go_end0
   exact⟨⟨_,rfl⟩,.inl ⟨Z,HZ0.out.2.1,HJJ.out⟩⟩
theorem QlG(m:Nat)(hm:1≤m)(y:Nat)(bs bn:Nat)(h:Sh w1 w0 sg g A s)(hk:SpOk s own hown mown T)(hR:roomP s.dv.size 0=(R:Int))(h1:0<R∧R≤4096)(hn:n<4294967296){E:Int}(hE:openP R s n=(E,0,[]))(hE0:E≠0)
  (hg0:w0.grownBy W none) (hbs:Boxed W bs 24 (.pointer (some ⟨sg,0,none⟩))) (hbn:Boxed W bn 30 (.int .u32 (n:Int)))
  (J:Nat→Nat→World→Prop) (Jx:World→Prop) (S:Nat→Prop) (hJ:∀k Z X Y,J k Z X→Turn X Y (NcT W.heap.size X)→J k Z Y)
  (hY:∀k Z W1,k<1→W.heap.size≤Z→Z≤W1.heap.size→J k Z W1→YieldAt Fence.wide (m-1) Tryz.prog y (encE E k) W1 fun x W'=>(x=.returned (.bool true)∧J (k+1) Z W'∧KpZ S w0.heap.size W.heap.size Z W1 W')∨(x=.returned (.bool false)∧Jx W'∧KpZ S w0.heap.size W.heap.size Z W1 W')) (h0:∀Z,J 0 Z W) :
  CallsIn Fence.wide m Tryz.prog 77 #[.func (.yield y) #[] #[],.pointer (some ⟨bs,0,none⟩),.pointer (some ⟨bn,0,none⟩)] W fun e W'=>(∃z,e=.returned z)∧((∃Z,W.heap.size≤Z∧J 1 Z W')∨Jx W'):=by
 have HOP:=hid (open_any (h.go hg0) hk hR h1 n hn);rw[hE]at HOP;have HJ:=hid hJ;have HY:=hid hY;have H0:=hid h0;have cs:=hbs.cell;have cn:=hbn.cell;have q0:(E != 0)=true:=bne_iff_ne.2 hE0;clear h hk hR h1 hE hE0 hg0 hbs hbn hJ hY h0 hn;refine callsIn_of_wp Tryz.func77 rfl trivial ?_ rfl;simp only[Tryz.ntmps77,List.size_toArray,List.length_cons,List.length_nil,Nat.reduceAdd,Nat.reduceSub,Array.replicate_succ,Array.replicate_zero,List.push_toArray,List.append_toArray,List.nil_append,List.cons_append];refine wpIn_wide.2 ?_;go_wp2_with fail
 refine HOP.out.mono ?_;rintro e w2 ⟨hg2,a,c,rfl,hseg,hnew⟩;have hg3:=Qb w2 (.cells #[.int .i64 0,.slice a 0 c] 85);obtain⟨W3,hW3⟩:∃X,w2.alloc (.cells #[.int .i64 0,.slice a 0 c] 85)=X:=⟨_,rfl⟩;rw[hW3]at hg3;have hJ3:J 0 W3.heap.size W3:=HJ.out _ _ _ _ (H0.out _) (Turn.Qf (Qa hg2 hg3) (fun _ e=>by cases e));obtain⟨fn,tmps,assign,body,hy,hR⟩:=HY.out 0 _ W3 (by decide) (Nat.le_trans hg2.size hg3.size) (Nat.le_refl _) hJ3;unfold encE at hy;have HWZ:Hid (W.heap.size≤W3.heap.size):=hid (Nat.le_trans hg2.size hg3.size);have HW3:=hid hW3;clear hg2 hg3 hW3 hseg hnew hJ3 cs cn HOP H0;go_upto_region 2 with fail
 rw[HW3.out];refine(wpIn_wide (n:=m)).1 ?_
 gi_wp2
 refine hR.mono ?_;rintro e W5 (⟨rfl,hJ5,hk5⟩|⟨rfl,hJx,-⟩)
 ·have HJ5:=hid hJ5;clear hJ5 hk5 hR hy
  gi_wp2
  go_wp2;refine bodyPost_ret (results_none rfl _ _ _) rfl ?_;exact⟨⟨_,rfl⟩,.inl ⟨_,HWZ.out,HJ5.out⟩⟩
 ·have HJx:=hid hJx;clear hJx hR hy
  gi_wp2
  go_wp2;refine bodyPost_ret (results_none rfl _ _ _) rfl ?_;exact⟨⟨_,rfl⟩,.inr HJx.out⟩
def PartsR(R:Nat)(s:SpS)(n:Nat)(e:Nat→Array Value)(N:Nat):Prop:=
 (∃l ks,BlobAt (lp s) R n l ks∧l.length≤65536∧Bs.IsB l∧e=encC R l∧N=nP l.length R)∨(∃E,openP R s n=(E,0,[])∧E≠0∧n<4294967296∧e=encE E∧N=1)
theorem Qcu(m:Nat)(hm:1≤m)(S:Nat→Prop)(bs bn:Nat)(h:Sh w1 w0 sg g A s)(hk:SpOk s own hown mown T)(hR:roomP s.dv.size 0=(R:Int))(h1:0<R∧R≤4096){e:Nat→Array Value}{N:Nat}(he:PartsR R s n e N)
  (hg0:w0.grownBy w none) (hS:∀i,S i→w0.heap.size≤i∧i<w.heap.size) (hSb:¬S bs) (hbs:Boxed w bs 24 (.pointer (some ⟨sg,0,none⟩))) (hbn:Boxed w bn 30 (.int .u32 (n:Int))) :
  FeedsZ Fence.wide m Tryz.prog 77 #[] #[.pointer (some ⟨bs,0,none⟩),.pointer (some ⟨bn,0,none⟩)] e N (KpZ S w0.heap.size) NcT w:=
 fun y J Jx W hW hJ _ hY h0=>by
  have hg:=Sp.below_grown hW;rcases he with ⟨l,ks,hb,hl,-,rfl,rfl⟩|⟨E,hE,hE0,hn,rfl,rfl⟩
  ·exact QkG m hm y S bs bn h hk hR h1 hb hl _ rfl (Qa hg0 hg) (fun i e=>⟨(hS i e).1,Nat.lt_of_lt_of_le (hS i e).2 hg.size⟩) hSb (Qd hbs hg) (Qd hbn hg) J Jx hJ hY h0
  ·exact QlG m hm y bs bn h hk hR h1 hn hE hE0 (Qa hg0 hg) (Qd hbs hg) (Qd hbn hg) J Jx S hJ hY h0
end
end Bl
namespace Bl
open Go.RowKit Go.Shelf Bs Dv Gr
open Sp Tr
open Cf (FeedsZ NcT QI)
open Sg (BdZ)
attribute [local go_sem] Oper.semAt_some
section
variable {w0 w1 w W : World} {sg g : Nat} {A : Nat → Prop} {s : SpS} {R n : Nat} {own hown mown ks : List Nat} {T : Nat} {l : List Int}
structure GtI (w:World) (b:Nat) (R:Nat) (l:List Int) (q:Nat×Nat) (V:World):Prop where
 bd:b<q.2→∃p v,BdZ V q.2 b p v (l.take (q.1*R))
 nil:q.1=0→V.heap[b]?=some (.cells #[.pointer none,.slice none 0 0] 75 (0,0))
 gr:w.grownBy V none
 en:Boxed V (b+1) 31 (.int .i64 0)
theorem GtI.turn{b:Nat}{q:Nat×Nat}{V V':World}{S:Nat→Prop}(h:GtI w b R l q V)(t:Turn V V' S)(hb:¬S b)(hb1:¬S (b+1))(hc:∀i o,q.2≤i→V.heap[i]?=some o→o.isCells=true→¬S i)(hw:∀i,i<w.heap.size→¬S i):GtI w b R l q V':=by
 refine⟨fun hz=>?_,fun e=>(t.block b (Sg.QbT (h.nil e)) hb).trans (h.nil e),⟨t.os.trans h.gr.os,t.tape.trans h.gr.tape,t.output.trans h.gr.output,Nat.le_trans h.gr.size t.size,fun i hi _=>(t.block i (Nat.lt_of_lt_of_le hi h.gr.size) (hw i hi)).trans (h.gr.block i hi (by simp))⟩,Qk h.en t hb1⟩;obtain⟨p,v,h1⟩:=h.bd hz;refine⟨p,v,h1.stay t hb (fun i hi=>?_)⟩;obtain⟨a,cur,fz,e⟩:=Sg.Qbf h1.row i hi;exact hc i _ a e rfl
theorem Qbm{w V:World}{D:Nat}{o o':Obj}(h:w.grownBy V none)(_hK:V.heap[D]?=some o)(hD:w.heap.size≤D):w.grownBy (V.putObj D o') none:=by
 have t:=grownBy_putObj' V D o';exact⟨t.os.trans h.os,t.tape.trans h.tape,t.output.trans h.output,Nat.le_trans h.size t.size,fun i hi _=>(t.block i (Nat.lt_of_lt_of_le hi h.size) (fun e=>by cases e;omega)).trans (h.block i hi (by simp))⟩
theorem Qe1(h:Sh w1 w sg g A s)(hk:SpOk s own hown mown T)(hR:roomP s.dv.size 0=(R:Int))(h1:0<R∧R≤4096)(hb:BlobAt (lp s) R n l ks)(hlen:l.length≤65536)(hl:Bs.IsB l) :
  Calls Tryz.prog 12 #[.pointer (some ⟨sg,0,none⟩),.int .u32 (n:Int)] w fun e w'=>e=.returned (.tuple #[.string (strOfNums l),.int .i64 0])∧w.grownBy w' none:=by
 have HSH:=hid h;obtain⟨b,hbb⟩:∃b,w.heap.size=b:=⟨_,rfl⟩;obtain⟨W2,hW2⟩:∃X,(w.alloc (.cells #[.pointer none,.slice none 0 0] 75)).alloc (.cells #[.int .i64 0] 31)=X:=⟨_,rfl⟩;have hg2:w.grownBy W2 none:=by rw[←hW2];exact Qa (Qb _ _) (Qb _ _)
 have hz2:W2.heap.size=b+2:=by rw[←hW2,←hbb];simp[World.size_alloc]
 have hbd2:∀Z,b<Z→BdZ W2 Z b (.pointer none) (.slice none 0 0) []:=fun Z hZ=>by
  have h5:=BdZ.fresh w Z (by rw[hbb];exact hZ);rw[hbb]at h5;rw[←hW2];exact h5.stay (Qc (Qb _ _)) id (fun _ _=>id)
 have hen2:Boxed W2 (b+1) 31 (.int .i64 0):=by
  have h5:=Boxed.new (w.alloc (.cells #[.pointer none,.slice none 0 0] 75)) 31 (.int .i64 0);rw[World.size_alloc,hW2,hbb]at h5;exact h5
 have hPM:=Qd4 sg n W2;obtain⟨W4,hW4⟩:∃X,(W2.alloc (.cells #[.pointer (some ⟨sg,0,none⟩)] 24)).alloc (.cells #[.int .u32 (n:Int)] 30)=X:=⟨_,rfl⟩;rw[hW4,hz2,show b+2+1=b+3 from rfl]at hPM;have HPM:=hid hPM;have hg4:W2.grownBy W4 none:=by rw[←hW4];exact Qa (Qb _ _) (Qb _ _)
 have hz4:W4.heap.size=b+4:=by rw[←hW4];simp[World.size_alloc,hz2]
 have hx4:Boxed W4 (b+2) 24 (.pointer (some ⟨sg,0,none⟩)):=by rw[←hW4,←hz2];exact(Boxed.new _ _ _).alloc _
 have hy4:Boxed W4 (b+3) 30 (.int .u32 (n:Int)):=by
  have:=Boxed.new (W2.alloc (.cells #[.pointer (some ⟨sg,0,none⟩)] 24)) 30 (.int .u32 (n:Int));rw[World.size_alloc,hW4,hz2]at this;exact this
 have hen4:=Qd hen2 hg4;obtain⟨K,hK⟩:∃K,nP l.length R=K:=⟨_,rfl⟩;have HPF:=hid (Qcu 2 (by decide) (fun i=>i=b) (b+2) (b+3) h hk hR h1 (.inl ⟨l,ks,hb,hlen,hl,rfl,hK.symm⟩) (Qa hg2 hg4) (fun i e=>⟨by omega,by omega⟩) (by omega) hx4 hy4);have hnil4:W4.heap[b]?=some (.cells #[.pointer none,.slice none 0 0] 75 (0,0)):=((hbd2 (b+1) (by omega)).stay (Qc hg4) id (fun _ _=>id)).box;have HI4:Hid (∀Z,GtI w b R l (0,Z) W4):=hid (fun Z=>by
  refine⟨fun hZ=>⟨.pointer none,.slice none 0 0,?_⟩,fun _=>hnil4,Qa hg2 hg4,hen4⟩
  show BdZ W4 Z b (.pointer none) (.slice none 0 0) (l.take (0*R))
  rw[Nat.zero_mul,List.take_zero];exact(hbd2 Z hZ).stay (Qc hg4) id (fun _ _=>id))
 have HWS:Hid (∀k Z V,k<K→b<Z→Z≤V.heap.size→GtI w b R l (k,Z) V→∃S:Nat→Prop,(∀i,S i→i=b∨(Z≤i∧∃o:Obj,V.heap[i]?=some o∧o.isCells=true))∧Calls Tryz.prog 37 #[.pointer (some ⟨b,0,none⟩),.string (strOfNums (cutB R k l))] V fun e w'=>(∃z,e=.returned z)∧GtI w b R l (k+1,Z) w'∧Turn V w' S):=hid (fun k Z V hkK hbZ hZ hI=>by
  obtain⟨p,v,hbd⟩:=hI.bd hbZ;have hcl:=Qa9 R k l;have hlt:=(nP_lt (n:=l.length) (i:=k) h1.1).1 (by omega);have hpos:0<(cutB R k l).length:=by rw[hcl];omega
  have hw:(l.take (k*R)).length+(cutB R k l).length≤140737488355328:=by rw[List.length_take,hcl];omega
  refine⟨fun i=>i=b∨v.ownBlock=some i,?_,(Sg.Qiv Z b p v _ (cutB R k l) V hbd hZ hpos (Qdv hl) hw).mono ?_⟩
  ·intro i e;rcases e with e|e
   ·exact .inl e
   ·obtain⟨a,cur,fz,e2⟩:=Sg.Qbf hbd.row i e;exact .inr ⟨a,_,e2,rfl⟩
  ·rintro e w' ⟨p',v',rfl,hbd',ht⟩;refine⟨⟨_,rfl⟩,⟨fun _=>⟨p',v',?_⟩,fun e=>absurd e (Nat.succ_ne_zero k),⟨ht.os.trans hI.gr.os,ht.tape.trans hI.gr.tape,ht.output.trans hI.gr.output,Nat.le_trans hI.gr.size ht.size,fun i hi _=>(ht.block i (Nat.lt_of_lt_of_le hi hI.gr.size) (fun e=>?_)).trans (hI.gr.block i hi (by simp))⟩,Qk hI.en ht (fun e=>?_)⟩,ht⟩
   ·rw[QfR]at hbd';exact hbd'
   ·rcases e with e|e
    ·omega
    ·have:=(Sg.Qbf hbd.row i e).1;have:=hbd.lt;have:b<Z:=this;omega
   ·rcases e with e|e
    ·omega
    ·have h9:=(Sg.Qbf hbd.row _ e).1;have h8:=Sg.Qbf hbd.row _ e;obtain⟨-,cur,fz,e2⟩:=h8;have h7:V.heap[b+1]?=some (.cells #[.int .i64 0] 31 (0,0)):=hI.en;rw[h7]at e2
     injection e2 with e2
     injection e2 with _ e2
     exact absurd e2 (by decide))
 have HST:Hid (∀Z V,b<Z→GtI w b R l (K,Z) V→∃S:Nat→Prop,(∀i,S i→Z≤i∧∃o:Obj,V.heap[i]?=some o∧o.isCells=true)∧Calls Tryz.prog 38 #[.pointer (some ⟨b,0,none⟩)] V fun e w'=>e=.returned (.string (strOfNums l))∧Turn V w' S):=hid (fun Z V hbZ hI=>by
  by_cases h0:l=[]
  ·have hK0:K=0:=by rw[←hK,h0];exact QlE h1.1
   refine⟨fun _=>False,fun _ e=>e.elim,(Sg.Qhe b V (hI.nil hK0)).mono ?_⟩;rintro e w' ⟨e1,hg⟩;exact⟨by rw[e1,h0],Qc hg⟩
  ·obtain⟨p,v,hbd⟩:=hI.bd hbZ;rw[show l.take ((K,Z).1*R)=l from by show l.take (K*R)=l;rw[←hK];exact QgK l h1.1]at hbd;refine⟨fun i=>v.ownBlock=some i,fun i e=>?_,Sg.Qhd Z b p v l V hbd h0 hl⟩;obtain⟨a,cur,fz,e2⟩:=Sg.Qbf hbd.row i e;exact⟨a,_,e2,rfl⟩)
 have HZ4:=hid hz4;have HG4:=hid (Qa hg2 hg4);have HBB:=hid hbb;have HW2:=hid hW2;clear hg2 hz2 hbd2 hen2 hPM hg4 hz4 hx4 hy4 hen4 hnil4 h hk hR h1 hb hlen hl hK hW2 HSH;clear hW4;refine(callsIn_wide (n:=3)).1 ?_;refine callsIn_of_wp_marks Tryz.func12 rfl trivial ?_ rfl;simp only[Tryz.ntmps12,List.size_toArray,List.length_cons,List.length_nil,Nat.reduceAdd,Nat.reduceSub,Array.replicate_succ,Array.replicate_zero,List.push_toArray,List.append_toArray,List.nil_append,List.cons_append];refine wpIn_wide.2 ?_;go_wp2_with fail
 go_step3
 go_wp2_with fail
 go_step3
 go_wp2_with fail
 rw[HW2.out];refine HPM.out.mono ?_;rintro e w4 ⟨rfl,rfl⟩;clear HPM HW2;go_wp2_with fail
 refine(wpIn_wide (n:=3)).1 ?_;refine QI (T:=NcT) rfl (by decide) (gf:=77) (first:=#[]) (lb:=#[.pointer (some ⟨b+2,0,none⟩),.pointer (some ⟨b+3,0,none⟩)]) rfl trivial (enters_of Tryz.func77 (by kernel_rfl) rfl)
  (fun _ _ _ e=>e.1) HPF.out (Below.refl _ _) (fun h k=>KpZ.t h k) (fun z V i o o' q1 q2 q3 q4=>KpZ.put V i o o' ⟨by have:=HZ4.out;have:=HBB.out;omega,q2⟩ q3 q4) (fun k=>rfl)
  (GtI w b R l) (fun _ _=>False) ?own ?its (fun c s V V' row hs=>hs.elim) (fun c V V' _ hs=>hs.elim) HI4.out
  (fun k=>{ tmps:=#[.pointer (some ⟨sg,0,none⟩),.int .u32 (n:Int),undef,undef,.string ⟨#[]⟩,.int .i64 0,.pointer (some ⟨b,0,none⟩),.pointer (some ⟨b+1,0,none⟩),.string (strOfNums (cutB R k l)),.int .i64 0,.pointer (some ⟨sg,0,none⟩),.int .u32 (n:Int),.func (.func 77) #[] #[.pointer (some ⟨b+2,0,none⟩),.pointer (some ⟨b+3,0,none⟩)],.string (strOfNums (cutB R k l)),.int .i64 0,undef,undef,undef,undef,undef,undef,undef,undef,undef,undef],defers:=[] }) ?assign ?body ?done ?stop
 case own=>
  rintro q X Y row hI hg hr;exact hI.turn (S:=fun i=>w4.heap.size≤i∧∃o:Obj,X.heap[i]?=some o∧o.isCells=false) (Turn.Qf hg (fun i e _=>hr i e)) (fun e=>by have:=e.1;have:=HZ4.out;omega) (fun e=>by have:=e.1;have:=HZ4.out;omega) (fun i o _ h1 h2 e=>by obtain⟨-,o2,h3,h4⟩:=e;rw[h1]at h3;cases h3;rw[h2]at h4;cases h4) (fun i hi e=>by have:=e.1;have:=HZ4.out;have:=HBB.out;omega)
 case its=>
  intro q X Y _ hI ht;exact hI.turn ht (fun e=>by have:=e.1;have:=HZ4.out;omega) (fun e=>by have:=e.1;have:=HZ4.out;omega) (fun i o _ h1 h2 e=>by obtain⟨-,o2,h3,h4⟩:=e;rw[h1]at h3;cases h3;rw[h2]at h4;cases h4) (fun i hi e=>by have:=e.1;have:=HZ4.out;have:=HBB.out;omega)
 case assign=>
  intro y k V K2 hK;unfold encC;obtain⟨PS,hPS⟩:∃PS,strOfNums (cutB R k l)=PS:=⟨_,rfl⟩;rw[hPS]at hK ⊢;have HK2:=hid hK;clear hK hPS
  gi_wp2
  exact HK2.out
 case body=>
  rintro y k Z V hk hz1 hz2 hI;obtain⟨S,hS,hc⟩:=HWS.out k Z V hk (by have:=HZ4.out;omega) hz2 hI;obtain⟨PS,hPS⟩:∃PS,strOfNums (cutB R k l)=PS:=⟨_,rfl⟩;rw[hPS]at hc ⊢;have HC:=hid hc;have HSS:=hid hS;have HBX:Hid (∃p v,V.heap[b]?=some (.cells #[p,v] 75 (0,0))):=hid (by obtain⟨p,v,h5⟩:=hI.bd (by have:=HZ4.out;show b<Z;omega);exact⟨p,v,h5.box⟩);have HZ9:Hid (b<Z):=hid (by have:=HZ4.out;omega);clear hc hS hPS hI hz1 hz2 hk
  gi_wp2_with fail
  refine⟨trivial,?_⟩
  gi_at_call 37
  refine(CallsIn.inRound _ (callsIn_wide.2 HC.out)).mono ?_;rintro e V5 ⟨⟨z,rfl⟩,hI5,ht5⟩;have HI5:=hid hI5;have HT5:=hid ht5;clear hI5 ht5 HC
  gi_wp2
  refine⟨⟨HT5.out.size,fun i o _ h1 h2=>(HT5.out.block i (Array.getElem?_eq_some_iff.1 h1).1 (fun e=>?_)).trans h1⟩,KpZ.of HT5.out (fun i _ e=>?_),HI5.out⟩
  ·rcases HSS.out i e with rfl|⟨-,o2,h3,h4⟩
   ·obtain⟨p,v,h3⟩:∃p v,V.heap[i]?=some (.cells #[p,v] 75 (0,0)):=HBX.out;rw[h1]at h3;cases h3;cases h2
   ·rw[h1]at h3;cases h3;rw[h2]at h4;cases h4
  ·rcases HSS.out i e with rfl|⟨h3,o2,h4,h5⟩
   ·obtain⟨p,v,h3⟩:=HBX.out;exact⟨.inl rfl,_,h3,rfl⟩
   ·exact⟨.inr h3,o2,h4,h5⟩
 case done=>
  rintro D Z V hD hz hI hK;obtain⟨S,hS,hc⟩:=HST.out Z V (by have:=HZ4.out;omega) hI;have e1:=hI.en.cell;have HC:=hid hc;have HSS:=hid hS;have HI9:=hid hI;have HK9:=hid hK;have HZZ:=hid hz;have HDD:Hid (w4.heap.size≤D):=hid hD;clear hc hS hI hK hD hz
  gi_wp2
  go_wp2_with fail
  refine HC.out.mono ?_;rintro e V6 ⟨rfl,ht6⟩;have hK6:V6.heap[D]?=some (.deferred (some [])):=(ht6.block D (Array.getElem?_eq_some_iff.1 HK9.out).1 (fun e=>by
   obtain⟨-,o,h3,h4⟩:=HSS.out D e;rw[HK9.out]at h3;cases h3
   cases h4)).trans HK9.out
  have HK6:=hid hK6;have HG6:Hid (w.grownBy V6 none):=hid ⟨ht6.os.trans HI9.out.gr.os,ht6.tape.trans HI9.out.gr.tape,ht6.output.trans HI9.out.gr.output,Nat.le_trans HI9.out.gr.size ht6.size,fun i hi _=>(ht6.block i (Nat.lt_of_lt_of_le hi HI9.out.gr.size) (fun e=>by have h3:=(HSS.out i e).1;have:=HZZ.out;have:=HZ4.out;have:=HBB.out;omega)).trans (HI9.out.gr.block i hi (by simp))⟩;clear hK6 ht6 HC e1;dsimp only;go_wp2;rw[Exit.noGoto_ret];refine⟨by simp,.inl ⟨_,_,rfl,run_takeDeferred HK6.out,?_⟩⟩;refine⟨.tuple #[.string (strOfNums l),.int .i64 0],?_,rfl,?_⟩
  ·simp[results,Tryz.f12,go_sem]
  ·exact Qbm HG6.out HK6.out (by have:=HDD.out;have:=HZ4.out;have:=HBB.out;omega)
 case stop=>exact fun _ _ _ _ hs _=>hs.elim
end
end Bl
namespace Bl
open Go.RowKit Go.Shelf Bs Dv Gr
open Sp Tr
open Cf (FeedsZ NcT QI)
attribute [local go_sem] Oper.semAt_some
section
variable {w0 w1 w W : World} {sg g : Nat} {A : Nat → Prop} {s : SpS} {R n : Nat} {own hown mown ks : List Nat} {T : Nat} {l : List Int}
theorem gr_nc{w V V':World}{B:Nat}(h:w.grownBy V none)(k:Turn V V' (NcT B V))(hB:w.heap.size≤B):w.grownBy V' none:=
 ⟨k.os.trans h.os,k.tape.trans h.tape,k.output.trans h.output,Nat.le_trans h.size k.size,fun i hi _=>(k.block i (Nat.lt_of_lt_of_le hi h.size) (fun e=>by have:=e.1;omega)).trans (h.block i hi (by simp))⟩
theorem nc_of{X Y:World}{row:Option Nat}{B:Nat}(hg:X.grownBy Y row)(hr:∀r,row=some r→B≤r∧∃o:Obj,X.heap[r]?=some o∧o.isCells=false):Turn X Y (NcT B X):=Turn.Qf hg (fun i e _=>hr i e)
theorem QQ{V V':World}{B b:Nat}{t:TypeId}{v:Value}(h:Boxed V b t v)(k:Turn V V' (NcT B V)):Boxed V' b t v:=
 Qk h k (fun e=>by
  obtain⟨-,o,h1,h2⟩:=e;have h3:V.heap[b]?=some (.cells #[v] t (0,0)):=h;rw[h3]at h1;cases h1
  cases h2)
theorem QhJ(h:Sh w1 w sg g A s)(hk:SpOk s own hown mown T)(hR:roomP s.dv.size 0=(R:Int))(h1:0<R∧R≤4096)(hn:n<4294967296){E:Int}(hE:openP R s n=(E,0,[]))(hE0:E≠0) :
  Calls Tryz.prog 12 #[.pointer (some ⟨sg,0,none⟩),.int .u32 (n:Int)] w fun e w'=>e=.returned (.tuple #[.string ⟨#[]⟩,.int .i64 E])∧w.grownBy w' none:=by
 obtain⟨b,hbb⟩:∃b,w.heap.size=b:=⟨_,rfl⟩;obtain⟨W2,hW2⟩:∃X,(w.alloc (.cells #[.pointer none,.slice none 0 0] 75)).alloc (.cells #[.int .i64 0] 31)=X:=⟨_,rfl⟩;have hg2:w.grownBy W2 none:=by rw[←hW2];exact Qa (Qb _ _) (Qb _ _)
 have hz2:W2.heap.size=b+2:=by rw[←hW2,←hbb];simp[World.size_alloc]
 have hen2:Boxed W2 (b+1) 31 (.int .i64 0):=by
  have h5:=Boxed.new (w.alloc (.cells #[.pointer none,.slice none 0 0] 75)) 31 (.int .i64 0);rw[World.size_alloc,hW2,hbb]at h5;exact h5
 have hPM:=Qd4 sg n W2;obtain⟨W4,hW4⟩:∃X,(W2.alloc (.cells #[.pointer (some ⟨sg,0,none⟩)] 24)).alloc (.cells #[.int .u32 (n:Int)] 30)=X:=⟨_,rfl⟩;rw[hW4,hz2,show b+2+1=b+3 from rfl]at hPM;have HPM:=hid hPM;have hg4:W2.grownBy W4 none:=by rw[←hW4];exact Qa (Qb _ _) (Qb _ _)
 have hz4:W4.heap.size=b+4:=by rw[←hW4];simp[World.size_alloc,hz2]
 have hx4:Boxed W4 (b+2) 24 (.pointer (some ⟨sg,0,none⟩)):=by rw[←hW4,←hz2];exact(Boxed.new _ _ _).alloc _
 have hy4:Boxed W4 (b+3) 30 (.int .u32 (n:Int)):=by
  have:=Boxed.new (W2.alloc (.cells #[.pointer (some ⟨sg,0,none⟩)] 24)) 30 (.int .u32 (n:Int));rw[World.size_alloc,hW4,hz2]at this;exact this
 have hen4:=Qd hen2 hg4;have HPF:=hid (Qcu 2 (by decide) (fun i=>i=b+1) (b+2) (b+3) h hk hR h1 (.inr ⟨E,hE,hE0,hn,rfl,rfl⟩) (Qa hg2 hg4) (fun i e=>⟨by omega,by omega⟩) (by omega) hx4 hy4);have HI4:Hid (∀_:Nat,w.grownBy W4 none∧Boxed W4 (b+1) 31 (.int .i64 0)):=hid (fun _=>⟨Qa hg2 hg4,hen4⟩);have HZ4:=hid hz4;have HBB:=hid hbb;have HW2:=hid hW2;have q0:(E==0)=false:=beq_eq_false_iff_ne.2 hE0;have q1:(E != 0)=true:=bne_iff_ne.2 hE0;clear hg2 hz2 hen2 hPM hg4 hz4 hx4 hy4 hen4 h hk hR h1 hE hE0 hn hW2;clear hW4;refine(callsIn_wide (n:=3)).1 ?_;refine callsIn_of_wp_marks Tryz.func12 rfl trivial ?_ rfl;simp only[Tryz.ntmps12,List.size_toArray,List.length_cons,List.length_nil,Nat.reduceAdd,Nat.reduceSub,Array.replicate_succ,Array.replicate_zero,List.push_toArray,List.append_toArray,List.nil_append,List.cons_append];refine wpIn_wide.2 ?_;go_wp2_with fail
 go_step3
 go_wp2_with fail
 go_step3
 go_wp2_with fail
 rw[HW2.out];refine HPM.out.mono ?_;rintro e w4 ⟨rfl,rfl⟩;clear HPM HW2;go_wp2_with fail
 refine(wpIn_wide (n:=3)).1 ?_;refine QI (T:=NcT) rfl (by decide) (gf:=77) (first:=#[]) (lb:=#[.pointer (some ⟨b+2,0,none⟩),.pointer (some ⟨b+3,0,none⟩)]) rfl trivial (enters_of Tryz.func77 (by kernel_rfl) rfl)
  (fun _ _ _ e=>e.1) HPF.out (Below.refl _ _) (fun h k=>KpZ.t h k) (fun z V i o o' q1 q2 q3 q4=>KpZ.put V i o o' ⟨by have:=HZ4.out;have:=HBB.out;omega,q2⟩ q3 q4) (fun k=>rfl)
  (fun q V=>q.1=0∧w.grownBy V none∧Boxed V (b+1) 31 (.int .i64 0)) (fun c V=>c=.exit 0∧w.grownBy V none∧Boxed V (b+1) 31 (.int .i64 E))
  (fun q X Y row hI hg hr=>⟨hI.1,gr_nc hI.2.1 (nc_of hg hr) (by have:=HZ4.out;have:=HBB.out;omega),QQ hI.2.2 (nc_of hg hr)⟩)
  (fun q X Y _ hI ht=>⟨hI.1,gr_nc hI.2.1 ht (by have:=HZ4.out;have:=HBB.out;omega),QQ hI.2.2 ht⟩)
  (fun c q X Y row hI hg hr=>⟨hI.1,gr_nc hI.2.1 (nc_of hg hr) (by have:=HZ4.out;have:=HBB.out;omega),QQ hI.2.2 (nc_of hg hr)⟩)
  (fun c X Y _ hI ht=>⟨hI.1,gr_nc hI.2.1 ht (by have:=HZ4.out;have:=HBB.out;omega),QQ hI.2.2 ht⟩) (fun Z=>⟨rfl,HI4.out Z⟩)
  (fun k=>{ tmps:=#[.pointer (some ⟨sg,0,none⟩),.int .u32 (n:Int),undef,undef,.string ⟨#[]⟩,.int .i64 0,.pointer (some ⟨b,0,none⟩),.pointer (some ⟨b+1,0,none⟩),.string ⟨#[]⟩,.int .i64 E,.pointer (some ⟨sg,0,none⟩),.int .u32 (n:Int),.func (.func 77) #[] #[.pointer (some ⟨b+2,0,none⟩),.pointer (some ⟨b+3,0,none⟩)],.string ⟨#[]⟩,.int .i64 E,undef,undef,undef,undef,undef,undef,undef,undef,undef,undef],defers:=[] }) ?assign ?body ?done ?stop
 case assign=>
  intro y k V K2 hK;unfold encE;have HK2:=hid hK;clear hK
  gi_wp2
  exact HK2.out
 case body=>
  rintro y k Z V hk hz1 hz2 hI;have HI:=hid hI;have f1:=hI.2.2.frozen;have e1:=hI.2.2.cell;have HS:=hid (hI.2.2.set (.int .i64 E));have HT:Hid (Turn V (V.setCell ⟨b+1,0,none⟩ (.int .i64 E)) (fun i=>i=b+1)):=hid (Turn.setCell V ⟨b+1,0,none⟩ _ rfl);clear hI hz1 hz2 hk
  gi_wp2
  refine⟨⟨HT.out.size,fun i o hi h1 h2=>(HT.out.block i (Array.getElem?_eq_some_iff.1 h1).1 (fun e=>by have:=HZ4.out;omega)).trans h1⟩,KpZ.of HT.out (fun i _ e=>by have e:i=b+1:=e;subst e;exact⟨.inl rfl,_,HI.out.2.2,rfl⟩),rfl,?_,HS.out⟩;have hg:=HI.out.2.1;have t:=HT.out;exact⟨t.os.trans hg.os,t.tape.trans hg.tape,t.output.trans hg.output,Nat.le_trans hg.size t.size,fun i hi _=>(t.block i (Nat.lt_of_lt_of_le hi hg.size) (fun e=>by have:=HBB.out;omega)).trans (hg.block i hi (by simp))⟩
 case done=>
  rintro D Z V hD hz hI hK;exact absurd hI.1 (Nat.succ_ne_zero 0)
 case stop=>
  rintro D c V hD ⟨rfl,hg,hen⟩ hK;have e1:=hen.cell;have HK9:=hid hK;have HG9:=hid hg;have HEN:=hid hen;have HDD:Hid (w4.heap.size≤D):=hid hD;clear hg hen hK hD
  gi_wp2
  go_wp2_with fail
  go_upto_region 11 with fail
  go_quiet (fail)
  obtain⟨V6,hV6⟩:∃X,V.drewN nq=X:=⟨_,rfl⟩;have HK6:=hid ((Turn.drewN V nq nowhere).block D (Array.getElem?_eq_some_iff.1 HK9.out).1 id |>.trans HK9.out);have HG6:=hid (Qa HG9.out (Turn.drewN V nq nowhere).grown);rw[hV6]at HK6 HG6 ⊢;clear hV6 e1;go_wp2;rw[Exit.noGoto_ret];refine⟨by simp,.inl ⟨_,_,rfl,run_takeDeferred HK6.out,?_⟩⟩;refine⟨.tuple #[.string ⟨#[]⟩,.int .i64 E],?_,rfl,?_⟩
  ·simp[results,Tryz.f12,go_sem]
  ·exact Qbm HG6.out HK6.out (by have:=HDD.out;have:=HZ4.out;have:=HBB.out;omega)
theorem QhK(h:Sh w1 w sg g A s)(hk:SpOk s own hown mown T)(hR:roomP s.dv.size 0=(R:Int))(h1:0<R∧R≤4096)(hn:n<4294967296){z E:Int}{l':List Int}(hE:openP R s n=(E,z,l')) :
  Calls Tryz.prog 13 #[.pointer (some ⟨sg,0,none⟩),.int .u32 (n:Int)] w fun e w'=>e=.returned (.tuple #[.int .i64 z,.int .i64 E])∧w.grownBy w' none:=by
 have HOP:=hid (open_any h hk hR h1 n hn);rw[hE]at HOP;clear h hk hR h1 hn hE;go_enter Tryz.func13,Tryz.ntmps13
 go_wp2_with fail
 refine HOP.out.mono ?_;rintro e w2 ⟨hg2,a,c,rfl,hseg,hnew⟩;dsimp only;obtain⟨k,hk⟩:∃k,l'.length=k:=⟨_,rfl⟩;rw[hk];have HG3:=hid (Qa hg2 (Qb w2 (.cells #[.int .i64 z,.slice a k c] 85)));clear hg2 hseg hnew HOP hk;go_wp2;go_ret2
 exact⟨rfl,HG3.out⟩
end
attribute [local go_sem] Oper.semAt_some
def encQ(R:Nat)(l:List Int)(k:Nat):Array Value:=#[.string (strOfNums (cutB R k l))]
section
variable {w0 w1 w W : World} {sg g : Nat} {A : Nat → Prop} {s : SpS} {R n : Nat} {own hown mown ks : List Nat} {T : Nat} {l : List Int}
theorem QcV{B B':Nat}{V:World}{i:Nat}(h:NcT B' V i)(hB:B≤B'):NcT B V i:=⟨Nat.le_trans hB h.1,h.2⟩
structure PqI (J:Nat→Nat→World→Prop) (y bt:Nat) (q:Nat×Nat) (V:World):Prop where
 j:J q.1 q.2 V
 yb:Boxed V bt 118 (.func (.yield y) #[] #[])
theorem Qjq(m:Nat)(_:3≤m)(y:Nat)(S:Nat→Prop)(bs bn:Nat)(h:Sh w1 w0 sg g A s)(hk:SpOk s own hown mown T)(hR:roomP s.dv.size 0=(R:Int))(h1:0<R∧R≤4096)(hb:BlobAt (lp s) R n l ks)(hlen:l.length≤65536)(hl:Bs.IsB l)(K:Nat)(hK:nP l.length R=K)
  (hg0:w0.grownBy W none) (hS:∀i,S i→w0.heap.size≤i∧i<W.heap.size) (hbs:Boxed W bs 24 (.pointer (some ⟨sg,0,none⟩))) (hbn:Boxed W bn 30 (.int .u32 (n:Int)))
  (J:Nat→Nat→World→Prop) (Jx:World→Prop) (hJ:∀k Z X Y,J k Z X→Turn X Y (NcT W.heap.size X)→J k Z Y) (hJx:∀X Y,Jx X→Turn X Y (NcT W.heap.size X)→Jx Y)
  (hY:∀k Z W1,k<K→W.heap.size≤Z→Z≤W1.heap.size→J k Z W1→YieldAt Fence.wide (m-1) Tryz.prog y (encQ R l k) W1 fun x W'=>(x=.returned (.bool true)∧J (k+1) Z W'∧KpZ S w0.heap.size W.heap.size Z W1 W')∨(x=.returned (.bool false)∧Jx W'∧KpZ S w0.heap.size W.heap.size Z W1 W')) (h0:∀Z,J 0 Z W) :
  CallsIn Fence.wide m Tryz.prog 67 #[.func (.yield y) #[] #[],.pointer (some ⟨bs,0,none⟩),.pointer (some ⟨bn,0,none⟩)] W fun e W'=>(∃z,e=.returned z)∧((∃Z,W.heap.size≤Z∧J K Z W')∨Jx W'):=by
 obtain⟨b,hbb⟩:∃b,W.heap.size=b:=⟨_,rfl⟩;obtain⟨W2,hW2⟩:∃X,W.alloc (.cells #[.func (.yield y) #[] #[]] 118)=X:=⟨_,rfl⟩;have hg2:W.grownBy W2 none:=by rw[←hW2];exact Qb _ _
 have hz2:W2.heap.size=b+1:=by rw[←hW2,←hbb];simp[World.size_alloc]
 have hyb2:Boxed W2 b 118 (.func (.yield y) #[] #[]):=by rw[←hW2,←hbb];exact Boxed.new _ _ _
 have hPM:=Qd4 sg n W2;obtain⟨W4,hW4⟩:∃X,(W2.alloc (.cells #[.pointer (some ⟨sg,0,none⟩)] 24)).alloc (.cells #[.int .u32 (n:Int)] 30)=X:=⟨_,rfl⟩;rw[hW4,hz2,show b+1+1=b+2 from rfl]at hPM;have HPM:=hid hPM;have hg4:W2.grownBy W4 none:=by rw[←hW4];exact Qa (Qb _ _) (Qb _ _)
 have hz4:W4.heap.size=b+3:=by rw[←hW4];simp[World.size_alloc,hz2]
 have hx4:Boxed W4 (b+1) 24 (.pointer (some ⟨sg,0,none⟩)):=by rw[←hW4,←hz2];exact(Boxed.new _ _ _).alloc _
 have hy4:Boxed W4 (b+2) 30 (.int .u32 (n:Int)):=by
  have:=Boxed.new (W2.alloc (.cells #[.pointer (some ⟨sg,0,none⟩)] 24)) 30 (.int .u32 (n:Int));rw[World.size_alloc,hW4,hz2]at this;exact this
 have hS4:∀i,S i→w0.heap.size≤i∧i<W4.heap.size:=fun i e=>⟨(hS i e).1,by have:=(hS i e).2;omega⟩
 have HPF:=hid (Qcu 2 (by decide) S (b+1) (b+2) h hk hR h1 (.inl ⟨l,ks,hb,hlen,hl,rfl,hK.symm⟩) (Qa hg0 (Qa hg2 hg4)) hS4 (fun e=>by have:=(hS _ e).2;omega) hx4 hy4);have HI4:Hid (∀Z:Nat,J 0 Z W4∧Boxed W4 b 118 (.func (.yield y) #[] #[])):=hid (fun Z=>⟨hJ _ _ _ _ (h0 Z) (Turn.Qf (Qa hg2 hg4) (fun _ e=>by cases e)),Qd hyb2 hg4⟩);have HZ4:=hid hz4;have HBB:=hid hbb;have HW2:=hid hW2;have HJ:=hid hJ;have HJX:=hid hJx;have HY:=hid hY;have HSS:=hid hS;have HG0:Hid (w0.heap.size≤W.heap.size):=hid hg0.size;have cs:=(Boxed.cell (Qd hbs hg2));have cn:=(Boxed.cell (Qd hbn hg2));clear hg2 hz2 hPM hg4 hz4 hx4 hy4 h hk hR h1 hb hlen hl hK hW2 hg0 hS hbs hbn hJ hJx hY h0 hS4 hyb2;clear hW4;refine callsIn_wide.2 ?_;refine(callsIn_wide (n:=3)).1 ?_;refine callsIn_of_wp_marks Tryz.func67 rfl trivial ?_ rfl;simp only[Tryz.ntmps67,List.size_toArray,List.length_cons,List.length_nil,Nat.reduceAdd,Nat.reduceSub,Array.replicate_succ,Array.replicate_zero,List.push_toArray,List.append_toArray,List.nil_append,List.cons_append];refine wpIn_wide.2 ?_;go_upto_region 1 with fail
 rw[HW2.out];go_wp2_with fail
 refine HPM.out.mono ?_;rintro e w4 ⟨rfl,rfl⟩;clear HPM HW2 cs cn;go_wp2_with fail
 refine(wpIn_wide (n:=3)).1 ?_;refine QI (T:=NcT) rfl (by decide) (gf:=77) (first:=#[]) (lb:=#[.pointer (some ⟨b+1,0,none⟩),.pointer (some ⟨b+2,0,none⟩)]) rfl trivial (enters_of Tryz.func77 (by kernel_rfl) rfl)
  (fun _ _ _ e=>e.1) HPF.out (Below.refl _ _) (fun h k=>KpZ.t h k) (fun z V i o o' q1 q2 q3 q4=>KpZ.put V i o o' ⟨by have:=HZ4.out;have:=HBB.out;have:=HG0.out;omega,q2⟩ q3 q4) (fun k=>rfl)
  (PqI J y b) (fun c V=>c=.ret∧Jx V)
  (fun q X Y row hI hg hr=>⟨HJ.out _ _ _ _ hI.j ((nc_of hg hr).mono (fun i _ e=>QcV e (by have:=HZ4.out;have:=HBB.out;omega))),QQ hI.yb (nc_of hg hr)⟩)
  (fun q X Y _ hI ht=>⟨HJ.out _ _ _ _ hI.j (ht.mono (fun i _ e=>QcV e (by have:=HZ4.out;have:=HBB.out;omega))),QQ hI.yb ht⟩)
  (fun c q X Y row hI hg hr=>⟨hI.1,HJX.out _ _ hI.2 ((nc_of hg hr).mono (fun i _ e=>QcV e (by have:=HZ4.out;have:=HBB.out;omega)))⟩)
  (fun c X Y _ hI ht=>⟨hI.1,HJX.out _ _ hI.2 (ht.mono (fun i _ e=>QcV e (by have:=HZ4.out;have:=HBB.out;omega)))⟩) (fun Z=>⟨(HI4.out Z).1,(HI4.out Z).2⟩)
  (fun k=>{ tmps:=#[.func (.yield y) #[] #[],.pointer (some ⟨bs,0,none⟩),.pointer (some ⟨bn,0,none⟩),.pointer (some ⟨b,0,none⟩),.string (strOfNums (cutB R k l)),.int .i64 0,.pointer (some ⟨sg,0,none⟩),.int .u32 (n:Int),.func (.func 77) #[] #[.pointer (some ⟨b+1,0,none⟩),.pointer (some ⟨b+2,0,none⟩)],.string (strOfNums (cutB R k l)),.int .i64 0,undef,undef,undef,undef,undef,undef,undef,undef],defers:=[] }) ?assign ?body ?done ?stop
 case assign=>
  intro y k V K2 hK;unfold encC;obtain⟨PS,hPS⟩:∃PS,strOfNums (cutB R k l)=PS:=⟨_,rfl⟩;rw[hPS]at hK ⊢;have HK2:=hid hK;clear hK hPS
  gi_wp2
  exact HK2.out
 case body=>
  rintro yy k Z V hk hz1 hz2 hI;have e1:=hI.yb.cell;obtain⟨fn,tmps,assign,body,hy,hR⟩:=HY.out k Z V hk (by have:=HZ4.out;have:=HBB.out;omega) hz2 hI.j;unfold encQ at hy;obtain⟨PS,hPS⟩:∃PS,strOfNums (cutB R k l)=PS:=⟨_,rfl⟩;rw[hPS]at hy ⊢;have HI:=hid hI;have HBZ:Hid (b<Z):=hid (by have:=HZ4.out;omega);clear hPS hI hz1 hz2 hk
  gi_wp2
  refine(QgC hR).mono ?_;rintro e V5 (⟨rfl,hJ5,hk5⟩|⟨rfl,hJx,hk5⟩)
  ·have HJ5:=hid hJ5;have HK5:=hid hk5;clear hJ5 hk5 hR hy e1
   gi_wp2
   exact⟨HK5.out.keeps (by have:=HZ4.out;have:=HBB.out;omega),HK5.out.mono (fun _ e=>e) (by have:=HZ4.out;have:=HBB.out;omega),HJ5.out,HK5.out.cells HI.out.yb rfl (fun e=>by have:=(HSS.out _ e).2;have:=HBB.out;omega) HBZ.out⟩
  ·have HJX5:=hid hJx;have HK5:=hid hk5;clear hJx hk5 hR hy e1
   gi_wp2
   exact⟨HK5.out.keeps (by have:=HZ4.out;have:=HBB.out;omega),HK5.out.mono (fun _ e=>e) (by have:=HZ4.out;have:=HBB.out;omega),rfl,HJX5.out⟩
 case done=>
  rintro D Z V hD hz hI hK;have hf:=HJ.out _ _ _ _ hI.j (Turn.Qf (grownBy_putObj' V D (.deferred none)) (fun i e _=>by cases e;exact⟨by have:=HZ4.out;have:=HBB.out;omega,_,hK,rfl⟩));have HF:=hid hf;have HK9:=hid hK;have HWZ:Hid (W.heap.size≤Z):=hid (by have:=HZ4.out;have:=HBB.out;omega);clear hf hI hK hz hD
  gi_wp2
  go_wp2;refine⟨by simp,.inl ⟨_,_,rfl,run_takeDeferred HK9.out,?_⟩⟩;exact⟨_,results_none rfl _ _ _,⟨_,rfl⟩,.inl ⟨Z,by have:=HWZ.out;have:=HBB.out;omega,HF.out⟩⟩
 case stop=>
  rintro D c V hD ⟨rfl,hj⟩ hK;have hf:=HJX.out _ _ hj (Turn.Qf (grownBy_putObj' V D (.deferred none)) (fun i e _=>by cases e;exact⟨by have:=HZ4.out;have:=HBB.out;omega,_,hK,rfl⟩));have HF:=hid hf;have HK9:=hid hK;clear hf hj hK hD
  gi_wp2
  go_wp2;refine⟨by simp,.inl ⟨_,_,rfl,run_takeDeferred HK9.out,?_⟩⟩;exact⟨_,results_none rfl _ _ _,⟨_,rfl⟩,.inr HF.out⟩
theorem Qdk(m:Nat)(hm:3≤m)(S:Nat→Prop)(bs bn:Nat)(h:Sh w1 w0 sg g A s)(hk:SpOk s own hown mown T)(hR:roomP s.dv.size 0=(R:Int))(h1:0<R∧R≤4096)(hb:BlobAt (lp s) R n l ks)(hlen:l.length≤65536)(hl:Bs.IsB l)(K:Nat)(hK:nP l.length R=K)
  (hg0:w0.grownBy w none) (hS:∀i,S i→w0.heap.size≤i∧i<w.heap.size) (hbs:Boxed w bs 24 (.pointer (some ⟨sg,0,none⟩))) (hbn:Boxed w bn 30 (.int .u32 (n:Int))) :
  FeedsZ Fence.wide m Tryz.prog 67 #[] #[.pointer (some ⟨bs,0,none⟩),.pointer (some ⟨bn,0,none⟩)] (encQ R l) K (KpZ S w0.heap.size) NcT w:=
 fun y J Jx W hW hJ hJx hY h0=>by
  have hg:=Sp.below_grown hW;exact Qjq m hm y S bs bn h hk hR h1 hb hlen hl K hK (Qa hg0 hg) (fun i e=>⟨(hS i e).1,Nat.lt_of_lt_of_le (hS i e).2 hg.size⟩) (Qd hbs hg) (Qd hbn hg) J Jx hJ hJx hY h0
end
end Bl
namespace Bl
open Go.RowKit Bs Dv Gr
open Sp Tr
open Cn (CN CC CnOk IsC)
open Su (Sup SupOk T4 GeoOk supE)
def Made15(w0 w:World)(size n:Nat)(e:Ending)(w':World):Prop:=(supE (firstS size n)=0∧∃x:Nm,e=.returned (.tuple #[.pointer (some ⟨x.g,0,none⟩),.pointer (some ⟨x.sg,0,none⟩)])∧SpM w0 w' x (firstP size n)∧w.grownBy w' none∧∀k,x.fp k→w.heap.size≤k)∨(supE (firstS size n)≠0∧∃v,e=.returned (.tuple #[v,.pointer none])∧w.grownBy w' none)
theorem Qes(w0 w:World)(size n:Nat)(hw:w0.grownBy w none)(hg:GeoOk size n)(hT4:T4 w0) :
  Calls Tryz.prog 9 #[.agg #[.int .i64 (size:Int),.int .i64 (n:Int)]] w (Made15 w0 w size n):=by
 have hg0:=Qb w (.cells #[.int .i64 (size:Int),.int .i64 (n:Int)] 28);obtain⟨W0,hW0⟩:∃X,w.alloc (.cells #[.int .i64 (size:Int),.int .i64 (n:Int)] 28)=X:=⟨_,rfl⟩;have hb0:=heap_alloc_new w (.cells #[.int .i64 (size:Int),.int .i64 (n:Int)] 28);rw[hW0]at hg0 hb0;have HW0:=hid hW0;have HG0:=hid hg0;have b0:W0.cell? ⟨w.heap.size,0,none⟩=some (.int .i64 (size:Int)):=by rw[cell_of_row _ _ _ _ _ _ hb0];rfl
 have b1:W0.cell? ⟨w.heap.size,1,none⟩=some (.int .i64 (n:Int)):=by rw[cell_of_row _ _ _ _ _ _ hb0];rfl
 have HN:=hid (Qdy size n W0 (decide_eq_true hg));have HGE:=hid hg;have HT4:=hid hT4;have HWG:=hid hw;clear hg0 hb0 hW0 hg hT4 hw;go_enter Tryz.func9,Tryz.ntmps9
 go_upto_region 1 with fail
 rw[HW0.out];go_wp2_with fail
 refine HN.out.mono ?_;rintro e w1 ⟨g,b,rfl,hd,hgl,hbl,ht1⟩;have hfp:∀k,Dv.fp g b (.slice none 0 0) k→k=g∨k=b:=fun k hk=>by
  unfold Dv.fp at hk;rcases hk with e|e|e
  ·exact .inl e
  ·exact .inr e
  ·exact nomatch e
 have HFP:Hid (∀k,Dv.fp g b (.slice none 0 0) k→W0.heap.size≤k):=hid (fun k hk=>by
  rcases hfp k hk with e|e
  ·omega
  ·omega)
 have HD1:Hid (Held w0 w1 g b (.slice none 0 0) (St.fresh size n (zeros size n))):=hid ⟨hd,(fun k hk=>by have h1:=HWG.out.size;have h2:=HG0.out.size;have h3:=HFP.out k hk;omega),Qc (Qa HWG.out (Qa HG0.out ht1.grown))⟩;have HG1:=hid (Qa HG0.out ht1.grown);have HFP2:Hid (∀k,Dv.fp g b (.slice none 0 0) k→w.heap.size≤k):=hid (fun k hk=>by have h2:=HG0.out.size;have h3:=HFP.out k hk;omega);have HF:=hid (Qh0 w0 w1 g b (.slice none 0 0) size n HD1.out HGE.out HT4.out);clear hd hgl hbl ht1 b0 b1 HN hfp;dsimp only;go_upto_region 2 with fail
 go_wp2_with fail
 refine HF.out.mono ?_;rintro e w2 (⟨hE,x,rfl,hxg,hm,ht,hf⟩|⟨hE,rfl,hg2⟩)
 rotate_left
 ·have HX:=hid (Qa HG1.out hg2);have HNE:=hid hE;obtain⟨E,hEE⟩:∃E,supE (firstS size n)=E:=⟨_,rfl⟩;rw[hEE]at hE ⊢;have q0:(E != 0)=true:=bne_iff_ne.2 hE;clear hg2 hE hEE;dsimp only;go_wp2;go_ret2
  exact .inr ⟨HNE.out,_,rfl,HX.out⟩
 have HX:Hid (Made15 w0 w size n (.returned (.tuple #[.pointer (some ⟨g,0,none⟩),.pointer (some ⟨x.sg,0,none⟩)])) w2):=hid (by
  refine .inl ⟨hE,x,by rw[hxg],hm,Qao HG1.out ht (fun k hk=>HFP2.out k hk),fun k hk=>(hf k hk).elim (HFP2.out k) (fun z=>by have:=HG1.out.size;omega)⟩)
 clear hE;clear hxg hm ht hf;dsimp only;go_wp2;go_ret2
 exact HX.out
theorem Qjc(size n:Int)(w:World)(h:¬GeoOk size n) :
  Calls Tryz.prog 9 #[.agg #[.int .i64 size,.int .i64 n]] w fun e w'=>e=.returned (.tuple #[.pointer none,.pointer none])∧w.grownBy w' none:=by
 have hg0:=Qb w (.cells #[.int .i64 size,.int .i64 n] 28);have hb0:=heap_alloc_new w (.cells #[.int .i64 size,.int .i64 n] 28);obtain⟨W0,hW0⟩:∃X,w.alloc (.cells #[.int .i64 size,.int .i64 n] 28)=X:=⟨_,rfl⟩;rw[hW0]at hg0 hb0;have HW0:=hid hW0;have HG0:=hid hg0;have b0:W0.cell? ⟨w.heap.size,0,none⟩=some (.int .i64 size):=by rw[cell_of_row _ _ _ _ _ _ hb0];rfl
 have b1:W0.cell? ⟨w.heap.size,1,none⟩=some (.int .i64 n):=by rw[cell_of_row _ _ _ _ _ _ hb0];rfl
 have HN:=hid (Qgm size n W0 (decide_eq_false h));have HF:=hid Qh1;clear hg0 hb0 hW0 h;go_enter Tryz.func9,Tryz.ntmps9
 go_upto_region 1 with fail
 rw[HW0.out];go_wp2_with fail
 refine HN.out.mono ?_;rintro e w1 ⟨rfl,ht1⟩;have HG1:=hid (Qa HG0.out ht1.grown);clear ht1 b0 b1 HN;dsimp only;go_upto_region 2 with fail
 go_wp2_with fail
 refine(HF.out w1).mono ?_;rintro e w2 ⟨rfl,hg2⟩;dsimp only;go_wp2;go_ret2
 exact⟨rfl,Qa HG1.out hg2⟩
def MkX(w0 w:World)(size blocks:Int)(e:Ending)(w':World):Prop:=
 w.grownBy w' none∧((∃(Z K sg g:Nat),size=Z∧blocks=K∧GeoOk Z K∧supE (firstS Z K)=0∧e=.returned (.tuple #[.pointer (some ⟨g,0,none⟩),.pointer (some ⟨sg,0,none⟩)])∧Sh w0 w' sg g (fun i=>i<w.heap.size) (firstP Z K)) ∨
  ∃v,e=.returned (.tuple #[v,.pointer none])∧¬(GeoOk size blocks∧∀Z K:Nat,size=Z→blocks=K→supE (firstS Z K)=0))
theorem Qje(w0 w:World)(size blocks:Int)(hw:w0.grownBy w none)(hT4:T4 w0) :
  Calls Tryz.prog 9 #[.agg #[.int .i64 size,.int .i64 blocks]] w (MkX w0 w size blocks):=by
 by_cases hok:GeoOk size blocks
 ·obtain⟨K,rfl⟩:∃K:Nat,blocks=K:=Int.eq_ofNat_of_zero_le (by unfold GeoOk at hok;omega);obtain⟨Z,rfl⟩:∃Z:Nat,size=Z:=Int.eq_ofNat_of_zero_le (by unfold GeoOk at hok;omega);by_cases hE:supE (firstS Z K)=0
  ·refine(Qes w0 w Z K hw hok hT4).mono ?_;rintro e w' (⟨hE,x,e1,hm,hg,hf⟩|⟨q,-⟩)
   ·exact⟨hg,.inl ⟨Z,K,x.sg,x.g,rfl,rfl,hok,hE,e1,⟨x,rfl,rfl,hm,fun i hi=>⟨Nat.lt_of_lt_of_le hi hg.size,fun q=>by have:=hf i q;omega⟩⟩⟩⟩
   ·exact absurd hE q
  ·refine(Qes w0 w Z K hw hok hT4).mono ?_;rintro e w' (⟨hE2,-⟩|⟨-,v,e1,hg⟩)
   ·exact absurd hE2 hE
   ·exact⟨hg,.inr ⟨v,e1,fun q=>hE (q.2 Z K rfl rfl)⟩⟩
 ·refine(Qjc size blocks w hok).mono ?_;rintro e w' ⟨e1,hg⟩;exact⟨hg,.inr ⟨_,e1,fun q=>hok q.1⟩⟩
end Bl
namespace Bl
open Go.RowKit Bs Dv Gr
open Sp Tr
open Su (Sup SupOk T4 GeoOk supE)
theorem Qh5:(Tryz.prog.info? 28).map (·.size)=some 2:=by kernel_rfl
theorem QbG(w:World):Calls Tryz.prog 10 #[] w fun e w'=>e=.returned (.agg #[.int .i64 128,.int .i64 40])∧w.grownBy w' none:=by
 have HG:=hid (Qb w (.cells #[.int .i64 128,.int .i64 40] 28));have HB:=hid (heap_alloc_new w (.cells #[.int .i64 128,.int .i64 40] 28));obtain⟨W,hW⟩:∃X,w.alloc (.cells #[.int .i64 128,.int .i64 40] 28)=X:=⟨_,rfl⟩;rw[hW]at HG HB;have HW:=hid hW;clear hW;go_enter Tryz.func10,Tryz.ntmps10
 go_wp2;rw[HW.out];refine bodyPost_ret (v:=.agg #[.int .i64 128,.int .i64 40]) ?_ rfl ⟨rfl,HG.out⟩;exact results_cell_row rfl _ _ w.heap.size _ _ _ _ rfl HB.out Tryz.underlying28 rfl Qh5
theorem Qbd:GeoOk (128:Nat) (40:Nat):=by decide
theorem Qcp:supE (firstS 128 40)=0:=QgX Qbd (by decide)
theorem QcW:SpOk (firstP 128 40) [] [] [] 0:=QfV (size:=128) (n:=40) Qbd Qcp
theorem QbM{Z K:Nat}(h:GeoOk Z K)(hE:supE (firstS Z K)=0):(firstP Z K).dv.size=Z∧(firstP Z K).dv.blocks=K:=by
 obtain⟨a,b,-,-⟩:=Qda h hE;exact⟨a,b⟩
theorem QhX{Z K:Nat}(h:GeoOk Z K)(hE:supE (firstS Z K)=0):roomP (firstP Z K).dv.size 0=((Z-18:Nat):Int):=by
 have h1:=QK h;rw[(QbM h hE).1];unfold roomP;rw[Qdm (by omega),if_neg (by omega)];omega
theorem QbR:(firstP 128 40).dv.size=128∧(firstP 128 40).dv.blocks=40:=QbM Qbd Qcp
theorem QdI:(firstP 128 40).sup.pages.length=1:=by
 have h1:=QcW.valid.2.2.2.1;have h2:=QcW.kept.size;have h3:=QcW.kept.blocks;rw[h2,h3,QbR.1,QbR.2]at h1;have h4:Su.pagesF (128:Nat) (40:Nat)=1:=by
  unfold Su.pagesF;rw[if_pos Qbd];have h5:=Qdm (size:=128) (by omega);rw[h5];omega
 omega
theorem Qg0:(frees (firstP 128 40)).length=37:=by
 have h1:=Qfn QcW rfl;rw[QdI,QbR.2]at h1;omega
structure Lg (s:SpS) (R P:Nat) (own:List Nat) (T fr:Nat):Prop where
 ok:SpOk s own [] [] T
 room:roomP s.dv.size 0=(R:Int)
 big:4≤R∧R≤4096
 fits:R+18≤s.dv.size
 pages:s.sup.pages.length=P
 left:(frees s).length=fr
 mark:s.mark=none
section
variable {w0 w w' : World} {sg g : Nat} {A : Nat → Prop} {s s' : SpS} {R P : Nat} {own ks : List Nat} {T T2 fr n : Nat} {l : List Int}
theorem Lg.first{Z K:Nat}(h:GeoOk Z K)(hE:supE (firstS Z K)=0):Lg (firstP Z K) (Z-18) (firstP Z K).sup.pages.length [] 0 (frees (firstP Z K)).length:=by
 have h1:=QK h;exact⟨QfV h hE,QhX h hE,by omega,by rw[(QbM h hE).1];omega,rfl,rfl,rfl⟩
theorem Lg.roomy:Lg (firstP 128 40) 110 1 [] 0 37:=by
 have h:=Lg.first Qbd Qcp;rw[QdI,Qg0]at h;exact h
theorem Lg.small(h:Lg s R P own T fr):0<R∧R≤4096:=⟨by have:=h.big;omega,h.big.2⟩
theorem Lg.put(h:Lg s R P own T fr)(b:BlPut s R l own [] [] T2 n ks s'):Lg s' R P (n :: own) T2 (fr-(nP l.length R+1)):=
 ⟨b.ok,by rw[b.size];exact h.room,h.big,by rw[b.size];exact h.fits,by rw[b.sup];exact h.pages,by have:=b.left;have:=h.left;omega,b.mark.trans h.mark⟩
theorem Lg.more(h:Lg s R P own T fr)(hT:T≤T2):Lg s R P own T2 fr:=⟨h.ok.more hT,h.room,h.big,h.fits,h.pages,h.left,h.mark⟩
theorem Lg.none(h:Lg s R P [] T fr):fr+(2+P)=s.dv.blocks:=by
 have h1:=Qfn h.ok h.mark;rw[h.left,h.pages]at h1;exact h1
theorem Lg.now{c:List Int}{own2:List Nat}(h:Lg s R P own T fr)(k:SpOk { s with now:=c } own2 [] [] T2):∃fr2,Lg { s with now:=c } R P own2 T2 fr2:=⟨_,k,h.room,h.big,h.fits,h.pages,rfl,h.mark⟩
theorem Lg.same(h:Lg s R P own T fr)(k:SameS s s')(ho:SpOk s' own [] [] T2):∃fr2,Lg s' R P own T2 fr2:=⟨_,ho,by rw[k.size];exact h.room,h.big,by rw[k.size];exact h.fits,by rw[k.sup];exact h.pages,rfl,k.mark.trans h.mark⟩
theorem Qdh(h:Sh w0 w sg g A s)(k:Lg s R P own T fr)(l:List Int)(T2:Nat)(hT2:T+nP l.length R+nP l.length R+1≤T2)(hT:T2≤8000)(hl:Bs.IsB l)(hlen:l.length≤65536)(hA:∀i,A i→i<w.heap.size) :
  Calls Tryz.prog 11 #[.pointer (some ⟨sg,0,none⟩),.string (strOfNums l)] w (PutBX w0 w sg g A s R l own [] [] T2):=
 QiE h k.ok k.room k.big k.fits T2 hT2 hT hl hlen hA
def PutYX(w0 w:World)(sg g:Nat)(A:Nat→Prop)(s:SpS)(R P:Nat)(l:List Int)(own:List Nat)(T2 fr:Nat)(e:Ending)(w':World):Prop:=
 ∃n ks s',e=.returned (.tuple #[.int .u32 ((n:Nat):Int),.int .i64 0])∧n<s.dv.blocks∧BlPut s R l own [] [] T2 n ks s'∧Lg s' R P (n :: own) T2 (fr-(nP l.length R+1))∧Sh w0 w' sg g A s'∧Stay w w' A
theorem Qag(h:Sh w0 w sg g A s)(k:Lg s R P own T fr)(l:List Int)(T2:Nat)(hT2:T+nP l.length R+nP l.length R+1≤T2)(hT:T2≤8000)(hl:Bs.IsB l)(hm:l.length≤mostB R)(hfr:nP l.length R+1+P≤fr)(hA:∀i,A i→i<w.heap.size) :
  Calls Tryz.prog 11 #[.pointer (some ⟨sg,0,none⟩),.string (strOfNums l)] w (PutYX w0 w sg g A s R P l own T2 fr):=by
 refine(Qdh h k l T2 hT2 hT hl (Nat.le_trans hm (Nat.min_le_right _ _)) hA).mono ?_;rintro e w' ⟨n,E,s',rfl,hp,hs,ht⟩;cases hp with
 |yes hb hn _=>exact⟨_,_,_,rfl,hn,hb,k.put hb,hs,ht⟩
 |long hq _=>omega
 |full ho hs2 hf _=>
  have h1:=k.left;have h2:=k.pages;omega
theorem Qer(h:Sh w0 w sg g A s)(k:Lg s R P own T fr)(hb:BlobAt (lp s) R n l ks)(hlen:l.length≤65536)(hl:Bs.IsB l) :
  Calls Tryz.prog 12 #[.pointer (some ⟨sg,0,none⟩),.int .u32 (n:Int)] w fun e w'=>e=.returned (.tuple #[.string (strOfNums l),.int .i64 0])∧w.grownBy w' none:=Qe1 h k.ok k.room k.small hb hlen hl
theorem Qck(h:Sh w0 w sg g A s)(k:Lg s R P own T fr)(hn:n<4294967296){E:Int}(hE:openP R s n=(E,0,[]))(hE0:E≠0) :
  Calls Tryz.prog 12 #[.pointer (some ⟨sg,0,none⟩),.int .u32 (n:Int)] w fun e w'=>e=.returned (.tuple #[.string ⟨#[]⟩,.int .i64 E])∧w.grownBy w' none:=QhJ h k.ok k.room k.small hn hE hE0
theorem QeN(h:Sh w0 w sg g A s)(k:Lg s R P own T fr)(hb:BlobAt (lp s) R n l ks)(hlen:l.length≤65536) :
  Calls Tryz.prog 13 #[.pointer (some ⟨sg,0,none⟩),.int .u32 (n:Int)] w fun e w'=>e=.returned (.tuple #[.int .i64 (l.length:Int),.int .i64 0])∧w.grownBy w' none:=
 QhK h k.ok k.room k.small (by have h2:=(Qal k.ok (QaF hb.idx).1).2;have h3:=k.ok.dok.bhi;omega) (Qfo k.ok hb hlen)
theorem Qdw(h:Sh w0 w sg g A s)(k:Lg s R P own T fr)(n:Nat)(own2:List Nat)(hp:∀m,(n :: own2).count m=own.count m) :
  Calls Tryz.prog 25 #[.pointer (some ⟨sg,0,none⟩),.int .u32 (n:Int)] w fun e w'=>∃c fr2,e=.returned (.int .i64 0)∧Sh w0 w' sg g A { s with now:=c }∧Stay w w' A∧Lg { s with now:=c } R P own2 (T+1) fr2:=by
 refine(Qea h k.ok n own2 hp).mono ?_;rintro e w' ⟨c,⟨e1,hs,ht⟩,hk⟩;obtain⟨fr2,h2⟩:=k.now hk;exact⟨c,fr2,e1,hs,ht,h2⟩
end
theorem Qm{w W W':World}{A:Nat→Prop}(h:w.grownBy W none)(t:Stay W W' A)(hA:∀i,i<w.heap.size→A i):w.grownBy W' none:=
 ⟨(Turn.os t).trans h.os,(Turn.tape t).trans h.tape,(Turn.output t).trans h.output,Nat.le_trans h.size (Turn.size t),fun i hi _=>(Turn.block t i (Nat.lt_of_lt_of_le hi h.size) (fun e=>e (hA i hi))).trans (h.block i hi (by simp))⟩
theorem Qb4(w0 w:World)(hw:w0.grownBy w none)(hT4:T4 w0) :
  Calls Tryz.prog 9 #[.agg #[.int .i64 128,.int .i64 40]] w fun e w'=>∃sg g,e=.returned (.tuple #[.pointer (some ⟨g,0,none⟩),.pointer (some ⟨sg,0,none⟩)])∧Sh w0 w' sg g (fun i=>i<w.heap.size) (firstP 128 40)∧w.grownBy w' none:=by
 refine(Qje w0 w 128 40 hw hT4).mono ?_;rintro e w' ⟨hg,⟨Z,K,sg,g,hZ,hK,-,-,e1,hs⟩|⟨v,-,hq⟩⟩
 ·obtain rfl:Z=128:=by omega
  obtain rfl:K=40:=by omega
  exact⟨sg,g,e1,hs,hg⟩
 ·refine absurd ⟨Qbd,fun Z K hZ hK=>?_⟩ hq;obtain rfl:Z=128:=by omega
  obtain rfl:K=40:=by omega
  exact Qcp
theorem QeY(N:Nat)(w:World)(hN:N≤100000000) :
  Calls Tryz.prog 15 #[.string ⟨#[97]⟩,.int .i64 (N:Int)] w fun e w'=>e=.returned (.string (strOfNums (rep N 97)))∧w=w':=Qfv 97 N w hN
theorem QaX(w:World)(hT4:T4 w):Calls Tryz.prog 8 #[] w fun e w'=>e=.returned (.bool true)∧w.grownBy w' none:=by
 have HRM:=hid QbG;have HMK:=hid (fun W (k:w.grownBy W none)=>Qb4 w W k hT4);have HLG:=hid Lg.roomy;have HTM:=hid (fun W=>QeY 300 W (by decide));have HLB:Hid (Bs.IsB (rep 300 97)):=hid (QbX 300 97 (by decide));have HLL:Hid ((rep 300 97).length=300∧nP 300 110=3∧mostB 110=2860):=hid ⟨Qbu 300 97,by decide,by decide⟩;obtain⟨l,hl⟩:∃l,rep 300 97=l:=⟨_,rfl⟩;rw[hl]at HTM HLB HLL;obtain⟨s0,hs0⟩:∃s,firstP 128 40=s:=⟨_,rfl⟩;rw[hs0]at HMK HLG;clear hl hs0 hT4;go_enter Tryz.func8,Tryz.ntmps8
 go_wp2_with fail
 refine(HRM.out _).mono ?_;rintro e w1 ⟨rfl,hg1⟩;have HMK1:=hid (HMK.out w1 hg1);have HG1:=hid hg1;clear hg1 HMK;dsimp only;go_wp2_with fail
 refine HMK1.out.mono ?_;rintro e w2 ⟨sg,g,rfl,hs2,hg2⟩;have HS2:=hid hs2;have HG2:=hid (Qa HG1.out hg2);have HFR:=hid (Qap hs2 HLG.out.left);clear hs2 hg2 HMK1;dsimp only;go_wp2_with fail
 refine HFR.out.mono ?_;rintro e w3 ⟨rfl,rfl⟩;dsimp only;go_wp2_with fail
 refine(HTM.out _).mono ?_;rintro e w3 ⟨rfl,rfl⟩;have HPUT:=hid (Qag HS2.out HLG.out l 10 (by have:=HLL.out;rw[this.1,this.2.1];decide) (by decide) HLB.out (by have:=HLL.out;rw[this.1,this.2.2];decide) (by have:=HLL.out;rw[this.1,this.2.1];decide) (fun i hi=>HS2.out.lt hi));obtain⟨S,hS⟩:∃S,strOfNums l=S:=⟨_,rfl⟩;rw[hS]at HPUT HTM ⊢;have HSS:=hid hS;clear hS HFR;dsimp only;go_wp2_with fail
 refine HPUT.out.mono ?_;rintro e w4 ⟨n,ks,s',rfl,hn,hb,hlg,hs4,ht4⟩;have HS4:=hid hs4;have HB4:=hid hb;have HL4:=hid hlg;have HGET:=hid (Qer hs4 hlg hb.blob (by have:=HLL.out;omega) HLB.out);rw[HSS.out]at HGET;have HN:Hid (n<4294967296):=hid (by have h1:=HLG.out.ok.dok.bhi;omega);have HG4:Hid (w.grownBy w4 none):=hid (Qm HG2.out ht4 (fun i hi=>Nat.lt_of_lt_of_le hi HG1.out.size));clear hs4 hb hlg ht4 hn HPUT HS2;dsimp only;go_wp2_with fail
 refine HGET.out.mono ?_;rintro e w5 ⟨rfl,hg5⟩;have HS5:=hid (HS4.out.go hg5);have HG5:=hid (Qa HG4.out hg5);have HFR:=hid (Qap HS5.out HL4.out.left);have HCO:=hid (QkS HS5.out n HN.out);rw[HB4.out.one]at HCO;have hfr:(37-(nP l.length 110+1):Nat)=33:=by have:=HLL.out;rw[this.1,this.2.1]
 rw[hfr]at HFR;clear hg5 HGET HS4 hfr;dsimp only;go_wp2_with fail
 refine HFR.out.mono ?_;rintro e w6 ⟨rfl,rfl⟩;dsimp only;go_wp2_with fail
 refine HCO.out.mono ?_;rintro e w6 ⟨rfl,rfl⟩;dsimp only;go_wp2_with fail
 refine(HTM.out _).mono ?_;rintro e w6 ⟨rfl,rfl⟩;have HAU:=hid (Qce (HS5.out.go (Qb w5 (.cells #[.int .u32 (n:Int)] 30))) HL4.out.ok (some ⟨w5.heap.size,0,none⟩) 1 1 rfl (lit32 w5 n));have HG6:=hid (Qa HG5.out (Qb w5 (.cells #[.int .u32 (n:Int)] 30)));clear HFR HCO;dsimp only;go_wp2_with fail
 refine HAU.out.mono ?_;rintro e w7 ⟨rfl,hg7⟩;have HE:=hid (Qa HG6.out hg7);clear hg7;dsimp only;go_wp2;go_ret
 exact⟨rfl,HE.out⟩
section
variable {w0 w w' : World} {sg g : Nat} {A : Nat → Prop} {s s' : SpS} {R P : Nat} {own ks : List Nat} {T T2 fr n : Nat} {l : List Int}
theorem Qkm(h:Sh w0 w sg g A s)(k:Lg s R P own T fr)(hT:T≤8000)(n:Nat)(hn:n∈own) :
  Calls Tryz.prog 26 #[.pointer (some ⟨sg,0,none⟩),.int .u32 (n:Int)] w fun e w'=>∃c fr2,e=.returned (.int .i64 0)∧Sh w0 w' sg g A { s with now:=c }∧Stay w w' A∧Lg { s with now:=c } R P (n :: own) (T+1) fr2:=by
 have hlv:=Qbk k.ok hn;obtain⟨h2,hp,h0⟩:=lv_at hlv;have hlt:=(Qal k.ok hlv).2;have hl:=(k.ok.low n).1;have hE:shareE s n=0:=by
  unfold shareE accE;rw[if_neg (show ¬(n<2∨s.dv.blocks≤n) by omega),if_neg hp,if_neg (fun q=>q rfl)];have hlen:=k.ok.now.cok.len;unfold Cn.addE
  repeat' split
  all_goals (first|rfl|omega)
 have hN:shareN s n=s.now.set n (s.now.getD n 0+1):=by unfold shareN;rw[if_pos hE]
 have hok:=k.ok.share (by omega) hn;obtain⟨x,rfl,rfl,hm,d⟩:=h;refine(QjD hm n (by have:=k.ok.dok.bhi;omega) (Nat.le_trans k.ok.Qaf (by decide))).mono ?_;rintro e w' ⟨e1,o⟩;rw[hE]at e1;rw[hN]at o;obtain⟨hs,ht⟩:=Sh.op hm d o;obtain⟨fr2,h9⟩:=k.now hok;exact⟨_,fr2,e1,hs,ht,h9⟩
theorem nil15(w:World):Ws.Seg w none 0 0 (ints []):=⟨rfl,Nat.le_refl _,by unfold maxLen;omega,fun _=>⟨rfl,rfl⟩,fun _ h=>by cases h⟩
theorem Qgg(h:Sh w0 w sg g A s)(k:Lg s R P [n] T fr):Calls Tryz.prog 20 #[.pointer (some ⟨sg,0,none⟩),.slice (some ⟨w.heap.size,0,none⟩) 1 1] (w.alloc (.cells #[.int .u32 (n:Int)] 30)) fun e w'=>e=.returned (.int .i64 0)∧w.grownBy w' none:=by
 refine(Qce (h.go (Qb w (.cells #[.int .u32 (n:Int)] 30))) k.ok (some ⟨w.heap.size,0,none⟩) 1 1 rfl (lit32 w n)).mono ?_;rintro e w' ⟨e1,hg⟩;exact⟨e1,Qa (Qb _ _) hg⟩
theorem Qdg(h:Sh w0 w sg g A s)(k:Lg s R P [] T fr):Calls Tryz.prog 20 #[.pointer (some ⟨sg,0,none⟩),.slice none 0 0] w fun e w'=>e=.returned (.int .i64 0)∧w.grownBy w' none:=
 Qce h k.ok none 0 0 rfl (nil15 w)
theorem Qfp(k:Lg s R P own T fr){ls:List Nat}(ho:∀n∈own,n∈ls)(hk:∀m∈ls,∀n∈kidsOf s.dv m,n∈ls){m:Nat}(h2:2≤m∧m<s.dv.blocks∧(m:Int)∉s.sup.pages)(hm:m∉ls):openP R s m=(8,0,[]):=by
 have h:=Qkb k.ok h2 (Qlz k.ok ho hk hm);unfold openP;rw[h,if_pos (by decide)]
theorem QiD(hb:BlobAt (pg s) R n l ks):∀m∈n :: ks,∀q∈kidsOf s.dv m,q∈n :: ks:=fun m hm q hq=>by
 rcases List.mem_cons.1 hm with e|hm
 ·rw[e,Qf8 hb.idx]at hq;exact List.mem_cons_of_mem _ hq
 ·obtain⟨i,hi,rfl⟩:=List.mem_iff_getElem.1 hm;have h1:=hb.kid i hi;rw[List.getD_eq_getElem?_getD,List.getElem?_eq_getElem hi]at h1;rw[Qi2 (show pg s ks[i]=_ from h1)]at hq;cases hq
end
theorem Qe7{l:List Int}(h:l.length≤1000):nP l.length 110≤10:=Nat.le_trans (Qdx h) (by decide)
theorem apart_any(la lb:List Int)(w:World)(hla:Bs.IsB la)(hlb:Bs.IsB lb)(hT4:T4 w) :
  Calls Tryz.prog 5 #[.string (strOfNums la),.string (strOfNums lb)] w fun e w'=>e=.returned (.bool true)∧w.grownBy w' none:=by
 have HLV:=hid (QaX w hT4);have HRM:=hid QbG;have HMK:=hid (fun W (k:w.grownBy W none)=>Qb4 w W k hT4);have HLG:=hid Lg.roomy;have HSA:Hid ((strOfNums la).size=la.length):=hid (strOfNums_size la);have HSB:Hid ((strOfNums lb).size=lb.length):=hid (strOfNums_size lb);have HA:=hid hla;have HB:=hid hlb;obtain⟨na,hna⟩:∃n,la.length=n:=⟨_,rfl⟩;obtain⟨nb,hnb⟩:∃n,lb.length=n:=⟨_,rfl⟩;rw[hna]at HSA;rw[hnb]at HSB;have HNA:=hid hna;have HNB:=hid hnb;obtain⟨SA,hSA⟩:∃S,strOfNums la=S:=⟨_,rfl⟩;obtain⟨SB,hSB⟩:∃S,strOfNums lb=S:=⟨_,rfl⟩;rw[hSA]at HSA ⊢;rw[hSB]at HSB ⊢;have HSAE:=hid hSA;have HSBE:=hid hSB;have hsa:=HSA.out;have hsb:=HSB.out;obtain⟨s0,hs0⟩:∃s,firstP 128 40=s:=⟨_,rfl⟩;rw[hs0]at HMK HLG;clear hs0 hT4 hla hlb hna hnb hSA hSB;go_enter Tryz.func5,Tryz.ntmps5
 go_wp2_with fail
 refine HLV.out.mono ?_;rintro e w1 ⟨rfl,hg1⟩;have HG1:=hid hg1;clear hg1 HLV;dsimp only;by_cases hA1:1000<na
 case pos=>
  have q1:decide ((1000:Int)<(na:Int))=true:=decide_eq_true (by omega);have q2:decide (1000<na)=true:=decide_eq_true hA1;clear hA1;go_wp2;go_ret
  exact⟨rfl,HG1.out⟩
 case neg=>
 have q1:decide ((1000:Int)<(na:Int))=false:=decide_eq_false (by omega);have q2:decide (1000<na)=false:=decide_eq_false hA1;by_cases hB1:1000<nb
 case pos=>
  have q3:decide ((1000:Int)<(nb:Int))=true:=decide_eq_true (by omega);have q4:decide (1000<nb)=true:=decide_eq_true hB1;clear hA1 hB1;go_wp2;go_ret
  exact⟨rfl,HG1.out⟩
 case neg=>
 have q3:decide ((1000:Int)<(nb:Int))=false:=decide_eq_false (by omega);have q4:decide (1000<nb)=false:=decide_eq_false hB1;have HPA:Hid (nP la.length 110≤10∧la.length≤1000):=hid (by have h5:la.length≤1000:=(by rw[HNA.out];omega);exact⟨Qe7 h5,h5⟩);have HPB:Hid (nP lb.length 110≤10∧lb.length≤1000):=hid (by have h5:lb.length≤1000:=(by rw[HNB.out];omega);exact⟨Qe7 h5,h5⟩);have HMO:Hid (mostB 110=2860):=hid (by decide);clear hA1 hB1;go_wp2_with fail
 refine(HRM.out _).mono ?_;rintro e w2 ⟨rfl,hg2⟩;have HG2:=hid (Qa HG1.out hg2);have HMK2:=hid (HMK.out w2 HG2.out);clear hg2 HMK HRM;dsimp only;go_wp2_with fail
 refine HMK2.out.mono ?_;rintro e w3 ⟨sg,g,rfl,hs3,hg3⟩;have HS3:=hid hs3;have HG3:=hid (Qa HG2.out hg3);have HPUT:=hid (Qag hs3 HLG.out la 30 (by have:=HPA.out;omega) (by decide) HA.out (by rw[HMO.out];have:=HPA.out;omega) (by have:=HPA.out;omega) (fun i hi=>hs3.lt hi));rw[HSAE.out]at HPUT;have HWA:Hid (∀i,i<w.heap.size→i<w2.heap.size):=hid (fun i hi=>Nat.lt_of_lt_of_le hi HG2.out.size);clear hs3 hg3 HMK2;dsimp only;go_wp2_with fail
 refine HPUT.out.mono ?_;rintro e w4 ⟨x,ksa,s1,rfl,hx,hb1,hl1,hs4,ht4⟩;have HS4:=hid hs4;have HB1:=hid hb1;have HL1:=hid hl1;have HG4:=hid (Qm HG3.out ht4 HWA.out);have HPUT2:=hid (Qag hs4 hl1 lb 60 (by have:=HPB.out;omega) (by decide) HB.out (by rw[HMO.out];have:=HPB.out;omega) (by have:=HPB.out;have:=HPA.out;omega) (fun i hi=>hs4.lt hi));rw[HSBE.out]at HPUT2;clear hs4 hb1 hl1 ht4 hx HPUT HS3;dsimp only;go_wp2_with fail
 refine HPUT2.out.mono ?_;rintro e w5 ⟨y,ksb,s2,rfl,hy,hb2,hl2,hs5,ht5⟩;have HXL:Hid (lv s1 x):=hid (Qbk HL1.out.ok (List.mem_cons_self ..));have hfr:=hb2.fresh x HXL.out;have HFR:=hid hfr;have HS5:=hid hs5;have HB2:=hid hb2;have HL2:=hid hl2;have HG5:=hid (Qm HG4.out ht5 HWA.out);have HSH:=hid (Qkm hs5 hl2 (by decide) y (List.mem_cons_self ..));have q5:((x:Int)==(y:Int))=false:=beq_eq_false_iff_ne.2 (by omega);have q6:¬x=y:=hfr.1;clear hs5 hb2 hl2 ht5 hy HPUT2 HS4 hfr;dsimp only;go_wp2_with fail
 refine HSH.out.mono ?_;rintro e w6 ⟨c3,f3,rfl,hs6,ht6,hl3⟩;have HS6:=hid hs6;have HL3:=hid hl3;have HG6:=hid (Qm HG5.out ht6 HWA.out);have HDX:=hid (Qdw hs6 hl3 x [y,y] (fun m=>by simp only[List.count_cons,List.count_nil];omega));clear hs6 hl3 ht6 HSH HS5 q5 q6;dsimp only;go_wp2_with fail
 refine HDX.out.mono ?_;rintro e w7 ⟨c4,f4,rfl,hs7,ht7,hl4⟩;have HS7:=hid hs7;have HG7:=hid (Qm HG6.out ht7 HWA.out);have HDY:=hid (Qdw hs7 hl4 y [y] (fun m=>rfl));clear hs7 hl4 ht7 HDX HS6;dsimp only;go_wp2_with fail
 refine HDY.out.mono ?_;rintro e w8 ⟨c5,f5,rfl,hs8,ht8,hl5⟩;have HS8:=hid hs8;have HL5:=hid hl5;have HG8:=hid (Qm HG7.out ht8 HWA.out);have HBY:Hid (BlobAt (lp { s2 with now:=c5 }) 110 y lb ksb):=hid (BlobAt.live hl5.ok (show BlobAt (pg { s2 with now:=c5 }) 110 y lb ksb from HB2.out.blob.lies) (Qbk hl5.ok (List.mem_cons_self ..)));have HGY:=hid (Qer hs8 hl5 HBY.out (by have:=HPB.out;omega) HB.out);rw[HSBE.out]at HGY;have HOX:Hid (openP 110 { s2 with now:=c5 } x=(8,0,[])):=hid (by
  have h1:=lv_at HXL.out;have h2:=(Qal HL1.out.ok HXL.out).2;refine Qfp hl5 (ls:=y :: ksb) (fun n hn=>?_) (QiD HBY.out.lies) ⟨h1.1,?_,?_⟩ (fun q=>?_)
  ·rcases List.mem_cons.1 hn with rfl|hn
   ·exact List.mem_cons_self ..
   ·cases hn
  ·show x<s2.dv.blocks
   rw[HB2.out.blocks];exact h2
  ·show(x:Int)∉s2.sup.pages
   rw[HB2.out.sup];exact h1.2.1
  ·rcases List.mem_cons.1 q with q|q
   ·exact HFR.out.1 q
   ·exact HFR.out.2 q)
 clear hs8 hl5 ht8 HDY HS7;dsimp only;go_wp2_with fail
 refine HGY.out.mono ?_;rintro e w9 ⟨rfl,hg9⟩;have HS9:=hid (HS8.out.go hg9);have HG9:=hid (Qa HG8.out hg9);have HX32:Hid (x<4294967296):=hid (by have h2:=(Qal HL1.out.ok HXL.out).2;have:=HL1.out.ok.dok.bhi;omega);have HGX:=hid (Qck HS9.out HL5.out HX32.out HOX.out (by decide));clear hg9 HGY HS8;dsimp only;go_wp2_with fail
 refine HGX.out.mono ?_;rintro e wa ⟨rfl,hga⟩;have HSa:=hid (HS9.out.go hga);have HGa:=hid (Qa HG9.out hga);have HAU:=hid (Qgg HSa.out HL5.out);clear hga HGX HS9;dsimp only;go_wp2_with fail
 refine HAU.out.mono ?_;rintro e wb ⟨rfl,hgb⟩;have HSb:=hid (HSa.out.go hgb);have HGb:=hid (Qa HGa.out hgb);have HDZ:=hid (Qdw HSb.out HL5.out y [] (fun m=>rfl));clear hgb HAU HSa;dsimp only;go_wp2_with fail
 refine HDZ.out.mono ?_;rintro e wc ⟨c6,f6,rfl,hsc,htc,hl6⟩;have HGc:=hid (Qm HGb.out htc HWA.out);have HAV:=hid (Qdg hsc hl6);clear hsc htc hl6 HDZ HSb;dsimp only;go_wp2_with fail
 refine HAV.out.mono ?_;rintro e wd ⟨rfl,hgd⟩;have HE:=hid (Qa HGc.out hgd);clear hgd;dsimp only;go_wp2;go_ret
 exact⟨rfl,HE.out⟩
end Bl
end Go.Proofs.YtgffbbdcbkikhaaGreatDoor
