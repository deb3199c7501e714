/- Parts of the proof. -/
import Derived.Lib.SmallJoins
import Derived.Test.YtgffbbdcbkikhaaGreatDoorKbC
set_option maxRecDepth 100000
set_option maxHeartbeats 8000000
open Go.Lib (hid)
namespace Go.Proofs.YtgffbbdcbkikhaaGreatDoor
namespace Oct
open Go.RowKit Go.Joins
open Bs (Seg grownBy_trans QA QU Qq NewB)
theorem Qdt(a0 a1:Option Addr)(n0 c0 n1 c1:Nat)(l0 l1:List Int)(w:World)(h0:Seg w a0 n0 c0 l0)(h1:Seg w a1 n1 c1 l1)(hn:n0+n1≤281474976710656) :
  Calls Tryz.prog 76 #[.slice a0 n0 c0,.slice a1 n1 c1] w fun e w'=>
   e=.returned (.slice (some ⟨w.heap.size,0,none⟩) (n0+n1) (n0+n1)) ∧
   w'.ownsRow w.heap.size 5 1 (.slice (some ⟨w.heap.size,0,none⟩) (n0+n1) (n0+n1)) (n0+n1) ((l0++l1).map (Value.int .u8))∧w.grownBy w' none:=by
 obtain⟨i0,hi,hz0,hz1,hz2⟩:=info_parts QU;have hl0:(l0.map (Value.int .u8)).length=n0*1:=by simp[h0.len]
 have hl1:(l1.map (Value.int .u8)).length=n1*1:=by simp[h1.len]
 have b0:(0:Int)≤(n0:Int)+(n1:Int):=by omega
 have HL0:=hid hl0;clear hl0;have HL1:=hid hl1;clear hl1;go_enter Tryz.func76,Tryz.ntmps76
 go_wp2_with (at_make;refine wpList_make_own _ rfl _ _ 46 rfl w.heap.size 5 i0 (.int .u8 0) 1 Tryz.underlying46 hi hz0 hz1 _ _ _ (n0+n1) rfl rfl (by omega) ?b2 ?b3 (Nat.le_refl _) ?_)
 case b2=>rw[hz2];omega
 case b3=>unfold maxLen;omega
 intro w0 hown0 hgrow0;have s0:∀ad,a0=some ad→∀j u,(l0.map (Value.int .u8))[j]?=some u→w0.cell? (ad.add j)=some u:=fun ad had j u hu=>hgrow0.cell (h0.at_ ad had j u hu) (by simp)
 have lt1:∀ad,a1=some ad→∀j u,(l1.map (Value.int .u8))[j]?=some u→(ad.add j).block<w.heap.size:=fun ad had j u hu=>World.block_lt_of_cell? w _ (h1.at_ ad had j u hu)
 have s1:∀ad,a1=some ad→∀j u,(l1.map (Value.int .u8))[j]?=some u→w0.cell? (ad.add j)=some u:=fun ad had j u hu=>hgrow0.cell (h1.at_ ad had j u hu) (by simp)
 have n0':=h0.nil_;have n1':=h1.nil_;go_wp2_with (first
  |(at_builtin;refine wpList_append_fits_any _ rfl (.tmp 12) (.tmp 13) 46 rfl w.heap.size 5 i0 1 Tryz.underlying46 hi hz1 w.heap.size 0 (n0+n1) _ rfl hown0 a0 n0 c0 (l0.map (Value.int .u8)) rfl HL0.out n0' s0 (ints_oneCell _ _) (by omega) ?_;intro w1 hown1 hgrow1;simp only[Nat.zero_add,List.nil_append]at hown1)
  |(at_builtin;refine wpList_append_fits_any _ rfl (.tmp 14) (.tmp 15) 46 rfl w.heap.size 5 i0 1 Tryz.underlying46 hi hz1 w.heap.size n0 (n0+n1) _ rfl hown1 a1 n1 c1 (l1.map (Value.int .u8)) rfl HL1.out n1' (fun ad had j u hu=>hgrow1.cell (s1 ad had j u hu) (fun e=>by have h2:=lt1 ad had j u hu;have h3:=Option.some.inj e;omega)) (ints_oneCell _ _) (by omega) ?_;intro w2 hown2 hgrow2))
 go_ret
 refine⟨rfl,by simpa using hown2,⟨hgrow2.os.trans (hgrow1.os.trans hgrow0.os),hgrow2.tape.trans (hgrow1.tape.trans hgrow0.tape),hgrow2.output.trans (hgrow1.output.trans hgrow0.output),Nat.le_trans hgrow0.size (Nat.le_trans hgrow1.size hgrow2.size),fun k hk _=>?_⟩⟩;have hne:some k≠some w.heap.size:=fun e=>by have:=Option.some.inj e;omega
 exact(hgrow2.block k (Nat.lt_of_lt_of_le hk (Nat.le_trans hgrow0.size hgrow1.size)) hne).trans ((hgrow1.block k (Nat.lt_of_lt_of_le hk hgrow0.size) hne).trans (hgrow0.block k hk (by simp)))
theorem Qh9(n:Int)(w:World):Calls Tryz.prog 75 #[.int .i64 n] w fun e w'=>e=.returned (.bool (decide (1≤n∧n≤8)))∧w=w':=by
 by_cases h1:1≤n
 ·by_cases h2:n≤8
  ·go_enter Tryz.func75,Tryz.ntmps75
   go_wp2;go_ret
   exact⟨by simp[h1,h2],rfl⟩
  ·have h2':decide (n≤8)=false:=by simpa using h2
   go_enter Tryz.func75,Tryz.ntmps75
   go_wp2;go_ret
   exact⟨rfl,rfl⟩
 ·have h1':decide (1≤n)=false:=by simpa using h1
  go_enter Tryz.func75,Tryz.ntmps75
  go_wp2;go_ret
  exact⟨rfl,rfl⟩
theorem QcO(n:Int)(w:World)(h1:1≤n)(h2:n≤8):Calls Tryz.prog 75 #[.int .i64 n] w fun e w'=>e=.returned (.bool true)∧w=w':=
 (Qh9 n w).mono fun e w' ⟨he,hw⟩=>⟨by rw[he,decide_eq_true ⟨h1,h2⟩],hw⟩
theorem Qld(a0 a1:Option Addr)(n0 c0 n1 c1:Nat)(l0 l1:List Int)(w:World)(h0:Seg w a0 n0 c0 l0)(h1:Seg w a1 n1 c1 l1)(hn:n0+n1≤281474976710656) :
  Calls Tryz.prog 76 #[.slice a0 n0 c0,.slice a1 n1 c1] w (NewB w (l0++l1)):=
 (Qdt a0 a1 n0 c0 n1 c1 l0 l1 w h0 h1 hn).mono fun e w' ⟨he,ho,hg⟩=>by
  have hl:(l0++l1).length=n0+n1:=by rw[List.length_append,h0.len,h1.len]
  unfold NewB;rw[hl];exact⟨_,he,ho,hg⟩
theorem _root_.Go.Proofs.YtgffbbdcbkikhaaGreatDoor.Bs.NewB.trans{w w1 w':World}{l:List Int}{e:Ending}(h:NewB w1 l e w')(hg:w.grownBy w1 none):NewB w l e w':=by
 obtain⟨g,he,ho,hg2⟩:=h;exact⟨g,he,QA ho hg.size,grownBy_trans hg hg2 (fun _ e=>by cases e)⟩
theorem _root_.Go.Proofs.YtgffbbdcbkikhaaGreatDoor.Bs.NewB.value{w w':World}{l:List Int}{e:Ending}(h:NewB w l e w'):∃g q,e=.returned (.slice (some ⟨g,0,none⟩) q q)∧NewB w l (.returned (.slice (some ⟨g,0,none⟩) q q)) w':=by
 obtain⟨g,he,ho⟩:=h;exact⟨g,l.length,he,g,rfl,ho⟩
theorem _root_.Go.Proofs.YtgffbbdcbkikhaaGreatDoor.Bs.NewB.is{w w':World}{l:List Int}{g q:Nat}(h:NewB w l (.returned (.slice (some ⟨g,0,none⟩) q q)) w') :
  q=l.length∧w'.ownsRow w.heap.size 5 1 (.slice (some ⟨g,0,none⟩) q q) q (l.map (Value.int .u8))∧w.grownBy w' none:=by
 obtain⟨g',he,ho,hg⟩:=h;cases he
 exact⟨rfl,ho,hg⟩
theorem Qjt(k:Nat)(v:Int):putB (k+1) v=putB k v++[v / 2 ^ (8*k) % 256]:=by
 rw[QeS,Int.pow_mul]
 rfl
theorem Qu(a:Option Addr)(n c:Nat)(l:List Int)(v:Int)(m:Nat)(w:World)(hs:Seg w a n c l)(_h0:0≤v)(_h1:v<18446744073709551616)(m1:1≤m)(m8:m≤8)(hn:n≤140737488355328) :
  Calls Tryz.prog 34 #[.slice a n c,.int .u64 v,.int .i64 m] w (NewB w (l++putB m v)):=by
 obtain⟨i0,hi,hz0,hz1,hz2⟩:=info_parts QU;have HN:=hid hn;have hk0:∀(w:World),(Instr.makeSlice 46 (.int .i64 0) (.int .i64 8)).run Tryz.prog w=.ok (.slice (some ⟨w.heap.size,0,none⟩) 0 8) (w.alloc (.cells #[.int .u8 0,.int .u8 0,.int .u8 0,.int .u8 0,.int .u8 0,.int .u8 0,.int .u8 0,.int .u8 0] 5)):=fun _=>by kernel_rfl
 go_enter Tryz.func34,Tryz.ntmps34
 go_wp2_with (go_at_call 75;refine(QcO _ _ (by omega) (by omega)).mono ?_;rintro e w' ⟨rfl,rfl⟩)
 go_loopw [7,16] (fun low i wr=>∃(k:Nat),k≤m∧i=.int .i64 k∧low=.slice (some ⟨w.heap.size,0,none⟩) k 8 ∧
   wr.ownsRow w.heap.size 5 1 (.slice (some ⟨w.heap.size,0,none⟩) k 8) k ((putB k v).map (Value.int .u8))∧w.grownBy wr none)
  (fun _ i _=>m-(intOf i).toNat)
 case atStart=>exact⟨0,by omega,rfl,rfl,World.ownsRow_made w _ 8 (Nat.le_refl _) (by unfold maxLen;omega) rfl,World.grownBy_alloc w _ none⟩
 case round=>
  obtain⟨k,hk,rfl,rfl,hown,hgr⟩:=hrel;by_cases hlt:k<m
  ·have HP:=hid (Qjt k v);go_wp2_with (at_builtin;refine wpList_append_fits _ rfl (.tmp 19) (.tmp 25) 46 rfl w.heap.size 5 i0 1 Tryz.underlying46 hi hz1 w.heap.size k 8 _ rfl (hown.alloc _) ⟨wr.heap.size,0,none⟩ 1 1 [.int .u8 (v / 2 ^ (8*k) % 256)] rfl rfl (by intro t u ht;match t,ht with|0,ht=>simp at ht;subst ht;simp[Addr.add]) (by intro u hu;simp at hu;subst hu;rfl) (by omega) ?_;intro w1 hown1 hgrow1)
   go_roundw
   case rel=>
    exact⟨k+1,by omega,by go_num,rfl,by rw[HP.out];simpa using hown1,
     grownBy_trans (grownBy_trans hgr (World.grownBy_alloc wr _ none) (fun _ e=>by cases e)) hgrow1 (fun i e=>by cases e;exact Nat.le_refl _)⟩
   case measure=>simp[intOf];omega
  ·obtain rfl:k=m:=by omega
   have hs1:=hs.kept hgr (fun _ _ e=>by cases e);have HA:=hid (Qld a (some ⟨w.heap.size,0,none⟩) n c k 8 l (putB k v) wr hs1 (Seg.own hown) (by omega));clear hs1 hown hs;go_wp2_with fail
   refine HA.out.mono ?_;rintro e w2 hnew;obtain⟨g,q,rfl,hf⟩:=(hnew.trans hgr).value;have HF:=hid hf;clear hf hnew;go_wp2;go_ret
   exact HF.out
theorem Qmb(acc x:Int)(s:Nat)(h0:0≤acc)(h1:acc<2 ^ s)(h2:0≤x)(h3:x*2 ^ s<18446744073709551616)(h4:s<64):bits BinOp.or IntKind.u64 acc (x*2 ^ s)=acc+x*2 ^ s:=by
 have hp:(0:Int)<2 ^ s:=Int.pow_pos (by decide);have h5:0≤x*2 ^ s:=Int.mul_nonneg h2 (Int.le_of_lt hp);have h6:(2:Int) ^ s≤2 ^ 63:=by exact_mod_cast Nat.pow_le_pow_right (by decide:0<2) (by omega:s≤63)
 have h7:(2:Int) ^ 63=9223372036854775808:=by decide
 rw[u64_or acc _ h0 (by omega) h5 h3];obtain⟨a,rfl⟩:=Int.eq_ofNat_of_zero_le h0;obtain⟨y,rfl⟩:=Int.eq_ofNat_of_zero_le h2;have e:(y:Int)*2 ^ s=((2 ^ s*y:Nat):Int):=by rw[Nat.mul_comm,Int.natCast_mul,Int.natCast_pow];rfl
 rw[e,Int.toNat_natCast,Int.toNat_natCast,Nat.or_comm,←Nat.two_pow_add_eq_or_of_lt (by exact_mod_cast h1),Int.natCast_add,Int.add_comm]
theorem QlH(l:List Int)(k:Nat)(hk:k<l.length)(hb:IsB l)(h8:l.length≤8) :
  0≤ofB (l.take k)∧ofB (l.take k)<2 ^ (8*k)∧0≤l.getD k 0∧l.getD k 0<256∧l.getD k 0*2 ^ (8*k)<18446744073709551616∧0≤l.getD k 0*2 ^ (8*k)∧ofB (l.take (k+1))=ofB (l.take k)+l.getD k 0*2 ^ (8*k):=by
 have e:∀i:Nat,(256:Int) ^ i=2 ^ (8*i):=fun i=>by rw[Int.pow_mul];rfl
 have h1:=Qv (l.take k) (fun x hx=>hb x (List.mem_of_mem_take hx));have hlk:(l.take k).length=k:=by rw[List.length_take];omega
 rw[hlk,e]at h1;have hg:l.getD k 0=l[k]:=by simp[List.getD,hk]
 have h2:=hb (l[k]) (List.getElem_mem hk);rw[hg];have hp:(0:Int)<2 ^ (8*k):=Int.pow_pos (by decide);have h3:l[k] * 2 ^ (8*k)<256*2 ^ (8*k):=Int.mul_lt_mul_of_pos_right h2.2 hp;have h4:(256:Int)*2 ^ (8*k)≤18446744073709551616:=by
  have:(256:Int)*2 ^ (8*k)=2 ^ (8+8*k):=by rw[Int.pow_add];rfl
  rw[this];have h5:(2:Nat) ^ (8+8*k)≤18446744073709551616:=Nat.le_trans (Nat.pow_le_pow_right (by decide:0<2) (by omega:8+8*k≤64)) (by decide);have h6:((2 ^ (8+8*k):Nat):Int)≤18446744073709551616:=by omega
  rw[Int.natCast_pow]at h6;exact h6
 refine⟨h1.1,h1.2,h2.1,h2.2,by omega,Int.mul_nonneg h2.1 (Int.le_of_lt hp),?_⟩;rw[List.take_succ_eq_append_getElem hk,Qku,hlk,e]
theorem QaO(g o n c:Nat)(l:List Int)(w:World)(hs:Seg w (some ⟨g,o,none⟩) n c l)(hb:IsB l)(h8:n≤8) :
  Calls Tryz.prog 81 #[.slice (some ⟨g,o,none⟩) n c] w fun e w'=>e=.returned (.int .u64 (ofB l))∧w=w':=by
 have hl:=hs.len;have hc:∀j,j<n→w.cell? ⟨g,o+j,none⟩=some (.int .u8 (l.getD j 0)):=fun j hj=>by
  obtain⟨g',o',e,h⟩:=hs.addr (by omega);cases e
  exact h j hj
 have HS:=hid (fun k (hk:k<n)=>QlH l k (by omega) hb (by omega));have HT:=hid (List.take_of_length_le (Nat.le_of_eq hl));have HC:=hid hc;clear hl hs hb hc;go_enter Tryz.func81,Tryz.ntmps81
 go_wp2
 go_loop [3,11] (fun sv si=>∃(k:Nat) (acc:Int),k≤n∧si=.int .i64 k∧sv=.int .u64 acc∧Hid (acc=ofB (l.take k))) (fun _ si=>n-(intOf si).toNat)
 case atStart=>exact⟨0,0,Nat.zero_le _,rfl,rfl,rfl⟩
 case round=>
  obtain⟨k,acc,hk,rfl,rfl,HA⟩:=hrel;by_cases hlt:k<n
  ·have g1:=HC.out k hlt;obtain⟨s1,s2,s3,s4,s5,s6,s7⟩:=HS.out k hlt;rw[←HA.out]at s1 s2 s7;have HS7:=hid s7;obtain⟨x,hx⟩:∃x,x=l.getD k 0:=⟨_,rfl⟩;rw[←hx]at g1 s3 s4 s5 s6;have HX:=hid hx;have ho:=Qmb acc x (8*k) s1 s2 s3 s5 (by omega);clear hx s7;go_wp2
   go_round
   case rel=>exact⟨k+1,acc+x*2 ^ (8*k),by omega,by go_num,rfl,hid (by rw[HS7.out,HX.out])⟩
   case measure=>simp[intOf];omega
  ·obtain rfl:k=n:=by omega
   go_wp2;go_ret
   exact⟨Qq (by rw[HA.out,HT.out]),rfl⟩
end Oct
namespace Oct
open Go.RowKit
open Bs (Seg grownBy_trans QA QU Qq NewB)
structure Rd (w:World) (b g:Nat) (l:List Int):Prop where
 ne:g≠b
 cells:∃o c,w.cell? ⟨b,0,none⟩=some (.slice (some ⟨g,o,none⟩) l.length c)∧l.length≤c∧c≤maxLen∧∀j,j<l.length→w.cell? ⟨g,o+j,none⟩=some (.int .u8 (l.getD j 0))
 self:w.cell? ⟨b,1,none⟩=some (.pointer (some ⟨b,0,none⟩))
 free:w.frozen? ⟨b,0,none⟩=false
theorem Rd.kept{w w':World}{b g:Nat}{l:List Int}(h:Rd w b g l){row:Option Nat}(hg:w.grownBy w' row)(h1:row≠some b)(h2:row≠some g):Rd w' b g l:=by
 obtain⟨o,c,h0,hle,hc,hj⟩:=h.cells;have lt:=World.block_lt_of_cell? w _ h0;refine⟨h.ne,⟨o,c,hg.cell h0 (fun e=>h1 e.symm),hle,hc,fun j hjl=>hg.cell (hj j hjl) (fun e=>h2 e.symm)⟩,hg.cell h.self (fun e=>h1 e.symm),?_⟩;rw[World.frozen?_of_block (hg.block b lt (fun e=>h1 e.symm))];exact h.free
theorem Qg5:(Tryz.prog.info? 227).isSome=true:=by kernel_rfl
theorem QhU(a:Addr)(w:World):(binOp .eql 203 (.pointer (some a)) (.pointer (some a))).run Tryz.prog w=.ok (.bool true) w:=by
 obtain⟨j,hj⟩:=Option.isSome_iff_exists.1 Qg5;exact run_eql_ptr_same w a Tryz.underlying203 hj
theorem Ql(b:Nat)(w:World)(h:w.cell? ⟨b,1,none⟩=some (.pointer (some ⟨b,0,none⟩))):Calls Tryz.prog 148 #[.pointer (some ⟨b,0,none⟩)] w fun e w'=>e=.returned (.bool true)∧w=w':=by
 have he:=QhU ⟨b,0,none⟩;go_enter Tryz.func148,Tryz.ntmps148
 go_wp2;go_ret
 exact⟨rfl,rfl⟩
theorem Qgd(b g:Nat)(l:List Int)(w:World)(h:Rd w b g l):Calls Tryz.prog 135 #[.pointer (some ⟨b,0,none⟩)] w fun e w'=>e=.returned (.int .i64 l.length)∧w=w':=by
 obtain⟨o,c,h0,hle,hc,hj⟩:=h.cells;go_enter Tryz.func135,Tryz.ntmps135
 go_wp2_with (go_at_call 148;refine(Ql b _ h.self).mono ?_;rintro e w' ⟨rfl,rfl⟩)
 go_ret
 exact⟨rfl,rfl⟩
theorem Rd.cut{w:World}{b g:Nat}{l:List Int}(n:Nat)(o o' c c' m:Nat)(h:Rd w b g l)(h0:w.cell? ⟨b,0,none⟩=some (.slice (some ⟨g,o,none⟩) l.length c))(hm:m=l.length-n)(hle:l.length≤c)(hle':m≤c')(hc:c'≤maxLen)(hc2:c≤maxLen)
  (hj:∀j,j<l.length→w.cell? ⟨g,o+j,none⟩=some (.int .u8 (l.getD j 0))) (ho:n<l.length→o'=o+n) (hn:n≤l.length) :
  Rd (w.setCell ⟨b,0,none⟩ (.slice (some ⟨g,o',none⟩) m c')) b g (l.drop n)∧w.grownBy (w.setCell ⟨b,0,none⟩ (.slice (some ⟨g,o',none⟩) m c')) (some b) ∧
   Seg (w.setCell ⟨b,0,none⟩ (.slice (some ⟨g,o',none⟩) m c')) (some ⟨g,o,none⟩) n c (l.take n):=by
 have hne:=h.ne;have hlen:(l.drop n).length=m:=by simp;omega
 refine⟨⟨hne,⟨o',c',?_,by omega,hc,?_⟩,?_,?_⟩,⟨rfl,rfl,rfl,by simp,fun k _ hk=>Below.heap_setCell _ _ _ _ (fun e=>hk (by rw[e]))⟩,⟨by simp;omega,by omega,hc2,(fun e=>by cases e),?_⟩⟩
 ·rw[World.cell?_setCell_same _ _ _ h0,hlen]
 ·intro j hjl;rw[World.cell?_setCell_other _ _ _ _ (by intro e;exact hne (congrArg Addr.block e).symm)];have:n<l.length:=by simp at hjl;omega
  rw[ho this,Nat.add_assoc,hj (n+j) (by simp at hjl;omega)];simp[List.getD]
 ·rw[World.cell?_setCell_other _ _ _ _ (by intro e;cases e)];exact h.self
 ·rw[World.frozen?_setCell];exact h.free
 ·intro ad had j u hu;cases had
  have hjn:j<n:=by
   have:=(List.getElem?_eq_some_iff.1 hu).1;simp at this;omega
  rw[Addr.add_lit,World.cell?_setCell_other _ _ _ _ (by intro e;exact hne (congrArg Addr.block e).symm),hj j (by omega)];rw[List.getElem?_map,List.getElem?_take_of_lt hjn]at hu;simp only[List.getD];cases hq:l[j]? with
  |none=>rw[hq]at hu;cases hu
  |some y=>rw[hq]at hu;exact hu
theorem Qdu(b g:Nat)(l:List Int)(n:Nat)(w:World)(h:Rd w b g l)(hn:n≤l.length) :
  Calls Tryz.prog 152 #[.pointer (some ⟨b,0,none⟩),.int .i64 n] w fun e w'=>
   ∃o c,e=.returned (.slice (some ⟨g,o,none⟩) n c)∧Rd w' b g (l.drop n)∧w.grownBy w' (some b)∧Seg w' (some ⟨g,o,none⟩) n c (l.take n):=by
 obtain⟨o,c,h0,hle,hc,hj⟩:=h.cells;have hf:=h.free;have hs:=h.self;have hne:=h.ne;unfold maxLen at hc;have hc2:c≤maxLen:=by unfold maxLen;omega
 by_cases hcn:c=n
 ·subst hcn;have R:=Rd.cut c o o c 0 0 h h0 (by omega) hle (by omega) (by unfold maxLen;omega) hc2 hj (fun hh=>by omega) hn;have HR:=hid R;clear R hj h;go_enter Tryz.func152,Tryz.ntmps152
  go_wp2;go_ret
  exact⟨o,c,rfl,HR.out⟩
 ·have R:=Rd.cut n o (o+n) c (c-n) (l.length-n) h h0 rfl hle (by omega) (by unfold maxLen;omega) hc2 hj (fun hh=>rfl) hn;have HR:=hid R;clear R hj h;go_enter Tryz.func152,Tryz.ntmps152
  go_wp2;go_ret
  exact⟨o,c,rfl,HR.out⟩
def NewR(w:World)(l:List Int)(e:Ending)(w':World):Prop:=
 ∃b g,e=.returned (.pointer (some ⟨b,0,none⟩))∧w.heap.size≤b∧w.heap.size≤g∧b<w'.heap.size∧g<w'.heap.size∧Rd w' b g l∧w.grownBy w' none
theorem Qcz(a:Option Addr)(n c:Nat)(l:List Int)(w:World)(hs:Seg w a n c l)(hn:n≤140737488355328) :
  Calls Tryz.prog 133 #[.slice a n c] w (NewR w l):=by
 have HA:=hid (Qdt a none n c 0 0 l [] w hs (Seg.nil w) (by omega));go_enter Tryz.func133,Tryz.ntmps133
 go_wp2_with fail
 refine HA.out.mono ?_;rintro e w1 ⟨rfl,hown,hg⟩;rw[List.append_nil,Nat.add_zero]at hown;have hl:=hs.len;have hb:w.heap.size<w1.heap.size:=(hown.lt _ rfl).2;have hfin:NewR w l (.returned (.pointer (some ⟨w1.heap.size,0,none⟩))) (w1.alloc (.cells #[.slice (some ⟨w.heap.size,0,none⟩) n n,.pointer (some ⟨w1.heap.size,0,none⟩)] 227)):=by
  subst hl;have h1:=Seg.own (hown.alloc (.cells #[.slice (some ⟨w.heap.size,0,none⟩) l.length l.length,.pointer (some ⟨w1.heap.size,0,none⟩)] 227));refine⟨w1.heap.size,w.heap.size,rfl,hg.size,Nat.le_refl _,by simp,by simp;omega,⟨by omega,⟨0,l.length,?_,Nat.le_refl _,h1.cap,?_⟩,?_,?_⟩,grownBy_trans hg (World.grownBy_alloc w1 _ none) (fun _ e=>by cases e)⟩
  ·exact World.cell?_alloc_at _ _ _ _ rfl
  ·intro j hj;have:=h1.at_ _ rfl j (.int .u8 (l.getD j 0)) (by simp[List.getD,hj]);rw[Addr.add_lit]at this;exact this
  ·exact World.cell?_alloc_at _ _ _ _ rfl
  ·exact World.frozen?_alloc_at _ _ _ _ rfl
 have HF:=hid hfin;clear hfin hown hg hs HA;go_wp2;go_ret
 exact HF.out
def ReadN(b g:Nat)(w:World)(v:Int)(r:List Int)(e:Ending)(w':World):Prop:=
 e=.returned (.tuple #[.int .u64 v,.int .i64 0])∧w.grownBy w' (some b)∧Rd w' b g r
theorem QbO(b g:Nat)(l:List Int)(n:Nat)(w:World)(h:Rd w b g l)(hb:IsB l)(n1:1≤n)(n8:n≤8)(hn:n≤l.length) :
  Calls Tryz.prog 144 #[.pointer (some ⟨b,0,none⟩),.int .i64 n] w (ReadN b g w (ofB (l.take n)) (l.drop n)):=by
 obtain⟨o,c,h0,hle,hc,hj⟩:=h.cells;have HV:=hid (Ql b w h.self);have HC:=hid (Qdu b g l n w h hn);have HB:Hid (IsB (l.take n)):=hid (fun x hx=>hb x (List.mem_of_mem_take hx));clear hj hb;go_enter Tryz.func144,Tryz.ntmps144
 go_wp2_with (first
  |(go_at_call 148;refine HV.out.mono ?_;rintro e w' ⟨rfl,rfl⟩)
  |(go_at_call 75;refine(QcO _ _ (by omega) (by omega)).mono ?_;rintro e w' ⟨rfl,rfl⟩)
  |fail)
 refine HC.out.mono ?_;rintro e w1 ⟨o',c',rfl,hr,hg,hs⟩;have HA:=hid (QaO g o' n c' _ w1 hs HB.out n8);have HR:=hid hr;have HG:=hid hg;clear hr hg hs;go_wp2_with fail
 refine HA.out.mono ?_;rintro e w2 ⟨rfl,rfl⟩;go_wp2;go_ret2
 exact⟨rfl,HG.out,HR.out⟩
theorem Qbz(b g:Nat)(l:List Int)(n:Int)(w:World)(h:Rd w b g l)(n1:1≤n)(n8:n≤8)(hn:(l.length:Int)<n) :
  Calls Tryz.prog 144 #[.pointer (some ⟨b,0,none⟩),.int .i64 n] w fun e w'=>e=.returned (.tuple #[.int .u64 0,.int .i64 7])∧w=w':=by
 obtain⟨o,c,h0,hle,hc,hj⟩:=h.cells;have HV:=hid (Ql b w h.self);clear hj;go_enter Tryz.func144,Tryz.ntmps144
 go_wp2_with (first
  |(go_at_call 148;refine HV.out.mono ?_;rintro e w' ⟨rfl,rfl⟩)
  |(go_at_call 75;refine(QcO _ _ (by omega) (by omega)).mono ?_;rintro e w' ⟨rfl,rfl⟩)
  |fail)
 go_ret2
 exact⟨rfl,rfl⟩
end Oct
namespace Ref1
open Go.RowKit Go.Joins Bs Oct
def GrowB(base:Nat)(w:World)(l:List Int)(n:Nat)(e:Ending)(w':World):Prop:=
 ∃g c,e=.returned (.slice (some ⟨g,0,none⟩) n c)∧w'.ownsRow base 5 1 (.slice (some ⟨g,0,none⟩) n c) n (l.map (Value.int .u8))∧Below base w w'
end Ref1
end Go.Proofs.YtgffbbdcbkikhaaGreatDoor
