/- Parts of the proof. -/
import Derived.Test.YtbbbocoliandcaaGreatDoorKrC
set_option maxRecDepth 100000
set_option maxHeartbeats 8000000
open Go.Lib (hid)
namespace Go.Proofs.YtbbbocoliandcaaGreatDoor
namespace Crc
open Go.RowKit Bs
def tabN(n:Nat)(t:Nat→Nat):Array Value:=((List.range n).map fun i=>Value.int .u32 (t i:Int)).toArray
def tab(t:Nat→Nat):Array Value:=tabN 256 t
theorem Qk3(n:Nat)(t:Nat→Nat)(y:Nat)(h:y<n):(tabN n t)[y]?=some (.int .u32 (t y:Int)):=by
 simp[tabN,h]
theorem Qbx(t:Nat→Nat)(y:Nat)(h:y<256):(tab t)[y]?=some (.int .u32 (t y:Int)):=Qk3 256 t y h
theorem QjO(n:Nat)(t:Nat→Nat):(tabN n t).size=n:=by simp[tabN]
theorem Qcj(t:Nat→Nat):(tab t).size=256:=QjO 256 t
theorem xor8(S:Nat)(x:Int)(h0:0≤x)(h1:x<256):bits BinOp.xor IntKind.u8 ((S:Int) % 256) x=((S % 256 ^^^ x.toNat:Nat):Int)∧S % 256 ^^^ x.toNat<256:=by
 refine⟨?_,Nat.xor_lt_two_pow (n:=8) (by omega) (by omega)⟩;rw[u8_xor _ _ (by omega) (by omega) h0 h1,show((S:Int) % 256).toNat=S % 256 from by omega]
theorem xor32(S T:Nat)(h0:S<4294967296)(h1:T<4294967296):bits BinOp.xor IntKind.u32 ((S:Int) / 256) (T:Int)=((S / 256 ^^^ T:Nat):Int):=by
 have h:=u32_xor_nat (S / 256) T (by omega) h1;rw[←h]
 rfl
theorem Qg0(t:Nat→Nat)(s:Nat)(l:List Int)(k:Nat)(h:k<l.length):upd t s (l.take (k+1))=step t (upd t s (l.take k)) (l.getD k 0).toNat:=by
 rw[List.take_add_one,QiF,List.getElem?_eq_getElem h,List.getD_eq_getElem?_getD,List.getElem?_eq_getElem h]
 rfl
theorem Qgf{l:List Int}(h:Bs.IsB l)(k:Nat):0≤l.getD k 0∧l.getD k 0<256:=by
 rw[List.getD_eq_getElem?_getD];by_cases hk:k<l.length
 ·rw[List.getElem?_eq_getElem hk];exact h _ (List.getElem_mem _)
 ·rw[List.getElem?_eq_none (by omega)];decide
theorem QiG(t:Nat→Nat)(s:Nat)(a:Option Addr)(n c:Nat)(l:List Int)(w:World)(hs:Seg w a n c l)(hb:Bs.IsB l)(h0:s<4294967296)(ht:∀i,i<256→t i<4294967296) :
  Calls Tryz.prog 223 #[.agg (tab t),.int .u32 s,.slice a n c] w fun e w'=>e=.returned (.int .u32 (upd t s l))∧w.grownBy w' none:=by
 have hgr:=World.grownBy_alloc w (.cells (tab t) 254) none;by_cases hn:n=0
 ·subst hn;obtain rfl:=List.eq_nil_of_length_eq_zero hs.len;go_enter Tryz.func223,Tryz.ntmps223
  go_wp2;refine wp_loop_rounds 1 ?_;rw[rounds_succ];go_wp2;go_ret
  exact⟨rfl,hgr⟩
 ·obtain⟨g,o,rfl,k0⟩:=hs.addr (by omega);have hm:=hs.cap;have hle:=hs.le;have hl:=hs.len;unfold maxLen at hm;have HG:=hid hgr;have HL:=hid hl;have K0:=hid k0;have HT:=hid ht;have HB:=hid hb;clear k0 hs ht hb hl hgr;go_enter Tryz.func223,Tryz.ntmps223
  go_wp2
  go_loop [1,11] (fun sv i=>∃k:Nat,k≤n∧i=.int .i64 k∧sv=.int .u32 (upd t s (l.take k))) (fun _ i=>n-(intOf i).toNat)
  case atStart=>exact⟨0,Nat.zero_le _,rfl,rfl⟩
  case round=>
   obtain⟨k,hk,rfl,rfl⟩:=hrel;by_cases hlt:k<n
   ·have q1:=HG.out.cell (K0.out k hlt) (by simp);have hx:=Qgf HB.out k;have hS:upd t s (l.take k)<4294967296:=QdG t HT.out _ _ (fun x hx=>HB.out x (List.mem_of_mem_take hx)) h0;have HU:=hid (Qg0 t s l k (by rw[HL.out];exact hlt));generalize upd t s (l.take k)=S at hS HU;generalize l.getD k 0=x at q1 hx HU;obtain⟨e1,y1⟩:=xor8 S x hx.1 hx.2;have e2:=xor32 S _ hS (HT.out _ y1);have e3:=Qbx t _ y1;unfold step at HU;generalize S % 256 ^^^ x.toNat=y at e1 e2 e3 y1 HU;generalize t y=T at e2 e3 HU;obtain⟨x0,x1⟩:=hx;go_wp2
    go_round
    case rel=>exact⟨k+1,by omega,by go_num,by rw[HU.out]⟩
    case measure=>simp[intOf];omega
   ·obtain rfl:k=n:=by omega
    have HF:=hid (List.take_of_length_le (l:=l) (i:=k) (by rw[HL.out];exact Nat.le_refl _));go_wp2;go_ret
    exact⟨Qv (by rw[HF.out]),HG.out⟩
theorem Qhq(t:Nat→Nat)(s:Nat)(a:Option Addr)(n c:Nat)(l:List Int)(w:World)(hs:Seg w a n c l)(hb:Bs.IsB l)(h0:s<4294967296)(ht:∀i,i<256→t i<4294967296) :
  Calls Tryz.prog 225 #[.agg (tab t),.int .u32 s,.slice a n c] w fun e w'=>e=.returned (.int .u32 (upd t s l))∧w.grownBy w' none:=by
 have hgr:=World.grownBy_alloc w (.cells (tab t) 254) none;by_cases hn:n=0
 ·subst hn;obtain rfl:=List.eq_nil_of_length_eq_zero hs.len;go_enter Tryz.func225,Tryz.ntmps225
  go_wp2;refine wp_loop_rounds 1 ?_;rw[rounds_succ];go_wp2;go_ret
  exact⟨rfl,hgr⟩
 ·obtain⟨g,o,rfl,k0⟩:=hs.addr (by omega);have hm:=hs.cap;have hle:=hs.le;have hl:=hs.len;unfold maxLen at hm;have HG:=hid hgr;have HL:=hid hl;have K0:=hid k0;have HT:=hid ht;have HB:=hid hb;clear k0 hs ht hb hl hgr;go_enter Tryz.func225,Tryz.ntmps225
  go_wp2
  go_loop [1,7] (fun sv i=>∃k:Nat,k≤n∧i=.int .i64 k∧sv=.int .u32 (upd t s (l.take k))) (fun _ i=>n-(intOf i).toNat)
  case atStart=>exact⟨0,Nat.zero_le _,rfl,rfl⟩
  case round=>
   obtain⟨k,hk,rfl,rfl⟩:=hrel;by_cases hlt:k<n
   ·have q1:=HG.out.cell (K0.out k hlt) (by simp);have hx:=Qgf HB.out k;have hS:upd t s (l.take k)<4294967296:=QdG t HT.out _ _ (fun x hx=>HB.out x (List.mem_of_mem_take hx)) h0;have HU:=hid (Qg0 t s l k (by rw[HL.out];exact hlt));generalize upd t s (l.take k)=S at hS HU;generalize l.getD k 0=x at q1 hx HU;obtain⟨e1,y1⟩:=xor8 S x hx.1 hx.2;have e2:=xor32 S _ hS (HT.out _ y1);have e3:=Qbx t _ y1;unfold step at HU;generalize S % 256 ^^^ x.toNat=y at e1 e2 e3 y1 HU;generalize t y=T at e2 e3 HU;obtain⟨x0,x1⟩:=hx;go_wp2
    go_round
    case rel=>exact⟨k+1,by omega,by go_num,by rw[HU.out]⟩
    case measure=>simp[intOf];omega
   ·obtain rfl:k=n:=by omega
    have HF:=hid (List.take_of_length_le (l:=l) (i:=k) (by rw[HL.out];exact Nat.le_refl _));go_wp2;go_ret
    exact⟨Qv (by rw[HF.out]),HG.out⟩
theorem Qc6(t:Nat→Nat):(Tryz.prog.info? 254).map (·.size)=some (tab t).size:=by
 rw[Qcj]
 kernel_rfl
theorem Qgz(v:Nat)(h:v<4294967296):bits BinOp.xor IntKind.u32 IntKind.u32.max (v:Int)=((ones ^^^ v:Nat):Int):=u32_xor_nat ones v (by decide) h
theorem Ql9(t:Nat→Nat)(a:Option Addr)(n c:Nat)(l:List Int)(w:World)(hs:Seg w a n c l)(hb:Bs.IsB l)(ht:∀i,i<256→t i<4294967296) :
  Calls Tryz.prog 212 #[.agg (tab t),.slice a n c] w fun e w'=>e=.returned (.int .u32 (sum t l))∧w.grownBy w' none:=by
 have hgr:=World.grownBy_alloc w (.cells (tab t) 254) none;have hS:=hid (hs.grown hgr);have HG:=hid hgr;have HT:=hid ht;have hU:upd t ones l<4294967296:=QdG t ht _ _ hb (by decide);have HB:=hid hb;have HI:=hid (Qc6 t);have hcell:(w.alloc (.cells (tab t) 254)).heap[w.heap.size]?=some (.cells (tab t) 254 (0,0)):=heap_alloc_new w _;have HC:=hid hcell;clear hgr ht hb hs hcell;go_enter Tryz.func212,Tryz.ntmps212
 go_wp2_with (first
  |(refine wpList_load_row rfl _ _ rfl w.heap.size rfl _ (tab t) _ _ HC.out Tryz.underlying254 rfl HI.out ?_)
  |fail)
 refine(QiG t ones a n c l _ hS.out HB.out (by decide) HT.out).mono ?_;rintro e w2 ⟨rfl,hg2⟩;have hg3:=grownBy_trans HG.out hg2 (fun _ e=>by cases e);have H3:=hid hg3;have HO:Hid (bits BinOp.xor IntKind.u32 IntKind.u32.max (upd t ones l:Int)=(sum t l:Int)):=Qgz _ hU;clear hg2 hg3;generalize upd t ones l=U at HO hU;go_wp2;go_ret
 exact⟨Qv HO.out,H3.out⟩
theorem QkV(t:Nat→Nat)(a:Option Addr)(n c:Nat)(l:List Int)(w:World)(hs:Seg w a n c l)(hb:Bs.IsB l)(ht:∀i,i<256→t i<4294967296) :
  Calls Tryz.prog 220 #[.agg (tab t),.slice a n c] w fun e w'=>e=.returned (.int .u32 (sum t l))∧w.grownBy w' none:=by
 have hgr:=World.grownBy_alloc w (.cells (tab t) 254) none;have hS:=hid (hs.grown hgr);have HG:=hid hgr;have HT:=hid ht;have hU:upd t ones l<4294967296:=QdG t ht _ _ hb (by decide);have HB:=hid hb;have HI:=hid (Qc6 t);have hcell:(w.alloc (.cells (tab t) 254)).heap[w.heap.size]?=some (.cells (tab t) 254 (0,0)):=heap_alloc_new w _;have HC:=hid hcell;clear hgr ht hb hs hcell;go_enter Tryz.func220,Tryz.ntmps220
 go_wp2_with (first
  |(refine wpList_load_row rfl _ _ rfl w.heap.size rfl _ (tab t) _ _ HC.out Tryz.underlying254 rfl HI.out ?_)
  |fail)
 refine(Qhq t ones a n c l _ hS.out HB.out (by decide) HT.out).mono ?_;rintro e w2 ⟨rfl,hg2⟩;have hg3:=grownBy_trans HG.out hg2 (fun _ e=>by cases e);have H3:=hid hg3;have HO:Hid (bits BinOp.xor IntKind.u32 IntKind.u32.max (upd t ones l:Int)=(sum t l:Int)):=Qgz _ hU;clear hg2 hg3;generalize upd t ones l=U at HO hU;go_wp2;go_ret
 exact⟨Qv HO.out,H3.out⟩
theorem Qfo(v:Nat)(h:v<4294967296):bits BinOp.and IntKind.u32 (v:Int) 1=((v % 2:Nat):Int)∧bits BinOp.xor IntKind.u32 ((v:Int) / 2) 2197175160=((v / 2 ^^^ poly:Nat):Int):=by
 refine⟨?_,?_⟩
 ·have:=u32_and_nat v 1 h (by decide);rw[nat_mask1]at this;exact this
 ·exact u32_xor_nat (v / 2) poly (by omega) (by decide)
theorem Qi9(v:Nat)(w:World)(h:v<4294967296) :
  Calls Tryz.prog 224 #[.int .u32 v] w fun e w'=>e=.returned (.int .u32 (halve v))∧w=w':=by
 obtain⟨e1,e2⟩:=Qfo v h;have HE:=hid e2;by_cases h2:v % 2=1
 ·have HV:Hid (halve v=v / 2 ^^^ poly):=if_pos h2;have hb:(((v % 2:Nat):Int)==1)=true:=by simp;omega
  clear e2;go_enter Tryz.func224,Tryz.ntmps224
  go_wp2;go_ret
  exact⟨Qv (by rw[HV.out];exact HE.out),rfl⟩
 ·have HV:Hid (halve v=v / 2):=if_neg h2;have hb:(((v % 2:Nat):Int)==1)=false:=by simp;omega
  clear e2;go_enter Tryz.func224,Tryz.ntmps224
  go_wp2;go_ret
  exact⟨Qv (by rw[HV.out];omega),rfl⟩
theorem Qd1(n v:Nat):halves (n+1) v=halve (halves n v):=Qib n 1 v
def part(k i:Nat):Nat:=if i<k then entry i else 0
theorem QfC:tab (part 0)=tab fun _=>0:=by
 have:part 0=fun _=>0:=by funext i;simp[part]
 rw[this]
theorem Qk4(n:Nat)(t:Nat→Nat):(tabN n t).all (·.oneCell')=true:=by
 rw[Array.all_eq_true_iff_forall_mem];intro v hv;simp[tabN]at hv;obtain⟨i,_,rfl⟩:=hv
 rfl
theorem QhN(t:Nat→Nat):(tab t).all (·.oneCell')=true:=Qk4 256 t
theorem QiE(n:Nat)(t u:Nat→Nat)(h:∀i,i<n→t i=u i):tabN n t=tabN n u:=by
 unfold tabN
 congr 1
 refine List.map_congr_left fun i hi=>?_
 rw[h i (List.mem_range.1 hi)]
theorem QgV:tab (part 256)=tab entry:=QiE 256 _ _ fun _ hi=>if_pos hi
theorem Qk5(n:Nat)(k:Nat):(tabN n (part k)).setIfInBounds k (.int .u32 (entry k:Int))=tabN n (part (k+1)):=by
 apply Array.ext
 ·simp[tabN]
 ·intro i h1 h2;have hi:i<n:=by simpa [tabN] using h2
  rw[Array.getElem_setIfInBounds (by simpa [tabN] using hi)];by_cases e:k=i
  ·subst e;simp[tabN,part]
  ·rw[if_neg e];have:(i<k+1)=(i<k):=by apply propext;omega
   simp[tabN,part,this]
theorem QhO(k:Nat):(tab (part k)).setIfInBounds k (.int .u32 (halves 8 k:Int))=tab (part (k+1)):=Qk5 256 k
theorem QjP(w:World) :
  Calls Tryz.prog 213 #[] w fun e w'=>e=.returned (.agg (tab entry))∧w.grownBy w' none:=by
 have hz:∀w:World,(zeroValue 254).run Tryz.prog w=.ok (.agg (tab (part 0))) w:=fun _=>by rw[QfC];kernel_rfl
 go_enter Tryz.func213,Tryz.ntmps213
 go_wp2
 go_loopw [4] (fun i wr=>∃k:Nat,k≤256∧i=.int .i64 k∧wr=(w.alloc (.cells (tab (part 0)) 254)).alloc (.cells (tab (part k)) 254)) (fun i _=>256-(intOf i).toNat)
 case atStart=>exact⟨0,Nat.zero_le _,rfl,rfl⟩
 case round=>
  obtain⟨k,hk,rfl,rfl⟩:=hrel;by_cases hlt:k<256
  ·have hd:decide ((k:Int)<256)=true:=by simp;omega
   go_wp2
   go_loop [3,9] (fun v j=>∃m:Nat,m≤8∧j=.int .i64 m∧v=.int .u32 (halves m k)) (fun _ j=>8-(intOf j).toNat)
   case atStart=>exact⟨0,Nat.zero_le _,rfl,rfl⟩
   case round=>
    obtain⟨m,hm,rfl,rfl⟩:=hrel;have hv:halves m k<4294967296:=Qdu m k (by omega);by_cases hm8:m<8
    ·have HL:=hid (Qd1 m k);go_wp2_with (go_at_call 224;refine(Qi9 _ _ hv).mono ?_;rintro e w' ⟨rfl,rfl⟩)
     go_round
     case rel=>exact⟨m+1,by omega,by go_num,by rw[HL.out]⟩
     case measure=>simp[intOf];omega
    ·obtain rfl:m=8:=by omega
     have hg:=Qbx (part k) k hlt;have HS:=hid (QhO k);go_wp2;exact⟨⟨k+1,by omega,by go_num,by rw[HS.out]⟩,by simp[intOf];omega⟩
  ·obtain rfl:k=256:=by omega
   have HI:=hid (Qc6 entry);have H1:=hid (heap_alloc2_new w (.cells (tab (part 0)) 254) (.cells (tab (part 256)) 254));have H0:=hid (heap_alloc2_old w (.cells (tab (part 0)) 254) (.cells (tab (part 256)) 254));have hg:w.grownBy (((w.alloc (.cells (tab (part 0)) 254)).alloc (.cells (tab entry) 254)).setRow w.heap.size (tab entry)) none:=
    ⟨rfl,rfl,rfl,by simp;omega,fun k hk _=>by rw[setRow_other _ _ _ _ (by omega),heap_alloc_old _ _ (by simp;omega),heap_alloc_old _ _ hk]⟩
   have HG:=hid hg;have HR:=hid (setRow_heap _ w.heap.size _ (tab entry) _ _ H0.out);rw[QgV]at *;clear hg;go_wp2_with (first
    |(refine wpList_load_row rfl _ _ rfl (w.heap.size+1) rfl _ (tab entry) _ _ H1.out Tryz.underlying254 rfl HI.out ?_)
    |(refine wpList_store_row rfl _ _ _ rfl w.heap.size (tab entry) rfl rfl _ (tab (part 0)) H0.out HI.out (by rw[Qcj,Qcj]) (QhN _) ?_)
    |fail)
   refine bodyPost_ret (v:=.agg (tab entry)) ?_ rfl ⟨rfl,HG.out⟩;exact results_cell_row rfl _ _ w.heap.size _ _ _ _ rfl HR.out Tryz.underlying254 rfl HI.out
theorem QiC(w:World) :
  Calls Tryz.prog 221 #[] w fun e w'=>e=.returned (.agg (tab entry))∧w.grownBy w' none:=by
 have hz:∀w:World,(zeroValue 254).run Tryz.prog w=.ok (.agg (tab (part 0))) w:=fun _=>by rw[QfC];kernel_rfl
 go_enter Tryz.func221,Tryz.ntmps221
 go_wp2
 go_loopw [2] (fun i wr=>∃k:Nat,k≤256∧i=.int .i64 k∧wr=(w.alloc (.cells (tab (part 0)) 254)).alloc (.cells (tab (part k)) 254)) (fun i _=>256-(intOf i).toNat)
 case atStart=>exact⟨0,Nat.zero_le _,rfl,rfl⟩
 case round=>
  obtain⟨k,hk,rfl,rfl⟩:=hrel;by_cases hlt:k<256
  ·have hd:decide ((k:Int)<256)=true:=by simp;omega
   go_wp2
   go_loop [3,4] (fun v j=>∃m:Nat,m≤8∧j=.int .i64 m∧v=.int .u32 (halves m k)) (fun _ j=>8-(intOf j).toNat)
   case atStart=>exact⟨0,Nat.zero_le _,rfl,rfl⟩
   case round=>
    obtain⟨m,hm,rfl,rfl⟩:=hrel;have hv:halves m k<4294967296:=Qdu m k (by omega);by_cases hm8:m<8
    ·obtain⟨_,e2⟩:=Qfo (halves m k) hv;have HE:=hid e2;have HL:=hid (Qd1 m k);clear e2;generalize halves m k=v at hv HE HL;by_cases h2:v % 2=1
     ·have HV:Hid (halve v=v / 2 ^^^ poly):=if_pos h2;have hb:((v:Int) % 2==1)=true:=by simp;omega
      go_wp2
      go_round
      case rel=>exact⟨m+1,by omega,by go_num,by rw[HL.out,HV.out,HE.out]⟩
      case measure=>simp[intOf];omega
     ·have HV:Hid (halve v=v / 2):=if_neg h2;have hb:((v:Int) % 2==1)=false:=by simp;omega
      go_wp2
      go_round
      case rel=>exact⟨m+1,by omega,by go_num,by rw[HL.out,HV.out];go_num⟩
      case measure=>simp[intOf];omega
    ·obtain rfl:m=8:=by omega
     have hg:=Qbx (part k) k hlt;have HS:=hid (QhO k);go_wp2;exact⟨⟨k+1,by omega,by go_num,by rw[HS.out]⟩,by simp[intOf];omega⟩
  ·obtain rfl:k=256:=by omega
   have HI:=hid (Qc6 entry);have H1:=hid (heap_alloc2_new w (.cells (tab (part 0)) 254) (.cells (tab (part 256)) 254));have H0:=hid (heap_alloc2_old w (.cells (tab (part 0)) 254) (.cells (tab (part 256)) 254));have hg:w.grownBy (((w.alloc (.cells (tab (part 0)) 254)).alloc (.cells (tab entry) 254)).setRow w.heap.size (tab entry)) none:=
    ⟨rfl,rfl,rfl,by simp;omega,fun k hk _=>by rw[setRow_other _ _ _ _ (by omega),heap_alloc_old _ _ (by simp;omega),heap_alloc_old _ _ hk]⟩
   have HG:=hid hg;have HR:=hid (setRow_heap _ w.heap.size _ (tab entry) _ _ H0.out);rw[QgV]at *;clear hg;go_wp2_with (first
    |(refine wpList_load_row rfl _ _ rfl (w.heap.size+1) rfl _ (tab entry) _ _ H1.out Tryz.underlying254 rfl HI.out ?_)
    |(refine wpList_store_row rfl _ _ _ rfl w.heap.size (tab entry) rfl rfl _ (tab (part 0)) H0.out HI.out (by rw[Qcj,Qcj]) (QhN _) ?_)
    |fail)
   refine bodyPost_ret (v:=.agg (tab entry)) ?_ rfl ⟨rfl,HG.out⟩;exact results_cell_row rfl _ _ w.heap.size _ _ _ _ rfl HR.out Tryz.underlying254 rfl HI.out
theorem Qba(a:Option Addr)(n c:Nat)(l:List Int)(w:World)(hs:Seg w a n c l)(hb:Bs.IsB l) :
  Calls Tryz.prog 195 #[.slice a n c] w fun e w'=>e=.returned (.int .u32 (crc l))∧w.grownBy w' none:=by
 have HB:=hid hb;have HS:=hid hs;clear hb hs;go_enter Tryz.func195,Tryz.ntmps195
 go_wp2_with fail
 refine(QjP w).mono ?_;rintro e w1 ⟨rfl,hg1⟩;have H1:=hid hg1;clear hg1;go_wp2_with fail
 refine(Ql9 entry a n c l w1 (HS.out.grown H1.out) HB.out Qd9).mono ?_;rintro e w2 ⟨rfl,hg2⟩;have H2:=hid (grownBy_trans H1.out hg2 (fun _ e=>by cases e));clear hg2;go_wp2;go_ret
 exact⟨rfl,H2.out⟩
theorem Qa5(a:Option Addr)(n c:Nat)(l:List Int)(w:World)(hs:Seg w a n c l)(hb:Bs.IsB l) :
  Calls Tryz.prog 206 #[.slice a n c] w fun e w'=>e=.returned (.int .u32 (crc l))∧w.grownBy w' none:=by
 have HB:=hid hb;have HS:=hid hs;clear hb hs;go_enter Tryz.func206,Tryz.ntmps206
 go_wp2_with fail
 refine(QiC w).mono ?_;rintro e w1 ⟨rfl,hg1⟩;have H1:=hid hg1;clear hg1;go_wp2_with fail
 refine(QkV entry a n c l w1 (HS.out.grown H1.out) HB.out Qd9).mono ?_;rintro e w2 ⟨rfl,hg2⟩;have H2:=hid (grownBy_trans H1.out hg2 (fun _ e=>by cases e));clear hg2;go_wp2;go_ret
 exact⟨rfl,H2.out⟩
end Crc
namespace Bl
open Go.RowKit
open Bs (grownBy_trans QM)
theorem Qdv:(Tryz.prog.info? 4).map (fun i=>(i.zero,i.size,i.bytes))=some (some (.bool false),1,1):=by kernel_rfl
end Bl
namespace Dr
open Go.RowKit Go
variable {P : Program} {ops : Array Oper} {Q : Exit → Act → World → Prop} {md : Region.Mode}
def upd(L:Nat→Bool)(i:Nat):Nat→Bool:=fun j=>L j || j==i
theorem Q9(L:Nat→Bool)(i:Nat):upd L i i=true:=by simp[upd]
theorem Qn{L:Nat→Bool}{i j:Nat}(h:L j=true):upd L i j=true:=by simp[upd,h]
theorem Qf{L:Nat→Bool}{i j:Nat}(h:upd L i j=true)(hne:j≠i):L j=true:=by simpa [upd,hne] using h
def backB(md:Region.Mode)(ops:Array Oper):Bool:=(List.range ops.size).all fun i=>((ops[i]?).map fun o=>o.after.all fun e=>!Region.binds md e || decide (e.on<i)).getD true
def needs(md:Region.Mode)(o:Oper):List Nat:=(o.after.toList.filter fun e=>Region.binds md e).map (·.on)
def StepAt(P:Program)(md:Region.Mode)(ops:Array Oper)(Q:Exit→Act→World→Prop)(I:(Nat→Bool)→Act→World→Prop)(i:Nat):Prop:=
 ∀L a w,L i=false→(∀o,ops[i]?=some o→∀j∈needs md o,L j=true)→I L a w→wpOp P ops Q i (I (upd L i)) a w
theorem StepAt.mk{I:(Nat→Bool)→Act→World→Prop}{i:Nat}{o:Oper}{ns:List Nat}(ho:ops[i]?=some o)(hn:needs md o=ns)(hg:o.guard=none)
  (h:∀L a w,L i=false→(∀j∈ns,L j=true)→I L a w→o.wp P a w (I (upd L i)) Q):StepAt P md ops Q I i:=by
 intro L a w h0 h1 h2;unfold wpOp;rw[ho]
 show if Region.wanted o (yielded ops a.tmps)=true then _ else _
 rw[if_pos (by simp[Region.wanted,hg])];exact .inl (h L a w h0 (fun j hj=>h1 o ho j (by rw[hn];exact hj)) h2)
theorem Qlk(hb:backB md ops=true){i:Nat}{o:Oper}(ho:ops[i]?=some o):∀e∈o.after,Region.binds md e=true→e.on<i:=by
 intro e he hbi;have hlt:i<ops.size:=(Array.getElem?_eq_some_iff.1 ho).1;have h:=List.all_eq_true.1 hb i (List.mem_range.2 hlt);rw[ho]at h;simp only[Option.map_some,Option.getD_some,Array.all_eq_true_iff_forall_mem]at h;have h2:=h e he;rw[hbi]at h2
 simpa using h2
theorem ready_nil(hb:backB md ops=true){listed:Array Bool}(hs:listed.size=ops.size)(h:Region.ready md ops listed=[])(i:Nat):i<ops.size→listed.getD i true=true:=by
 induction i using Nat.strongRecOn with
 |ind i ih=>
  intro hi;cases hl:listed.getD i true with
  |true=>rfl
  |false=>
   have hm:i∈Region.ready md ops listed:=by
    refine mem_ready.2 ⟨hl,ops[i],Array.getElem?_eq_some_iff.2 ⟨hi,rfl⟩,fun e he hbi=>?_⟩;have hlt:=Qlk hb (Array.getElem?_eq_some_iff.2 ⟨hi,rfl⟩) e he hbi;have h1:=ih e.on hlt (by omega);rw[Array.getD_eq_getD_getElem?]at h1 ⊢;rw[Array.getElem?_eq_some_iff.2 ⟨show e.on<listed.size by omega,rfl⟩]at h1 ⊢;exact h1
   rw[h]at hm;cases hm
theorem QeC{p q:Nat→Bool}{i:Nat}:∀{l:List Nat},i∈l→p i=true→q i=false→(∀j,q j=true→p j=true)→l.countP q<l.countP p
 | [],h,_,_,_=>by cases h
 |k :: l,h,hp,hq,hpq=>by
  have hle:l.countP q≤l.countP p:=List.countP_mono_left (fun j _=>hpq j);by_cases hk:k=i
  ·subst hk;rw[List.countP_cons_of_pos hp,List.countP_cons_of_neg (by simp[hq])];omega
  ·have hm:i∈l:=(List.mem_cons.1 h).resolve_left (fun e=>hk e.symm);have ih:=QeC hm hp hq hpq;rw[List.countP_cons,List.countP_cons];have:(if q k=true then 1 else 0)≤(if p k=true then 1 else 0):=by
    by_cases h1:q k=true
    ·rw[if_pos h1,if_pos (hpq k h1)];exact Nat.le_refl _
    ·rw[if_neg h1];exact Nat.zero_le _
   omega
theorem QdK{I:(Nat→Bool)→Act→World→Prop}(hb:backB md ops=true)(hstep:∀i,i<ops.size→StepAt P md ops Q I i)
  (hend:∀L a w,(∀i,i<ops.size→L i=true)→I L a w→Q .normal a w):∀(fuel:Nat) (listed:Array Bool) (a:Act) (w:World),listed.size=ops.size →
  (List.range ops.size).countP (fun i=>!listed.getD i true)≤fuel→I (fun i=>listed.getD i false) a w→wpAny P md ops Q fuel listed a w:=by
 have same:∀(listed:Array Bool) (i:Nat),listed.size=ops.size→i<ops.size→listed.getD i true=listed.getD i false:=fun listed i hs hi=>by
  rw[Array.getD_eq_getD_getElem?,Array.getD_eq_getD_getElem?,Array.getElem?_eq_some_iff.2 ⟨show i<listed.size by omega,rfl⟩]
  rfl
 have last:∀(listed:Array Bool) (a:Act) (w:World),listed.size=ops.size→I (fun i=>listed.getD i false) a w→Region.ready md ops listed=[]→Q .normal a w:=fun listed a w hs hI hr=>
  hend _ a w (fun i hi=>by rw[←same listed i hs hi];exact ready_nil hb hs hr i hi) hI
 intro fuel
 induction fuel with
 |zero=>
  intro listed a w hs hc hI;have hr:Region.ready md ops listed=[]:=by
   rw[List.eq_nil_iff_forall_not_mem];intro j hj;obtain⟨h0,o,ho,_⟩:=mem_ready.1 hj;have hlt:j<ops.size:=(Array.getElem?_eq_some_iff.1 ho).1;have:=List.countP_pos_iff (p:=fun i=>!listed.getD i true).2 ⟨j,List.mem_range.2 hlt,by simp only[h0,Bool.not_false]⟩;omega
  exact⟨hr,last listed a w hs hI hr⟩
 |succ fuel ih=>
  intro listed a w hs hc hI;refine⟨last listed a w hs hI,fun i hi=>?_⟩;obtain⟨h0,o,ho,hn⟩:=mem_ready.1 hi;have hlt:i<ops.size:=(Array.getElem?_eq_some_iff.1 ho).1;have h1:=hstep i hlt (fun i=>listed.getD i false) a w (by rw[←same listed i hs hlt];exact h0) (fun o' ho' j hj=>by
   rw[ho]at ho';obtain rfl:=Option.some.inj ho';obtain⟨e,he,rfl⟩:=List.mem_map.1 hj;obtain⟨he1,he2⟩:=List.mem_filter.1 he;exact hn e (Array.mem_toList_iff.1 he1) he2) hI
  refine wpOp_mono (fun a' w' h=>ih _ a' w' (by simp[hs]) ?_ ?_) h1
  ·have:=QeC (p:=fun i=>!listed.getD i true) (q:=fun j=>!(listed.setIfInBounds i true).getD j true) (l:=List.range ops.size) (List.mem_range.2 hlt) (by simp only[h0,Bool.not_false])
    (by simp[show i<listed.size by omega]) (fun j hj=>by
     by_cases e:i=j
     ·subst e;simp[show i<listed.size by omega]at hj
     ·rw[getD_set_ne true e]at hj;exact hj)
   omega
  ·refine cast (congrArg (fun L=>I L a' w') (funext fun j=>?_)) h;by_cases e:i=j
   ·subst e;simp[upd,show i<listed.size by omega]
   ·rw[getD_set_ne false e];simp[upd,show ¬j=i from fun h=>e h.symm]
theorem QfO{I:(Nat→Bool)→Act→World→Prop}{id:Nat}{a:Act}{w:World}(hm:P.follows .mixedOrders=true)(hb:backB .any ops=true)(h0:I (fun _=>false) a w.drew)
  (hstep:∀i,i<ops.size→StepAt P .any ops Q I i) (hend:∀L a w,(∀i,i<ops.size→L i=true)→I L a w→Q .normal a w):(Code.region id ops true).wp P Q a w:=by
 refine wp_region_any hm ?_;refine QdK hb hstep hend _ _ _ _ (by simp) ?_ ?_
 ·exact Nat.le_trans List.countP_le_length (by simp)
 ·refine cast (congrArg (fun L=>I L a w.drew) (funext fun j=>?_)) h0;rw[Array.getD_eq_getD_getElem?];by_cases hj:j<ops.size
  ·simp[hj]
  ·simp[hj]
theorem QH{I:Act→(Nat→Bool)→Act→World→Prop}{id:Nat}{a:Act}{w:World}(hm:P.follows .mixedOrders=true)(hb:backB .any ops=true)(h0:I a (fun _=>false) a w.drew)
  (hstep:∀i,i<ops.size→StepAt P .any ops Q (I a) i) (hend:∀L a' w',(∀i,i<ops.size→L i=true)→I a L a' w'→Q .normal a' w'):(Code.region id ops true).wp P Q a w:=
 QfO hm hb h0 hstep hend
theorem all_nil{p:Nat→Prop}:∀i,i<0→p i:=fun _ h=>by omega
theorem Qc{p:Nat→Prop}{n:Nat}(h:∀i,i<n→p i)(hn:p n):∀i,i<n+1→p i:=fun i hi=>by
 by_cases e:i=n
 ·subst e;exact hn
 ·exact h i (by omega)
def At(a:Act)(d:Nat):Value:=a.tmps.getD d undef
theorem At.Qbi{a:Act}{d:Nat}{v:Value}(h:d<a.tmps.size):At (a.put (some d) v) d=v:=by simp[At,Act.put,h]
theorem At.QY{a:Act}{d e:Nat}{v:Value}(h:e≠d):At (a.put (some d) v) e=At a e:=by
 unfold At Act.put;simp only[Array.getD_eq_getD_getElem?,Array.getElem?_setIfInBounds_ne (Ne.symm h)]
structure Agr (D:List Nat) (a0 a:Act):Prop where
 defers:a.defers=a0.defers
 size:a.tmps.size=a0.tmps.size
 same:∀j,j∉D→a.tmps[j]?=a0.tmps[j]?
theorem Agr.refl(D:List Nat)(a:Act):Agr D a a:=⟨rfl,rfl,fun _ _=>rfl⟩
theorem Agr.put{D:List Nat}{a0 a:Act}{d:Nat}(h:Agr D a0 a)(hd:d∈D)(v:Value):Agr D a0 (a.put (some d) v):=
 ⟨h.defers,by rw[←h.size];simp[Act.put],fun j hj=>by
  rw[←h.same j hj];exact Array.getElem?_setIfInBounds_ne (fun e=>hj (by rw[←e];exact hd))⟩
theorem Agr.at_{D:List Nat}{a0 a:Act}{d:Nat}(h:Agr D a0 a)(hd:d∉D):At a d=At a0 d:=by
 unfold At;rw[Array.getD_eq_getD_getElem?,Array.getD_eq_getD_getElem?,h.same d hd]
theorem Qd0(a:Act):∀(D:List Nat) (b:Act),(D.foldl (fun b d=>b.put (some d) (At a d)) b).defers=b.defers
 | [],_=>rfl
 |_ :: D,_=>(Qd0 a D _).trans rfl
theorem fold_at(a:Act):∀(D:List Nat) (b:Act) (j:Nat),(D.foldl (fun b d=>b.put (some d) (At a d)) b).tmps[j]?=if j∈D then(b.tmps[j]?).map (fun _=>At a j) else b.tmps[j]?
 | [],_,_=>by simp
 |d :: D,b,j=>by
  rw[List.foldl_cons,fold_at a D];by_cases e:d=j
  ·subst e;by_cases h:d∈D
   ·rw[if_pos h,if_pos (by simp)];simp only[Act.put,Array.getElem?_setIfInBounds_self];by_cases hs:d<b.tmps.size
    ·simp[hs]
    ·simp[hs]
   ·rw[if_neg h,if_pos (by simp)];simp only[Act.put,Array.getElem?_setIfInBounds_self];by_cases hs:d<b.tmps.size
    ·simp[hs]
    ·simp[hs]
  ·have h1:(b.put (some d) (At a d)).tmps[j]?=b.tmps[j]?:=Array.getElem?_setIfInBounds_ne e;rw[h1];by_cases h:j∈D
   ·rw[if_pos h,if_pos (by simp[h])]
   ·rw[if_neg h,if_neg (by simp[h];exact fun e'=>e e'.symm)]
theorem Agr.form{D:List Nat}{a0 a:Act}(h:Agr D a0 a):a=D.foldl (fun b d=>b.put (some d) (At a d)) a0:=by
 have h1:a.defers=(D.foldl (fun b d=>b.put (some d) (At a d)) a0).defers:=by rw[Qd0,h.defers]
 have h2:a.tmps=(D.foldl (fun b d=>b.put (some d) (At a d)) a0).tmps:=by
  refine Array.ext_getElem? fun j=>?_
  rw[fold_at];by_cases hj:j∈D
  ·rw[if_pos hj];by_cases hs:j<a.tmps.size
   ·have hs0:j<a0.tmps.size:=by rw[←h.size];exact hs
    simp[At,hs,hs0]
   ·have hs0:¬j<a0.tmps.size:=by rw[←h.size];exact hs
    simp[hs,hs0]
  ·rw[if_neg hj,h.same j hj]
 generalize D.foldl (fun b d=>b.put (some d) (At a d)) a0=b at *;cases a;cases b
 simp only at h1 h2;rw[h1,h2]
theorem Qe{o:Oper}{a:Act}{w:World}{v:Value}{K:Act→World→Prop}(hy:(execOp a.eval o).run P w=.ok (.value v) w)(h:K (a.put o.dst v) w):o.wp P a w K Q:=by
 unfold Oper.wp;rw[hy];exact h
theorem Qax{o:Oper}{a:Act}{w w':World}{v:Value}{K:Act→World→Prop}(hy:(execOp a.eval o).run P w=.ok (.value v) w')(h:K (a.put o.dst v) w'):o.wp P a w K Q:=by
 unfold Oper.wp;rw[hy];exact h
theorem QbB{o:Oper}{a:Act}{w:World}{f:FuncId}{vs:Array Value}{v:Value}{R:World→Prop}{K:Act→World→Prop}(hy:(execOp a.eval o).run P w=.ok (.enter f vs) w)
  (h:Calls P f vs w fun e w'=>e=.returned v∧R w') (hK:∀w',R w'→K (a.put o.dst v) w'):o.wp P a w K Q:=by
 unfold Oper.wp;rw[hy];exact h.mono fun e w' ⟨he,hr⟩=>by subst he;exact hK w' hr
end Dr
namespace Ss
open Go.RowKit
open Bs (grownBy_trans QM)
def encW(x:List Int):Value:=.string (strOfNums x)
structure Seg (w:World) (a:Option Addr) (n c:Nat) (l:List (List Int)):Prop where
 len:l.length=n
 le:n≤c
 cap:c≤maxLen
 nil_:a=none→n=0∧c=0
 at_:∀ad,a=some ad→∀j u,(l.map encW)[j]?=some u→w.cell? (ad.add j)=some u
theorem Seg.own{w:World}{base e g n c:Nat}{l:List (List Int)}(h:w.ownsRow base e 1 (.slice (some ⟨g,0,none⟩) n c) n (l.map encW)):Seg w (some ⟨g,0,none⟩) n c l:=by
 have hl:l.length=n:=by simpa using h.1
 refine⟨hl,?_,?_,fun e=>by(cases e),?_⟩
 ·rcases h.2 with ⟨e,_⟩|⟨g',cap,cur,e,_,_,h1,h2,_⟩
  ·cases e
  ·cases e;exact h1
 ·rcases h.2 with ⟨e,_⟩|⟨g',cap,cur,e,_,_,h1,h2,_⟩
  ·cases e
  ·cases e;exact h2
 ·intro ad had j u hu;cases had
  exact h.cells rfl j u hu
theorem Seg.kept{w w':World}{a:Option Addr}{n c:Nat}{l:List (List Int)}(h:Seg w a n c l){row:Option Nat}(hg:w.grownBy w' row)(hne:∀ad,a=some ad→row≠some ad.block):Seg w' a n c l:=by
 refine⟨h.len,h.le,h.cap,h.nil_,fun ad had j u hu=>hg.cell (h.at_ ad had j u hu) ?_⟩;intro e;have:(ad.add j).block=ad.block:=by unfold Addr.add;split <;> rfl
 rw[this]at e;exact hne ad had e.symm
theorem Seg.grown{w w':World}{a:Option Addr}{n c:Nat}{l:List (List Int)}(h:Seg w a n c l)(hg:w.grownBy w' none):Seg w' a n c l:=h.kept hg (fun _ _ e=>by cases e)
theorem Seg.addr{w:World}{a:Option Addr}{n c:Nat}{l:List (List Int)}(h:Seg w a n c l)(hn:0<n):∃g o,a=some ⟨g,o,none⟩∧∀j,j<n→w.cell? ⟨g,o+j,none⟩=some (.string (strOfNums (l.getD j []))):=by
 have hl:=h.len;cases a with
 |none=>have:=h.nil_ rfl;omega
 |some ad=>
  have hc:=h.at_ ad rfl;obtain⟨g,o,spot⟩:=ad;have h0:=hc 0 (encW (l.getD 0 [])) (by simp[List.getD];rw[List.getElem?_eq_getElem (by omega)];exact⟨_,rfl,rfl⟩);have hspot:spot=none:=by simpa [Addr.add] using World.cell?_spot h0
  subst hspot;refine⟨g,o,rfl,fun j hj=>?_⟩;have h1:=hc j (encW (l.getD j [])) (by simp[List.getD];rw[List.getElem?_eq_getElem (by omega)];exact⟨_,rfl,rfl⟩);rw[Addr.add_lit]at h1;exact h1
theorem Qeg:(Tryz.prog.info? 9).map (fun i=>(i.zero,i.size,i.bytes))=some (some (.string ⟨#[]⟩),1,16):=by kernel_rfl
end Ss
end Go.Proofs.YtbbbocoliandcaaGreatDoor
