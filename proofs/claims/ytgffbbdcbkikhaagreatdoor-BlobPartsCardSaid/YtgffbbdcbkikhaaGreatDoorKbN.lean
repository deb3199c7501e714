/- Parts of the proof. -/
import Derived.Test.YtgffbbdcbkikhaaGreatDoorKbJ
import Derived.Test.YtgffbbdcbkikhaaGreatDoorKbK
set_option maxRecDepth 100000
set_option maxHeartbeats 8000000
open Go.Lib (hid)
namespace Go.Proofs.YtgffbbdcbkikhaaGreatDoor
namespace Dv
open Go.RowKit Bs
theorem sclone_any (s:ByteArray) (w:World) (hs:s.size≤140737488355328) :
    Calls Tryz.prog 116 #[.string s] w fun e w'=>e=.returned (.string s)∧Turn w w' nowhere:=by
  by_cases h0:s.size=0
  · have e:s=⟨#[]⟩:=ByteArray.ext (Array.eq_empty_of_size_eq_zero h0)
    subst e
    clear h0
    go_enter Tryz.func116,Tryz.ntmps116
    go_wp2
    go_ret
    exact⟨rfl,Turn.refl _ _⟩
  · obtain ⟨i0,hi,hz0,hz1,hz2⟩:=info_parts QU     
    have hinfo:(Tryz.prog.info? 5).map (·.size)=some 1:=by rw[hi];simp[hz1]
    have hco:Tryz.prog.cellsOf 5=1:=by kernel_rfl
    have hne:s.data.toList≠[]:=fun e=>h0 (by rw[Lib.size_eq,e];rfl)
    have hsz:=Lib.size_eq s
    have e1:((s.size:Int)==0)=false:=beq_eq_false_iff_ne.2 (by omega)
    have e2:0<s.size:=by omega
    have HEQ:Hid ((⟨s.data.toList.toArray⟩:ByteArray)=s):=hid (by apply ByteArray.ext;simp)
    have HSZ:=hid hsz
    have HNE:=hid hne
    clear hsz hne h0
    go_enter Tryz.func116,Tryz.ntmps116
    go_wp2_with (first
      | (refine wpList_make_full _ rfl _ _ 46 rfl w.heap.size 5 i0 (.int .u8 0) 1 Tryz.underlying46 hi hz0 hz1 _ _ _ _ s.size rfl rfl rfl rfl (by rw[hz2];omega) (by unfold maxLen;omega) (Nat.le_refl _) ?_
         intro w0 hown0 hgrow0
         obtain⟨cur,hg,hcs⟩:=Qkz hown0
         have hcp:=Lib.run_copy_row_string (P:=Tryz.prog) w0 46 9 3 5 w.heap.size 0 s.size s.size s cur 5 Tryz.underlying46 hinfo hg (Nat.le_refl _) (by omega)
         obtain⟨Y,hY⟩:∃Y,Y=(cur.toList.take 0++Lib.byteCells s.data.toList++cur.toList.drop (0+s.size)).toArray:=⟨_,rfl⟩
         rw[←hY]at hcp
         have hYl:Y.toList=Lib.byteCells s.data.toList:=by
           rw[hY,List.toList_toArray,List.take_zero,List.nil_append,List.drop_of_length_le (by rw[Array.length_toList];omega),List.append_nil]
         have hYs:Y.size=s.size:=by rw[←Array.length_toList,hYl,Lib.byteCells_length,←HSZ.out]
         have hgY:=setRow_heap w0 w.heap.size cur Y 5 (0,0) hg
         have hUS:=Lib.run_unsafeString_row (P:=Tryz.prog) (w0.setRow w.heap.size Y) 128 3 9 5 Tryz.underlying128 hco w.heap.size Y.size (by unfold World.shape?;rw[hgY]) s.data.toList HNE.out (by rw[←HSZ.out];omega) (by rw[←HSZ.out];omega)
           (fun j x hx=>by
             rw[Addr.add_lit,cell_of_row _ _ _ _ _ _ hgY,←Array.getElem?_toList,hYl]
             simp[Lib.byteCells,hx])
         rw[←HSZ.out,HEQ.out]at hUS
         have HT:Hid (Turn w ((w0.setRow w.heap.size Y).freeze ⟨w.heap.size,0,none⟩ s.size) nowhere):=hid (by
           have t1:Turn w w0 (fun k=>w.heap.size≤k):=Turn.Qf hgrow0 (fun i e=>by cases e)
           have t2:Turn w0 (w0.setRow w.heap.size Y) (fun k=>w.heap.size≤k):=⟨rfl,rfl,rfl,by simp,fun k _ hk=>setRow_other _ _ _ _ (fun e=>hk (by rw[e];exact Nat.le_refl _))⟩
           have t3:=Qg1 (w0.setRow w.heap.size Y) ⟨w.heap.size,0,none⟩ s.size (S:=fun k=>w.heap.size≤k) (Nat.le_refl _)
           exact((t1.trans t2 (fun _ _ h=>h)).trans t3 (fun _ _ h=>h)).mono (fun i hi h=>by omega))
         clear hY hYl hg hgY hown0 hgrow0)
      |fail)
    go_ret
    exact⟨rfl,HT.out⟩
theorem Qc5(s:ByteArray)(w:World)(hs:s.size≤140737488355328) :
  Calls Tryz.prog 87 #[.string s] w fun e w'=>e=.returned (.string s)∧Turn w w' nowhere:=by
 go_enter Tryz.func87,Tryz.ntmps87
 go_wp2_with fail
 refine(sclone_any s _ hs).mono ?_;rintro e w1 ⟨rfl,ht⟩;have HT:=hid ht;clear ht;go_wp2;go_ret
 exact⟨rfl,HT.out⟩
theorem Qkf:(Tryz.prog.info? 140).isSome=true:=by kernel_rfl
theorem Qlr(a:Addr)(w:World):(binOp .eql 23 (.pointer (some a)) (.pointer (some a))).run Tryz.prog w=.ok (.bool true) w:=by
 obtain⟨j,hj⟩:=Option.isSome_iff_exists.1 Qkf;exact run_eql_ptr_same w a Tryz.underlying23 hj
theorem Ql(g:Nat)(w:World)(h:w.cell? ⟨g,6,none⟩=some (.pointer (some ⟨g,0,none⟩))) :
  Calls Tryz.prog 100 #[.pointer (some ⟨g,0,none⟩)] w fun e w'=>e=.returned (.bool true)∧w=w':=by
 have he:=Qlr ⟨g,0,none⟩;go_enter Tryz.func100,Tryz.ntmps100
 go_wp2;go_ret
 exact⟨rfl,rfl⟩
theorem Qdq(w:World):Calls Tryz.prog 100 #[.pointer none] w fun e w'=>e=.returned (.bool false)∧w=w':=by
 go_enter Tryz.func100,Tryz.ntmps100
 go_wp2;go_ret
 exact⟨rfl,rfl⟩
def blockE(s:St)(block:Int):Int:=if s.hasB block then 0 else 2
theorem QfU(g:Nat)(b:Nat)(P:Value)(s:St)(block:Int)(w:World)(h:Dev w g b P s) :
  Calls Tryz.prog 85 #[.pointer (some ⟨g,0,none⟩),.int .i64 block] w fun e w'=>e=.returned (.int .i64 (blockE s block))∧w=w':=by
 obtain⟨c,_,_,q0,q1,q2,q3,q4,q5,q6⟩:=h.cells;have HV:=hid (Ql g w q6);obtain⟨r,hr⟩:∃r,r=blockE s block:=⟨_,rfl⟩;have HR:=hid hr;rw[←hr];clear hr h;by_cases h1:block<0
 ·have HE:=hid (show r=2 by rw[HR.out];exact if_neg (by unfold St.hasB;omega));go_enter Tryz.func85,Tryz.ntmps85
  go_wp2_with (go_at_call 100;refine HV.out.mono ?_;rintro e w' ⟨rfl,rfl⟩)
  go_ret
  exact⟨Qq HE.out.symm,rfl⟩
 ·by_cases h2:(s.blocks:Int)≤block
  ·have HE:=hid (show r=2 by rw[HR.out];exact if_neg (by unfold St.hasB;omega));go_enter Tryz.func85,Tryz.ntmps85
   go_wp2_with (go_at_call 100;refine HV.out.mono ?_;rintro e w' ⟨rfl,rfl⟩)
   go_ret
   exact⟨Qq HE.out.symm,rfl⟩
  ·have HE:=hid (show r=0 by rw[HR.out];exact if_pos (by unfold St.hasB;omega));go_enter Tryz.func85,Tryz.ntmps85
   go_wp2_with (go_at_call 100;refine HV.out.mono ?_;rintro e w' ⟨rfl,rfl⟩)
   go_ret
   exact⟨Qq HE.out.symm,rfl⟩
def NewD(w:World)(b:Nat)(s:St)(e:Ending)(w':World):Prop:=
 ∃g,e=.returned (.pointer (some ⟨g,0,none⟩))∧Dev w' g b (.slice none 0 0) s∧w.heap.size≤g∧Turn w w' nowhere
theorem Qa6(size blocks b c:Nat)(d:List (List Int))(w:World)(h:Reg w b 0 d.flatten)(hc:size*blocks≤c)(hm:c≤maxLen)(ok:(St.fresh size blocks d).Ok) :
  Calls Tryz.prog 69 #[.agg #[.int .i64 (size:Int),.int .i64 (blocks:Int)],.slice (some ⟨b,0,none⟩) (size*blocks) c] w (NewD w b (St.fresh size blocks d)):=by
 have hb:b<w.heap.size:=h.lt ok.some;generalize hN:size*blocks=N;have HN:=hid hN;have hfin:∀w',w'=(w.alloc (.cells #[.int .i64 (size:Int),.int .i64 (blocks:Int)] 28)).alloc (.cells #[.int .i64 (size:Int),.int .i64 (blocks:Int),.slice (some ⟨b,0,none⟩) N c,.slice none 0 0,.int .i64 0,.int .i64 (-1),.pointer (some ⟨w.heap.size+1,0,none⟩)] 140)→NewD w b (St.fresh size blocks d) (.returned (.pointer (some ⟨w.heap.size+1,0,none⟩))) w':=by
  intro w' e;subst e;subst hN;have t1:Turn w (w.alloc (.cells #[.int .i64 (size:Int),.int .i64 (blocks:Int)] 28)) nowhere:=Turn.alloc w _ _;have t2:=t1.trans (Turn.alloc _ (.cells #[.int .i64 (size:Int),.int .i64 (blocks:Int),.slice (some ⟨b,0,none⟩) (size*blocks) c,.slice none 0 0,.int .i64 0,.int .i64 (-1),.pointer (some ⟨w.heap.size+1,0,none⟩)] 140) nowhere) (fun _ _ h=>h);refine⟨_,rfl,⟨ok,⟨c,hc,hm,?_⟩,h.turn t2 id,World.ownsRow_nil _ _ _ _,by omega,by simp[Value.ownBlock],by simp[Value.ownBlock]⟩,by omega,t2⟩;have:=heap_alloc_new (w.alloc (.cells #[.int .i64 (size:Int),.int .i64 (blocks:Int)] 28)) (.cells #[.int .i64 (size:Int),.int .i64 (blocks:Int),.slice (some ⟨b,0,none⟩) (size*blocks) c,.slice none 0 0,.int .i64 0,.int .i64 (-1),.pointer (some ⟨w.heap.size+1,0,none⟩)] 140);rw[World.size_alloc]at this;exact this
 have HF:=hid hfin;clear hfin h ok hN;go_enter Tryz.func69,Tryz.ntmps69
 go_wp2;go_ret
 exact HF.out _ rfl
def zeros(size blocks:Nat):List (List Int):=List.replicate blocks (rep size 0)
theorem Qfy(size blocks:Nat):IsD size (zeros size blocks):=by
 intro l hl;rw[List.eq_of_mem_replicate hl];exact⟨Qbu _ _,QbX _ _ (by omega)⟩
theorem Qiy(size blocks:Nat):(zeros size blocks).flatten=rep (size*blocks) 0:=by
 unfold zeros rep;rw[List.flatten_replicate_replicate,Nat.mul_comm]
theorem Qlb{size blocks:Nat}(h:128≤(size:Int)∧(size:Int)≤4096∧(size:Int) % 64=0∧8≤(blocks:Int)∧(blocks:Int)≤4096):(St.fresh size blocks (zeros size blocks)).Ok:=
 QfY (by omega) (by omega) (by omega) (by omega) (by omega) (Qfy _ _) (by simp[zeros])
theorem QkK(w:World)(N:Nat):Reg (w.alloc (.cells (madeCells (Value.int .u8 0).cells N) 5)) w.heap.size 0 (rep N 0):=fun j x hx=>by
 have hg:=heap_alloc_new w (.cells (madeCells (Value.int .u8 0).cells N) 5);have e:(madeCells (Value.int .u8 0).cells N).toList=List.replicate N (.int .u8 0):=toList_madeCells_one _ _;refine⟨?_,by unfold World.frozen?;rw[hg];simp⟩;rw[cell_of_row _ _ _ _ _ _ hg,Nat.zero_add,←Array.getElem?_toList,e];unfold rep at hx;rw[List.getElem?_replicate]at hx ⊢
 split at hx
 ·rename_i h
  rw[if_pos h,←Option.some.inj hx]
 ·cases hx
theorem Qid(N:Nat)(hN:N≤100000000)(W:World):(Instr.makeSlice 46 (.int .i64 (N:Int)) (.int .i64 (N:Int))).run Tryz.prog W=.ok (.slice (some ⟨W.heap.size,0,none⟩) N N) (W.alloc (.cells (madeCells (Value.int .u8 0).cells N) 5)):=by
 obtain⟨i0,hi,hz0,hz1,hz2⟩:=info_parts QU;have h:=run_make (P:=Tryz.prog) W 46 5 i0 (.int .u8 0) Tryz.underlying46 hi hz0 .i64 .i64 (N:Int) (N:Int) (by omega) (by omega) (by rw[hz2];omega) (by omega);rw[hz1,Int.toNat_natCast,Nat.mul_one]at h;exact h
def NewX(w:World)(size blocks:Nat)(e:Ending)(w':World):Prop:=
 ∃g b,e=.returned (.tuple #[.pointer (some ⟨g,0,none⟩),.int .i64 0])∧Dev w' g b (.slice none 0 0) (St.fresh size blocks (zeros size blocks))∧w.heap.size≤g∧w.heap.size≤b∧Turn w w' nowhere
theorem Qgm(size blocks:Int)(w:World)(h:geoB size blocks=false) :
  Calls Tryz.prog 30 #[.agg #[.int .i64 size,.int .i64 blocks]] w fun e w'=>e=.returned (.tuple #[.pointer none,.int .i64 2])∧Turn w w' nowhere:=by
 have HE:=hid (show geoE size blocks=2 by unfold geoE;rw[h];rfl);have HC:=hid (fun w=>QT size blocks w);have HT:=hid ((Turn.alloc w (.cells #[.int .i64 size,.int .i64 blocks] 28) nowhere).trans (Turn.alloc _ (.cells #[.int .i64 size,.int .i64 blocks] 28) nowhere) (fun _ _ h=>h));clear h;go_enter Tryz.func30,Tryz.ntmps30
 go_wp2_with fail
 refine(HC.out _).mono ?_;rw[HE.out];rintro e w' ⟨rfl,rfl⟩;go_wp2;go_ret2
 exact⟨rfl,HT.out⟩
theorem Qdy     (size blocks:Nat) (w:World) (h:geoB size blocks=true) :
    Calls Tryz.prog 30 #[.agg #[.int .i64 (size:Int),.int .i64 (blocks:Int)]] w (NewX w size blocks):=by
  have HE:=hid (show geoE size blocks=0 by unfold geoE;rw[h];rfl)
  have hg:=of_decide_eq_true h
  have OK:=hid (Qlb hg)
  have hN:size*blocks≤16777216:=Nat.le_trans (Nat.mul_le_mul (by omega) (by omega):size*blocks≤4096*4096) (by decide)
  have HC:=hid (fun w=>QT size blocks w)
  have e1:(size:Int)*(blocks:Int)=((size*blocks:Nat):Int):=by rw[Int.natCast_mul]
  have hmk:=Qid (size*blocks) (by omega)
  obtain⟨M,hM⟩:∃M,M=madeCells (Value.int .u8 0).cells (size*blocks):=⟨_,rfl⟩
  rw[←hM,←e1]at hmk
  have HM:=hid hM
  have e2:IntKind.i64.wrap ((size:Int)*(blocks:Int))=(size:Int)*(blocks:Int):=by rw[e1,IntKind.wrap_i64];omega
  have HR:=hid (fun W:World=>(by rw[Qiy,hM];exact QkK W (size*blocks):Reg (W.alloc (.cells M 5)) W.heap.size 0 (zeros size blocks).flatten))
  clear h hM hg e1
  go_enter Tryz.func30,Tryz.ntmps30
  go_wp2_with fail
  refine(HC.out _).mono ?_
  rw[HE.out]
  rintro e w' ⟨rfl,rfl⟩
  go_wp2_with fail
  go_region_held3 (fun w'=>w'.cell? ⟨w.heap.size,0,none⟩=some (.int .i64 (size:Int))∧w'.cell? ⟨w.heap.size,1,none⟩=some (.int .i64 (blocks:Int))) (go_keep)
    (first
      | (go_at_call 69
         (with_reducible refine(Qa6 size blocks _ _ (zeros size blocks) _ ?hr (Nat.le_refl _) (by unfold maxLen;omega) OK.out).mono ?_)
         case hr=>
           have h:=(HR.out ((w.alloc (.cells #[.int .i64 (size:Int),.int .i64 (blocks:Int)] 28)).alloc (.cells #[.int .i64 (size:Int),.int .i64 (blocks:Int)] 28))).turn (Turn.drew _ nowhere) id
           rw[World.size_alloc,World.size_alloc]at h
           exact h
         rintro e w2 ⟨g,rfl,hd,hge,ht⟩
         have q0:=ht.cell (p:=⟨w.heap.size,0,none⟩) (v:=.int .i64 (size:Int)) (by simp[go_sem]) id
         have q1:=ht.cell (p:=⟨w.heap.size,1,none⟩) (v:=.int .i64 (blocks:Int)) (by simp[go_sem]) id
         have HF:Hid (NewX w size blocks (.returned (.tuple #[.pointer (some ⟨g,0,none⟩),.int .i64 0])) w2):=hid ⟨g,_,rfl,hd,by simp at hge;omega,by omega,
           ((((Turn.alloc w _ nowhere).trans (Turn.alloc _ _ nowhere) (fun _ _ h=>h)).trans (Turn.alloc _ _ nowhere) (fun _ _ h=>h)).trans (Turn.drew _ nowhere) (fun _ _ h=>h)).trans ht (fun _ _ h=>h)⟩
         clear hd hge ht)
      |fail)
  go_wp2
  go_ret2
  exact HF.out
theorem Qhh(g b:Nat)(P:Value)(s:St)(w:World)(h:Dev w g b P s)(h0:s.fuse=0) :
  Calls Tryz.prog 86 #[.pointer (some ⟨g,0,none⟩)] w fun e w'=>e=.returned (.bool false)∧w=w':=by
 obtain⟨c,_,_,q0,q1,q2,q3,q4,q5,q6⟩:=h.cells;rw[h0]at q5;clear h h0;go_enter Tryz.func86,Tryz.ntmps86
 go_wp2;go_ret
 exact⟨rfl,rfl⟩
def Burnt(g b:Nat)(P:Value)(s:St)(w:World)(e:Ending)(w':World):Prop:=e=.returned (.bool true)∧Dev w' g b P s.burn∧Turn w w' (·=g)
theorem heap_set{w:World}{g:Nat}{cs:Array Value}{t:TypeId}(h:w.heap[g]?=some (.cells cs t (0,0)))(i:Nat)(u:Value):(w.setCell ⟨g,i,none⟩ u).heap[g]?=some (.cells (cs.setIfInBounds i u) t (0,0)):=by
 simp[World.setCell,Array.getElem?_modify,h]
theorem QfK(g b:Nat)(P:Value)(s:St)(w:World)(h:Dev w g b P s)(h0:¬s.fuse=0)(ho:s.ops<1000000) :
  Calls Tryz.prog 86 #[.pointer (some ⟨g,0,none⟩)] w (Burnt g b P s w):=by
 obtain⟨c,hc,hm,q0,q1,q2,q3,q4,q5,q6⟩:=h.cells;have f4:=h.free 4;have f5:=h.free 5;have hlo:=h.ok.flo;have hhi:=h.ok.fhi;by_cases h1:s.fuse=-1
 ·have hfin:Burnt g b P s w (.returned (.bool true)) (w.setCell ⟨g,4,none⟩ (.int .i64 ((s.ops:Int)+1))):=by
   have ht:Turn w (w.setCell ⟨g,4,none⟩ (.int .i64 ((s.ops:Int)+1))) (·=g):=Turn.setCell w _ _ rfl;refine⟨rfl,?_,ht⟩;obtain⟨c,hc,hm,hg⟩:=h.box;refine h.rebox ht hc hm ?_ (h.ok.burn ho) rfl rfl rfl (Qa3 h.row ht (fun i hi e=>h.pg (by rw[hi,e]))) h.pg h.pb;rw[heap_set hg,show s.burn.fuse=s.fuse from by unfold St.burn;rw[if_pos h1,h1]]
   rfl
  have HF:=hid hfin;rw[h1]at q5;clear hfin h h0 h1 hlo hhi;go_enter Tryz.func86,Tryz.ntmps86
  go_wp2;go_ret
  exact HF.out
 ·have hfin:Burnt g b P s w (.returned (.bool true)) ((w.setCell ⟨g,5,none⟩ (.int .i64 (s.fuse-1))).setCell ⟨g,4,none⟩ (.int .i64 ((s.ops:Int)+1))):=by
   have ht:Turn w ((w.setCell ⟨g,5,none⟩ (.int .i64 (s.fuse-1))).setCell ⟨g,4,none⟩ (.int .i64 ((s.ops:Int)+1))) (·=g):=Turn.trans (S':=(·=g)) (Turn.setCell w _ _ rfl) (Turn.setCell _ _ _ rfl) (fun _ _ h=>h);refine⟨rfl,?_,ht⟩;obtain⟨c,hc,hm,hg⟩:=h.box;refine h.rebox ht hc hm ?_ (h.ok.burn ho) rfl rfl rfl (Qa3 h.row ht (fun i hi e=>h.pg (by rw[hi,e]))) h.pg h.pb;rw[heap_set (heap_set hg _ _),show s.burn.fuse=s.fuse-1 from by unfold St.burn;rw[if_neg h1]]
   rfl
  have HF:=hid hfin;have e0:(s.fuse==0)=false:=beq_eq_false_iff_ne.2 h0;have e1:(s.fuse != -1)=true:=bne_iff_ne.2 h1;have hh:1≤s.fuse:=by omega
  clear hfin h h0 h1 hlo;generalize s.fuse=f at *;go_enter Tryz.func86,Tryz.ntmps86
  go_wp2;go_ret
  exact HF.out
def AtR(w:World)(b off size:Nat)(e:Ending)(w':World):Prop:=∃c' m,e=.returned (.slice (some ⟨b,off,none⟩) size c')∧size≤c'∧c'≤maxLen∧w'=w.drewN m
theorem QiB(g b:Nat)(P:Value)(s:St)(k:Nat)(w:World)(h:Dev w g b P s)(hk:k<s.blocks) :
  Calls Tryz.prog 98 #[.pointer (some ⟨g,0,none⟩),.int .i64 (k:Int)] w (AtR w b (k*s.size) s.size):=by
 obtain⟨c,hc,hm,q0,q1,q2,q3,q4,q5,q6⟩:=h.cells;have h1:=h.ok.lo;have h2:=h.ok.hi;have h3:=h.ok.bhi;have hlow:(k+1)*s.size≤s.blocks*s.size:=Nat.mul_le_mul_right _ hk;rw[Nat.add_mul,Nat.one_mul,Nat.mul_comm s.blocks]at hlow;have hsmall:s.size*s.blocks≤4096*4096:=Nat.mul_le_mul h2 h3;have e1:(k:Int)*(s.size:Int)=((k*s.size:Nat):Int):=by rw[Int.natCast_mul]
 generalize hN:s.size*s.blocks=N at *;obtain⟨L,hL⟩:∃L,L=k*s.size:=⟨_,rfl⟩;rw[←hL]at e1 hlow ⊢;have HF:∀m,Hid (AtR w b L s.size (.returned (.slice (some ⟨b,L,none⟩) s.size (c-L))) (w.drewN m)):=fun m=>hid ⟨c-L,m,rfl,by omega,by omega,rfl⟩
 have e2:IntKind.i64.wrap ((k:Int)*(s.size:Int))=(L:Int):=by rw[e1,IntKind.wrap_i64];omega
 have p0:(0:Int)≤(L:Int):=by omega
 have p1:(L:Int)≤(N:Int):=by omega
 have p2:¬c=L:=by omega
 have p3:(s.size:Int)≤(c:Int)-(L:Int):=by omega
 have p4:s.size≤c-L:=by omega
 have p5:L≤c:=by omega
 clear h hN hL hlow hsmall e1 hm;generalize s.size=n at *;go_enter Tryz.func98,Tryz.ntmps98
 go_wp2
 go_quiet (fail)
 go_wp2;go_ret
 exact(HF _).out
theorem Qhi(g b:Nat)(P:Value)(s:St)(w:World)(h:Dev w g b P s) :
  Calls Tryz.prog 60 #[.pointer (some ⟨g,0,none⟩)] w fun e w'=>e=.returned (.agg #[.int .i64 (s.size:Int),.int .i64 (s.blocks:Int)])∧Turn w w' nowhere:=by
 obtain⟨c,_,_,q0,q1,q2,q3,q4,q5,q6⟩:=h.cells;have p6:∀o,(w.alloc o).cell? ⟨g,6,none⟩=some (.pointer (some ⟨g,0,none⟩)):=fun o=>(Turn.alloc w o nowhere).cell q6 id
 have p0:∀o,(w.alloc o).cell? ⟨g,0,none⟩=some (.int .i64 (s.size:Int)):=fun o=>(Turn.alloc w o nowhere).cell q0 id
 have p1:∀o,(w.alloc o).cell? ⟨g,1,none⟩=some (.int .i64 (s.blocks:Int)):=fun o=>(Turn.alloc w o nowhere).cell q1 id
 have HV:=hid (fun w (hh:w.cell? ⟨g,6,none⟩=some (.pointer (some ⟨g,0,none⟩)))=>Ql g w hh);have P6:=hid p6;have HT:=hid (Turn.alloc w (.cells #[.int .i64 (s.size:Int),.int .i64 (s.blocks:Int)] 28) nowhere);clear h q0 q1 q2 q3 q4 q5 q6 p6;go_enter Tryz.func60,Tryz.ntmps60
 go_wp2_with (go_at_call 100;refine(HV.out _ (P6.out _)).mono ?_;rintro e w' ⟨rfl,rfl⟩)
 exact bodyPost_ret (v:=.agg #[.int .i64 (s.size:Int),.int .i64 (s.blocks:Int)]) (by simp[results,Tryz.results60,go_sem]) rfl ⟨rfl,HT.out⟩
end Dv
end Go.Proofs.YtgffbbdcbkikhaaGreatDoor
