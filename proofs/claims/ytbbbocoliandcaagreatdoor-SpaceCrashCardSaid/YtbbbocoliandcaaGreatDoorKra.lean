/- Parts of the proof. -/
import Derived.Test.YtbbbocoliandcaaGreatDoorKrU
import Derived.Test.YtbbbocoliandcaaGreatDoorKrW
set_option maxRecDepth 100000
set_option maxHeartbeats 8000000
open Go.Lib (hid)
namespace Go.Proofs.YtbbbocoliandcaaGreatDoor
namespace Su
open Go.RowKit Bs Dv Gr
open Oct (putB)
open Ref1 (GrowB)
open Fr (putF FmOk strE)
theorem QkU(s:Sup)(a:Option Addr)(n c:Nat)(w:World)(hs:Ws.Seg w a n c s.pages)(ho:SupOk s) :
  Calls Tryz.prog 171 #[.agg #[.int .u64 s.gen,.int .i64 s.size,.int .i64 s.blocks,.int .u32 s.root,.slice a n c]] w fun e w'=>e=strE (putS s)∧w.grownBy w' none:=by
 have HB0:=hid (SB.new w s a n c);have HG0:=hid (Qb w (.cells #[.int .u64 s.gen,.int .i64 s.size,.int .i64 s.blocks,.int .u32 s.root,.slice a n c] 111));obtain⟨W0,hW0⟩:∃X,w.alloc (.cells #[.int .u64 s.gen,.int .i64 s.size,.int .i64 s.blocks,.int .u32 s.root,.slice a n c] 111)=X:=⟨_,rfl⟩;rw[hW0]at HB0 HG0;have hwl:w.heap.size<W0.heap.size:=by rw[←hW0];simp
 have HC:=hid (rcheck_sup s a n c W0 (hs.grown HG0.out) ho);obtain⟨q0,q1,q2,q3,q4⟩:=HB0.out.cells;obtain⟨E,hE⟩:∃E,supE s=E:=⟨_,rfl⟩;rw[hE]at HC;by_cases h0:E=0
 ·have hv:=(Qaw (hE.trans h0)).1;have hg:=hv.1;unfold GeoOk at hg;have hn:n≤74:=by
   have h1:=hv.2.2.2.1;have h2:=QA hv.1;rw[hs.len]at h1;omega
  have HPS:Hid (putS s=putF s.size (1,s.gen,dataS s)):=hid (if_neg (fun h=>h (hE.trans h0)));have hfm:FmOk (1,s.gen,dataS s):=⟨⟨(by show(0:Int)≤1;decide),(by show(1:Int)<256;decide)⟩,ho.gen,QaW s⟩;have HPQ:=hid (fun W=>Fr.Qav s.size (1,s.gen,dataS s) W hfm);have e1:=u64i (v:=s.size) (by omega);have e2:=u64i (v:=s.blocks) (by omega);have e3:=u64i ho.root;have e4:=u64n (n:=n) (by omega);have hro:=ho.root;have b1:0≤s.size∧s.size<18446744073709551616:=by omega
  have b2:0≤s.blocks∧s.blocks<18446744073709551616:=by omega
  have HW:Hid (Ws.IsW s.pages):=hid (fun x hx=>by have:=ho.pages x hx;omega);have HD:Hid (dataS s=putB 4 s.size++putB 4 s.blocks++putB 4 s.root++putB 2 (n:Int)++fours s.pages):=hid (by unfold dataS;rw[hs.len];simp only[List.append_assoc]);have HL:=hid hs.len;have hle:=hs.le;have hcap:=hs.cap;unfold maxLen at hcap;have HS:=hid hs;subst h0;clear hs ho hE hv hg hfm;go_enter Tryz.func171,Tryz.ntmps171
  go_wp2_with fail
  refine HC.out.mono ?_;rintro e w1 ⟨rfl,hg⟩;have HG1:=hid (Qa HG0.out hg);have HB1:=hid (HB0.out.old hg);obtain⟨d0,d1,d2,d3,d4⟩:=HB1.out.cells;have O1:Hid (w1.ownsRow w1.heap.size 5 1 (.slice none 0 0) 0 (([]:List Int).map (Value.int .u8))):=hid ⟨rfl,.inl ⟨rfl,rfl⟩⟩;have D1:Hid (Below w1.heap.size w1 w1):=hid (Below.refl _ w1);clear hg q0 q1 q2 q3 q4 HC HG0 HB0;dsimp only;go_wp2_with fail
  refine(Ref1.Qav w1.heap.size (.slice none 0 0) 0 _ s.size 4 w1 O1.out D1.out.size b1.1 b1.2 (by decide) (by decide) (by decide)).mono ?_;rintro e w2 ⟨g2,c2,rfl,hown,hbb⟩;have O2:Hid (w2.ownsRow w1.heap.size 5 1 (.slice (some ⟨g2,0,none⟩) 4 c2) 4 ((putB 4 s.size).map (Value.int .u8))):=hid hown;have D2:=hid (D1.out.trans hbb);have HB2:=hid (HB1.out.old (below_grown D2.out));clear d0 d1 d2 d3 d4 O1 D1 hown hbb;obtain⟨d0,d1,d2,d3,d4⟩:=HB2.out.cells;dsimp only;go_wp2_with fail
  refine(Ref1.Qav w1.heap.size _ 4 _ s.blocks 4 w2 O2.out D2.out.size b2.1 b2.2 (by decide) (by decide) (by decide)).mono ?_;rintro e w3 ⟨g3,c3,rfl,hown,hbb⟩;have O3:Hid (w3.ownsRow w1.heap.size 5 1 (.slice (some ⟨g3,0,none⟩) 8 c3) 8 ((putB 4 s.size++putB 4 s.blocks).map (Value.int .u8))):=hid hown;have D3:=hid (D2.out.trans hbb);have HB3:=hid (HB1.out.old (below_grown D3.out));clear d0 d1 d2 d3 d4 O2 D2 hown hbb;obtain⟨d0,d1,d2,d3,d4⟩:=HB3.out.cells;dsimp only;go_wp2_with fail
  refine(Ref1.Qav w1.heap.size _ 8 _ s.root 4 w3 O3.out D3.out.size hro.1 (by omega) (by decide) (by decide) (by decide)).mono ?_;rintro e w4 ⟨g4,c4,rfl,hown,hbb⟩;have O4:Hid (w4.ownsRow w1.heap.size 5 1 (.slice (some ⟨g4,0,none⟩) 12 c4) 12 ((putB 4 s.size++putB 4 s.blocks++putB 4 s.root).map (Value.int .u8))):=hid hown;have D4:=hid (D3.out.trans hbb);have HB4:=hid (HB1.out.old (below_grown D4.out));clear d0 d1 d2 d3 d4 O3 D3 hown hbb;obtain⟨d0,d1,d2,d3,d4⟩:=HB4.out.cells;dsimp only;go_wp2_with fail
  refine(Ref1.Qav w1.heap.size _ 12 _ (n:Int) 2 w4 O4.out D4.out.size (by omega) (by omega) (by decide) (by decide) (by decide)).mono ?_;rintro e w5 ⟨g5,c5,rfl,hown,hbb⟩;have O5:Hid (w5.ownsRow w1.heap.size 5 1 (.slice (some ⟨g5,0,none⟩) 14 c5) 14 ((putB 4 s.size++putB 4 s.blocks++putB 4 s.root++putB 2 (n:Int)).map (Value.int .u8))):=hid hown;have D5:=hid (D4.out.trans hbb);have HB5:=hid (HB1.out.old (below_grown D5.out));clear d0 d1 d2 d3 d4 O4 D4 hown hbb;obtain⟨d0,d1,d2,d3,d4⟩:=HB5.out.cells;dsimp only;go_wp2;clear d0 d1 d2 d3 d4
  go_loopw [5,6] (fun s5 s6 wr=>∃(k:Nat) (V:Value),k≤n∧s6=.int .i64 k∧V=s5∧Hid (wr.ownsRow w1.heap.size 5 1 V (14+4*k) ((putB 4 s.size++putB 4 s.blocks++putB 4 s.root++putB 2 (n:Int)++fours (s.pages.take k)).map (Value.int .u8)))∧Hid (Below w1.heap.size w1 wr)) (fun _ s6 _=>n-(intOf s6).toNat)
  case atStart=>exact⟨0,_,Nat.zero_le _,rfl,rfl,by rw[List.take_zero];show Hid (w5.ownsRow _ _ _ _ _ ((_++[]).map _));rw[List.append_nil];exact O5,D5⟩
  case round=>
   clear O5 D5;obtain⟨k,V,hk,rfl,rfl,HO,HD1⟩:=hrel;have HBk:Hid (SB wr w.heap.size s a n c):=hid (HB1.out.old (below_grown HD1.out));obtain⟨d0,d1,d2,d3,d4⟩:=HBk.out.cells;by_cases hlt:k<n
   ·have hq:decide (k<n)=true:=decide_eq_true hlt;obtain⟨ga,oa,ha,hc⟩:=(HS.out.grown (Qa HG1.out (below_grown HD1.out))).addr (by omega);have hck:=hc k hlt;have hp:=bd HW.out k;have HF4:=hid (QbU s.pages k (by rw[HL.out];exact hlt));obtain⟨x,hx⟩:∃x,s.pages.getD k 0=x:=⟨_,rfl⟩;rw[hx]at hck hp HF4;subst ha;have e5:=u64i hp;have HP:=hid (Ref1.Qav w1.heap.size V (14+4*k) _ x 4 wr HO.out HD1.out.size hp.1 (by omega) (by decide) (by decide) (by omega));clear hc hx;go_wp2_with fail
    refine HP.out.mono ?_;rintro e w6 ⟨g6,c6,rfl,hown,hbb⟩;have O6:Hid (w6.ownsRow w1.heap.size 5 1 (.slice (some ⟨g6,0,none⟩) (14+4*k+4) c6) (14+4*(k+1)) ((putB 4 s.size++putB 4 s.blocks++putB 4 s.root++putB 2 (n:Int)++fours (s.pages.take (k+1))).map (Value.int .u8))):=hid (by rw[HF4.out,←List.append_assoc];exact hown);have D6:=hid (HD1.out.trans hbb);clear hown hbb HP HO HD1 HBk d0 d1 d2 d3 d4 hck;dsimp only;go_wp2;go_roundw
    case rel=>exact⟨k+1,_,by omega,by go_num,rfl,O6,D6⟩
    case measure=>simp[intOf];omega
   ·have hq:decide (k<n)=false:=decide_eq_false hlt;obtain rfl:k=n:=by omega
    obtain⟨g',c',rfl⟩:=Qab HO.out (by omega);have hown:=HO.out;rw[List.take_of_length_le (by rw[HL.out];exact Nat.le_refl _),←HD.out]at hown;have hcv:=Qat g' 0 (14+4*k) c' (dataS s) wr (Reg.own hown) (by rw[QaF,HL.out]);have GF:=hid (Qa HG1.out (below_grown HD1.out));obtain⟨⟨QB,QE⟩,hp⟩:∃r,putF s.size (1,s.gen,dataS s)=r:=⟨_,rfl⟩;rw[hp]at HPQ HPS;unfold strE at HPQ;dsimp only at HPQ;obtain⟨S,hS⟩:∃S,strOfNums (dataS s)=S:=⟨_,rfl⟩;rw[hS]at HPQ hcv;clear HO hown hp hS;go_wp2_with fail
    refine(HPQ.out _).mono ?_;rintro e w7 ⟨rfl,hg⟩;have GE:=hid (Qa GF.out hg);clear hg HPQ;dsimp only;go_wp2;go_ret2
    exact⟨by rw[HPS.out];rfl,GE.out⟩
 ·have e0:(E != 0)=true:=bne_iff_ne.2 h0;have HPS:Hid (putS s=([],E)):=hid (by rw[QaD (by rw[hE];exact h0),hE]);clear hs ho hE h0;go_enter Tryz.func171,Tryz.ntmps171
  go_wp2_with fail
  refine HC.out.mono ?_;rintro e w1 ⟨rfl,hg⟩;have HG1:=hid (Qa HG0.out hg);clear hg q0 q1 q2 q3 q4 HC;dsimp only;go_wp2;go_ret2
  exact⟨by rw[HPS.out];rfl,HG1.out⟩
end Su
namespace Su
open Go.RowKit Bs Dv Gr Dr
open Oct (ofB)
open Fr (Qg kindF FmOk fmE fmV Fm strE)
theorem QeD(d:List Int)(gb lo k c:Nat)(W:World)(hb:Bs.IsB d)(hr:Reg W gb 0 d)(h1:lo+k≤d.length)(h2:k≤8)(h3:k≤c)(h4:c≤maxLen) :
  Calls Tryz.prog 176 #[.slice (some ⟨gb,lo,none⟩) k c] W fun e w'=>e=.returned (.int .u64 (ofB ((d.drop lo).take k)))∧W.grownBy w' none:=by
 have hl:((d.drop lo).take k).length=k:=by rw[List.length_take,List.length_drop];omega
 have hs:=((hr.sub lo).take k).seg (c:=c) (by rw[hl];exact h3) h4;rw[hl]at hs;exact(Ref1.Qa5 gb lo k c _ W hs (fun x hx=>hb x (List.mem_of_mem_drop (List.mem_of_mem_take hx))) h2).mono fun e w' h=>⟨h.1,by rw[←h.2];exact QC _⟩
theorem Qcn(d:List Int)(hb:Bs.IsB d)(lo:Nat):0≤ofB ((d.drop lo).take 4)∧ofB ((d.drop lo).take 4)<4294967296:=by
 have h1:=Oct.QI ((d.drop lo).take 4) (fun x hx=>hb x (List.mem_of_mem_drop (List.mem_of_mem_take hx)));have h2:((d.drop lo).take 4).length≤4:=by rw[List.length_take];omega
 refine⟨h1.1,Int.lt_of_lt_of_le h1.2 ?_⟩;generalize ((d.drop lo).take 4).length=k at h2;have:k=0∨k=1∨k=2∨k=3∨k=4:=by omega
 rcases this with rfl|rfl|rfl|rfl|rfl <;> (show _≤(4294967296:Int);decide)
theorem Qfc{w:World}{o:Oper}{a:Act}{K:Act→World→Prop}{Q:Exit→Act→World→Prop}(hgd:o.dst=none)(x y:Operand)(ho:o.op=.store 38 x y)
  (g:Nat) (hx:a.eval x=.pointer (some ⟨g,4,none⟩)) (p:Option Addr) (n c:Nat) (hy:a.eval y=.slice p n c) (s:Sup) (p0:Option Addr) (n0 c0:Nat) (hg:SB w g s p0 n0 c0)
  (h:∀w',SB w' g s p n c→Turn w w' (·=g)→K a w'):Oper.wp Tryz.prog o a w K Q:=by
 have e:(execOp a.eval o).run Tryz.prog w=.ok .skip (w.setCell ⟨g,4,none⟩ (.slice p n c)):=by
  have c4:=hg.cells.2.2.2.2;have f4:=hg.froz 4;generalize a.eval=ev at hx hy ⊢;simp[go_sem,ho,hx,hy,c4,f4]
 unfold Oper.wp;rw[e]
 show K (a.put o.dst undef) _
 rw[hgd];exact h _ (hg.Qfy p n c) (Turn.setCell w ⟨g,4,none⟩ (.slice p n c) (S:=(·=g)) rfl)
theorem BI.grow{D S:List Nat}{V:List Value}{dB iA iS:Nat}{t:Sup}{w0:World}{a0:Act}{L:Nat→Bool}{x:Act}{W w':World}(h:BI D S V dB iA iS t w0 a0 L x W)(hg:W.grownBy w' none):BI D S V dB iA iS t w0 a0 L x w':=
 ⟨⟨h.vi.agr,h.vi.big,h.vi.vals,Qa h.vi.mem hg⟩,h.o11,fun k=>by
  obtain⟨g,k1,k2,s',a',n',c',k3,k4⟩:=h.box k;exact⟨g,k1,k2,s',a',n',c',k3.old hg,k4⟩⟩
theorem VI.next{D S:List Nat}{V V':List Value}{M M':(Nat→Bool)→World→Prop}{a0:Act}{L:Nat→Bool}{a:Act}{w w':World}(h:VI D S V M a0 L a w)(hV:∀i,L i=true→V'.getD i undef=V.getD i undef)(hS:S.Nodup)(i:Nat)(hi:i<S.length)(hD:S.getD i 0∈D){v:Value}(hv:v=V'.getD i undef)(hM:M' (upd L i) w'):VI D S V' M' a0 (upd L i) (a.put (some (S.getD i 0)) v) w':=
 have h2:VI D S V' (fun _ _=>True) a0 L a w:=⟨h.agr,h.big,fun i hi hd hl=>by rw[hV i hl];exact h.vals i hi hd hl,trivial⟩;have r:=h2.value hS i hi hD hv (w':=w') trivial
 ⟨r.agr,r.big,r.vals,hM⟩
def V11(g7 gb n cap:Nat)(i:Nat)(x:Int)(a:Option Addr)(k c:Nat)(g9 g' c':Nat):List Value:=
 [.pointer (some ⟨g7,4,none⟩),.slice a k c,.slice (some ⟨gb,0,none⟩) n cap,.int .i64 i,.int .i64 i,.int .i64 ((i:Int)+4),.slice (some ⟨gb,i,none⟩) 4 (cap-i),.int .u64 x,.int .u32 x,.slice (some ⟨g9,0,none⟩) 1 1,.slice (some ⟨g',0,none⟩) (k+1) c',.pointer (some ⟨g7,4,none⟩),undef]
theorem v11_9{g7 gb n cap i:Nat}{x:Int}{a:Option Addr}{k c g9 g' c':Nat}(h9:Nat)(j:Nat)(hj:j≠9):(V11 g7 gb n cap i x a k c h9 g' c').getD j undef=(V11 g7 gb n cap i x a k c g9 g' c').getD j undef:=by
 match j,hj with
 |0,_|1,_|2,_|3,_|4,_|5,_|6,_|7,_|8,_=>rfl
 |j+10,_=>rfl
theorem Qmm{g7 gb n cap i:Nat}{x:Int}{a:Option Addr}{k c g9 g' c':Nat}(h' d':Nat)(j:Nat)(hj:j≠10):(V11 g7 gb n cap i x a k c g9 h' d').getD j undef=(V11 g7 gb n cap i x a k c g9 g' c').getD j undef:=by
 match j,hj with
 |0,_|1,_|2,_|3,_|4,_|5,_|6,_|7,_|8,_|9,_=>rfl
 |j+11,_=>rfl
structure AI (base B5:Nat) (t:Sup) (a:Option Addr) (k c:Nat) (l:List Int) (x:Int) (wr:World) (g9 g' c':Nat) (L:Nat→Bool) (W:World):Prop where
 turn:Turn wr W (fun i=>base≤i∨i=B5)
 lit:L 9=true→L 10=false→W.cell? ((⟨g9,0,none⟩:Addr).add 0)=some (.int .u32 x)
 own:L 10=false→W.ownsRow base 35 1 (.slice a k c) k (l.map (Value.int .u32))
 own2:L 10=true→W.ownsRow base 35 1 (.slice (some ⟨g',0,none⟩) (k+1) c') (k+1) ((l++[x]).map (Value.int .u32))
 sb:L 12=false→SB W B5 t a k c
 sb2:L 12=true→SB W B5 t (some ⟨g',0,none⟩) (k+1) c'
 o10:L 10=true→L 9=true
 o12:L 12=true→L 10=true
 o1:L 10=true→L 1=true
section
variable {base B5 : Nat} {t : Sup} {a : Option Addr} {k c : Nat} {l : List Int} {x : Int} {wr : World} {g9 g' c' : Nat} {L : Nat → Bool} {W : World}
theorem QcT{L:Nat→Bool}{i j:Nat}(h:upd L i j=false):L j=false:=by
 cases e:L j with
 |false=>rfl
 |true=>rw[Qn e]at h;cases h
theorem AI.keep(h:AI base B5 t a k c l x wr g9 g' c' L W){i:Nat}(h9:i≠9)(h10:i≠10)(h12:i≠12):AI base B5 t a k c l x wr g9 g' c' (upd L i) W:=
 ⟨h.turn,fun p q=>h.lit (Qf p h9.symm) (QcT q),fun p=>h.own (QcT p),fun p=>h.own2 (Qf p h10.symm),fun p=>h.sb (QcT p),fun p=>h.sb2 (Qf p h12.symm),fun p=>Qn (h.o10 (Qf p h10.symm)),fun p=>Qn (h.o12 (Qf p h12.symm)),fun p=>Qn (h.o1 (Qf p h10.symm))⟩
theorem AI.no12(h:AI base B5 t a k c l x wr g9 g' c' L W)(h0:L 10=false):L 12=false:=by
 cases e:L 12 with
 |false=>rfl
 |true=>rw[h.o12 e]at h0;cases h0
theorem AI.no10(h:AI base B5 t a k c l x wr g9 g' c' L W)(h0:L 9=false):L 10=false:=by
 cases e:L 10 with
 |false=>rfl
 |true=>rw[h.o10 e]at h0;cases h0
theorem AI.grow(h:AI base B5 t a k c l x wr g9 g' c' L W){w':World}(hg:W.grownBy w' none):AI base B5 t a k c l x wr g9 g' c' L w':=
 have ht:=Qd hg
 ⟨h.turn.trans ht (fun _ _ e=>e.elim),fun p q=>hg.cell (h.lit p q) (by simp),fun p=>QN (h.own p) ht (fun _ _ e=>e.elim),fun p=>QN (h.own2 p) ht (fun _ _ e=>e.elim),fun p=>(h.sb p).old hg,fun p=>(h.sb2 p).old hg,h.o10,h.o12,h.o1⟩
theorem AI.before(h:AI base B5 t a k c l x wr g9 g' c' L W)(h0:L 1=false):L 10=false:=by
 cases e:L 10 with
 |false=>rfl
 |true=>rw[h.o1 e]at h0;cases h0
theorem AI.made(h:AI base B5 t a k c l x wr g9 g' c' L W)(h0:L 9=false):AI base B5 t a k c l x wr W.heap.size g' c' (upd L 9) (W.alloc (.cells #[.int .u32 x] 35)):=
 have n10:=h.no10 h0;have n12:=h.no12 n10
 ⟨h.turn.trans (Turn.alloc W _ (fun i=>base≤i∨i=B5)) (fun _ _ e=>e),fun _ _=>Qak W _ _,fun p=>(h.own (QcT p)).alloc _,fun p=>absurd (Qf p (by decide)) (by rw[n10];decide),fun p=>(h.sb (QcT p)).old (Qb _ _),fun p=>absurd (Qf p (by decide)) (by rw[n12];decide),
  fun _=>Q9 L 9,fun p=>absurd (Qf p (by decide)) (by rw[n12];decide),fun p=>absurd (Qf p (by decide)) (by rw[n10];decide)⟩
theorem AI.appended(h:AI base B5 t a k c l x wr g9 g' c' L W)(h0:L 10=false)(h1:L 1=true)(h9:L 9=true)(hB:B5<base){w':World}{h' d':Nat}(hown:w'.ownsRow base 35 1 (.slice (some ⟨h',0,none⟩) (k+1) d') (k+1) (l.map (Value.int .u32)++[.int .u32 x]))(hg:W.grownBy w' (Value.slice a k c).ownBlock) :
  AI base B5 t a k c l x wr g9 h' d' (upd L 10) w':=
 have n12:=h.no12 h0;have ht:Turn W w' (fun i=>base≤i):=Turn.Qm hg (fun i e _=>((h.own h0).lt i e).1)
 ⟨h.turn.trans ht (fun _ _ e=>.inl e),fun _ q=>(by rw[Q9]at q;cases q),fun p=>(by rw[Q9]at p;cases p),fun _=>(by rw[List.map_append];exact hown),fun p=>Qg (h.sb (QcT p)) ht (by omega),fun p=>absurd (Qf p (by decide)) (by rw[n12];decide),
  fun _=>Qn h9,fun p=>absurd (Qf p (by decide)) (by rw[n12];decide),fun _=>Qn h1⟩
theorem AI.stored(h:AI base B5 t a k c l x wr g9 g' c' L W)(h10:L 10=true)(hB:B5<base){w':World}(hsb:SB w' B5 t (some ⟨g',0,none⟩) (k+1) c')(ht:Turn W w' (·=B5)):AI base B5 t a k c l x wr g9 g' c' (upd L 12) w':=
 ⟨h.turn.trans ht (fun _ _ e=>.inr e),fun _ q=>(by rw[Qn h10]at q;cases q),fun p=>(by rw[Qn h10]at p;cases p),fun _=>QN (h.own2 h10) ht (fun i h e=>by have e2:i=B5:=e;omega),fun p=>(by rw[Q9]at p;cases p),fun _=>hsb,
  fun _=>Qn (h.o10 h10),fun _=>Qn h10,fun _=>Qn (h.o1 h10)⟩
end
set_option linter.unusedSimpArgs false in
theorem Qeq(B:List Int)(w:World)(hB:Bs.IsB B)(hlen:B.length≤1000000) :
  Calls Tryz.prog 136 #[.string (strOfNums B)] w (GotX w (getS B)):=by
 obtain⟨i0,hi,hz0,hz1,hz2⟩:=info_parts Ws.Qbg;have S0:=SB.new w zeroS none 0 0;have G0:=Qb w (.cells #[.int .u64 0,.int .i64 0,.int .i64 0,.int .u32 0,.slice none 0 0] 111);have S0:SB (w.alloc (.cells #[.int .u64 0,.int .i64 0,.int .i64 0,.int .u32 0,.slice none 0 0] 111)) w.heap.size zeroS none 0 0:=S0;obtain⟨W0,hW0⟩:∃X,w.alloc (.cells #[.int .u64 0,.int .i64 0,.int .i64 0,.int .u32 0,.slice none 0 0] 111)=X:=⟨_,rfl⟩;rw[hW0]at S0 G0;have HS0:=hid S0;have HG0:=hid G0;have HK:=hid (Fr.QjD B 1 W0 hB hlen);have hko:(kindF B 1).2=0→FmOk (1,(kindF B 1).1.2.1,(kindF B 1).1.2.2)∧(kindF B 1).1.2.2.length≤4096:=fun h=>⟨QdQ hB h,by
  have h1:=Qei hB h;have h2:=(Qcu h).2.1;omega⟩
 have HT9:Hid (∀pb:List Int,pb≠B→Bs.IsB pb→((strOfNums pb).toList==(strOfNums B).toList)=false):=hid (fun pb h1 h2=>Fr.QfD (fun h4=>h1 (Dv.QcS h2 hB h4)));obtain⟨R,hR⟩:∃R,getS B=R:=⟨_,rfl⟩;have hP:getS B=if (kindF B 1).2≠0 then(zeroS,(kindF B 1).2) else if (kindF B 1).1.2.2.length<14 then(zeroS,4) else if putS (readS (kindF B 1).1.2.1 (kindF B 1).1.2.2)=(B,0) then(readS (kindF B 1).1.2.1 (kindF B 1).1.2.2,0) else(zeroS,4):=rfl
 rw[hR]at hP;have HP:=hid hP;clear hP;obtain⟨⟨⟨t,g,d⟩,E⟩,hk⟩:∃r,kindF B 1=r:=⟨_,rfl⟩;rw[hk]at HK HP hko;dsimp only at HP hko;have HKO:=hid hko;obtain⟨S,hS⟩:∃S,strOfNums B=S:=⟨_,rfl⟩;have HSB:=hid hS;rw[hS]at HK HT9 ⊢;rw[hR];clear hB hlen S0 G0 hko hk hS hR;go_enter Tryz.func136,Tryz.ntmps136
 go_wp2_with fail
 refine HK.out.mono ?_;rintro e w1 ⟨rfl,hg⟩;have HG1:=hid (Qa HG0.out (Qa hg (Qb w1 (.cells #[.int .u8 t,.int .u64 g,.string (strOfNums d)] 146))));have HS1:=hid (HS0.out.old (Qa hg (Qb w1 (.cells #[.int .u8 t,.int .u64 g,.string (strOfNums d)] 146))));have HF1:=hid (heap_alloc_new w1 (.cells #[.int .u8 t,.int .u64 g,.string (strOfNums d)] 146));obtain⟨W1,hW1⟩:∃X,w1.alloc (.cells #[.int .u8 t,.int .u64 g,.string (strOfNums d)] 146)=X:=⟨_,rfl⟩;rw[hW1]at HG1 HS1 HF1;clear hg HG0 HS0 HK hW0;simp only[fmE,fmV];by_cases h0:E=0
 case neg=>
  have hR:R=(zeroS,E):=by rw[HP.out,if_pos h0]
  subst hR;have q0:(E != 0)=true:=bne_iff_ne.2 h0;clear h0 HP HKO;have f0:W1.cell? ⟨w1.heap.size,0,none⟩=some (.int .u8 t):=by rw[cell_of_row _ _ _ _ _ _ HF1.out];rfl
  go_wp2_with (first
   |(with_reducible refine Qy rfl (.tmp 2) (.tmp 18) rfl w.heap.size rfl zeroS none 0 0 rfl zeroS none 0 0 HS1.out ?_;intro w6 hq6 ht6)
   |fail)
  refine bodyPost_ret (Qx rfl _ _ _ _ _ _ _ rfl hq6 (.int .i64 E) rfl) rfl (GotX.no (Qi HG1.out ht6 (Nat.le_refl _)))
 obtain⟨hfm,hdl⟩:=HKO.out h0;rw[if_neg (fun h=>h h0)]at HP;subst h0;have hdb:Bs.IsB d:=hfm.2.2;have HRO:=hid (Qe7 hfm);obtain⟨n,hn⟩:∃n,d.length=n:=⟨_,rfl⟩;have HN:=hid hn;obtain⟨cap,W5,hrun,hreg,htn,hv1,hv2⟩:=QaM d hdb (by omega) W1;have hDs:=strOfNums_size d;rw[hn]at hDs hdl HP;obtain⟨D,hD⟩:∃D,strOfNums d=D:=⟨_,rfl⟩;rw[hD]at hDs HF1 hrun hW1 ⊢;have HDB:=hid hdb;have HREG:=hid hreg;have HTN:=hid htn;clear hfm hdb hreg htn hD;have f0:W1.cell? ⟨w1.heap.size,0,none⟩=some (.int .u8 t):=by rw[cell_of_row _ _ _ _ _ _ HF1.out];rfl
 have f1:W1.cell? ⟨w1.heap.size,1,none⟩=some (.int .u64 g):=by rw[cell_of_row _ _ _ _ _ _ HF1.out];rfl
 have f2:W1.cell? ⟨w1.heap.size,2,none⟩=some (.string D):=by rw[cell_of_row _ _ _ _ _ _ HF1.out];rfl
 by_cases h14:n<14
 ·have q1:decide ((n:Int)<14)=true:=decide_eq_true (by omega);have hR:R=(zeroS,4):=by rw[HP.out,if_pos h14]
  subst hR;clear HP HKO hrun h14;go_wp2_with (first
   |(with_reducible refine Qy rfl (.tmp 2) (.tmp 24) rfl w.heap.size rfl zeroS none 0 0 rfl zeroS none 0 0 HS1.out ?_;intro w6 hq6 ht6)
   |fail)
  refine bodyPost_ret (Qx rfl _ _ _ _ _ _ _ rfl hq6 (.int .i64 4) rfl) rfl (GotX.no (Qi HG1.out ht6 (Nat.le_refl _)))
 have q1:decide ((n:Int)<14)=false:=decide_eq_false (by omega);rw[if_neg h14]at HP;obtain⟨gb,hgb⟩:∃g,W1.heap.size=g:=⟨_,rfl⟩;rw[hgb,hn]at hrun;rw[hgb]at HREG;rw[hn]at hv1;have HG5:=hid (Qa HG1.out HTN.out.grown);have HS5:=hid (HS1.out.old HTN.out.grown);have HF5:=hid (Ql HF1.out HTN.out.grown);have hgb5:gb<W5.heap.size:=HREG.out.lt (fun h=>by rw[h]at hn;simp at hn;omega);have hwl:=HS5.out.lt;have hwg:w.heap.size<gb:=by
  have:=HS1.out.lt;omega
 go_upto_region 7 with (fail)
 clear hrun f0 f1 f2 HG1 HS1 HF1 HTN HKO hDs hW1;obtain⟨N,hNN⟩:∃N,n-14=N:=⟨_,rfl⟩;obtain⟨ps,hps⟩:∃ps,chunks d.length (d.drop 14)=ps:=⟨_,rfl⟩;have hdn:(d.drop 14).length=N:=by rw[List.length_drop];omega
 have HPL:Hid (ps.length=N / 4):=hid (by rw[←hps,chunks_len _ _ (by rw[hdn];omega),hdn]);have HPT:Hid (∀k,4*(k+1)≤N→ps.take (k+1)=ps.take k++[ofB ((d.drop (14+4*k)).take 4)]):=hid (fun k hk=>by rw[←hps,QcB _ _ k (by rw[hdn];exact hk) (by rw[hdn];omega),List.drop_drop]);have hb0:=Qcn d HDB.out 0;have hb1:=Qcn d HDB.out 4;have hb2:=Qcn d HDB.out 8;have HC0:=hid (fun W (hr:Reg W gb 0 d) c h1 h2=>QeD d gb 0 4 c W HDB.out hr (by omega) (by decide) h1 h2);have HC1:=hid (fun W (hr:Reg W gb 0 d) c h1 h2=>QeD d gb 4 4 c W HDB.out hr (by omega) (by decide) h1 h2);have HC2:=hid (fun W (hr:Reg W gb 0 d) c h1 h2=>QeD d gb 8 4 c W HDB.out hr (by omega) (by decide) h1 h2);have HRS:Hid (readS g d=⟨g,ofB ((d.drop 0).take 4),ofB ((d.drop 4).take 4),ofB ((d.drop 8).take 4),ps⟩):=hid (by rw[←hps];rfl);obtain⟨x0,hx0⟩:∃x,ofB ((d.drop 0).take 4)=x:=⟨_,rfl⟩;obtain⟨x1,hx1⟩:∃x,ofB ((d.drop 4).take 4)=x:=⟨_,rfl⟩;obtain⟨x2,hx2⟩:∃x,ofB ((d.drop 8).take 4)=x:=⟨_,rfl⟩;rw[hx0]at hb0 HC0 HRS;rw[hx1]at hb1 HC1 HRS;rw[hx2]at hb2 HC2 HRS;rw[HRS.out]at HP HRO;have w0:IntKind.i64.wrap x0=x0:=IntWalk.i64_in _ (by omega);have w1':IntKind.i64.wrap x1=x1:=IntWalk.i64_in _ (by omega);have w2:IntKind.u32.wrap x2=x2:=by rw[IntKind.wrap_u32];omega
 have c4:(4:Int)≤(cap:Int):=by omega
 have c8:(8:Int)≤(cap:Int):=by omega
 have c12:(12:Int)≤(cap:Int):=by omega
 have n4:¬cap=4:=by omega
 have n8:¬cap=8:=by omega
 clear hps hx0 hx1 hx2 hb0 hb1 hb2 HRS;refine QH (I:=fun a0 L x W=>BI [7,28,29,30,31,32,33,34,35,36,37,38,39,40,41,42,43] [28,29,30,31,32,33,34,35,36,37,38,39,40,41,42,43,1000,1001]
  [.pointer (some ⟨w1.heap.size,1,none⟩),.int .u64 g,.slice (some ⟨gb,0,none⟩) n cap,.slice (some ⟨gb,0,none⟩) 4 cap,.int .u64 x0,.int .i64 x0,.slice (some ⟨gb,0,none⟩) n cap,.slice (some ⟨gb,4,none⟩) 4 (cap-4),.int .u64 x1,.int .i64 x1,.agg #[.int .i64 x0,.int .i64 x1],.slice (some ⟨gb,0,none⟩) n cap,.slice (some ⟨gb,8,none⟩) 4 (cap-8),.int .u64 x2,.int .u32 x2,.agg #[.int .u64 g,.int .i64 x0,.int .i64 x1,.int .u32 x2,.slice none 0 0],undef,undef] 7 16 17 ⟨g,x0,x1,x2,ps⟩ W5 a0 L x W) (by kernel_rfl) (by kernel_rfl) (BI.start 44 (by simp) (by decide) (Qk W5)) ?_ ?_
 ·show ∀i,i<18→_
  refine Qc (Qc (Qc (Qc (Qc (Qc (Qc (Qc (Qc (Qc (Qc (Qc (Qc (Qc (Qc (Qc (Qc (Qc all_nil ?o0) ?o1) ?o2) ?o3) ?o4) ?o5) ?o6) ?o7) ?o8) ?o9) ?o10) ?o11) ?o12) ?o13) ?o14) ?o15) ?o16) ?o17
  case o0=>
   refine StepAt.mk rfl (ns:=[]) (by kernel_rfl) rfl ?_;intro L x W h0 hn hI;have e1:x.tmps[4]?.getD undef=.pointer (some ⟨w1.heap.size,0,none⟩):=hI.vi.old 4 (by decide);refine Qe (v:=.pointer (some ⟨w1.heap.size,1,none⟩)) ?_ (hI.value (by decide) 0 (by decide) (by decide) (by decide) (by decide) (by decide) rfl);simp[go_sem,e1]
  case o1=>
   refine StepAt.mk rfl (ns:=[0]) (by kernel_rfl) rfl ?_;intro L x W h0 hn hI;have e28:x.tmps[28]?.getD undef=.pointer (some ⟨w1.heap.size,1,none⟩):=hI.vi.get 0 (by decide) (by decide) (hn 0 (by decide));have f1:W.cell? ⟨w1.heap.size,1,none⟩=some (.int .u64 g):=by rw[cell_of_row _ _ _ _ _ _ (Ql HF5.out hI.vi.mem)];rfl
   refine Qe (v:=.int .u64 g) ?_ (hI.value (by decide) 1 (by decide) (by decide) (by decide) (by decide) (by decide) rfl);simp[go_sem,e28,f1]
  case o2=>
   refine StepAt.mk rfl (ns:=[]) (by kernel_rfl) rfl ?_;intro L x W h0 hn hI;have e1:x.tmps[6]?.getD undef=.slice (some ⟨gb,0,none⟩) n cap:=hI.vi.old 6 (by decide);refine Qe (v:=.slice (some ⟨gb,0,none⟩) n cap) ?_ (hI.value (by decide) 2 (by decide) (by decide) (by decide) (by decide) (by decide) rfl);simp[go_sem,e1]
  case o3=>
   refine StepAt.mk rfl (ns:=[2]) (by kernel_rfl) rfl ?_;intro L x W h0 hn hI;have e30:x.tmps[30]?.getD undef=.slice (some ⟨gb,0,none⟩) n cap:=hI.vi.get 2 (by decide) (by decide) (hn 2 (by decide));refine Qe (v:=.slice (some ⟨gb,0,none⟩) 4 cap) ?_ (hI.value (by decide) 3 (by decide) (by decide) (by decide) (by decide) (by decide) rfl);simp[go_sem,e30,c4,c8,c12,n4,n8]
  case o4=>
   refine StepAt.mk rfl (ns:=[3]) (by kernel_rfl) rfl ?_;intro L x W h0 hn hI;have e31:x.tmps[31]?.getD undef=.slice (some ⟨gb,0,none⟩) 4 cap:=hI.vi.get 3 (by decide) (by decide) (hn 3 (by decide));refine QbB (v:=.int .u64 x0) (R:=fun w2=>W.grownBy w2 none) (f:=176) (vs:=#[.slice (some ⟨gb,0,none⟩) 4 cap]) ?_ (HC0.out W (HREG.out.turn (Qd hI.vi.mem) id) cap (by omega) (by omega)) (fun w2 hg=>?_)
   ·simp[go_sem,e31]
   ·have hI2:=hI.grow hg;exact hI2.value (by decide) 4 (by decide) (by decide) (by decide) (by decide) (by decide) rfl
  case o5=>
   refine StepAt.mk rfl (ns:=[4]) (by kernel_rfl) rfl ?_;intro L x W h0 hn hI;have e32:x.tmps[32]?.getD undef=.int .u64 x0:=hI.vi.get 4 (by decide) (by decide) (hn 4 (by decide));refine Qe (v:=.int .i64 x0) ?_ (hI.value (by decide) 5 (by decide) (by decide) (by decide) (by decide) (by decide) rfl);simp[go_sem,e32,w0,w1',w2]
  case o6=>
   refine StepAt.mk rfl (ns:=[]) (by kernel_rfl) rfl ?_;intro L x W h0 hn hI;have e1:x.tmps[6]?.getD undef=.slice (some ⟨gb,0,none⟩) n cap:=hI.vi.old 6 (by decide);refine Qe (v:=.slice (some ⟨gb,0,none⟩) n cap) ?_ (hI.value (by decide) 6 (by decide) (by decide) (by decide) (by decide) (by decide) rfl);simp[go_sem,e1]
  case o7=>
   refine StepAt.mk rfl (ns:=[6]) (by kernel_rfl) rfl ?_;intro L x W h0 hn hI;have e34:x.tmps[34]?.getD undef=.slice (some ⟨gb,0,none⟩) n cap:=hI.vi.get 6 (by decide) (by decide) (hn 6 (by decide));refine Qe (v:=.slice (some ⟨gb,4,none⟩) 4 (cap-4)) ?_ (hI.value (by decide) 7 (by decide) (by decide) (by decide) (by decide) (by decide) rfl);simp[go_sem,e34,c4,c8,c12,n4,n8]
  case o8=>
   refine StepAt.mk rfl (ns:=[7,4]) (by kernel_rfl) rfl ?_;intro L x W h0 hn hI;have e35:x.tmps[35]?.getD undef=.slice (some ⟨gb,4,none⟩) 4 (cap-4):=hI.vi.get 7 (by decide) (by decide) (hn 7 (by decide));refine QbB (v:=.int .u64 x1) (R:=fun w2=>W.grownBy w2 none) (f:=176) (vs:=#[.slice (some ⟨gb,4,none⟩) 4 (cap-4)]) ?_ (HC1.out W (HREG.out.turn (Qd hI.vi.mem) id) (cap-4) (by omega) (by omega)) (fun w2 hg=>?_)
   ·simp[go_sem,e35]
   ·have hI2:=hI.grow hg;exact hI2.value (by decide) 8 (by decide) (by decide) (by decide) (by decide) (by decide) rfl
  case o9=>
   refine StepAt.mk rfl (ns:=[8]) (by kernel_rfl) rfl ?_;intro L x W h0 hn hI;have e36:x.tmps[36]?.getD undef=.int .u64 x1:=hI.vi.get 8 (by decide) (by decide) (hn 8 (by decide));refine Qe (v:=.int .i64 x1) ?_ (hI.value (by decide) 9 (by decide) (by decide) (by decide) (by decide) (by decide) rfl);simp[go_sem,e36,w0,w1',w2]
  case o10=>
   refine StepAt.mk rfl (ns:=[5,9]) (by kernel_rfl) rfl ?_;intro L x W h0 hn hI;have e33:x.tmps[33]?.getD undef=.int .i64 x0:=hI.vi.get 5 (by decide) (by decide) (hn 5 (by decide));have e37:x.tmps[37]?.getD undef=.int .i64 x1:=hI.vi.get 9 (by decide) (by decide) (hn 9 (by decide));refine Qe (v:=.agg #[.int .i64 x0,.int .i64 x1]) ?_ (hI.value (by decide) 10 (by decide) (by decide) (by decide) (by decide) (by decide) rfl);simp[go_sem,e33,e37]
  case o11=>
   refine StepAt.mk rfl (ns:=[]) (by kernel_rfl) rfl ?_;intro L x W h0 hn hI;have e1:x.tmps[6]?.getD undef=.slice (some ⟨gb,0,none⟩) n cap:=hI.vi.old 6 (by decide);refine Qe (v:=.slice (some ⟨gb,0,none⟩) n cap) ?_ (hI.value (by decide) 11 (by decide) (by decide) (by decide) (by decide) (by decide) rfl);simp[go_sem,e1]
  case o12=>
   refine StepAt.mk rfl (ns:=[11]) (by kernel_rfl) rfl ?_;intro L x W h0 hn hI;have e39:x.tmps[39]?.getD undef=.slice (some ⟨gb,0,none⟩) n cap:=hI.vi.get 11 (by decide) (by decide) (hn 11 (by decide));refine Qe (v:=.slice (some ⟨gb,8,none⟩) 4 (cap-8)) ?_ (hI.value (by decide) 12 (by decide) (by decide) (by decide) (by decide) (by decide) rfl);simp[go_sem,e39,c4,c8,c12,n4,n8]
  case o13=>
   refine StepAt.mk rfl (ns:=[12,8]) (by kernel_rfl) rfl ?_;intro L x W h0 hn hI;have e40:x.tmps[40]?.getD undef=.slice (some ⟨gb,8,none⟩) 4 (cap-8):=hI.vi.get 12 (by decide) (by decide) (hn 12 (by decide));refine QbB (v:=.int .u64 x2) (R:=fun w2=>W.grownBy w2 none) (f:=176) (vs:=#[.slice (some ⟨gb,8,none⟩) 4 (cap-8)]) ?_ (HC2.out W (HREG.out.turn (Qd hI.vi.mem) id) (cap-8) (by omega) (by omega)) (fun w2 hg=>?_)
   ·simp[go_sem,e40]
   ·have hI2:=hI.grow hg;exact hI2.value (by decide) 13 (by decide) (by decide) (by decide) (by decide) (by decide) rfl
  case o14=>
   refine StepAt.mk rfl (ns:=[13]) (by kernel_rfl) rfl ?_;intro L x W h0 hn hI;have e41:x.tmps[41]?.getD undef=.int .u64 x2:=hI.vi.get 13 (by decide) (by decide) (hn 13 (by decide));refine Qe (v:=.int .u32 x2) ?_ (hI.value (by decide) 14 (by decide) (by decide) (by decide) (by decide) (by decide) rfl);simp[go_sem,e41,w0,w1',w2]
  case o15=>
   refine StepAt.mk rfl (ns:=[1,10,14]) (by kernel_rfl) rfl ?_;intro L x W h0 hn hI;have e29:x.tmps[29]?.getD undef=.int .u64 g:=hI.vi.get 1 (by decide) (by decide) (hn 1 (by decide));have e38:x.tmps[38]?.getD undef=.agg #[.int .i64 x0,.int .i64 x1]:=hI.vi.get 10 (by decide) (by decide) (hn 10 (by decide));have e42:x.tmps[42]?.getD undef=.int .u32 x2:=hI.vi.get 14 (by decide) (by decide) (hn 14 (by decide));refine Qe (v:=.agg #[.int .u64 g,.int .i64 x0,.int .i64 x1,.int .u32 x2,.slice none 0 0]) ?_ (hI.value (by decide) 15 (by decide) (by decide) (by decide) (by decide) (by decide) rfl);simp[go_sem,e29,e38,e42]
  case o16=>
   refine StepAt.mk rfl (ns:=[]) (by kernel_rfl) rfl ?_;intro L x W h0 hn hI;refine Qax (v:=.pointer (some ⟨W.heap.size,0,none⟩)) (w':=W.alloc (.cells #[.int .u64 0,.int .i64 0,.int .i64 0,.int .u32 0,.slice none 0 0] 111)) ?_ (hI.made (by decide) (by decide) (by decide) (by decide) h0 rfl);simp[go_sem]
  case o17=>
   refine StepAt.mk rfl (ns:=[16,15,13,0,1,2,3,4,5,6,7,8,9,10,11,12,13,14,15,16]) (by kernel_rfl) rfl ?_;intro L x W h0 hn hI;obtain⟨g7,s',a',n',c',k1,k2,k3⟩:=hI.fill (by decide) (hn 16 (by decide));refine QcU rfl (.tmp 7) (.tmp 43) rfl g7 k1 ⟨g,x0,x1,x2,ps⟩ none 0 0 (hI.vi.vals 15 (by decide) (by decide) (hn 15 (by decide))) s' a' n' c' k2 k3
 ·intro L x W hL hI;replace hL:∀i,i<18→L i=true:=hL;have hform:=hI.vi.agr.form;obtain⟨g7,v7,hg7,s',a',n',c',q1,q2⟩:=hI.box (hL 16 (by omega));obtain⟨rfl,rfl,rfl,rfl⟩:=q2 (hL 17 (by omega));have v28:At x 28=.pointer (some ⟨w1.heap.size,1,none⟩):=hI.vi.vals 0 (by decide) (by decide) (hL 0 (by omega));have v29:At x 29=.int .u64 g:=hI.vi.vals 1 (by decide) (by decide) (hL 1 (by omega));have v30:At x 30=.slice (some ⟨gb,0,none⟩) n cap:=hI.vi.vals 2 (by decide) (by decide) (hL 2 (by omega));have v31:At x 31=.slice (some ⟨gb,0,none⟩) 4 cap:=hI.vi.vals 3 (by decide) (by decide) (hL 3 (by omega));have v32:At x 32=.int .u64 x0:=hI.vi.vals 4 (by decide) (by decide) (hL 4 (by omega));have v33:At x 33=.int .i64 x0:=hI.vi.vals 5 (by decide) (by decide) (hL 5 (by omega));have v34:At x 34=.slice (some ⟨gb,0,none⟩) n cap:=hI.vi.vals 6 (by decide) (by decide) (hL 6 (by omega));have v35:At x 35=.slice (some ⟨gb,4,none⟩) 4 (cap-4):=hI.vi.vals 7 (by decide) (by decide) (hL 7 (by omega));have v36:At x 36=.int .u64 x1:=hI.vi.vals 8 (by decide) (by decide) (hL 8 (by omega));have v37:At x 37=.int .i64 x1:=hI.vi.vals 9 (by decide) (by decide) (hL 9 (by omega));have v38:At x 38=.agg #[.int .i64 x0,.int .i64 x1]:=hI.vi.vals 10 (by decide) (by decide) (hL 10 (by omega));have v39:At x 39=.slice (some ⟨gb,0,none⟩) n cap:=hI.vi.vals 11 (by decide) (by decide) (hL 11 (by omega));have v40:At x 40=.slice (some ⟨gb,8,none⟩) 4 (cap-8):=hI.vi.vals 12 (by decide) (by decide) (hL 12 (by omega));have v41:At x 41=.int .u64 x2:=hI.vi.vals 13 (by decide) (by decide) (hL 13 (by omega));have v42:At x 42=.int .u32 x2:=hI.vi.vals 14 (by decide) (by decide) (hL 14 (by omega));have v43:At x 43=.agg #[.int .u64 g,.int .i64 x0,.int .i64 x1,.int .u32 x2,.slice none 0 0]:=hI.vi.vals 15 (by decide) (by decide) (hL 15 (by omega));have HGW:=hid hI.vi.mem;clear hI q2 hL;rw[List.foldl_cons,List.foldl_cons,List.foldl_cons,List.foldl_cons,List.foldl_cons,List.foldl_cons,List.foldl_cons,List.foldl_cons,List.foldl_cons,List.foldl_cons,List.foldl_cons,List.foldl_cons,List.foldl_cons,List.foldl_cons,List.foldl_cons,List.foldl_cons,List.foldl_cons,List.foldl_nil,v7,v28,v29,v30,v31,v32,v33,v34,v35,v36,v37,v38,v39,v40,v41,v42,v43]at hform;clear v7 v28 v29 v30 v31 v32 v33 v34 v35 v36 v37 v38 v39 v40 v41 v42 v43;subst hform;have HS7:=hid q1;have hg7l:=q1.lt;have HR7:=hid (HREG.out.turn (Qd HGW.out) id);have HZ7:=hid (HS5.out.old HGW.out);have HG7:=hid (Qa HG5.out HGW.out);have hgb7:gb<W.heap.size:=Nat.lt_of_lt_of_le hgb5 HGW.out.size;have hgw:w.heap.size<g7:=by omega
  have hg7':=hg7;have hgne2:g7≠gb:=by omega
  obtain⟨W7,hW7⟩:∃X,X=W:=⟨_,rfl⟩;rw[←hW7]at HS7 hg7l HR7 HZ7 HG7 hgb7 ⊢;clear q1 hW7 HGW HREG HG5 HS5 HF5 HC0 HC1 HC2 w0 w1' w2 c4 c8 c12 n4 n8;go_wp2
  go_loopw [8] (fun s8 wr=>∃(i k:Nat) (a:Option Addr) (c:Nat),Hid (i=14+4*k)∧i≤n∧s8=.int .i64 i∧Hid (Reg wr gb 0 d)∧Hid (wr.ownsRow W7.heap.size 35 1 (.slice a k c) k ((ps.take k).map (Value.int .u32)))∧Hid (w.grownBy wr none)∧Hid (W7.heap.size≤wr.heap.size)∧Hid (SB wr g7 ⟨g,x0,x1,x2,ps⟩ a k c)∧Hid (SB wr w.heap.size zeroS none 0 0)) (fun s8 _=>n-(intOf s8).toNat)
  case atStart=>exact⟨14,0,none,0,hid rfl,by omega,rfl,HR7,hid ⟨rfl,.inl ⟨rfl,rfl⟩⟩,HG7,hid (Nat.le_refl _),HS7,HZ7⟩
  case round=>
   clear HR7 HG7 HS7 HZ7;obtain⟨i,k,a,c,HI,hin,rfl,HR,HO,HG,HL7,HS,HZ⟩:=hrel;have e1:IntKind.i64.wrap ((i:Int)+4)=(i:Int)+4:=IntWalk.i64_in _ (by omega);by_cases h4:i+4≤n
   ·have q2:decide ((i:Int)+4≤(n:Int))=true:=decide_eq_true (by omega);have HPK:=hid (HPT.out k (by have:=HI.out;omega));have hxb:=Qcn d HDB.out i;have HCO:=hid (fun W (hr:Reg W gb 0 d) c h1 h2=>QeD d gb i 4 c W HDB.out hr (by omega) (by decide) h1 h2);rw[←HI.out]at HPK;obtain⟨x,hx⟩:∃x,ofB ((d.drop i).take 4)=x:=⟨_,rfl⟩;rw[hx]at HPK hxb HCO;have e2:IntKind.u32.wrap x=x:=by rw[IntKind.wrap_u32];omega
    have hk1:k≤4096:=by have:=HI.out;omega
    have i1:¬((i:Int)<0):=by omega
    have i2:(0:Int)≤(i:Int):=by omega
    have i3:(i:Int)≤(i:Int)+4:=by omega
    have i4:(i:Int)+4≤(cap:Int):=by omega
    have i5:¬cap=i:=by omega
    have i6:((i:Int)+4).toNat=i+4:=by omega
    have i7:(0:Int)≤(i:Int)+4:=by omega
    have i8:i≤cap:=by omega
    have i9:(i:Int)≤(cap:Int):=by omega
    clear hx hxb;go_upto_region 11 with (fail)
    refine QH (I:=fun a0 L X W=>∃g9 g' c',VI [51,52,53,54,55,56,57,58,59,60,61,62] [51,52,53,54,55,56,57,58,59,60,61,62,1000] (V11 g7 gb n cap i x a k c g9 g' c') (fun L W=>AI W7.heap.size g7 ⟨g,x0,x1,x2,ps⟩ a k c (ps.take k) x wr g9 g' c' L W) a0 L X W) (by kernel_rfl) (by kernel_rfl)
     ⟨0,0,0,VI.start 63 (by simp) (by decide) ⟨Turn.drew wr _,(fun p=>by cases p),fun _=>QN HO.out (Turn.drew wr nowhere) (fun _ _ e=>e.elim),(fun p=>by cases p),fun _=>HS.out.old (Qk wr),(fun p=>by cases p),(fun p=>by cases p),(fun p=>by cases p),(fun p=>by cases p)⟩⟩ ?_ ?_
    ·show ∀i,i<13→_
     refine Qc (Qc (Qc (Qc (Qc (Qc (Qc (Qc (Qc (Qc (Qc (Qc (Qc all_nil ?r0) ?r1) ?r2) ?r3) ?r4) ?r5) ?r6) ?r7) ?r8) ?r9) ?r10) ?r11) ?r12
     case r0=>
      refine StepAt.mk rfl (ns:=[]) (by kernel_rfl) rfl ?_;intro L X W h0 hn hI;obtain⟨g9,g',c',hI⟩:=hI;have e7:X.tmps[7]?.getD undef=.pointer (some ⟨g7,0,none⟩):=hI.old 7 (by decide);refine Qe (v:=.pointer (some ⟨g7,4,none⟩)) ?_ ⟨g9,g',c',hI.value (by decide) 0 (by decide) (by decide) rfl (hI.mem.keep (by decide) (by decide) (by decide))⟩;simp[go_sem,e7]
     case r1=>
      refine StepAt.mk rfl (ns:=[0]) (by kernel_rfl) rfl ?_;intro L X W h0 hn hI;obtain⟨g9,g',c',hI⟩:=hI;have e51:X.tmps[51]?.getD undef=.pointer (some ⟨g7,4,none⟩):=hI.get 0 (by decide) (by decide) (hn 0 (by decide));have c4:=(hI.mem.sb (hI.mem.no12 (hI.mem.before h0))).cells.2.2.2.2;refine Qe (v:=.slice a k c) ?_ ⟨g9,g',c',hI.value (by decide) 1 (by decide) (by decide) rfl (hI.mem.keep (by decide) (by decide) (by decide))⟩;simp[go_sem,e51,c4]
     case r2=>
      refine StepAt.mk rfl (ns:=[]) (by kernel_rfl) rfl ?_;intro L X W h0 hn hI;obtain⟨g9,g',c',hI⟩:=hI;have e1s:X.tmps[6]?.getD undef=.slice (some ⟨gb,0,none⟩) n cap:=hI.old 6 (by decide);refine Qe (v:=.slice (some ⟨gb,0,none⟩) n cap) ?_ ⟨g9,g',c',hI.value (by decide) 2 (by decide) (by decide) rfl (hI.mem.keep (by decide) (by decide) (by decide))⟩;simp[go_sem,e1s]
     case r3=>
      refine StepAt.mk rfl (ns:=[]) (by kernel_rfl) rfl ?_;intro L X W h0 hn hI;obtain⟨g9,g',c',hI⟩:=hI;have e1s:X.tmps[8]?.getD undef=.int .i64 i:=hI.old 8 (by decide);refine Qe (v:=.int .i64 i) ?_ ⟨g9,g',c',hI.value (by decide) 3 (by decide) (by decide) rfl (hI.mem.keep (by decide) (by decide) (by decide))⟩;simp[go_sem,e1s]
     case r4=>
      refine StepAt.mk rfl (ns:=[]) (by kernel_rfl) rfl ?_;intro L X W h0 hn hI;obtain⟨g9,g',c',hI⟩:=hI;have e1s:X.tmps[8]?.getD undef=.int .i64 i:=hI.old 8 (by decide);refine Qe (v:=.int .i64 i) ?_ ⟨g9,g',c',hI.value (by decide) 4 (by decide) (by decide) rfl (hI.mem.keep (by decide) (by decide) (by decide))⟩;simp[go_sem,e1s]
     case r5=>
      refine StepAt.mk rfl (ns:=[4]) (by kernel_rfl) rfl ?_;intro L X W h0 hn hI;obtain⟨g9,g',c',hI⟩:=hI;have e55:X.tmps[55]?.getD undef=.int .i64 i:=hI.get 4 (by decide) (by decide) (hn 4 (by decide));refine Qe (v:=.int .i64 ((i:Int)+4)) ?_ ⟨g9,g',c',hI.value (by decide) 5 (by decide) (by decide) rfl (hI.mem.keep (by decide) (by decide) (by decide))⟩;simp[go_sem,e55,e1]
     case r6=>
      refine StepAt.mk rfl (ns:=[2,3,5]) (by kernel_rfl) rfl ?_;intro L X W h0 hn hI;obtain⟨g9,g',c',hI⟩:=hI;have e53:X.tmps[53]?.getD undef=.slice (some ⟨gb,0,none⟩) n cap:=hI.get 2 (by decide) (by decide) (hn 2 (by decide));have e54:X.tmps[54]?.getD undef=.int .i64 i:=hI.get 3 (by decide) (by decide) (hn 3 (by decide));have e56:X.tmps[56]?.getD undef=.int .i64 ((i:Int)+4):=hI.get 5 (by decide) (by decide) (hn 5 (by decide));refine Qe (v:=.slice (some ⟨gb,i,none⟩) 4 (cap-i)) ?_ ⟨g9,g',c',hI.value (by decide) 6 (by decide) (by decide) rfl (hI.mem.keep (by decide) (by decide) (by decide))⟩;simp[go_sem,e53,e54,e56,i1,i2,i3,i4,i5,i6,i7,i8,i9]
     case r7=>
      refine StepAt.mk rfl (ns:=[6]) (by kernel_rfl) rfl ?_;intro L X W h0 hn hI;obtain⟨g9,g',c',hI⟩:=hI;have e57:X.tmps[57]?.getD undef=.slice (some ⟨gb,i,none⟩) 4 (cap-i):=hI.get 6 (by decide) (by decide) (hn 6 (by decide));refine QbB (v:=.int .u64 x) (R:=fun w2=>W.grownBy w2 none) (f:=176) (vs:=#[.slice (some ⟨gb,i,none⟩) 4 (cap-i)]) ?_ (HCO.out W (HR.out.turn hI.mem.turn (by omega)) (cap-i) (by omega) (by omega)) (fun w2 hg=>⟨g9,g',c',hI.value (by decide) 7 (by decide) (by decide) rfl ((hI.mem.grow hg).keep (by decide) (by decide) (by decide))⟩);simp[go_sem,e57]
     case r8=>
      refine StepAt.mk rfl (ns:=[7]) (by kernel_rfl) rfl ?_;intro L X W h0 hn hI;obtain⟨g9,g',c',hI⟩:=hI;have e58:X.tmps[58]?.getD undef=.int .u64 x:=hI.get 7 (by decide) (by decide) (hn 7 (by decide));refine Qe (v:=.int .u32 x) ?_ ⟨g9,g',c',hI.value (by decide) 8 (by decide) (by decide) rfl (hI.mem.keep (by decide) (by decide) (by decide))⟩;simp[go_sem,e58,e2]
     case r9=>
      refine StepAt.mk rfl (ns:=[8]) (by kernel_rfl) rfl ?_;intro L X W h0 hn hI;obtain⟨g9,g',c',hI⟩:=hI;have e59:X.tmps[59]?.getD undef=.int .u32 x:=hI.get 8 (by decide) (by decide) (hn 8 (by decide));refine Qax (v:=.slice (some ⟨W.heap.size,0,none⟩) 1 1) (w':=W.alloc (.cells #[.int .u32 x] 35)) ?_ ⟨W.heap.size,g',c',VI.next hI (fun j hl=>v11_9 _ j (fun e=>by rw[e,h0]at hl;cases hl)) (by decide) 9 (by decide) (by decide) rfl (hI.mem.made h0)⟩;simp[go_sem,e59]
     case r10=>
      refine StepAt.mk rfl (ns:=[1,9,7]) (by kernel_rfl) rfl ?_;intro L X W h0 hn hI;obtain⟨g9,g',c',hI⟩:=hI;have hbz:W7.heap.size≤W.heap.size:=Nat.le_trans HL7.out hI.mem.turn.size;refine wp_append_own W (.tmp 52) (.tmp 60) 38 rfl W7.heap.size 35 i0 (.int .u32 0) 1 4 Tryz.underlying38 hi hz0 hz1 hz2 rfl (by decide) (.slice a k c) k _ (hI.vals 1 (by decide) (by decide) (hn 1 (by decide))) (hI.mem.own h0) ⟨g9,0,none⟩ 1 1 [.int .u32 x] (hI.vals 9 (by decide) (by decide) (hn 9 (by decide))) rfl (by intro t u ht;match t,ht with|0,ht=>simp at ht;subst ht;exact hI.mem.lit (hn 9 (by decide)) h0) (by intro u hu;simp at hu;subst hu;rfl) (by unfold maxLen;omega) (by omega) hbz ?_;intro v' w2 hown hgr _;obtain⟨h',d',rfl⟩:=Qab hown (by omega);exact⟨g9,h',d',VI.next hI (fun j hl=>Qmm _ _ j (fun e=>by rw[e,h0]at hl;cases hl)) (by decide) 10 (by decide) (by decide) rfl (hI.mem.appended h0 (hn 1 (by decide)) (hn 9 (by decide)) hg7l hown hgr)⟩
     case r11=>
      refine StepAt.mk rfl (ns:=[0,1,2,3,4,5,6,7,8,9,10]) (by kernel_rfl) rfl ?_;intro L X W h0 hn hI;obtain⟨g9,g',c',hI⟩:=hI;have e7:X.tmps[7]?.getD undef=.pointer (some ⟨g7,0,none⟩):=hI.old 7 (by decide);refine Qe (v:=.pointer (some ⟨g7,4,none⟩)) ?_ ⟨g9,g',c',hI.value (by decide) 11 (by decide) (by decide) rfl (hI.mem.keep (by decide) (by decide) (by decide))⟩;simp[go_sem,e7]
     case r12=>
      refine StepAt.mk rfl (ns:=[11,10,10,0,1,2,3,4,5,6,7,8,9,10]) (by kernel_rfl) rfl ?_;intro L X W h0 hn hI;obtain⟨g9,g',c',hI⟩:=hI;exact Qfc rfl (.tmp 62) (.tmp 61) rfl g7 (hI.vals 11 (by decide) (by decide) (hn 11 (by decide))) (some ⟨g',0,none⟩) (k+1) c' (hI.vals 10 (by decide) (by decide) (hn 10 (by decide))) ⟨g,x0,x1,x2,ps⟩ a k c (hI.mem.sb h0) (fun w2 hsb ht=>⟨g9,g',c',hI.other 12 (by decide) (hI.mem.stored (hn 10 (by decide)) hg7l hsb ht)⟩)
    ·intro L X W hL hI;replace hL:∀i,i<13→L i=true:=hL;obtain⟨g9,g',c',hI⟩:=hI;have hform:=hI.agr.form;have v51:At X 51=.pointer (some ⟨g7,4,none⟩):=hI.vals 0 (by decide) (by decide) (hL 0 (by omega));have v52:At X 52=.slice a k c:=hI.vals 1 (by decide) (by decide) (hL 1 (by omega));have v53:At X 53=.slice (some ⟨gb,0,none⟩) n cap:=hI.vals 2 (by decide) (by decide) (hL 2 (by omega));have v54:At X 54=.int .i64 i:=hI.vals 3 (by decide) (by decide) (hL 3 (by omega));have v55:At X 55=.int .i64 i:=hI.vals 4 (by decide) (by decide) (hL 4 (by omega));have v56:At X 56=.int .i64 ((i:Int)+4):=hI.vals 5 (by decide) (by decide) (hL 5 (by omega));have v57:At X 57=.slice (some ⟨gb,i,none⟩) 4 (cap-i):=hI.vals 6 (by decide) (by decide) (hL 6 (by omega));have v58:At X 58=.int .u64 x:=hI.vals 7 (by decide) (by decide) (hL 7 (by omega));have v59:At X 59=.int .u32 x:=hI.vals 8 (by decide) (by decide) (hL 8 (by omega));have v60:At X 60=.slice (some ⟨g9,0,none⟩) 1 1:=hI.vals 9 (by decide) (by decide) (hL 9 (by omega));have v61:At X 61=(.slice (some ⟨g',0,none⟩) (k+1) c'):=hI.vals 10 (by decide) (by decide) (hL 10 (by omega));have v62:At X 62=.pointer (some ⟨g7,4,none⟩):=hI.vals 11 (by decide) (by decide) (hL 11 (by omega));have hm:=hI.mem;clear hI;rw[List.foldl_cons,List.foldl_cons,List.foldl_cons,List.foldl_cons,List.foldl_cons,List.foldl_cons,List.foldl_cons,List.foldl_cons,List.foldl_cons,List.foldl_cons,List.foldl_cons,List.foldl_cons,List.foldl_nil,v51,v52,v53,v54,v55,v56,v57,v58,v59,v60,v61,v62]at hform;clear v51 v52 v53 v54 v55 v56 v57 v58 v59 v60 v61 v62;subst hform;have HR2:Hid (Reg W gb 0 d):=hid (HR.out.turn hm.turn (by omega));have HO2:Hid (W.ownsRow W7.heap.size 35 1 (.slice (some ⟨g',0,none⟩) (k+1) c') (k+1) ((ps.take (k+1)).map (Value.int .u32))):=hid (by rw[HPK.out];exact hm.own2 (hL 10 (by omega)));have hwW:w.heap.size<W7.heap.size:=by omega
     have HG2:Hid (w.grownBy W none):=hid (Turn.grown ((Qd HG.out).trans hm.turn (fun j h e=>by have e2:W7.heap.size≤j∨j=g7:=e;omega)));have HL2:Hid (W7.heap.size≤W.heap.size):=hid (Nat.le_trans HL7.out hm.turn.size);have HS2:=hid (hm.sb2 (hL 12 (by omega)));have HZ2:Hid (SB W w.heap.size zeroS none 0 0):=hid (Qg HZ.out hm.turn (by omega));have HI2:Hid (i+4=14+4*(k+1)):=hid (by have:=HI.out;omega);clear hm hL HR HO HG HL7 HS HZ HI HPK HCO i1 i2 i3 i4 i5 i6 i7 i8 i9 hwW;go_wp2;go_roundw
     case rel=>exact⟨i+4,k+1,_,c',HI2,by omega,by go_num,HR2,HO2,HG2,HL2,HS2,HZ2⟩
     case measure=>simp[intOf];omega
   ·have q2:decide ((i:Int)+4≤(n:Int))=false:=decide_eq_false (by omega);have hpl:ps.length=k:=by
     rw[HPL.out];have:=HI.out;omega
    have htk:ps.take k=ps:=List.take_of_length_le (Nat.le_of_eq hpl);have hO:=HO.out;rw[htk]at hO;have hseg:=QbC hO;have hnew:∀ad,a=some ad→w.heap.size≤ad.block:=fun ad had=>by
     obtain⟨a2,c2,e2,h2⟩:=Qaz hO;cases e2
     have:=h2 ad had;omega
    have hnew2:∀ad,a=some ad→w.heap.size≠ad.block:=fun ad had=>by
     obtain⟨a2,c2,e2,h2⟩:=Qaz hO;cases e2
     have:=h2 ad had;omega
    have HSG:=hid hseg;have HNW:=hid hnew;have HNW2:=hid hnew2;have HPQ:=hid (QkU ⟨g,x0,x1,x2,ps⟩ a k c wr hseg HRO.out);have hib:Bs.IsB (putS ⟨g,x0,x1,x2,ps⟩).1:=QhI;obtain⟨⟨pb,pe⟩,hput⟩:∃r,putS ⟨g,x0,x1,x2,ps⟩=r:=⟨_,rfl⟩;rw[hput]at HP HPQ hib;unfold strE at HPQ;dsimp only at HPQ hib;obtain⟨b0,b1,b2,b3,b4⟩:=HS.out.cells;dsimp only at b0 b1 b2 b3 b4;have hT9:=fun h=>HT9.out pb h hib
    obtain⟨PS,hPS⟩:∃PS,strOfNums pb=PS:=⟨_,rfl⟩;have hPSB:pb=B→PS=S:=fun h=>by rw[←hPS,h,HSB.out]
    rw[hPS]at HPQ hT9;have HT9:=hid hT9;have HPSB:=hid hPSB;clear hO hseg hnew hnew2 hput hib hT9 hPSB hPS HO HR HL7 htk hpl;go_wp2_with fail
    refine HPQ.out.mono ?_;rintro e w7 ⟨rfl,hg⟩;have HG8:=hid (Qa HG.out hg);have HS8:=hid (HS.out.old hg);have HZ8:=hid (HZ.out.old hg);have HSG8:=hid (HSG.out.grown hg);clear hg HPQ b0 b1 b2 b3 b4 HG HS HZ HSG;obtain⟨b0,b1,b2,b3,b4⟩:=HS8.out.cells;dsimp only at b0 b1 b2 b3 b4;dsimp only;by_cases h1:pe=0
    ·have r1:(pe != 0)=false:=by rw[h1];rfl
     by_cases h2:pb=B
     ·have r2:=HPSB.out h2;have r3:(S.toList==S.toList)=true:=beq_self_eq_true _;have hR:R=(⟨g,x0,x1,x2,ps⟩,0):=by rw[HP.out,if_pos (by rw[h1,h2])]
      subst hR;subst r2;clear HP h1 h2 HT9 HPSB;go_wp2_with (first
       |(with_reducible refine Qy rfl (.tmp 2) (.tmp 76) rfl w.heap.size rfl ⟨g,x0,x1,x2,ps⟩ a k c rfl zeroS none 0 0 HZ8.out ?_;intro w6 hq6 ht6)
       |fail)
      refine bodyPost_ret (Qx rfl _ _ _ _ _ _ _ rfl hq6 (.int .i64 0) rfl) rfl ⟨Qi HG8.out ht6 (Nat.le_refl _),a,k,c,rfl,HSG8.out.kept (Qag ht6) (fun ad had e=>HNW2.out ad had (Option.some.inj e)),HNW.out⟩
     ·have r2:=HT9.out h2;have hR:R=(zeroS,4):=by rw[HP.out,if_neg (fun h=>h2 (congrArg Prod.fst h))]
      subst hR;clear HP h1 h2 HT9 HPSB;go_wp2_with (first
       |(with_reducible refine Qy rfl (.tmp 2) (.tmp 75) rfl w.heap.size rfl zeroS none 0 0 rfl zeroS none 0 0 HZ8.out ?_;intro w6 hq6 ht6)
       |fail)
      refine bodyPost_ret (Qx rfl _ _ _ _ _ _ _ rfl hq6 (.int .i64 4) rfl) rfl (GotX.no (Qi HG8.out ht6 (Nat.le_refl _)))
    ·have r1:(pe != 0)=true:=bne_iff_ne.2 h1;have hR:R=(zeroS,4):=by rw[HP.out,if_neg (fun h=>h1 (congrArg Prod.snd h))]
     subst hR;clear HP h1 HT9 HPSB;go_wp2_with (first
      |(with_reducible refine Qy rfl (.tmp 2) (.tmp 75) rfl w.heap.size rfl zeroS none 0 0 rfl zeroS none 0 0 HZ8.out ?_;intro w6 hq6 ht6)
      |fail)
     refine bodyPost_ret (Qx rfl _ _ _ _ _ _ _ rfl hq6 (.int .i64 4) rfl) rfl (GotX.no (Qi HG8.out ht6 (Nat.le_refl _)))
end Su
end Go.Proofs.YtbbbocoliandcaaGreatDoor
