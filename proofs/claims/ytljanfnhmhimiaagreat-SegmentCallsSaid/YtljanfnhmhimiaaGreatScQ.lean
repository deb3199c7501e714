/- Parts of the proof. -/
import Derived.Lib.Walk
import Derived.Test.YtljanfnhmhimiaaGreatScK
set_option maxRecDepth 100000
set_option maxHeartbeats 8000000
open Go.Lib (hid)
namespace Go.Proofs.YtljanfnhmhimiaaGreat
namespace Sg
open Go.RowKit Bs Dv
theorem Qje:(Tryz.prog.info? 56).map (·.size)=some 2:=by kernel_rfl
theorem Qof:liesAt Tryz.prog Tryz.prog.depth 56 (2 / Tryz.prog.cellsOf 56) 0 56 1=true:=by kernel_rfl
theorem Qne:(Tryz.prog.info? 5).map (fun i=>(i.zero,i.size,i.bytes))=some (some (.int .u8 0),1,1):=by kernel_rfl
theorem QgC:∃i,Tryz.prog.info? 5=some i∧i.zero=some (.int .u8 0)∧i.size=1∧i.bytes=1:=by
 have h:=Qne;cases hq:Tryz.prog.info? 5 with
 |none=>rw[hq]at h;cases h
 |some i=>
  rw[hq]at h;simp only[Option.map_some,Option.some.injEq,Prod.mk.injEq]at h;exact⟨i,rfl,h.1,h.2.1,h.2.2⟩
def Bd(w:World)(B b:Nat)(l:List Int):Prop:=Lib.IsBuilder 56 5 B b (l.map (Value.int .u8)) w
def WS(w:World)(B b k:Nat):Prop:=k=b∨(B≤k∧∃cur fz,w.heap[k]?=some (.cells cur 5 fz))
def Wrote(w:World)(B b:Nat)(w':World):Prop:=Turn w w' (WS w B b)
theorem Wrote.trans{w w1 w2:World}{B b:Nat}(h:Wrote w B b w1)(k:Wrote w1 B b w2):Wrote w B b w2:=
 Turn.trans h k fun i hi hs=>by
  refine Classical.byContradiction fun hn=>?_
  rcases hs with rfl|⟨hB,cur,fz,hc⟩
  ·exact hn (.inl rfl)
  ·rw[h.block i hi hn]at hc;exact hn (.inr ⟨hB,cur,fz,hc⟩)
theorem Wrote.base{w0 w w':World}{b:Nat}(h0:Turn w0 w nowhere)(h:Wrote w w0.heap.size b w')(hb:w0.heap.size≤b):Turn w0 w' nowhere:=
 Turn.trans h0 h fun i hi hs=>by rcases hs with rfl|⟨hB,_⟩ <;> omega
theorem Qle(b:Nat)(w:World)(h0:w.cell? ⟨b,0,none⟩=some (.pointer (some ⟨b,0,none⟩))) :
  Calls Tryz.prog 52 #[.pointer (some ⟨b,0,none⟩)] w fun e w'=>e=.returned (.tuple #[])∧w'=w:=by
 obtain⟨j,hj,_⟩:=Option.map_eq_some_iff.1 Qje;go_enter Tryz.func52,Tryz.ntmps52
 go_wp2;rw[Lib.run_neq_ptr_same w _ Tryz.underlying54 hj];go_wp2
 go_end0
 exact⟨rfl,rfl⟩
theorem QfA(b:Nat)(w:World)(h0:w.cell? ⟨b,0,none⟩=some (.pointer none))(hsh:w.shape? b=some (56,2))(hfz:w.frozen? ⟨b,0,none⟩=false) :
  Calls Tryz.prog 52 #[.pointer (some ⟨b,0,none⟩)] w fun e w'=>e=.returned (.tuple #[])∧w'=w.setCell ⟨b,0,none⟩ (.pointer (some ⟨b,0,none⟩)):=by
 obtain⟨j,hj,hjs⟩:=Option.map_eq_some_iff.1 Qje;go_enter Tryz.func52,Tryz.ntmps52
 go_wp2;rw[Lib.run_to_unsafe w ⟨b,0,none⟩ Tryz.underlying54 Tryz.underlying152 hj (by rw[hjs];decide) hsh (Nat.zero_lt_succ 1)];simp only[Result.andThen];rw[Oper.upon_value];go_wp2;rw[run_callFunc_extern Tryz.func88 (by kernel_rfl) (by kernel_rfl) (by kernel_rfl) (e:=Extern.AbiNoEscape.same) (by kernel_rfl)];rw[Lib.run_noEscape];simp only[Result.andThen];rw[Oper.upon_value];go_wp2;rw[Lib.run_from_unsafe w ⟨b,0,none⟩ Tryz.underlying152 Tryz.underlying54 hj hsh Qof];simp only[Result.andThen];rw[Oper.upon_value];go_wp2
 go_end0
 exact⟨rfl,rfl⟩
theorem Qdi(B b:Nat)(bs:List Value)(w:World)(h:Lib.IsBuilder 56 5 B b bs w) :
  Calls Tryz.prog 52 #[.pointer (some ⟨b,0,none⟩)] w fun e w'=>e=.returned (.tuple #[])∧Lib.BuilderAt 56 5 B b (.pointer (some ⟨b,0,none⟩)) bs w'∧w.heap.size=w'.heap.size∧Turn w w' (·=b):=by
 rcases h with h|h
 ·refine(QfA b w h.cell0 h.shape h.frozen0).mono ?_;rintro e w' ⟨rfl,rfl⟩;exact⟨rfl,h.used _,by simp[World.setCell],Turn.setCell w _ _ (S:=(·=b)) rfl⟩
 ·refine(Qle b w h.cell0).mono ?_;rintro e w' ⟨rfl,rfl⟩;exact⟨rfl,h,rfl,Turn.refl _ _⟩
theorem QP{w:World}{b:Nat}{o:Obj}(h:w.heap[b]?=some o):b<w.heap.size:=(Array.getElem?_eq_some_iff.1 h).1
theorem QlX{w:World}{B b:Nat}{l m:List Int}{p v v':Value}(hB:B≤b)(hb:w.heap[b]?=some (.cells #[p,v] 56 (0,0)))(hp:p=.pointer (some ⟨b,0,none⟩)){k:Nat}(hk:k=l.length+m.length)
  (hown:w.ownsRow B 5 1 v' k (l.map (Value.int .u8)++m.map (Value.int .u8))):Bd (w.setCell ⟨b,1,none⟩ v') B b (l++m):=by
 subst hp;refine .inr ?_;have h:=Lib.BuilderAt.put (T:=56) (e:=5) hB hb (bs':=(l++m).map (Value.int .u8)) (by rw[List.map_append,List.length_append,List.length_map,List.length_map,←hk];exact hown) (by decide);exact h
theorem Qpp{w:World}{B:Nat}{v:Value}{n:Nat}{bs:List Value}(h:w.ownsRow B 5 1 v n bs):∀g,v.ownBlock=some g→B≤g∧∃cur fz,w.heap[g]?=some (.cells cur 5 fz):=by
 intro g hg;rcases h.2 with ⟨rfl,_⟩|⟨g',cap,cur,rfl,hb,hgg,_⟩
 ·simp[Value.ownBlock]at hg
 ·simp[Value.ownBlock]at hg;subst hg;exact⟨hb,cur,_,hgg⟩
theorem Qkt{w:World}{b g o n:Nat}{v:Array Value}{T:TypeId}{fr:Nat×Nat}{l:List Int}(hb:w.heap[b]?=some (.cells v T fr))(hv:∀(j:Nat)(k:IntKind)(x:Int),v[j]?≠some (Value.int k x))(hn:0<n)(h:∀j,j<n→w.cell? ⟨g,o+j,none⟩=some (.int .u8 (l.getD j 0))):g≠b:=by
 rintro rfl;have:=h 0 hn;rw[cell_of_row _ _ _ _ _ _ hb]at this;exact hv _ _ _ this
theorem Qjp(p v:Value)(hp:∀(k:IntKind)(x:Int),p≠Value.int k x)(hv:∀(k:IntKind)(x:Int),v≠Value.int k x):∀(j:Nat) (k:IntKind) (x:Int),(#[p,v]:Array Value)[j]?≠some (Value.int k x):=by
 intro j k x e
 match j with
 |0=>exact hp k x (by simpa using e)
 |1=>exact hv k x (by simpa using e)
 |j+2=>simp at e
theorem QgB{w:World}{B e:Nat}{v:Value}{n:Nat}{bs:List Value}(h:w.ownsRow B e 1 v n bs):∀(k:IntKind) (x:Int),v≠Value.int k x:=by
 rintro k x rfl;rcases h.2 with ⟨e,_⟩|⟨g',cap,cur,e,_⟩ <;> cases e
theorem Qan(B b:Nat)(l m:List Int)(a:Option Addr)(n c:Nat)(w:World)(h:Bd w B b l)(hBw:B≤w.heap.size)(hs:Bs.Seg w a n c m)(hn:0<n)(hlen:l.length+n≤140737488355328) :
  Calls Tryz.prog 30 #[.pointer (some ⟨b,0,none⟩),.slice a n c] w fun e w'=>e=.returned (.tuple #[.int .i64 n,.nilIface])∧Bd w' B b (l++m)∧Wrote w B b w':=by
 obtain⟨i0,hi,hz0,hz1,hz2⟩:=QgC;have HC:=hid (Qdi B b _ w h);have hml:=hs.len;obtain⟨g,o,rfl,hcell⟩:=hs.addr hn;have hgb:g≠b:=by
  rcases h with ⟨_,v,hb,ho,_⟩|⟨_,v,hb,ho,_⟩
  ·exact Qkt hb (Qjp _ _ (fun _ _ e=>by cases e) (QgB ho)) hn hcell
  ·exact Qkt hb (Qjp _ _ (fun _ _ e=>by cases e) (QgB ho)) hn hcell
 have HL:=hid hs.len;go_enter Tryz.func30,Tryz.ntmps30
 go_wp2_with (go_at_call 52;refine HC.out.mono ?_)
 rintro e w1 ⟨rfl,h1,hsz,ht1⟩;obtain⟨hB,v,hbk,hown,hne⟩:=h1;have hs1:Bs.Seg w1 (some ⟨g,o,none⟩) n c m:=⟨hs.len,hs.le,hs.cap,hs.nil_,fun ad had j u hu=>by
  have:=hs.at_ ad had j u hu;cases had
  exact ht1.cell this (by rw[Addr.add_lit];exact hgb)⟩
 have c0:w1.cell? ⟨b,0,none⟩=some (.pointer (some ⟨b,0,none⟩)):=by rw[cell_of_row _ _ _ _ _ _ hbk];rfl
 have c1:w1.cell? ⟨b,1,none⟩=some v:=by rw[cell_of_row _ _ _ _ _ _ hbk];rfl
 have HN:=hid hs1;have HT:=hid ht1;have HO:=hid hown;have HK:=hid hbk;have HE:=hid hne;clear hcell hs hs1 ht1 hown hbk hne h hml;go_wp2_with (at_builtin;refine wpList_append_own _ rfl _ _ 45 rfl B 5 i0 (.int .u8 0) 1 1 Tryz.underlying45 hi hz0 hz1 hz2 rfl (by decide) _ _ _ rfl HO.out ⟨g,o,none⟩ n c (m.map (Value.int .u8)) rfl ?c1 ?c2 ?c3 ?c4 ?c5 ?c6 ?_)
 case c1=>simp[HN.out.len]
 case c2=>exact HN.out.at_ _ rfl
 case c3=>exact ints_oneCell _ _
 case c4=>unfold maxLen;simp;omega
 case c5=>simp;omega
 case c6=>omega
 intro v' w2 hown' hgrow _;have hlt:b<w1.heap.size:=QP HK.out;have hb2:w2.heap[b]?=some (.cells #[.pointer (some ⟨b,0,none⟩),v] 56 (0,0)):=by
  rw[hgrow.block b hlt (fun e=>HE.out e.symm)];exact HK.out
 have d0:w2.cell? ⟨b,0,none⟩=some (.pointer (some ⟨b,0,none⟩)):=by rw[cell_of_row _ _ _ _ _ _ hb2];rfl
 have d1:w2.cell? ⟨b,1,none⟩=some v:=by rw[cell_of_row _ _ _ _ _ _ hb2];rfl
 have f1:w2.frozen? ⟨b,1,none⟩=false:=by simp[World.frozen?,hb2]
 obtain⟨g2,cap,rfl⟩:∃g cap,v'=.slice (some ⟨g,0,none⟩) (l.length+n) cap:=by
  rcases hown'.2 with ⟨_,h0⟩|⟨g,cap,cur,hv,_⟩
  ·simp at h0;omega
  ·exact⟨g,cap,by simpa using hv⟩
 have F1:Hid (Bd (w2.setCell ⟨b,1,none⟩ (.slice (some ⟨g2,0,none⟩) (l.length+n) cap)) B b (l++m)):=hid (QlX hB hb2 rfl (k:=l.length+n) (by rw[HN.out.len]) (by simpa using hown'));have F2:Hid (Wrote w B b (w2.setCell ⟨b,1,none⟩ (.slice (some ⟨g2,0,none⟩) (l.length+n) cap))):=hid (by
  have t1:Wrote w B b w1:=HT.out.mono fun _ _ e=>.inl e
  have t2:Wrote w1 B b w2:=Turn.QD hgrow fun i e _=>.inr (Qpp HO.out i e)
  have t3:Wrote w2 B b (w2.setCell ⟨b,1,none⟩ (.slice (some ⟨g2,0,none⟩) (l.length+n) cap)):=Turn.setCell _ _ _ (.inl rfl);exact(t1.trans t2).trans t3)
 clear hown' hgrow hb2 hlt c0 c1;go_wp2;go_ret2
 exact⟨rfl,F1.out,F2.out⟩
theorem Qgz(B b:Nat)(x:Int)(w:World)(hB:B≤b)(h:w.heap[b]?=some (.cells #[.pointer none,.slice none 0 0] 56 (0,0)))(hBw:B≤w.heap.size) :
  Calls Tryz.prog 29 #[.pointer (some ⟨b,0,none⟩),.int .u8 x] w fun e w'=>e=.returned .nilIface∧Bd w' B b [x]∧Turn w w' (·=b):=by
 obtain⟨i0,hi,hz0,hz1,hz2⟩:=QgC;have hA:Lib.BuilderAt 56 5 B b (.pointer none) [] w:=⟨hB,.slice none 0 0,h,⟨rfl,.inl ⟨rfl,rfl⟩⟩,by simp[Value.ownBlock]⟩;have HC:=hid (QfA b w hA.cell0 hA.shape hA.frozen0);have hlt0:b<w.heap.size:=QP h;have hbk:(w.setCell ⟨b,0,none⟩ (.pointer (some ⟨b,0,none⟩))).heap[b]?=some (.cells #[.pointer (some ⟨b,0,none⟩),.slice none 0 0] 56 (0,0)):=Go.heap_setCell_same w b 0 _ _ _ h;have hsz:(w.setCell ⟨b,0,none⟩ (.pointer (some ⟨b,0,none⟩))).heap.size=w.heap.size:=by simp[World.setCell]
 have ht1:Turn w (w.setCell ⟨b,0,none⟩ (.pointer (some ⟨b,0,none⟩))) (·=b):=Turn.setCell w _ _ (S:=(·=b)) rfl;clear h hA;go_enter Tryz.func29,Tryz.ntmps29
 go_wp2_with (go_at_call 52;refine HC.out.mono ?_)
 rintro e w1 ⟨rfl,hw1⟩;rw[←hw1]at hbk hsz ht1;have c0:w1.cell? ⟨b,0,none⟩=some (.pointer (some ⟨b,0,none⟩)):=by rw[cell_of_row _ _ _ _ _ _ hbk];rfl
 have c1:w1.cell? ⟨b,1,none⟩=some (.slice none 0 0):=by rw[cell_of_row _ _ _ _ _ _ hbk];rfl
 have HT:=hid ht1;have HK:=hid hbk;have HO:Hid (w1.ownsRow B 5 1 (.slice none 0 0) 0 []):=hid ⟨rfl,.inl ⟨rfl,rfl⟩⟩;have HZ:=hid hsz;clear ht1 hbk hw1 hsz;go_wp2_with (at_builtin;refine wpList_append_own _ rfl _ _ 45 rfl B 5 i0 (.int .u8 0) 1 1 Tryz.underlying45 hi hz0 hz1 hz2 rfl (by decide) _ 0 [] rfl (HO.out.alloc _) ⟨w1.heap.size,0,none⟩ 1 1 [.int .u8 x] rfl rfl ?c1 ?c2 ?c3 ?c4 ?c5 ?_)
 case c1=>
  intro j u hj
  match j,hj with
  |0,hj=>simp at hj;subst hj;simp[Addr.add]
 case c2=>intro u hu;simp at hu;subst hu;rfl
 case c3=>unfold maxLen;omega
 case c4=>omega
 case c5=>have:=HZ.out;simp;omega
 intro v' w2 hown' hgrow _;have hlt:b<w1.heap.size:=QP HK.out;have hb2:w2.heap[b]?=some (.cells #[.pointer (some ⟨b,0,none⟩),.slice none 0 0] 56 (0,0)):=by
  rw[hgrow.block b (by simp;omega) (fun e=>by simp[Value.ownBlock]at e),Below.heap_alloc w1 _ b hlt];exact HK.out
 have d0:w2.cell? ⟨b,0,none⟩=some (.pointer (some ⟨b,0,none⟩)):=by rw[cell_of_row _ _ _ _ _ _ hb2];rfl
 have d1:w2.cell? ⟨b,1,none⟩=some (.slice none 0 0):=by rw[cell_of_row _ _ _ _ _ _ hb2];rfl
 have f1:w2.frozen? ⟨b,1,none⟩=false:=by simp[World.frozen?,hb2]
 obtain⟨g2,cap,rfl⟩:∃g cap,v'=.slice (some ⟨g,0,none⟩) 1 cap:=by
  rcases hown'.2 with ⟨_,h0⟩|⟨g,cap,cur,hv,_⟩
  ·simp at h0
  ·exact⟨g,cap,by simpa using hv⟩
 have F1:Hid (Bd (w2.setCell ⟨b,1,none⟩ (.slice (some ⟨g2,0,none⟩) 1 cap)) B b [x]):=hid (QlX (l:=[]) (m:=[x]) hB hb2 rfl (k:=1) rfl (by simpa using hown'));have F2:Hid (Turn w (w2.setCell ⟨b,1,none⟩ (.slice (some ⟨g2,0,none⟩) 1 cap)) (·=b)):=hid (by
  have t2:Turn w1 (w1.alloc (.cells #[.int .u8 x] 5)) (·=b):=Turn.alloc _ _ _;have t3:Turn (w1.alloc (.cells #[.int .u8 x] 5)) w2 (·=b):=Turn.QD hgrow fun i e _=>by simp[Value.ownBlock]at e
  have t4:Turn w2 (w2.setCell ⟨b,1,none⟩ (.slice (some ⟨g2,0,none⟩) 1 cap)) (·=b):=Turn.setCell _ _ _ rfl;exact((HT.out.trans t2 (fun _ _ h=>h)).trans t3 (fun _ _ h=>h)).trans t4 (fun _ _ h=>h))
 clear hown' hgrow hb2 hlt c0 c1;go_wp2;go_ret
 exact⟨rfl,F1.out,F2.out⟩
theorem QoT{w:World}{B b:Nat}{l:List Int}(h:Bd w B b l):∃p v,w.heap[b]?=some (.cells #[p,v] 56 (0,0)):=by
 rcases h with ⟨_,v,hb,_⟩|⟨_,v,hb,_⟩
 ·exact⟨_,_,hb⟩
 ·exact⟨_,_,hb⟩
theorem Qgq{w w':World}{B b g:Nat}{l:List Int}{cs:Array Value}{t:TypeId}{fr:Nat×Nat}(hB:Bd w B b l)(k:Wrote w B b w')(h:w.heap[g]?=some (.cells cs t fr))(h1:t≠5)(h2:t≠56):w'.heap[g]?=some (.cells cs t fr):=by
 rw[k.block g (QP h) ?_]
 ·exact h
 ·rintro(rfl|⟨_,cur,fz,hc⟩)
  ·obtain⟨p,v,hb⟩:=QoT hB;rw[h]at hb
   injection hb with hb
   injection hb with _ e _
   exact h2 e
  ·rw[h]at hc
   injection hc with hc
   injection hc with _ e _
   exact h1 e
theorem Qbs{w w':World}{B b base e s n:Nat}{l:List Int}{v:Value}{xs:List Value}(hB:Bd w B b l)(k:Wrote w B b w')(h:w.ownsRow base e s v n xs)(h1:e≠5)(h2:e≠56):w'.ownsRow base e s v n xs:=by
 obtain⟨hl,h⟩:=h;refine⟨hl,?_⟩;rcases h with ⟨rfl,h0⟩|⟨g,cap,cur,rfl,hb,hgg,rest⟩
 ·exact .inl ⟨rfl,h0⟩
 ·exact .inr ⟨g,cap,cur,rfl,hb,Qgq hB k hgg h1 h2,rest⟩
theorem Qbq{w w':World}{B b:Nat}{l:List Int}(h:Bd w B b l)(k:Turn w w' nowhere):Bd w' B b l:=by
 have go:∀p,Lib.BuilderAt 56 5 B b p (l.map (Value.int .u8)) w→Lib.BuilderAt 56 5 B b p (l.map (Value.int .u8)) w':=by
  rintro p ⟨h1,v,h2,h3,h4⟩;refine⟨h1,v,(k.block b (QP h2) id).trans h2,?_,h4⟩;obtain⟨hl,h3⟩:=h3;refine⟨hl,?_⟩;rcases h3 with ⟨rfl,h0⟩|⟨g,cap,cur,rfl,hb,hgg,rest⟩
  ·exact .inl ⟨rfl,h0⟩
  ·exact .inr ⟨g,cap,cur,rfl,hb,(k.block g (QP hgg) id).trans hgg,rest⟩
 rcases h with h|h
 ·exact .inl (go _ h)
 ·exact .inr (go _ h)
theorem QlC{l:List Int}(hb:Bs.IsB l):l.map (Value.int .u8)=Lib.byteCells (l.map fun x=>UInt8.ofNat x.toNat):=by
 unfold Lib.byteCells;rw[List.map_map];refine List.map_congr_left fun x hx=>?_
 have:=hb x hx
 show Value.int .u8 x=Value.int .u8 ((UInt8.ofNat x.toNat).toNat:Int)
 rw[UInt8.toNat_ofNat']
 congr 1
 omega
theorem QcV(B b:Nat)(l:List Int)(w:World)(h:Bd w B b l)(h0:l≠[])(hb:Bs.IsB l) :
  Calls Tryz.prog 33 #[.pointer (some ⟨b,0,none⟩)] w fun e w'=>e=.returned (.string (strOfNums l))∧Below B w w':=by
 obtain⟨m,hm⟩:∃m,m=l.map fun x=>UInt8.ofNat x.toNat:=⟨_,rfl⟩
 have hS:strOfNums l=⟨m.toArray⟩:=by rw[hm];rfl
 have hm0:m≠[]:=by rw[hm];simpa using h0
 have hml:m.length=l.length:=by rw[hm,List.length_map]
 unfold Bd at h;rw[QlC hb,←hm]at h;rw[hS];obtain⟨p,hB,v,hbk,hown,hne⟩:∃p,Lib.BuilderAt 56 5 B b p (Lib.byteCells m) w:=by
  rcases h with h|h
  ·exact⟨_,h⟩
  ·exact⟨_,h⟩
 have hl0:m.length≠0:=by simpa using hm0
 rw[Lib.byteCells_length]at hown;obtain⟨g,cap,cur,rfl,hbg,hg,hnc,hcm,hcs,htake⟩:∃g cap cur,v=.slice (some ⟨g,0,none⟩) m.length cap∧B≤g∧w.heap[g]?=some (.cells cur 5 (0,0))∧m.length≤cap∧cap≤maxLen∧cur.size=cap*1∧cur.toList.take (m.length*1)=Lib.byteCells m:=by
  rcases hown.2 with ⟨_,hz⟩|⟨g,cap,cur,hv,r⟩
  ·exact absurd hz hl0
  ·exact⟨g,cap,cur,hv,r⟩
 have c1:w.drew.cell? ⟨b,1,none⟩=some (.slice (some ⟨g,0,none⟩) m.length cap):=by
  have:w.drew.heap[b]?=some (.cells #[p,.slice (some ⟨g,0,none⟩) m.length cap] 56 (0,0)):=hbk;rw[cell_of_row _ _ _ _ _ _ this];rfl
 have hSD:(Builtin.unsafeSliceData_ #[45] 120 #[.slice (some ⟨g,0,none⟩) m.length cap]).run Tryz.prog w.drew=.ok (.pointer (some ⟨g,0,none⟩)) w.drew:=
  Lib.run_unsafeSliceData_row _ _ _ _ _ _ (by omega)
 have hUS:(Builtin.unsafeString_ #[120,3] 9 #[.pointer (some ⟨g,0,none⟩),.int .i64 m.length]).run Tryz.prog w.drew=.ok (.string ⟨m.toArray⟩) (w.drew.freeze ⟨g,0,none⟩ m.length):=by
  refine Lib.run_unsafeString_row w.drew 120 3 9 5 Tryz.underlying120 (by kernel_rfl) g cur.size (by have hg':w.drew.heap[g]?=some (.cells cur 5 (0,0)):=hg;simp[World.shape?,hg']) m hm0 (by omega) (by unfold maxLen at hcm;omega) ?_;intro j x hx;have:=hown.cells (g:=g) rfl j (.int .u8 x.toNat) (by simp[Lib.byteCells,hx]);exact this
 obtain⟨S,HS⟩:∃S:ByteArray,S=⟨m.toArray⟩:=⟨_,rfl⟩;rw[←HS]at hUS ⊢;have HF:Hid (Below B w (w.drew.freeze ⟨g,0,none⟩ m.length)):=hid (Lib.below_freeze (Below.drew (Below.refl B w)) (p:=⟨g,0,none⟩) hbg _);obtain⟨L,hL⟩:∃L,m.length=L:=⟨_,rfl⟩;rw[hL]at c1 hSD hUS HF;clear hown hne hbk hg htake hS HS hm h hnc hcs hL;go_enter Tryz.func33,Tryz.ntmps33
 go_wp2;go_region
 all_goals (go_wp2;go_ret;exact⟨rfl,HF.out⟩)
end Sg
end Go.Proofs.YtljanfnhmhimiaaGreat
