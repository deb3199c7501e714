/- Parts of the proof. -/
import Derived.Lib.ConvBytes
import Derived.Test.YtgffbbdcbkikhaaGreatDoorKbG
set_option maxRecDepth 100000
set_option maxHeartbeats 8000000
open Go.Lib (hid)
namespace Go.Proofs.YtgffbbdcbkikhaaGreatDoor
namespace Dv
open Go.RowKit Bs
structure Turn (w w':World) (S:Nat→Prop):Prop where
 os:w'.os=w.os
 tape:w'.tape=w.tape
 output:w'.output=w.output
 size:w.heap.size≤w'.heap.size
 block:∀k,k<w.heap.size→¬S k→w'.heap[k]?=w.heap[k]?
def nowhere:Nat→Prop:=fun _=>False
theorem Turn.refl(w:World)(S:Nat→Prop):Turn w w S:=⟨rfl,rfl,rfl,Nat.le_refl _,fun _ _ _=>rfl⟩
theorem Turn.trans{a b c:World}{S S':Nat→Prop}(h:Turn a b S)(k:Turn b c S')(hS:∀i,i<a.heap.size→S' i→S i):Turn a c S:=
 ⟨k.os.trans h.os,k.tape.trans h.tape,k.output.trans h.output,Nat.le_trans h.size k.size,fun i hi hn=>(k.block i (Nat.lt_of_lt_of_le hi h.size) (fun e=>hn (hS i hi e))).trans (h.block i hi hn)⟩
theorem Turn.mono{a b:World}{S S':Nat→Prop}(h:Turn a b S)(hS:∀i,i<a.heap.size→S i→S' i):Turn a b S':=⟨h.os,h.tape,h.output,h.size,fun i hi hn=>h.block i hi (fun e=>hn (hS i hi e))⟩
theorem Turn.Qf{a b:World}{row:Option Nat}{S:Nat→Prop}(h:a.grownBy b row)(hS:∀i,row=some i→i<a.heap.size→S i):Turn a b S:=
 ⟨h.os,h.tape,h.output,h.size,fun i hi hn=>h.block i hi (fun e=>hn (hS i e.symm hi))⟩
theorem Turn.grown{a b:World}(h:Turn a b nowhere):a.grownBy b none:=⟨h.os,h.tape,h.output,h.size,fun i hi _=>h.block i hi id⟩
theorem Turn.drewN(a:World)(n:Nat)(S:Nat→Prop):Turn a (a.drewN n) S:=⟨rfl,rfl,rfl,Nat.le_refl _,fun _ _ _=>rfl⟩
theorem Turn.drew(a:World)(S:Nat→Prop):Turn a a.drew S:=⟨rfl,rfl,rfl,Nat.le_refl _,fun _ _ _=>rfl⟩
theorem Turn.alloc(a:World)(o:Obj)(S:Nat→Prop):Turn a (a.alloc o) S:=⟨rfl,rfl,rfl,by simp,fun i hi _=>Below.heap_alloc a o i hi⟩
theorem Turn.setCell(a:World)(p:Addr)(v:Value){S:Nat→Prop}(hS:S p.block):Turn a (a.setCell p v) S:=
 ⟨rfl,rfl,rfl,by simp[World.setCell],fun i _ hn=>Below.heap_setCell _ _ _ _ (fun e=>hn (by rw[e];exact hS))⟩
theorem Turn.cell{a b:World}{S:Nat→Prop}(h:Turn a b S){p:Addr}{v:Value}(hv:a.cell? p=some v)(hp:¬S p.block):b.cell? p=some v:=
 (World.cell?_of_block (h.block p.block (World.block_lt_of_cell? a p hv) hp)).trans hv
theorem Turn.frozen{a b:World}{S:Nat→Prop}(h:Turn a b S){p:Addr}(hlt:p.block<a.heap.size)(hp:¬S p.block):b.frozen? p=a.frozen? p:=World.frozen?_of_block (h.block p.block hlt hp)
theorem Turn.of_below{a b:World}{S:Nat→Prop}(h:Below a.heap.size a b):Turn a b S:=⟨h.os,h.tape,h.output,h.size,fun i hi _=>h.block i hi⟩
theorem Qc1(b:Nat){S:Nat→Prop}(hS:S b):∀(vs:List Value) (o:Nat) (w:World),Turn w (w.setCells b o vs) S
 | [],_,w=>Turn.refl w S
 |v :: r,o,w=>(Turn.setCell w ⟨b,o,none⟩ v hS).trans (Qc1 b hS r (o+1) _) (fun _ _ h=>h)
def Reg(w:World)(b o:Nat)(l:List Int):Prop:=∀j x,l[j]?=some x→w.cell? ⟨b,o+j,none⟩=some (.int .u8 x)∧w.frozen? ⟨b,o+j,none⟩=false
theorem Reg.turn{w w':World}{b o:Nat}{l:List Int}{S:Nat→Prop}(h:Reg w b o l)(k:Turn w w' S)(hb:¬S b):Reg w' b o l:=fun j x hx=>by
 obtain⟨h1,h2⟩:=h j x hx;exact⟨k.cell h1 hb,(k.frozen (p:=⟨b,o+j,none⟩) (World.block_lt_of_cell? w _ h1) hb).trans h2⟩
theorem Reg.lt{w:World}{b o:Nat}{l:List Int}(h:Reg w b o l)(hl:l≠[]):b<w.heap.size:=by
 cases l with
 |nil=>exact absurd rfl hl
 |cons x l=>exact World.block_lt_of_cell? w _ (h 0 x rfl).1
theorem Reg.at_{w:World}{b o:Nat}{l:List Int}(h:Reg w b o l)(j:Nat)(hj:j<l.length):w.cell? ⟨b,o+j,none⟩=some (.int .u8 (l.getD j 0))∧w.frozen? ⟨b,o+j,none⟩=false:=
 h j _ (by simp[List.getD,hj])
theorem Reg.seg{w:World}{b o c:Nat}{l:List Int}(h:Reg w b o l)(hc:l.length≤c)(hm:c≤maxLen):Seg w (some ⟨b,o,none⟩) l.length c l:=by
 refine⟨rfl,hc,hm,(fun e=>by cases e),fun ad had j u hu=>?_⟩;cases had
 rw[List.getElem?_map]at hu;cases hq:l[j]? with
 |none=>rw[hq]at hu;cases hu
 |some x=>rw[hq]at hu;rw[Addr.add_lit,←Option.some.inj hu];exact(h j x hq).1
theorem Reg.own{w:World}{base e g n c:Nat}{l:List Int}(h:w.ownsRow base e 1 (.slice (some ⟨g,0,none⟩) n c) n (l.map (Value.int .u8))):Reg w g 0 l:=fun j x hx=>by
 have h1:=h.cells (g:=g) rfl j (.int .u8 x) (by rw[List.getElem?_map,hx];rfl);rw[Addr.add_lit]at h1;refine⟨h1,?_⟩;rcases h.2 with ⟨e,_⟩|⟨g',cap,cur,e,_,hg,_⟩
 ·cases e
 ·cases e
  simp[World.frozen?,hg]
structure Out (w w':World) (b o n:Nat):Prop where
 turn:Turn w w' (·=b)
 cell:∀j,j<o∨o+n≤j→w'.cell? ⟨b,j,none⟩=w.cell? ⟨b,j,none⟩
 frozen:∀j,w'.frozen? ⟨b,j,none⟩=w.frozen? ⟨b,j,none⟩
theorem Out.setCells(w:World)(b o n p:Nat)(vs:List Value)(h1:o≤p)(h2:p+vs.length≤o+n):Out w (w.setCells b p vs) b o n:=
 ⟨Qc1 (S:=(·=b)) b rfl vs p w,fun j hj=>World.cell?_setCells_out b vs p w ⟨b,j,none⟩ (fun _ _=>by show j<p∨p+vs.length≤j;omega),fun j=>World.frozen?_setCells b vs p w _⟩
def spl(l:List Int)(p:Nat)(v:List Int):List Int:=l.take p++v++l.drop (p+v.length)
theorem QeV(l:List Int)(p:Nat)(v:List Int)(h:p+v.length≤l.length)(j:Nat):(spl l p v)[j]?=if j<p then l[j]? else if j<p+v.length then v[j-p]? else l[j]?:=by
 unfold spl;have ht:(l.take p).length=p:=by rw[List.length_take];omega
 by_cases h1:j<p
 ·rw[if_pos h1,List.append_assoc,List.getElem?_append_left (by omega),List.getElem?_take_of_lt h1]
 ·rw[if_neg h1];by_cases h2:j<p+v.length
  ·rw[if_pos h2,List.append_assoc,List.getElem?_append_right (by omega),ht,List.getElem?_append_left (by omega)]
  ·rw[if_neg h2,List.getElem?_append_right (by rw[List.length_append];omega),List.length_append,ht,List.getElem?_drop]
   congr 1
   omega
theorem QeW(l:List Int)(p:Nat)(v:List Int)(h:p+v.length≤l.length):(spl l p v).length=l.length:=by
 simp[spl];omega
theorem Reg.setCells{w:World}{b o:Nat}{l:List Int}(h:Reg w b o l)(p:Nat)(v:List Int)(hp:p+v.length≤l.length):Reg (w.setCells b (o+p) (v.map (Value.int .u8))) b o (spl l p v):=fun j x hx=>by
 rw[QeV l p v hp]at hx;rw[World.frozen?_setCells];have hcs:∀i,i<(v.map (Value.int .u8)).length→(w.cell? ⟨b,o+p+i,none⟩).isSome=true:=fun i hi=>by
  rw[List.length_map]at hi;have:=(h.at_ (p+i) (by omega)).1;rw[←Nat.add_assoc]at this;rw[this];rfl
 by_cases h1:j<p
 ·rw[if_pos h1]at hx;rw[World.cell?_setCells_out b _ _ w ⟨b,o+j,none⟩ (fun _ _=>Or.inl (by show o+j<o+p;omega))];exact h j x hx
 ·rw[if_neg h1]at hx;by_cases h2:j<p+v.length
  ·rw[if_pos h2]at hx;have h3:=World.cell?_setCells_in b (v.map (Value.int .u8)) (o+p) w hcs (j-p) (by rw[List.length_map];omega);rw[show o+p+(j-p)=o+j from by omega]at h3;refine⟨h3.trans ?_,(h.at_ j (by omega)).2⟩;rw[List.getElem?_eq_getElem (by omega)]at hx;rw[List.getElem_map,Option.some.inj hx]
  ·rw[if_neg h2]at hx;rw[World.cell?_setCells_out b _ _ w ⟨b,o+j,none⟩ (fun _ _=>Or.inr (by show o+p+(v.map (Value.int .u8)).length≤o+j;rw[List.length_map];omega))];exact h j x hx
theorem Reg.setCell{w:World}{b o:Nat}{l:List Int}(h:Reg w b o l)(p:Nat)(x:Int)(hp:p<l.length):Reg (w.setCell ⟨b,o+p,none⟩ (.int .u8 x)) b o (l.set p x):=by
 have h1:=h.setCells p [x] (by simp;omega);have e:spl l p [x]=l.set p x:=by
  apply List.ext_getElem?
  intro j;rw[QeV l p [x] (by simp;omega)];by_cases h1:j<p
  ·rw[if_pos h1,List.getElem?_set_ne (by omega)]
  ·rw[if_neg h1];by_cases h2:j<p+1
   ·obtain rfl:j=p:=by omega
    rw[if_pos (by simp),List.getElem?_set_self hp];simp
   ·rw[if_neg (by simpa using h2),List.getElem?_set_ne (by omega)]
 rw[e]at h1;exact h1
theorem block_add(a:Addr)(n:Nat):(a.add n).block=a.block:=by unfold Addr.add;split <;> rfl
theorem Qa3{w w':World}{e size n:Nat}{v:Value}{xs:List Value}{S:Nat→Prop}(h:w.ownsRow 0 e size v n xs)(k:Turn w w' S)(hv:∀i,v.ownBlock=some i→¬S i):w'.ownsRow 0 e size v n xs:=by
 refine⟨h.1,?_⟩;rcases h.2 with h2|⟨g,cap,cur,e1,h3,h4,h5⟩
 ·exact .inl h2
 ·refine .inr ⟨g,cap,cur,e1,h3,?_,h5⟩;rw[k.block g (Array.getElem?_eq_some_iff.1 h4).1 (hv g (by rw[e1];rfl))];exact h4
theorem Qd3{w:World}{base e size n:Nat}{v:Value}{xs:List Value}(h:w.ownsRow base e size v n xs)(hn:0<n):∃g c,v=.slice (some ⟨g,0,none⟩) n c∧n≤c∧c≤maxLen∧(∀j u,xs[j]?=some u→w.cell? ⟨g,j,none⟩=some u)∧∀j,w.frozen? ⟨g,j,none⟩=false:=by
 rcases h.2 with ⟨_,h0⟩|⟨g,c,cur,rfl,_,hg,h1,h2,_⟩
 ·omega
 ·refine⟨g,c,rfl,h1,h2,fun j u hu=>?_,fun j=>by simp[World.frozen?,hg]⟩;have:=h.cells (g:=g) rfl j u hu
  rwa [Addr.add_lit,Nat.zero_add]at this
theorem Qky{w:World}{base e size n:Nat}{v:Value}{xs:List Value}(h:w.ownsRow base e size v n xs):∃a c,v=.slice a n c∧n≤c∧c≤maxLen∧(a=none→n=0∧c=0)∧∀ad,a=some ad→∀j u,xs[j]?=some u→w.cell? (ad.add j)=some u:=by
 rcases h.2 with ⟨rfl,rfl⟩|⟨g,c,cur,rfl,_,hg,h1,h2,_⟩
 ·exact⟨none,0,rfl,Nat.le_refl _,by unfold maxLen;omega,fun _=>⟨rfl,rfl⟩,fun _ h=>by cases h⟩
 ·exact⟨_,c,rfl,h1,h2,(fun e=>by cases e),fun ad had j u hu=>by cases had;exact h.cells (g:=g) rfl j u hu⟩
end Dv
namespace Cn
open Go.RowKit Bs Dv
def addE(N:List Int)(n:Nat):Int:=if ¬(2≤n∧n<N.length) then 2 else if N.getD n 0=0 then 8 else if N.getD n 0=65535 then 12 else 0
def addN(N:List Int)(n:Nat):List Int:=if addE N n=0 then N.set n (N.getD n 0+1) else N
def subE(N:List Int)(n:Nat):Int:=if ¬(2≤n∧n<N.length) then 2 else if N.getD n 0=0 then 8 else 0
def subN(N:List Int)(n:Nat):List Int:=if subE N n=0 then N.set n (N.getD n 0-1) else N
def subV(N:List Int)(n:Nat):Int:=if subE N n=0 then N.getD n 0-1 else 0
end Cn
namespace Gr
open Go.RowKit Bs Dv
theorem Qk{w w':World}{g:Nat}{o:Obj}{S:Nat→Prop}(h:w.heap[g]?=some o)(k:Turn w w' S)(hS:¬S g):w'.heap[g]?=some o:=by rw[k.block g (Array.getElem?_eq_some_iff.1 h).1 hS];exact h
theorem Qc{w w':World}(h:w.grownBy w' none):Turn w w' nowhere:=Turn.Qf h (fun i e=>by cases e)
theorem Qd{w w':World}{g:Nat}{o:Obj}(h:w.heap[g]?=some o)(k:w.grownBy w' none):w'.heap[g]?=some o:=Qk h (Qc k) id
theorem block_lt{w:World}{g:Nat}{o:Obj}(h:w.heap[g]?=some o):g<w.heap.size:=(Array.getElem?_eq_some_iff.1 h).1
theorem Qb(w:World)(o:Obj):w.grownBy (w.alloc o) none:=World.grownBy_alloc w o none
theorem Qa{a b c:World}(h:a.grownBy b none)(k:b.grownBy c none):a.grownBy c none:=grownBy_trans h k (fun _ e=>by cases e)
theorem QaR(w:World):w.grownBy w none:=⟨rfl,rfl,rfl,Nat.le_refl _,fun _ _ _=>rfl⟩
theorem Qn(w:World):w.grownBy w.drew none:=⟨rfl,rfl,rfl,Nat.le_refl _,fun _ _ _=>rfl⟩
theorem below_grown{w w':World}(h:Below w.heap.size w w'):w.grownBy w' none:=⟨h.os,h.tape,h.output,h.size,fun k hk _=>h.block k hk⟩
theorem grown_below{w w':World}(h:w.grownBy w' none):Below w.heap.size w w':=⟨h.os,h.tape,h.output,h.size,fun k hk=>h.block k hk (by simp)⟩
theorem Qh{a w w':World}{g:Nat}(h:a.grownBy w none)(t:Turn w w' (·=g))(hg:a.heap.size≤g):a.grownBy w' none:=
 ⟨t.os.trans h.os,t.tape.trans h.tape,t.output.trans h.output,Nat.le_trans h.size t.size,fun i hi hn=>(t.block i (Nat.lt_of_lt_of_le hi h.size) (fun e=>by omega)).trans (h.block i hi hn)⟩
structure Gw (W:World) where
 at_:World
 grown:W.grownBy at_ none
instance (W:World):Nonempty (Gw W):=⟨⟨W,QaR W⟩⟩
theorem Qs{id:Nat}{Q:Exit→Act→World→Prop}{a:Act}{w:World}{l:List Oper}(hB:Region.lexB .any l.toArray=true)
  (h:wpQuiet Tryz.prog l.toArray (fun w'=>∃q:Gw w,w'=q.at_) (fun a'=>∀w',(∃q:Gw w,w'=q.at_)→Q .normal a' w') l a):(Code.region id l.toArray true).wp Tryz.prog Q a w:=
 wp_region_quiet (C:=fun w'=>∃q:Gw w,w'=q.at_) (by kernel_rfl) hB ⟨⟨_,Qn w⟩,rfl⟩ (by simpa using h)
theorem Calls.QS{f:FuncId}{args:Array Value}{w:World}{q:Gw w}{v:Value}
  (h:Calls Tryz.prog f args q.at_ fun e w'=>e=.returned v∧q.at_.grownBy w' none):Calls Tryz.prog f args q.at_ fun e w''=>e=.returned v∧∃p:Gw w,w''=p.at_:=
 h.mono fun _ _ ⟨he,hg⟩=>⟨he,⟨_,Qa q.grown hg⟩,rfl⟩
end Gr
namespace Dv
open Go.RowKit Bs
theorem QT(size blocks:Int)(w:World) :
  Calls Tryz.prog 68 #[.agg #[.int .i64 size,.int .i64 blocks]] w fun e w'=>e=.returned (.int .i64 (geoE size blocks))∧w'=w.alloc (.cells #[.int .i64 size,.int .i64 blocks] 28):=by
 obtain⟨r,hr⟩:∃r,r=geoE size blocks:=⟨_,rfl⟩;have HR:=hid hr;rw[←hr];clear hr;by_cases h1:size<128
 ·have HE:=hid (show r=2 by rw[HR.out];exact Qbc (by omega));by_cases h4:blocks<8
  ·go_enter Tryz.func68,Tryz.ntmps68
   go_wp2;go_ret
   exact⟨Qq HE.out.symm,rfl⟩
  ·go_enter Tryz.func68,Tryz.ntmps68
   go_wp2
   all_goals
    go_ret
    exact⟨Qq HE.out.symm,rfl⟩
 ·by_cases h2:4096<size
  ·have HE:=hid (show r=2 by rw[HR.out];exact Qbc (by omega));by_cases h4:blocks<8
   ·go_enter Tryz.func68,Tryz.ntmps68
    go_wp2;go_ret
    exact⟨Qq HE.out.symm,rfl⟩
   ·go_enter Tryz.func68,Tryz.ntmps68
    go_wp2
    all_goals
     go_ret
     exact⟨Qq HE.out.symm,rfl⟩
  ·by_cases h3:size % 64=0
   ·have e3:(size % 64==0)=true:=beq_iff_eq.2 h3;by_cases h4:blocks<8
    ·have HE:=hid (show r=2 by rw[HR.out];exact Qbc (by omega));clear h3;go_enter Tryz.func68,Tryz.ntmps68
     go_wp2;go_ret
     exact⟨Qq HE.out.symm,rfl⟩
    ·by_cases h5:4096<blocks
     ·have HE:=hid (show r=2 by rw[HR.out];exact Qbc (by omega));have e5:decide (blocks≤4096)=false:=decide_eq_false (by omega);clear h3;go_enter Tryz.func68,Tryz.ntmps68
      go_wp2;go_ret
      exact⟨Qq HE.out.symm,rfl⟩
     ·have HE:=hid (show r=0 by rw[HR.out];exact QdS (by omega));have e5:decide (blocks≤4096)=true:=decide_eq_true (by omega);clear h3;go_enter Tryz.func68,Tryz.ntmps68
      go_wp2;go_ret
      exact⟨Qq HE.out.symm,rfl⟩
   ·have e3:(size % 64==0)=false:=beq_eq_false_iff_ne.2 h3;have HE:=hid (show r=2 by rw[HR.out];exact Qbc (by omega));clear h3;by_cases h4:blocks<8
    ·go_enter Tryz.func68,Tryz.ntmps68
     go_wp2;go_ret
     exact⟨Qq HE.out.symm,rfl⟩
    ·go_enter Tryz.func68,Tryz.ntmps68
     go_wp2
     all_goals
      go_ret
      exact⟨Qq HE.out.symm,rfl⟩
end Dv
namespace Fr
open Go.RowKit Bs Dv
theorem Qbn(n:Int):geoE n 8=if Fits n then 0 else 2:=by
 by_cases h:Fits n
 ·rw[if_pos h];unfold Fits at h;exact QdS (by omega)
 ·rw[if_neg h];unfold Fits at h;exact Qbc (by omega)
theorem Qan(n:Int)(w:World) :
  Calls Tryz.prog 105 #[.int .i64 n] w fun e w'=>e=.returned (.int .i64 (room n))∧w.grownBy w' none:=by
 have hg:=World.grownBy_alloc w (.cells #[.int .i64 n,.int .i64 8] 28) none;have HG:=hid hg;clear hg;have hE:=Qbn n;by_cases h:Fits n
 ·rw[if_pos h]at hE;have HR:=hid (show room n=n-16 from if_pos h);unfold Fits at h;have HE:=hid hE;clear hE;go_enter Tryz.func105,Tryz.ntmps105
  go_wp2_with fail
  refine(QT n 8 w).mono ?_;rintro e w1 ⟨rfl,rfl⟩;rw[HE.out];go_wp2;go_ret
  exact⟨Qq (by rw[HR.out];omega),HG.out⟩
 ·rw[if_neg h]at hE;have HR:=hid (show room n=0 from if_neg h);clear h;have HE:=hid hE;clear hE;go_enter Tryz.func105,Tryz.ntmps105
  go_wp2_with fail
  refine(QT n 8 w).mono ?_;rintro e w1 ⟨rfl,rfl⟩;rw[HE.out];go_wp2;go_ret
  exact⟨Qq HR.out.symm,HG.out⟩
end Fr
namespace Su
open Go.RowKit Bs Dv Gr
open Fr (room)
theorem QkE{size blocks:Int}(h:¬GeoOk size blocks):pagesF size blocks=0:=if_neg h
theorem Qji(n:Int)(w:World):Calls Tryz.prog 55 #[.int .i64 n] w fun e w'=>e=.returned (.int .i64 (if n=0 then 1 else 0))∧w=w':=by
 by_cases h:n=0
 ·rw[if_pos h];have e:(n==0)=true:=beq_iff_eq.2 h;clear h;go_enter Tryz.func55,Tryz.ntmps55
  go_wp2;go_ret
  exact⟨rfl,rfl⟩
 ·rw[if_neg h];have e:(n==0)=false:=beq_eq_false_iff_ne.2 h;clear h;go_enter Tryz.func55,Tryz.ntmps55
  go_wp2;go_ret
  exact⟨rfl,rfl⟩
theorem Qah(size blocks:Int)(w:World):Calls Tryz.prog 71 #[.agg #[.int .i64 size,.int .i64 blocks]] w fun e w'=>e=.returned (.int .i64 (pagesF size blocks))∧w.grownBy w' none:=by
 have B0:=heap_alloc_new w (.cells #[.int .i64 size,.int .i64 blocks] 28);have G0:=Qb w (.cells #[.int .i64 size,.int .i64 blocks] 28);have HC:=hid (fun W=>QT size blocks W);have HB0:=hid B0;have HG0:=hid G0;obtain⟨E,hE⟩:∃E,geoE size blocks=E:=⟨_,rfl⟩;rw[hE]at HC;by_cases h:GeoOk size blocks
 ·have h0:E=0:=by rw[←hE];exact(QaE _ _).2 h
  have hr:=QR h;have hp:=QB h;have HR:=hid (fun W=>Fr.Qan size W);have HP:Hid (pagesF size blocks=(2*blocks+room size-1) / room size):=hid (if_pos h);unfold GeoOk at h;rw[hr]at HP HR;obtain⟨r,hrr⟩:∃r,size-16=r:=⟨_,rfl⟩;rw[hrr]at HP HR;have hr1:112≤r∧r≤4080:=by omega
  have HQ:Hid ((2*blocks+r-1).tdiv r=pagesF size blocks):=hid (by rw[HP.out];exact Int.tdiv_eq_ediv_of_nonneg (by omega));obtain⟨q,hq⟩:∃q,pagesF size blocks=q:=⟨_,rfl⟩;rw[hq]at HQ hp ⊢;have e1:IntKind.i64.wrap (2*blocks)=2*blocks:=IntWalk.i64_in _ (by omega);have e2:IntKind.i64.wrap (2*blocks+r)=2*blocks+r:=IntWalk.i64_in _ (by omega);have e3:IntKind.i64.wrap (2*blocks+r-1)=2*blocks+r-1:=IntWalk.i64_in _ (by omega);have e4:IntKind.i64.wrap q=q:=IntWalk.i64_in _ (by omega);have e5:=HQ.out;clear hE hr hrr hq B0 G0 HP HQ;have hb0:(0:Int)≤blocks:=by omega
  clear hp h;subst h0;go_enter Tryz.func71,Tryz.ntmps71
  go_wp2_with fail
  refine(HC.out _).mono ?_;rintro e w1 ⟨rfl,rfl⟩;have HB1:=hid (Qd HB0.out (Qb _ (.cells #[.int .i64 size,.int .i64 blocks] 28)));have HG1:=hid (Qa HG0.out (Qb _ (.cells #[.int .i64 size,.int .i64 blocks] 28)));obtain⟨W1,hW1⟩:∃V,(w.alloc (.cells #[.int .i64 size,.int .i64 blocks] 28)).alloc (.cells #[.int .i64 size,.int .i64 blocks] 28)=V:=⟨_,rfl⟩;rw[hW1]at HB1 HG1 ⊢;clear hW1 HB0 HG0;dsimp only;have c0:W1.cell? ⟨w.heap.size,0,none⟩=some (.int .i64 size):=by rw[cell_of_row _ _ _ _ _ _ HB1.out];rfl
  go_wp2_with fail
  refine(HR.out _).mono ?_;rintro e w2 ⟨rfl,hg⟩;have HB2:=hid (Qd HB1.out hg);have HG2:=hid (Qa HG1.out hg);clear hg HB1 HG1 c0;dsimp only;have c1:w2.cell? ⟨w.heap.size,1,none⟩=some (.int .i64 blocks):=by rw[cell_of_row _ _ _ _ _ _ HB2.out];rfl
  have hne:¬r=0:=by omega
  go_wp2;go_ret
  exact⟨rfl,HG2.out⟩
 ·have h0:E≠0:=by rw[←hE];exact fun q=>h ((QaE _ _).1 q)
  have q0:(E != 0)=true:=bne_iff_ne.2 h0;rw[QkE h];clear h hE h0;go_enter Tryz.func71,Tryz.ntmps71
  go_wp2_with fail
  refine(HC.out _).mono ?_;rintro e w1 ⟨rfl,rfl⟩;have HG1:=hid (Qa HG0.out (Qb _ (.cells #[.int .i64 size,.int .i64 blocks] 28)));clear HB0 HG0 B0 G0;dsimp only;go_wp2;go_ret
  exact⟨rfl,HG1.out⟩
end Su
namespace Su
open Go.RowKit Bs Dv
theorem QhV:∃f1 f2:Field,(Tryz.prog.fieldsOf 28).toList=[f1,f2]∧(f1.type=3∧f1.offset=0∧f1.name≠"_")∧(f2.type=3∧f2.offset=1∧f2.name≠"_"):=by
 have hF:(Tryz.prog.fieldsOf 28).toList.map (fun f=>(f.type,f.offset,decide (f.name≠"_")))=[(3,0,true),(3,1,true)]:=by kernel_rfl
 revert hF
 generalize (Tryz.prog.fieldsOf 28).toList=l;intro hF;rcases l with _|⟨f1,_|⟨f2,_|⟨f3,r⟩⟩⟩
 ·cases hF
 ·simp only[List.map_cons,List.map_nil,List.cons.injEq]at hF;exact absurd hF.2 (by simp)
 ·simp only[List.map_cons,List.map_nil,List.cons.injEq,Prod.mk.injEq,decide_eq_true_eq,and_true]at hF;exact⟨f1,f2,rfl,hF.1,hF.2⟩
 ·simp only[List.map_cons,List.cons.injEq]at hF;exact absurd hF.2.2 (by simp)
theorem QiN(d:Nat)(x y p q:Int)(w:World):(Op.equalIn (d+2) 28 (.agg #[.int .i64 x,.int .i64 y]) (.agg #[.int .i64 p,.int .i64 q])).run Tryz.prog w=.ok (decide (x=p) && decide (y=q)) w:=by
 obtain⟨f1,f2,hf,⟨e1,e2,e3⟩,e4,e5,e6⟩:=QhV;have hu:Tryz.prog.underlying 28=some (.struct (Tryz.prog.fieldsOf 28)):=by kernel_rfl
 rw[run_equalIn_struct w (d+1) _ _ _ hu (by kernel_rfl),hf];by_cases h1:x=p
 ·by_cases h2:y=q
  ·simp[Op.eqFields,e1,e2,e3,e4,e5,e6,part,run_equalIn_int _ _ _ _ _ _ _ Tryz.underlying3,go_sem,h1,h2]
  ·simp[Op.eqFields,e1,e2,e3,e4,e5,e6,part,run_equalIn_int _ _ _ _ _ _ _ Tryz.underlying3,go_sem,h1,h2]
 ·simp[Op.eqFields,e1,e2,e3,part,run_equalIn_int _ _ _ _ _ _ _ Tryz.underlying3,go_sem,h1]
theorem QlF(x y p q:Int)(w:World):(binOp .neq 28 (.agg #[.int .i64 x,.int .i64 y]) (.agg #[.int .i64 p,.int .i64 q])).run Tryz.prog w=.ok (.bool (!(decide (x=p) && decide (y=q)))) w:=by
 rw[run_neq_struct,QiN 9998]
 rfl
end Su
end Go.Proofs.YtgffbbdcbkikhaaGreatDoor
