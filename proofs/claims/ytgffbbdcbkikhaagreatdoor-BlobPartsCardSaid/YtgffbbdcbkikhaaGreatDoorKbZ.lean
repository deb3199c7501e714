/- Parts of the proof. -/
import Derived.Test.YtgffbbdcbkikhaaGreatDoorKbU
import Derived.Test.YtgffbbdcbkikhaaGreatDoorKbX
set_option maxRecDepth 100000
set_option maxHeartbeats 8000000
open Go.Lib (hid)
namespace Go.Proofs.YtgffbbdcbkikhaaGreatDoor
namespace Sp
open Go.RowKit Bs Dv Gr
open Cn (CN CC CnOk)
open Su (Sup SupOk)
structure Nm where
 sg:Nat
 g:Nat
 b:Nat
 P:Value
 gh:Nat
 hh:Nat
 ch:Nat
 gn:Nat
 hn:Nat
 cn:Nat
 mq:Option (Nat×Nat×Nat)
 gk:Nat
 hk:Nat
 ck:Nat
 ap:Option Addr
 np:Nat
 cp:Nat
def MkM(w0 w:World)(size:Int)(n:Nat):Option (Nat×Nat×Nat)→Option (List Int)→Prop
 |none,none=>True
 |some q,some m=>CN w0 w q.1 q.2.1 q.2.2 size n m
 |_,_=>False
def Nm.pm(x:Nm):Option Addr:=x.mq.map fun q=>⟨q.1,0,none⟩
def Nm.fix(x:Nm)(k:Nat):Prop:=k=x.gh∨k=x.hh∨k=x.gn∨k=x.gk∨k=x.hk∨(∃q,x.mq=some q∧(k=q.1∨k=q.2.1))∨∃a,x.ap=some a∧k=a.block
def Nm.mut(x:Nm)(k:Nat):Prop:=k=x.sg∨k=x.hn∨Dv.fp x.g x.b x.P k
def Nm.fp(x:Nm)(k:Nat):Prop:=x.mut k∨x.fix k
def boxV(x:Nm)(s:SpS):Array Value:=#[.pointer (some ⟨x.g,0,none⟩),.int .u64 s.sup.gen,.int .i64 (s.dv.size:Int),.int .i64 (s.dv.blocks:Int),.int .u32 s.sup.root,.slice x.ap x.np x.cp,.int .i64 (s.slot:Int),.pointer (some ⟨x.gh,0,none⟩),.pointer (some ⟨x.gn,0,none⟩),.pointer x.pm,.pointer (some ⟨x.gk,0,none⟩),.pointer (some ⟨x.sg,0,none⟩)]
structure SpM (w0 w:World) (x:Nm) (s:SpS):Prop where
 dev:Held w0 w x.g x.b x.P s.dv
 box:w.heap[x.sg]?=some (.cells (boxV x s) 95 (0,0))
 pages:Ws.Seg w x.ap x.np x.cp s.sup.pages
 held:CN w0 w x.gh x.hh x.ch s.dv.size s.dv.blocks s.held
 now:CN w0 w x.gn x.hn x.cn s.dv.size s.dv.blocks s.now
 mark:MkM w0 w s.dv.size s.dv.blocks x.mq s.mark
 keep:∃K,CN w0 w x.gk x.hk x.ck s.dv.size s.dv.blocks K∧∀i,K.getD i 0=0↔s.held.getD i 0=0∧∀m,s.mark=some m→m.getD i 0=0
 keep0:s.mark=none→x.gk=x.gh∧x.hk=x.hh∧x.ck=x.ch
 apart:∀k,x.fix k→k<w.heap.size∧w0.heap.size≤k∧¬x.mut k
 own:¬Dv.fp x.g x.b x.P x.hn∧¬Dv.fp x.g x.b x.P x.sg∧x.hn≠x.sg
 marks:∀q,x.mq=some q→q.2.1≠x.gh∧q.2.1≠x.hh∧q.2.1≠q.1∧∀a,x.ap=some a→q.2.1≠a.block
 new:w0.heap.size≤x.sg
 geo:s.sup.size=s.dv.size∧s.sup.blocks=s.dv.blocks
 sok:SupOk s.sup
 slot:s.slot=0∨s.slot=1
section
variable {w0 w w' : World} {x : Nm} {s : SpS}
theorem SpM.lt(h:SpM w0 w x s){k:Nat}(hk:x.fp k):k<w.heap.size:=by
 rcases hk with (rfl|rfl|e)|e
 ·exact(Array.getElem?_eq_some_iff.1 h.box).1
 ·exact h.now.cc.lt
 ·exact h.dev.dev.lt k e
 ·exact(h.apart k e).1
theorem SpM.fresh(h:SpM w0 w x s){k:Nat}(hk:x.fp k):w0.heap.size≤k:=by
 rcases hk with (rfl|rfl|e)|e
 ·exact h.new
 ·exact h.now.new
 ·exact h.dev.new k e
 ·exact(h.apart k e).2.1
theorem SpM.gr(h:SpM w0 w x s):w0.grownBy w none:=h.held.gr
theorem MkM.turn{size:Int}{n:Nat}{q:Option (Nat×Nat×Nat)}{m:Option (List Int)}{S:Nat→Prop}(h:MkM w0 w size n q m)(t:Turn w w' S)(g:w0.grownBy w' none)(hS:∀z,q=some z→¬S z.1∧¬S z.2.1):MkM w0 w' size n q m:=by
 cases q with
 |none=>cases m with
  |none=>trivial
  |some m=>exact h
 |some q=>cases m with
  |none=>exact h
  |some m=>exact⟨h.cc.turn t (hS q rfl).1 (hS q rfl).2,h.ok,h.new,h.newg,g⟩
theorem QJ{g h cap n:Nat}{size:Int}{N:List Int}{S:Nat→Prop}(c:CN w0 w g h cap size n N)(t:Turn w w' S)(gr:w0.grownBy w' none)(hg:¬S g)(hh:¬S h):CN w0 w' g h cap size n N:=⟨c.cc.turn t hg hh,c.ok,c.new,c.newg,gr⟩
theorem Qp{a:Option Addr}{n c:Nat}{l:List Int}{S:Nat→Prop}(h:Ws.Seg w a n c l)(t:Turn w w' S)(hS:∀ad,a=some ad→¬S ad.block):Ws.Seg w' a n c l:=
 ⟨h.len,h.le,h.cap,h.nil_,fun ad had j u hu=>t.cell (h.at_ ad had j u hu) (by rw[block_add];exact hS ad had)⟩
theorem Qao{S:Nat→Prop}(g:w0.grownBy w none)(t:Turn w w' S)(hS:∀k,S k→w0.heap.size≤k):w0.grownBy w' none:=
 (Turn.trans (S:=nowhere) (Qc g) t (fun i hi h=>by have:=hS i h;omega)).grown
theorem SpM.turn{S:Nat→Prop}(h:SpM w0 w x s)(t:Turn w w' S)(hS:∀k,x.fp k→¬S k)(gr:w0.grownBy w' none):SpM w0 w' x s:=by
 obtain⟨K,hK,hk⟩:=h.keep;refine⟨⟨h.dev.dev.turn t (fun i hi=>hS i (.inl (.inr (.inr hi)))),h.dev.new,Qc gr⟩,?_,Qp h.pages t (fun ad had=>hS _ (.inr (.inr (.inr (.inr (.inr (.inr (.inr ⟨ad,had,rfl⟩)))))))),
  QJ h.held t gr (hS _ (.inr (.inl rfl))) (hS _ (.inr (.inr (.inl rfl)))),QJ h.now t gr (hS _ (.inr (.inr (.inr (.inl rfl))))) (hS _ (.inl (.inr (.inl rfl)))),
  h.mark.turn t gr (fun z hz=>⟨hS _ (.inr (.inr (.inr (.inr (.inr (.inr (.inl ⟨z,hz,.inl rfl⟩))))))),hS _ (.inr (.inr (.inr (.inr (.inr (.inr (.inl ⟨z,hz,.inr rfl⟩)))))))⟩),
  ⟨K,QJ hK t gr (hS _ (.inr (.inr (.inr (.inr (.inl rfl)))))) (hS _ (.inr (.inr (.inr (.inr (.inr (.inl rfl))))))),hk⟩,h.keep0,fun k hk=>⟨Nat.lt_of_lt_of_le (h.apart k hk).1 t.size,(h.apart k hk).2⟩,h.own,h.marks,h.new,h.geo,h.sok,h.slot⟩
 rw[t.block x.sg (h.lt (.inl (.inl rfl))) (hS _ (.inl (.inl rfl)))];exact h.box
theorem SpM.go(h:SpM w0 w x s)(k:w.grownBy w' none):SpM w0 w' x s:=h.turn (Qc k) (fun _ _ e=>e) (grownBy_trans h.gr k (fun _ e=>by cases e))
def Op(w0 w:World)(x:Nm)(s':SpS)(w':World):Prop:=∃x',x'.sg=x.sg∧x'.g=x.g∧SpM w0 w' x' s'∧Turn w w' x.fp∧∀k,x'.fp k→x.fp k∨w.heap.size≤k
theorem Op.same(h:SpM w0 w x s)(k:w.grownBy w' none):Op w0 w x s w':=⟨x,rfl,rfl,h.go k,(Qc k).mono (fun _ _ e=>e.elim),fun _ q=>.inl q⟩
theorem Op.trans{w1:World}{x1:Nm}{s':SpS}(t:Turn w w1 x.fp)(hs:x1.sg=x.sg)(hg:x1.g=x.g)(hf:∀k,x1.fp k→x.fp k∨w.heap.size≤k)(k:Op w0 w1 x1 s' w'):Op w0 w x s' w':=by
 obtain⟨x',a,b,c,d,e⟩:=k;refine⟨x',a.trans hs,b.trans hg,c,t.trans d (fun i hi q=>(hf i q).elim id fun z=>by omega),fun k q=>?_⟩;rcases e k q with z|z
 ·exact hf k z
 ·exact .inr (Nat.le_trans t.size z)
theorem SpM.turnNow(h:SpM w0 w x s){N:List Int}(c:CN w0 w' x.gn x.hn x.cn s.dv.size s.dv.blocks N)(t:Turn w w' (·=x.hn)):SpM w0 w' x { s with now:=N }:=by
 obtain⟨K,hK,hk⟩:=h.keep;have nf:∀k,x.fix k→k≠x.hn:=fun k hk e=>(h.apart k hk).2.2 (.inr (.inl e))
 have gr:=c.gr;refine⟨⟨h.dev.dev.turn t (fun i hi e=>h.own.1 (e▸hi)),h.dev.new,Qc gr⟩,?_,Qp h.pages t (fun ad had=>nf _ (.inr (.inr (.inr (.inr (.inr (.inr ⟨ad,had,rfl⟩))))))),
  QJ h.held t gr (nf _ (.inl rfl)) (nf _ (.inr (.inl rfl))),c,
  h.mark.turn t gr (fun z hz=>⟨nf _ (.inr (.inr (.inr (.inr (.inr (.inl ⟨z,hz,.inl rfl⟩)))))),nf _ (.inr (.inr (.inr (.inr (.inr (.inl ⟨z,hz,.inr rfl⟩))))))⟩),
  ⟨K,QJ hK t gr (nf _ (.inr (.inr (.inr (.inl rfl))))) (nf _ (.inr (.inr (.inr (.inr (.inl rfl)))))),hk⟩,h.keep0,fun k hk=>⟨Nat.lt_of_lt_of_le (h.apart k hk).1 t.size,(h.apart k hk).2⟩,h.own,h.marks,h.new,h.geo,h.sok,h.slot⟩
 rw[t.block x.sg (h.lt (.inl (.inl rfl))) (fun e=>h.own.2.2 e.symm)];exact h.box
theorem SpM.turnDev(h:SpM w0 w x s){P':Value}{d:Dv.St}(k:Held w0 w' x.g x.b P' d)(t:Turn w w' (Dv.fp x.g x.b x.P))(hf:∀k,Dv.fp x.g x.b P' k→Dv.fp x.g x.b x.P k∨w.heap.size≤k)(hs:d.size=s.dv.size)(hb:d.blocks=s.dv.blocks) :
  SpM w0 w' { x with P:=P' } { s with dv:=d }:=by
 obtain⟨K,hK,hk⟩:=h.keep;have nf:∀k,x.fix k→¬Dv.fp x.g x.b x.P k:=fun k hk e=>(h.apart k hk).2.2 (.inr (.inr e))
 have gr:w0.grownBy w' none:=k.turn.grown;have hnew:∀k,k<w.heap.size→Dv.fp x.g x.b P' k→Dv.fp x.g x.b x.P k:=fun k hk q=>(hf k q).elim id fun z=>by omega
 refine⟨k,?_,Qp h.pages t (fun ad had=>nf _ (.inr (.inr (.inr (.inr (.inr (.inr ⟨ad,had,rfl⟩))))))),
  ?_,?_,?_,⟨K,?_,hk⟩,h.keep0,fun k hk=>⟨Nat.lt_of_lt_of_le (h.apart k hk).1 t.size,(h.apart k hk).2.1,fun q=>(h.apart k hk).2.2 ?_⟩,⟨fun q=>h.own.1 (hnew _ (h.lt (.inl (.inr (.inl rfl)))) q),fun q=>h.own.2.1 (hnew _ (h.lt (.inl (.inl rfl))) q),h.own.2.2⟩,h.marks,h.new,⟨by rw[hs];exact h.geo.1,by rw[hb];exact h.geo.2⟩,h.sok,h.slot⟩
 ·have e:boxV { x with P:=P' } { s with dv:=d }=boxV x s:=by unfold boxV;rw[show({ s with dv:=d }:SpS).dv=d from rfl,hs,hb];rfl
  rw[e,t.block x.sg (h.lt (.inl (.inl rfl))) h.own.2.1];exact h.box
 ·rw[show({ s with dv:=d }:SpS).dv=d from rfl,hs,hb];exact QJ h.held t gr (nf _ (.inl rfl)) (nf _ (.inr (.inl rfl)))
 ·rw[show({ s with dv:=d }:SpS).dv=d from rfl,hs,hb];exact QJ h.now t gr (nf _ (.inr (.inr (.inl rfl)))) h.own.1
 ·rw[show({ s with dv:=d }:SpS).dv=d from rfl,hs,hb];exact h.mark.turn t gr (fun z hz=>⟨nf _ (.inr (.inr (.inr (.inr (.inr (.inl ⟨z,hz,.inl rfl⟩)))))),nf _ (.inr (.inr (.inr (.inr (.inr (.inl ⟨z,hz,.inr rfl⟩))))))⟩)
 ·rw[show({ s with dv:=d }:SpS).dv=d from rfl,hs,hb];exact QJ hK t gr (nf _ (.inr (.inr (.inr (.inl rfl))))) (nf _ (.inr (.inr (.inr (.inr (.inl rfl))))))
 ·rcases q with q|q|q
  ·exact .inl q
  ·exact .inr (.inl q)
  ·exact .inr (.inr (hnew k (h.apart k hk).1 q))
theorem SpM.opNow(h:SpM w0 w x s){N:List Int}(c:CN w0 w' x.gn x.hn x.cn s.dv.size s.dv.blocks N)(t:Turn w w' (·=x.hn)):Op w0 w x { s with now:=N } w':=
 ⟨x,rfl,rfl,h.turnNow c t,t.mono (fun _ _ e=>.inl (.inr (.inl e))),fun _ q=>.inl q⟩
theorem SpM.opDev(h:SpM w0 w x s){P':Value}{d:Dv.St}(k:Held w0 w' x.g x.b P' d)(t:Turn w w' (Dv.fp x.g x.b x.P))(hf:∀k,Dv.fp x.g x.b P' k→Dv.fp x.g x.b x.P k∨w.heap.size≤k)(hs:d.size=s.dv.size)(hb:d.blocks=s.dv.blocks):Op w0 w x { s with dv:=d } w':=by
 refine⟨{ x with P:=P' },rfl,rfl,h.turnDev k t hf hs hb,t.mono (fun _ _ e=>.inl (.inr (.inr e))),fun k q=>?_⟩;rcases q with (q|q|q)|q
 ·exact .inl (.inl (.inl q))
 ·exact .inl (.inl (.inr (.inl q)))
 ·exact(hf k q).elim (fun z=>.inl (.inl (.inr (.inr z)))) .inr
 ·exact .inl (.inr q)
theorem SpM.cells(h:SpM w0 w x s):w.cell? ⟨x.sg,0,none⟩=some (.pointer (some ⟨x.g,0,none⟩))∧w.cell? ⟨x.sg,1,none⟩=some (.int .u64 s.sup.gen)∧w.cell? ⟨x.sg,2,none⟩=some (.int .i64 (s.dv.size:Int))∧w.cell? ⟨x.sg,3,none⟩=some (.int .i64 (s.dv.blocks:Int)) ∧
  w.cell? ⟨x.sg,4,none⟩=some (.int .u32 s.sup.root)∧w.cell? ⟨x.sg,5,none⟩=some (.slice x.ap x.np x.cp)∧w.cell? ⟨x.sg,6,none⟩=some (.int .i64 (s.slot:Int))∧w.cell? ⟨x.sg,7,none⟩=some (.pointer (some ⟨x.gh,0,none⟩))∧w.cell? ⟨x.sg,8,none⟩=some (.pointer (some ⟨x.gn,0,none⟩)) ∧
  w.cell? ⟨x.sg,9,none⟩=some (.pointer x.pm)∧w.cell? ⟨x.sg,10,none⟩=some (.pointer (some ⟨x.gk,0,none⟩))∧w.cell? ⟨x.sg,11,none⟩=some (.pointer (some ⟨x.sg,0,none⟩)):=by
 refine⟨?_,?_,?_,?_,?_,?_,?_,?_,?_,?_,?_,?_⟩ <;> rw[cell_of_row _ _ _ _ _ _ h.box] <;> rfl
end
end Sp
namespace Sp
open Go.RowKit Bs Dv Gr
open Cn (CN CC CnOk IsC)
open Su (Sup SupOk)
open Fr (room Qan)
theorem Qh6:(Tryz.prog.info? 95).isSome=true:=by kernel_rfl
theorem QiM(a:Addr)(w:World):(binOp .eql 24 (.pointer (some a)) (.pointer (some a))).run Tryz.prog w=.ok (.bool true) w:=by
 obtain⟨j,hj⟩:=Option.isSome_iff_exists.1 Qh6;exact run_eql_ptr_same w a Tryz.underlying24 hj
theorem Ql(g:Nat)(w:World)(h:w.cell? ⟨g,11,none⟩=some (.pointer (some ⟨g,0,none⟩))) :
  Calls Tryz.prog 46 #[.pointer (some ⟨g,0,none⟩)] w fun e w'=>e=.returned (.bool true)∧w=w':=by
 have he:=QiM ⟨g,0,none⟩;go_enter Tryz.func46,Tryz.ntmps46
 go_wp2;go_ret
 exact⟨rfl,rfl⟩
section
variable {w0 w : World} {x : Nm} {s : SpS}
theorem Qc7(h:SpM w0 w x s)(k:Nat)(hk:k<4294967296) :
  Calls Tryz.prog 29 #[.pointer (some ⟨x.sg,0,none⟩),.int .u32 (k:Int)] w fun e w'=>e=.returned (.int .i64 (s.now.getD k 0))∧w=w':=by
 have HV:=hid (Ql x.sg w h.cells.2.2.2.2.2.2.2.2.2.2.2);have HG:=hid (h.now.get k hk);have c8:=h.cells.2.2.2.2.2.2.2.2.1;obtain⟨sg,e1⟩:∃q,x.sg=q:=⟨_,rfl⟩;obtain⟨gn,e2⟩:∃q,x.gn=q:=⟨_,rfl⟩;obtain⟨v,e3⟩:∃q,s.now.getD k 0=q:=⟨_,rfl⟩;rw[e1]at HV c8 ⊢;rw[e2]at HG c8;rw[e3]at HG ⊢;clear e1 e2 e3 h;go_enter Tryz.func29,Tryz.ntmps29
 go_wp2_with (first|(go_at_call 46;refine HV.out.mono ?_;rintro e w' ⟨rfl,rfl⟩)|(go_at_call 47;refine HG.out.mono ?_;rintro e w' ⟨rfl,rfl⟩)|fail)
 go_ret
 exact⟨rfl,rfl⟩
theorem QkM(h:SpM w0 w x s):Calls Tryz.prog 24 #[.pointer (some ⟨x.sg,0,none⟩)] w fun e w'=>e=.returned (.int .u32 s.sup.root)∧w=w':=by
 have HV:=hid (Ql x.sg w h.cells.2.2.2.2.2.2.2.2.2.2.2);have c4:=h.cells.2.2.2.2.1;obtain⟨sg,e1⟩:∃q,x.sg=q:=⟨_,rfl⟩;obtain⟨v,e3⟩:∃q,s.sup.root=q:=⟨_,rfl⟩;rw[e1]at HV c4 ⊢;rw[e3]at c4 ⊢;clear e1 e3 h;go_enter Tryz.func24,Tryz.ntmps24
 go_wp2_with (first|(go_at_call 46;refine HV.out.mono ?_;rintro e w' ⟨rfl,rfl⟩)|fail)
 go_ret
 exact⟨rfl,rfl⟩
theorem Qgp(h:SpM w0 w x s)(hg:0≤s.sup.gen∧s.sup.gen<18446744073709551615):Calls Tryz.prog 41 #[.pointer (some ⟨x.sg,0,none⟩)] w fun e w'=>e=.returned (.int .u64 (s.sup.gen+1))∧w=w':=by
 have c4:=h.cells.2.1;obtain⟨sg,e1⟩:∃q,x.sg=q:=⟨_,rfl⟩;obtain⟨v,e3⟩:∃q,s.sup.gen=q:=⟨_,rfl⟩;rw[e1]at c4 ⊢;rw[e3]at c4 hg ⊢;have q1:(v==18446744073709551615)=false:=beq_eq_false_iff_ne.2 (by omega);have q2:IntKind.u64.wrap (v+1)=v+1:=by rw[IntKind.wrap_u64];omega
 clear e1 e3 h hg;go_enter Tryz.func41,Tryz.ntmps41
 go_wp2;go_ret
 exact⟨rfl,rfl⟩
def roomP(size kids:Int):Int:=if kids<0∨(room size-2) / 4<kids then 0 else room size-2-4*kids
theorem Qdm{size:Nat}(h:128≤size∧size≤4096∧size % 64=0):room (size:Int)=(size:Int)-16:=if_pos ⟨by omega,by omega,by omega⟩
theorem Qjv(size:Nat)(kids:Int)(w:World)(hs:128≤size∧size≤4096∧size % 64=0)(hk:-9223372036854775808≤kids∧kids≤9223372036854775807) :
  Calls Tryz.prog 66 #[.int .i64 (size:Int),.int .i64 kids] w fun e w'=>e=.returned (.int .i64 (roomP size kids))∧w.grownBy w' none:=by
 have HR:=hid (Qan (size:Int) w);have hr:=Qdm hs;have HP:Hid (roomP size kids=if kids<0∨((size:Int)-18) / 4<kids then 0 else(size:Int)-18-4*kids):=hid (by unfold roomP;rw[hr,show(size:Int)-16-2=(size:Int)-18 by omega]);rw[hr]at HR;obtain⟨R,hR⟩:∃R,roomP size kids=R:=⟨_,rfl⟩;rw[hR]at HP ⊢;clear hR hr;obtain⟨S,hS⟩:∃S:Int,(size:Int)-16=S:=⟨_,rfl⟩;have e1:IntKind.i64.wrap (S-2)=S-2:=IntWalk.i64_in _ (by omega);have e2:(size:Int)-18=S-2:=by omega
 rw[hS]at HR;rw[e2]at HP;have hS2:0≤S-2∧S-2≤4096:=by omega
 clear hS e2 hs;obtain⟨L,hL⟩:∃L:Int,S-2=L:=⟨_,rfl⟩;rw[hL]at e1 hS2 HP;have e4:L.tdiv 4=L / 4:=Int.tdiv_eq_ediv_of_nonneg (by omega);by_cases h1:kids<0
 ·have hR0:R=0:=by rw[HP.out,if_pos (.inl h1)]
  subst hR0;have q1:decide (kids<0)=true:=decide_eq_true h1;clear h1 HP e4;go_enter Tryz.func66,Tryz.ntmps66
  go_wp2_with (first|(go_at_call 105;refine HR.out.mono ?_;rintro e w' ⟨rfl,hg⟩;have HG:=hid hg;clear hg;dsimp only)|fail)
  go_ret
  exact⟨rfl,HG.out⟩
 ·have q1:decide (kids<0)=false:=decide_eq_false h1;by_cases h2:L / 4<kids
  ·have hR0:R=0:=by rw[HP.out,if_pos (.inr h2)]
   subst hR0;have q2:decide (L / 4<kids)=true:=decide_eq_true h2;have e3:IntKind.i64.wrap (L / 4)=L / 4:=IntWalk.i64_in _ (by omega);clear h1 h2 HP;go_enter Tryz.func66,Tryz.ntmps66
   go_wp2_with (first|(go_at_call 105;refine HR.out.mono ?_;rintro e w' ⟨rfl,hg⟩;have HG:=hid hg;clear hg;dsimp only)|fail)
   go_ret
   exact⟨rfl,HG.out⟩
  ·have hR0:R=L-4*kids:=by rw[HP.out,if_neg (fun q=>q.elim h1 h2)]
   have q2:decide (L / 4<kids)=false:=decide_eq_false h2;have e3:IntKind.i64.wrap (L / 4)=L / 4:=IntWalk.i64_in _ (by omega);have e5:IntKind.i64.wrap (4*kids)=4*kids:=IntWalk.i64_in _ (by omega);have e6:IntKind.i64.wrap (L-4*kids)=L-4*kids:=IntWalk.i64_in _ (by omega);rw[hR0];clear h1 h2 HP hR0;go_enter Tryz.func66,Tryz.ntmps66
   go_wp2_with (first|(go_at_call 105;refine HR.out.mono ?_;rintro e w' ⟨rfl,hg⟩;have HG:=hid hg;clear hg;dsimp only)|fail)
   go_ret
   exact⟨rfl,HG.out⟩
theorem SpM.dims(h:SpM w0 w x s):128≤s.dv.size∧s.dv.size≤4096∧s.dv.size % 64=0∧8≤s.dv.blocks∧s.dv.blocks≤4096:=⟨h.dev.dev.ok.lo,h.dev.dev.ok.hi,h.dev.dev.ok.by64,h.dev.dev.ok.blo,h.dev.dev.ok.bhi⟩
theorem Qjf(h:SpM w0 w x s)(kids:Int)(hk:-9223372036854775808≤kids∧kids≤9223372036854775807):Calls Tryz.prog 27 #[.pointer (some ⟨x.sg,0,none⟩),.int .i64 kids] w fun e w'=>e=.returned (.int .i64 (roomP s.dv.size kids))∧w.grownBy w' none:=by
 have HV:=hid (Ql x.sg w h.cells.2.2.2.2.2.2.2.2.2.2.2);have HR:=hid (Qjv s.dv.size kids w ⟨h.dims.1,h.dims.2.1,h.dims.2.2.1⟩ hk);have c4:=h.cells.2.2.1;obtain⟨sg,e1⟩:∃q,x.sg=q:=⟨_,rfl⟩;obtain⟨v,e3⟩:∃q,s.dv.size=q:=⟨_,rfl⟩;rw[e1]at HV c4 ⊢;rw[e3]at c4 HR ⊢;clear e1 e3 h;go_enter Tryz.func27,Tryz.ntmps27
 go_wp2_with (first|(go_at_call 46;refine HV.out.mono ?_;rintro e w' ⟨rfl,rfl⟩)|(go_at_call 66;refine HR.out.mono ?_;rintro e w' ⟨rfl,hg⟩;have HG:=hid hg;clear hg;dsimp only)|fail)
 go_ret
 exact⟨rfl,HG.out⟩
theorem QiW(a:Option Addr)(n c:Nat)(l:List Int)(v:Int)(w:World)(hs:Ws.Seg w a n c l)(hn:n≤100000) :
  Calls Tryz.prog 127 #[.slice a n c,.int .u32 v] w fun e w'=>∃r:Int,e=.returned (.int .i64 r)∧(0≤r↔v∈l)∧w=w':=by
 have hl:=hs.len;have hle:=hs.le;by_cases h0:n=0
 ·subst h0;obtain rfl:=List.eq_nil_of_length_eq_zero hl;clear hs hl;go_enter Tryz.func127,Tryz.ntmps127
  go_wp2
  go_loopw [8] (fun si wr=>si=.int .i64 0∧w=wr) (fun _ _=>0)
  case atStart=>exact⟨rfl,rfl⟩
  case round=>
   obtain⟨rfl,rfl⟩:=hrel;go_wp2;go_ret
   exact⟨-1,rfl,by simp,rfl⟩
 ·obtain⟨g,o,rfl,hc⟩:=hs.addr (by omega);have HC:=hid hc;have HL:Hid (∀j,j<n→l.getD j 0∈l):=hid (fun j hj=>by rw[List.getD_eq_getElem?_getD,List.getElem?_eq_getElem (by omega)];exact List.getElem_mem _);have HM:Hid (∀y,y∈l→∃j,j<n∧l.getD j 0=y):=hid (fun y hy=>by
   obtain⟨j,hj,e⟩:=List.getElem_of_mem hy;exact⟨j,by omega,by rw[List.getD_eq_getElem?_getD,List.getElem?_eq_getElem hj];exact e⟩)
  clear hs hc hl;go_enter Tryz.func127,Tryz.ntmps127
  go_wp2
  go_loopw [8] (fun si wr=>∃i:Nat,i≤n∧si=.int .i64 i∧Hid (∀j,j<i→l.getD j 0≠v)∧w=wr) (fun si _=>n-(intOf si).toNat)
  case atStart=>exact⟨0,Nat.zero_le _,rfl,hid (fun j hj=>by omega),rfl⟩
  case round=>
   obtain⟨i,hi,rfl,HN,rfl⟩:=hrel;by_cases hlt:i<n
   ·have hq:decide (i<n)=true:=decide_eq_true hlt;have hcell:=HC.out i hlt;have HLI:=hid (HL.out i hlt);obtain⟨y,hy⟩:∃y,l.getD i 0=y:=⟨_,rfl⟩;have HY:=hid hy;rw[hy]at hcell HLI;clear hy;by_cases e:v=y
    ·have q:(v==y)=true:=beq_iff_eq.2 e;have HV:Hid (v∈l):=hid (e▸HLI.out);clear e HLI HY;go_wp2;go_ret
     exact⟨(i:Int),rfl,⟨fun _=>HV.out,fun _=>by omega⟩,rfl⟩
    ·have q:(v==y)=false:=beq_eq_false_iff_ne.2 e;have HE:Hid (y≠v):=hid (fun k=>e k.symm);clear e HLI;go_wp2;go_roundw
     case rel=>exact⟨i+1,by omega,by go_num,hid (fun j hj=>by
      by_cases k:j<i
      ·exact HN.out j k
      ·obtain rfl:j=i:=by omega
       rw[HY.out];exact HE.out),trivial⟩
     case measure=>simp[intOf];omega
   ·have hq:decide (i<n)=false:=decide_eq_false hlt;have HV:Hid (v∉l):=hid (fun k=>by
     obtain⟨j,hj,e⟩:=HM.out v k;exact HN.out j (by omega) e)
    clear HN;go_wp2;go_ret
    exact⟨-1,rfl,⟨fun k=>absurd k (by decide),fun k=>absurd k HV.out⟩,rfl⟩
theorem QfO(a:Option Addr)(n c:Nat)(l:List Int)(v:Int)(w:World)(hs:Ws.Seg w a n c l)(hn:n≤100000) :
  Calls Tryz.prog 103 #[.slice a n c,.int .u32 v] w fun e w'=>e=.returned (.bool (decide (v∈l)))∧w=w':=by
 obtain⟨b,hb⟩:∃b,decide (v∈l)=b:=⟨_,rfl⟩;have HI:Hid (Calls Tryz.prog 127 #[.slice a n c,.int .u32 v] w fun e w'=>∃r:Int,e=.returned (.int .i64 r)∧decide (0≤r)=b∧w=w'):=hid ((QiW a n c l v w hs hn).mono fun e w' ⟨r,h1,h2,h3⟩=>⟨r,h1,by rw[←hb];exact decide_eq_decide.2 h2,h3⟩);rw[hb];clear hs hb;go_enter Tryz.func103,Tryz.ntmps103
 go_wp2_with fail
 refine HI.out.mono ?_;rintro e w' ⟨r,rfl,q,rfl⟩;clear HI;dsimp only;go_wp2;go_ret
 exact⟨rfl,rfl⟩
def accE(s:SpS)(n:Nat):Int:=if n<2∨s.dv.blocks≤n then 2 else if (n:Int)∈s.sup.pages then 2 else 0
def useE(s:SpS)(n:Nat):Int:=if accE s n≠0 then accE s n else if s.now.getD n 0=0 then 8 else 0
theorem QcE(h:SpM w0 w x s)(n:Nat)(hn:n<4294967296)(hp:x.np≤100000) :
  Calls Tryz.prog 64 #[.pointer (some ⟨x.sg,0,none⟩),.int .u32 (n:Int)] w fun e w'=>e=.returned (.int .i64 (accE s n))∧w=w':=by
 have HV:=hid (Ql x.sg w h.cells.2.2.2.2.2.2.2.2.2.2.2);have HC:=hid (QfO x.ap x.np x.cp s.sup.pages (n:Int) w h.pages hp);have c3:=h.cells.2.2.2.1;have c5:=h.cells.2.2.2.2.2.1;have hd:=h.dims;have HE:Hid (accE s n=if n<2∨s.dv.blocks≤n then 2 else if decide ((n:Int)∈s.sup.pages)=true then 2 else 0):=hid (by unfold accE;congr 1;simp only[decide_eq_true_eq]);obtain⟨E,hE⟩:∃E,accE s n=E:=⟨_,rfl⟩;obtain⟨b,hb⟩:∃b,decide ((n:Int)∈s.sup.pages)=b:=⟨_,rfl⟩;obtain⟨sg,e1⟩:∃q,x.sg=q:=⟨_,rfl⟩;obtain⟨K,e2⟩:∃q,s.dv.blocks=q:=⟨_,rfl⟩;rw[hE]at HE ⊢;rw[hb]at HE HC;rw[e1]at HV c3 c5 ⊢;rw[e2]at c3 HE hd;have w1:IntKind.u64.wrap (n:Int)=(n:Int):=by rw[IntKind.wrap_u64];omega
 have w2:IntKind.u64.wrap (K:Int)=(K:Int):=by rw[IntKind.wrap_u64];omega
 obtain⟨ap,e3⟩:∃q,x.ap=q:=⟨_,rfl⟩;obtain⟨np,e4⟩:∃q,x.np=q:=⟨_,rfl⟩;obtain⟨cp,e5⟩:∃q,x.cp=q:=⟨_,rfl⟩;rw[e3,e4,e5]at c5 HC;clear hE hb e1 e2 e3 e4 e5 h hp hd;by_cases h1:n<2
 ·have q1:decide ((n:Int)<2)=true:=decide_eq_true (by omega);have hE:E=2:=by rw[HE.out,if_pos (.inl h1)]
  subst hE;clear h1 HE;go_enter Tryz.func64,Tryz.ntmps64
  go_wp2_with (first|(go_at_call 46;refine HV.out.mono ?_;rintro e w' ⟨rfl,rfl⟩)|fail)
  go_ret
  exact⟨rfl,rfl⟩
 ·have q1:decide ((n:Int)<2)=false:=decide_eq_false (by omega);by_cases h2:K≤n
  ·have q2:decide (K≤n)=true:=decide_eq_true h2;have hE:E=2:=by rw[HE.out,if_pos (.inr h2)]
   subst hE;clear h1 h2 HE;go_enter Tryz.func64,Tryz.ntmps64
   go_wp2_with (first|(go_at_call 46;refine HV.out.mono ?_;rintro e w' ⟨rfl,rfl⟩)|fail)
   go_ret
   exact⟨rfl,rfl⟩
  ·have q2:decide (K≤n)=false:=decide_eq_false h2;have HE2:Hid (E=if b=true then 2 else 0):=hid (by rw[HE.out,if_neg (fun q=>q.elim h1 h2)]);clear h1 h2 HE;cases b with
   |true=>
    have hE:E=2:=HE2.out.trans (if_pos rfl);subst hE;go_enter Tryz.func64,Tryz.ntmps64
    go_wp2_with (first|(go_at_call 46;refine HV.out.mono ?_;rintro e w' ⟨rfl,rfl⟩)|(go_at_call 103;refine HC.out.mono ?_;rintro e w' ⟨rfl,rfl⟩)|fail)
    go_ret
    exact⟨rfl,rfl⟩
   |false=>
    have hE:E=0:=HE2.out.trans (if_neg (by decide));subst hE;go_enter Tryz.func64,Tryz.ntmps64
    go_wp2_with (first|(go_at_call 46;refine HV.out.mono ?_;rintro e w' ⟨rfl,rfl⟩)|(go_at_call 103;refine HC.out.mono ?_;rintro e w' ⟨rfl,rfl⟩)|fail)
    go_ret
    exact⟨rfl,rfl⟩
theorem Qa5(h:SpM w0 w x s)(n:Nat)(hn:n<4294967296)(hp:x.np≤100000) :
  Calls Tryz.prog 82 #[.pointer (some ⟨x.sg,0,none⟩),.int .u32 (n:Int)] w fun e w'=>e=.returned (.int .i64 (useE s n))∧w=w':=by
 have HA:=hid (QcE h n hn hp);have HC:=hid (Qc7 h n hn);have HE:Hid (useE s n=if accE s n≠0 then accE s n else if s.now.getD n 0=0 then 8 else 0):=hid rfl;obtain⟨E,hE⟩:∃E,useE s n=E:=⟨_,rfl⟩;obtain⟨A,hA⟩:∃A,accE s n=A:=⟨_,rfl⟩;obtain⟨v,hv⟩:∃v,s.now.getD n 0=v:=⟨_,rfl⟩;obtain⟨sg,e1⟩:∃q,x.sg=q:=⟨_,rfl⟩;rw[hE,hA,hv]at HE;rw[hE];rw[hA]at HA;rw[hv]at HC;rw[e1]at HA HC ⊢;clear hE hA hv e1 h hp;by_cases h1:A=0
 ·have q1:(A != 0)=false:=bne_eq_false_iff_eq.2 h1;by_cases h2:v=0
  ·have q2:(v==0)=true:=beq_iff_eq.2 h2;have hE:E=8:=by rw[HE.out,if_neg (fun q=>q h1),if_pos h2]
   subst hE;clear h1 h2 HE;go_enter Tryz.func82,Tryz.ntmps82
   go_wp2_with (first|(go_at_call 64;refine HA.out.mono ?_;rintro e w' ⟨rfl,rfl⟩)|(go_at_call 29;refine HC.out.mono ?_;rintro e w' ⟨rfl,rfl⟩)|fail)
   go_ret
   exact⟨rfl,rfl⟩
  ·have q2:(v==0)=false:=beq_eq_false_iff_ne.2 h2;have hE:E=0:=by rw[HE.out,if_neg (fun q=>q h1),if_neg h2]
   subst hE;clear h1 h2 HE;go_enter Tryz.func82,Tryz.ntmps82
   go_wp2_with (first|(go_at_call 64;refine HA.out.mono ?_;rintro e w' ⟨rfl,rfl⟩)|(go_at_call 29;refine HC.out.mono ?_;rintro e w' ⟨rfl,rfl⟩)|fail)
   go_ret
   exact⟨rfl,rfl⟩
 ·have q1:(A != 0)=true:=bne_iff_ne.2 h1;have hE:E=A:=by rw[HE.out,if_pos h1]
  subst hE;clear h1 HE;go_enter Tryz.func82,Tryz.ntmps82
  go_wp2_with (first|(go_at_call 64;refine HA.out.mono ?_;rintro e w' ⟨rfl,rfl⟩)|fail)
  go_ret
  exact⟨rfl,rfl⟩
end
end Sp
namespace Sp
open Go.RowKit Bs Dv Gr
open Oct (putB ofB)
open Su (fours QcL Qau)
open Cn (QcT Qdi room8)
open Fr (strE putF blk Fits)
def pgV(p:Pg)(a:Option Addr)(n c:Nat):Array Value:=#[.int .u8 p.tag,.slice a n c,.string (strOfNums p.data)]
def PB(w:World)(g:Nat)(p:Pg)(a:Option Addr)(n c:Nat):Prop:=w.heap[g]?=some (.cells (pgV p a n c) 41 (0,0))
theorem PB.old{w w':World}{g:Nat}{p:Pg}{a:Option Addr}{n c:Nat}(h:PB w g p a n c)(k:w.grownBy w' none):PB w' g p a n c:=Qd h k
theorem PB.keep{w w':World}{g:Nat}{p:Pg}{a:Option Addr}{n c:Nat}{row:Option Nat}(h:PB w g p a n c)(k:w.grownBy w' row)(hr:row≠some g):PB w' g p a n c:=(k.block g (block_lt h) (fun e=>hr e.symm)).trans h
theorem PB.cells{w:World}{g:Nat}{p:Pg}{a:Option Addr}{n c:Nat}(h:PB w g p a n c):w.cell? ⟨g,0,none⟩=some (.int .u8 p.tag)∧w.cell? ⟨g,1,none⟩=some (.slice a n c)∧w.cell? ⟨g,2,none⟩=some (.string (strOfNums p.data)):=by
 refine⟨?_,?_,?_⟩ <;> rw[cell_of_row w g _ _ _ _ h] <;> rfl
theorem PB.lt{w:World}{g:Nat}{p:Pg}{a:Option Addr}{n c:Nat}(h:PB w g p a n c):g<w.heap.size:=block_lt h
theorem bdk{l:List Int}(h:∀k∈l,0≤k∧k<4294967296)(k:Nat):0≤l.getD k 0∧l.getD k 0<4294967296:=by
 rw[List.getD_eq_getElem?_getD];by_cases hk:k<l.length
 ·rw[List.getElem?_eq_getElem hk];have:=h _ (List.getElem_mem hk);exact⟨this.1,by show l[k] < _;omega⟩
 ·rw[List.getElem?_eq_none (by omega)];decide
theorem QfW(N:Nat)(t g:Int)(d:List Int)(w:World)(ht:0≤t∧t<256)(hgn:0≤g∧g<18446744073709551616)(hd:IsB d) :
  Calls Tryz.prog 83 #[.int .i64 (N:Int),.agg #[.int .u8 t,.int .u64 g,.string (strOfNums d)]] w fun e w'=>e=strE (putF N (t,g,d))∧w.grownBy w' none:=by
 by_cases h:Fits N∧(d.length:Int)+16≤N
 ·have e:putF (N:Int) (t,g,d)=(blk N t g d,0):=by
   unfold putF;rw[if_neg (fun q=>q h.1),if_neg (by show ¬(N:Int)-16<(d.length:Int);omega)]
   rfl
  rw[e];exact Fr.Qu N t g d w ht hgn hd h.1 (by omega)
 ·refine Fr.Qb7 (N:Int) t g d w ?_;by_cases q:Fits N
  ·exact .inr ⟨q,by have:¬(d.length:Int)+16≤N:=fun z=>h ⟨q,z⟩;omega⟩
  ·exact .inl q
theorem QhS(N:Nat)(g:Int)(p:Pg)(a:Option Addr)(n c:Nat)(w:World)(ho:PgOk p)(hs:Ws.Seg w a n c p.kids)(hg:0≤g∧g<18446744073709551616)(hn:n≤65535)(hdl:p.data.length≤1000000000) :
  Calls Tryz.prog 42 #[.int .i64 (N:Int),.int .u64 g,.agg #[.int .u8 p.tag,.slice a n c,.string (strOfNums p.data)]] w fun e w'=>e=strE (putF N (p.tag,g,dataP p))∧w.grownBy w' none:=by
 obtain⟨i0,hi,hz0,hz1,hz2⟩:=info_parts QU;have HB0:Hid (PB (w.alloc (.cells (pgV p a n c) 41)) w.heap.size p a n c):=hid (heap_alloc_new w _);have HG0:=hid (Qb w (.cells (pgV p a n c) 41));obtain⟨W0,hW0⟩:∃X,w.alloc (.cells (pgV p a n c) 41)=X:=⟨_,rfl⟩;rw[hW0]at HB0 HG0;have HW0:=hid hW0;clear hW0;have hlen:=hs.len;have hcap:=hs.cap;have hle:=hs.le;unfold maxLen at hcap;have HL:=hid hlen;have HSEG:=hid hs;have HKS:=hid (bdk ho.kids);have HDB:Hid (IsB (dataP p)):=hid (Qcg p ho.data);have HDD:Hid (dataP p=putB 2 (n:Int)++(fours p.kids++p.data)):=hid (by rw[←hlen];rfl);have HFP:=hid (fun W=>QfW N p.tag g (dataP p) W ho.tag hg HDB.out);have HPB:=hid ho.data;have HFT:=hid (fun k (hk:k<n)=>QcL p.kids k (by rw[hlen];exact hk));have HTA:Hid (fours (p.kids.take n)=fours p.kids):=hid (by rw[List.take_of_length_le (by omega)]);have HBL:=hid (fun k (hk:k≤n)=>(by rw[List.length_append,Oct.Qe,Qau,List.length_take,hlen];omega:(putB 2 (n:Int)++fours (p.kids.take k)).length=2+4*k));have hmk:=QcT (2+4*n) (by omega);have HO0:=hid (Qdi W0 (2+4*n) (by omega));have HG1:=hid (Qa HG0.out (Qb W0 (.cells (room8 (2+4*n)) 5)));have HB1:=hid (HB0.out.old (Qb W0 (.cells (room8 (2+4*n)) 5)));obtain⟨W1,hW1⟩:∃X,W0.alloc (.cells (room8 (2+4*n)) 5)=X:=⟨_,rfl⟩;rw[hW1]at HO0 HG1 HB1;have HO1:Hid (W1.ownsRow (w.heap.size+1) 5 1 (.slice (some ⟨w.heap.size+1,0,none⟩) 0 (2+4*n)) 0 []):=hid (by
  have e:W0.heap.size=w.heap.size+1:=by rw[←HW0.out];simp
  have:=HO0.out;rw[e]at this;exact this)
 have HW1:=hid hW1;clear hW1;have hsz0:w.heap.size≤W0.heap.size:=HG0.out.size;have HP2:=hid (fun W=>Oct.Qu none 0 0 [] (n:Int) 2 W (Seg.nil W) (by omega) (by omega) (by decide) (by decide) (by decide));have e1:IntKind.u64.wrap (n:Int)=(n:Int):=by rw[IntKind.wrap_u64];omega
 have e2:IntKind.i64.wrap (4*(n:Int))=4*(n:Int):=IntWalk.i64_in _ (by omega);have e3:IntKind.i64.wrap (2+4*(n:Int))=2+4*(n:Int):=IntWalk.i64_in _ (by omega);have e4:((2+4*n:Nat):Int)=2+4*(n:Int):=by omega
 rw[e4]at hmk;clear e4;obtain⟨q0,q1,q2⟩:=HB0.out.cells;obtain⟨T,hT⟩:∃T,putF (N:Int) (p.tag,g,dataP p)=T:=⟨_,rfl⟩;rw[hT]at HFP ⊢;clear hT;obtain⟨D,hD⟩:∃D,dataP p=D:=⟨_,rfl⟩;rw[hD]at HFP HDB HDD;clear hD hs ho hg hlen;have hW0:w.alloc (.cells #[.int .u8 p.tag,.slice a n c,.string (strOfNums p.data)] 41)=W0:=HW0.out;have HW0:=hid hW0;clear hsz0 hW0;go_enter Tryz.func42,Tryz.ntmps42
 go_wp2_with fail
 rw[HW0.out,HW1.out];refine(HP2.out _).mono ?_;intro e w2 hnew;rw[List.nil_append]at hnew;obtain⟨g2,q,rfl,hf⟩:=hnew.value;obtain⟨hq2,ho2,hg2⟩:=hf.is;rw[Oct.Qe]at hq2;subst hq2;have HSeg:=hid (Seg.own ho2);have HO2:=hid (HO1.out.kept hg2 (.inr (fun e=>by cases e)));have HG2:=hid (Qa HG1.out hg2);have HB2:=hid (HB1.out.old hg2);have hbase:w.heap.size+1≤w2.heap.size:=HB2.out.lt;obtain⟨s0,s1,s2⟩:=HB2.out.cells;clear hnew hf ho2 hg2 HO0 HO1 HG1 HB1 HP2 HB0 HW0 HW1 hmk q0 q1 q2;dsimp only;go_wp2_with (at_builtin;refine QaT rfl (.tmp 17) (.tmp 22) 46 rfl (w.heap.size+1) 5 i0 Tryz.underlying46 hi hz0 hz1 hz2 (w.heap.size+1) 0 (2+4*n) [] rfl HO2.out (some ⟨g2,0,none⟩) 2 2 (putB 2 n) rfl HSeg.out (by omega) hbase ?_;intro g3 c3 w3 hown3 hgrow3;have HO3:=hid hown3;have HG3:=hid hgrow3;have HB3:=hid (HB2.out.keep hgrow3 (fun e=>by have:=Option.some.inj e;omega));obtain⟨u0,u1,u2⟩:=HB3.out.cells;clear hown3 hgrow3 s0 s1 s2)
 clear u0 u1 u2;have HG4:Hid (w.grownBy w3 none):=hid ⟨HG3.out.os.trans HG2.out.os,HG3.out.tape.trans HG2.out.tape,HG3.out.output.trans HG2.out.output,Nat.le_trans HG2.out.size HG3.out.size,fun i hi _=>(HG3.out.block i (Nat.lt_of_lt_of_le hi HG2.out.size) (fun e=>by have:=Option.some.inj e;omega)).trans (HG2.out.block i hi (by simp))⟩;have HO4:Hid (w3.ownsRow (w.heap.size+1) 5 1 (.slice (some ⟨g3,0,none⟩) (2+4*0) c3) (2+4*0) ((putB 2 (n:Int)++fours (p.kids.take 0)).map (Value.int .u8))):=hid (by
  have:=HO3.out;rw[List.nil_append,Nat.zero_add]at this;rw[List.take_zero]
  show w3.ownsRow _ _ _ _ _ ((putB 2 (n:Int)++[]).map _)
  rw[List.append_nil];exact this)
 clear HO3 HG3 HG2 HB2 HO2 HSeg hbase
 go_loopw [8,27] (fun s8 si wr=>∃(k g' c':Nat),k≤n∧si=.int .i64 k∧s8=.slice (some ⟨g',0,none⟩) (2+4*k) c'∧Hid (wr.ownsRow (w.heap.size+1) 5 1 (.slice (some ⟨g',0,none⟩) (2+4*k) c') (2+4*k) ((putB 2 (n:Int)++fours (p.kids.take k)).map (Value.int .u8)))∧Hid (w.grownBy wr none)∧Hid (PB wr w.heap.size p a n c)) (fun _ si _=>n-(intOf si).toNat)
 case atStart=>exact⟨0,g3,c3,by omega,rfl,rfl,HO4,HG4,HB3⟩
 case round=>
  clear HO4 HG4 HB3;obtain⟨k,g',c',hk,rfl,rfl,HO,HG,HB⟩:=hrel;by_cases hlt:k<n
  ·have hq:decide (k<n)=true:=decide_eq_true hlt;obtain⟨ga,oa,rfl,hc⟩:=(HSEG.out.grown HG.out).addr (by omega);have hck:=hc k hlt;have hp:=HKS.out k;have HF4:=hid (HFT.out k hlt);obtain⟨y,hy⟩:∃y,p.kids.getD k 0=y:=⟨_,rfl⟩;rw[hy]at hck hp HF4;have e5:IntKind.u64.wrap y=y:=by rw[IntKind.wrap_u64];omega
   have HP:=hid (Oct.Qu none 0 0 [] y 4 wr (Seg.nil wr) hp.1 (by omega) (by decide) (by decide) (by decide));rw[List.nil_append]at HP;have hk4:k<65535:=by omega
   clear hc hy hp;go_wp2_with fail
   refine HP.out.mono ?_;intro e w4 hnew;obtain⟨g2,q,rfl,hf⟩:=hnew.value;obtain⟨hq2,ho2,hg2⟩:=hf.is;rw[Oct.Qe]at hq2;subst hq2;have HSeg:=hid (Seg.own ho2);have HO2:=hid (HO.out.kept hg2 (.inr (fun e=>by cases e)));have HG2:=hid (Qa HG.out hg2);have HB2:=hid (HB.out.old hg2);have hbase:w.heap.size+1≤w4.heap.size:=HB2.out.lt;clear hnew hf ho2 hg2 HO HG HP HB hck;dsimp only;go_wp2_with (at_builtin;refine QaT rfl (.tmp 31) (.tmp 34) 46 rfl (w.heap.size+1) 5 i0 Tryz.underlying46 hi hz0 hz1 hz2 g' (2+4*k) c' ((putB 2 (n:Int)++fours (p.kids.take k)).map (Value.int .u8)) rfl HO2.out (some ⟨g2,0,none⟩) 4 4 (putB 4 y) rfl HSeg.out (by omega) hbase ?_;intro g3 c3 w5 hown3 hgrow3;have HO3:=hid hown3;have HG3:=hid hgrow3;clear hown3 hgrow3)
   have hge:w.heap.size+1≤g':=by
    rcases HO2.out.2 with ⟨e,_⟩|⟨g5,cap,cur,e,hb,_⟩
    ·cases e
    ·cases e;exact hb
   have HGN:Hid (w.grownBy w5 none):=hid ⟨HG3.out.os.trans HG2.out.os,HG3.out.tape.trans HG2.out.tape,HG3.out.output.trans HG2.out.output,Nat.le_trans HG2.out.size HG3.out.size,fun i hi _=>(HG3.out.block i (Nat.lt_of_lt_of_le hi HG2.out.size) (fun e=>by have:=Option.some.inj e;omega)).trans (HG2.out.block i hi (by simp))⟩;have HBN:Hid (PB w5 w.heap.size p (some ⟨ga,oa,none⟩) n c):=hid (HB2.out.keep HG3.out (fun e=>by have:=Option.some.inj e;omega));have HON:Hid (w5.ownsRow (w.heap.size+1) 5 1 (.slice (some ⟨g3,0,none⟩) (2+4*(k+1)) c3) (2+4*(k+1)) ((putB 2 (n:Int)++fours (p.kids.take (k+1))).map (Value.int .u8))):=hid (by
    rw[HF4.out,←List.append_assoc,List.map_append,show 2+4*(k+1)=2+4*k+4 by omega];exact HO3.out)
   clear hge;go_roundw
   case rel=>exact⟨k+1,g3,c3,by omega,by go_num,by rw[show 2+4*(k+1)=2+4*k+4 by omega],HON,HGN,HBN⟩
   case measure=>simp[intOf];omega
  ·have hq:decide (k<n)=false:=decide_eq_false hlt;obtain rfl:k=n:=by omega
   obtain⟨u0,u1,u2⟩:=HB.out.cells;have HBLN:Hid ((putB 2 (k:Int)++fours p.kids).length=2+4*k):=hid (by have:=HBL.out k (Nat.le_refl _);rw[HTA.out]at this;exact this);have hcv:=Qaw g' 0 (2+4*k) c' (putB 2 (k:Int)++fours p.kids) wr (by
    have h:=HO.out;rw[HTA.out]at h;exact Reg.own h) (by have:=HBL.out k (Nat.le_refl _);rw[HTA.out]at this;exact this)
   obtain⟨S,hS⟩:∃S,strOfNums (putB 2 (k:Int)++fours p.kids)=S:=⟨_,rfl⟩;rw[hS]at hcv;have HFW:=hid (HFP.out wr);have HDS:Hid (S++strOfNums p.data=strOfNums D):=hid (by rw[←hS,Qbl,HDD.out,List.append_assoc]);have hz:S.size+(strOfNums p.data).size≤9223372036854775807:=by
    rw[←hS,strOfNums_size,strOfNums_size,HBLN.out];omega
   obtain⟨U,hU⟩:∃U,strOfNums p.data=U:=⟨_,rfl⟩;rw[hU]at HDS hz u2;obtain⟨S2,hS2⟩:∃S2,S++U=S2:=⟨_,rfl⟩;rw[hS2]at HDS;rw[←HDS.out]at HFW;have hz2:¬S.size+U.size > 9223372036854775807:=by omega
   clear hS HO HFP HDS hU hz;go_wp2_with fail
   refine HFW.out.mono ?_;rintro e w6 ⟨rfl,hg6⟩;have HG6:=hid (Qa HG.out hg6);clear hg6;dsimp only[strE];go_wp2;go_ret2
   exact⟨rfl,HG6.out⟩
end Sp
namespace Sp
open Go.RowKit Bs Dv Gr
open Oct (putB ofB Rd)
open Su (fours QcG QdE chunks_len QM QaP Qcc Qac QbV QL QN)
def kidsX(K:Int)(D:List Int):Option (List Int):=
 if D.length<2∨(D.length:Int)<2+4*ofB (D.take 2) then none
 else if ∀y∈Su.chunks (ofB (D.take 2)).toNat (D.drop 2),2≤y∧y<K then some (Su.chunks (ofB (D.take 2)).toNat (D.drop 2)) else none
def tailX(D:List Int):List Int:=D.drop (2+4*(ofB (D.take 2)).toNat)
theorem Qhs(K:Nat)(b:List Int):pageF K b=if (Fr.getF b).2≠0∨(Fr.getF b).1.1<3 then none else(kidsX K (Fr.getF b).1.2.2).map fun ks=>⟨(Fr.getF b).1.1,ks,tailX (Fr.getF b).1.2.2⟩:=by
 unfold pageF kidsX tailX;by_cases h1:(Fr.getF b).2≠0∨(Fr.getF b).1.1<3
 ·rw[if_pos h1,if_pos (h1.elim .inl fun q=>.inr (.inl q))]
 ·rw[if_neg h1];by_cases h2:(Fr.getF b).1.2.2.length<2∨((Fr.getF b).1.2.2.length:Int)<2+4*ofB ((Fr.getF b).1.2.2.take 2)
  ·rw[if_pos (.inr (.inr h2)),if_pos h2]
   rfl
  ·rw[if_neg (fun q=>q.elim (fun z=>h1 (.inl z)) fun q=>q.elim (fun z=>h1 (.inr z)) h2),if_neg h2];by_cases h3:∀y∈Su.chunks (ofB ((Fr.getF b).1.2.2.take 2)).toNat ((Fr.getF b).1.2.2.drop 2),2≤y∧y<(K:Int)
   ·rw[if_pos h3,if_pos h3]
    rfl
   ·rw[if_neg h3,if_neg h3]
    rfl
def kidsT(D:List Int)(i:Nat):List Int:=Su.chunks i (D.drop 2)
theorem QdD:∀(i:Nat) (l:List Int),4*(i+1)≤l.length→Su.chunks (i+1) l=Su.chunks i l++[ofB ((l.drop (4*i)).take 4)]
 |0,l,h=>by
  rw[Su.chunks,Su.chunks,if_neg (by omega)]
  rfl
 |i+1,l,h=>by
  have e:l.drop (4*(i+1))=(l.drop 4).drop (4*i):=by rw[List.drop_drop,show 4+4*i=4*(i+1) by omega]
  rw[Su.chunks,if_neg (by omega),QdD i (l.drop 4) (by rw[List.length_drop];omega),e,Su.chunks.eq_2 l i,if_neg (by omega)]
  rfl
theorem Qcq:∀(i:Nat) (l:List Int),4*i≤l.length→(Su.chunks i l).length=i
 |0,_,_=>rfl
 |i+1,l,h=>by rw[Su.chunks,if_neg (by omega),List.length_cons,Qcq i (l.drop 4) (by rw[List.length_drop];omega)]
theorem Qej:∀(i j:Nat) (l:List Int),i≤j→4*j≤l.length→∀y∈Su.chunks i l,y∈Su.chunks j l
 |0,_,_,_,_,y,hy=>by cases hy
 |i+1,0,_,h,_,_,_=>by omega
 |i+1,j+1,l,h,hl,y,hy=>by
  rw[Su.chunks,if_neg (by omega)]at hy ⊢;rcases List.mem_cons.1 hy with rfl|hy
  ·exact List.mem_cons_self ..
  ·exact List.mem_cons_of_mem _ (Qej i j (l.drop 4) (by omega) (by rw[List.length_drop];omega) y hy)
theorem Qfe{D:List Int}{i:Nat}(h:2+4*(i+1)≤D.length):kidsT D (i+1)=kidsT D i++[ofB ((D.drop (2+4*i)).take 4)]:=by
 unfold kidsT;rw[QdD i _ (by rw[List.length_drop];omega),List.drop_drop]
theorem Qia{K:Int}{D:List Int}(h:D.length<2):kidsX K D=none:=if_pos (.inl h)
theorem Qi3{K:Int}{D:List Int}{n i:Nat}(hn:ofB (D.take 2)=n)(hi:i<n)(h:D.length<2+4*(i+1)):kidsX K D=none:=if_pos (.inr (by rw[hn];omega))
theorem Qkj{K:Int}{D:List Int}{n i:Nat}(hn:ofB (D.take 2)=n)(hi:i<n)(h:2+4*(i+1)≤D.length)(hb:¬(2≤ofB ((D.drop (2+4*i)).take 4)∧ofB ((D.drop (2+4*i)).take 4)<K)):kidsX K D=none:=by
 unfold kidsX;by_cases q:D.length<2∨(D.length:Int)<2+4*ofB (D.take 2)
 ·rw[if_pos q]
 ·rw[if_neg q,if_neg fun z=>hb ?_];have hlen:2+4*n≤D.length:=by rw[hn]at q;omega
  refine z _ ?_;rw[hn,Int.toNat_natCast];refine Qej (i+1) n _ (by omega) (by rw[List.length_drop];omega) _ ?_;have:=Qfe h;unfold kidsT at this;rw[this];exact List.mem_append_right _ (List.mem_singleton.2 rfl)
theorem Qkk{K:Int}{D:List Int}{n:Nat}(hn:ofB (D.take 2)=n)(h:2+4*n≤D.length)(ha:∀y∈kidsT D n,2≤y∧y<K):kidsX K D=some (kidsT D n)∧tailX D=D.drop (2+4*n):=by
 unfold kidsT at ha ⊢;unfold kidsX tailX;rw[hn,Int.toNat_natCast,if_neg (by omega),if_pos ha];exact⟨rfl,rfl⟩
theorem Qfg{K:Int}{D ks:List Int}(h:kidsX K D=some ks):(∀y∈ks,2≤y∧y<K)∧tailX D=D.drop (2+4*ks.length)∧2+4*ks.length≤D.length:=by
 unfold kidsX at h;by_cases q:D.length<2∨(D.length:Int)<2+4*ofB (D.take 2)
 ·rw[if_pos q]at h;cases h
 ·rw[if_neg q]at h;by_cases z:∀y∈Su.chunks (ofB (D.take 2)).toNat (D.drop 2),2≤y∧y<K
  ·rw[if_pos z]at h;cases h
   have hs:=Qcq (ofB (D.take 2)).toNat (D.drop 2) (by rw[List.length_drop];omega);rw[hs];exact⟨z,rfl,by omega⟩
  ·rw[if_neg z]at h;cases h
def KidsX(b g:Nat)(K:Int)(D:List Int)(w:World)(e:Ending)(w':World):Prop:=
 Turn w w' (·=b)∧((kidsX K D=none∧e=.returned (.tuple #[.slice none 0 0,.bool false])) ∨
  ∃ks a c,kidsX K D=some ks∧e=.returned (.tuple #[.slice a ks.length c,.bool true])∧Ws.Seg w' a ks.length c ks∧(∀ad,a=some ad→w.heap.size≤ad.block)∧Rd w' b g (tailX D))
theorem Qgz(b g:Nat)(K:Nat)(D:List Int)(w:World)(h:Rd w b g D)(hb:IsB D)(hl:D.length≤1000000)(hK:K≤4096)(hblt:b<w.heap.size)(hglt:g<w.heap.size) :
  Calls Tryz.prog 134 #[.pointer (some ⟨b,0,none⟩),.int .u64 (K:Int)] w (KidsX b g K D w):=by
 obtain⟨i0,hi,hz0,hz1,hz2⟩:=info_parts Ws.Qbp;by_cases h2:D.length<2
 ·have HN:=hid (Oct.Qbz b g D 2 w h (by decide) (by decide) (by omega));have HX:Hid (kidsX K D=none):=hid (Qia h2);clear h h2 hb hl;go_enter Tryz.func134,Tryz.ntmps134
  go_wp2_with fail
  refine HN.out.mono ?_;rintro e w' ⟨rfl,rfl⟩;dsimp only;go_wp2;go_ret2
  exact⟨Turn.refl _ _,.inl ⟨HX.out,rfl⟩⟩
 ·have HN:=hid (Oct.QbO b g D 2 w h hb (by decide) (by decide) (by omega));have hbd:=Oct.Qv (D.take 2) (fun x hx=>hb x (List.mem_of_mem_take hx));have hl2:(D.take 2).length=2:=by rw[List.length_take];omega
  rw[hl2]at hbd;rw[show(256:Int) ^ 2=65536 from by decide]at hbd;obtain⟨n,hn⟩:∃n:Nat,ofB (D.take 2)=n:=⟨(ofB (D.take 2)).toNat,by omega⟩;rw[hn]at HN hbd;have hn6:n<65536:=by omega
  have HNN:=hid hn;have HBR:=hid hb;have HLD:Hid (2≤D.length∧D.length≤1000000):=hid ⟨by omega,hl⟩;clear h h2 hb hl hbd hl2 hn;go_enter Tryz.func134,Tryz.ntmps134
  go_wp2_with fail
  refine HN.out.mono ?_;rintro e w1 ⟨rfl,hg1,hr1⟩;have HT1:=hid (QN hg1);have HR1:=hid hr1;clear hg1 hr1 HN;dsimp only;go_wp2;have HL1:Hid (w.heap.size≤w1.heap.size):=hid HT1.out.size
  go_loopw [8,19] (fun s8 si wr=>∃(k:Nat) (a:Option Addr) (c:Nat),k≤n∧si=.int .u64 k∧s8=.slice a k c∧Hid (wr.ownsRow w.heap.size 30 1 (.slice a k c) k ((kidsT D k).map (Value.int .u32)))∧Hid (Turn w wr (·=b))∧Hid (Rd wr b g (D.drop (2+4*k)))∧Hid (2+4*k≤D.length)∧Hid (∀y∈kidsT D k,2≤y∧y<(K:Int))) (fun _ si _=>n-(intOf si).toNat)
  case atStart=>exact⟨0,none,0,Nat.zero_le _,rfl,rfl,hid ⟨rfl,.inl ⟨rfl,rfl⟩⟩,HT1,HR1,hid HLD.out.1,hid (fun y hy=>by cases hy)⟩
  case round=>
   clear HT1 HR1 HL1;obtain⟨k,a,c,hk,rfl,rfl,HO,HT,HR,HD,HA⟩:=hrel;by_cases hlt:k<n
   ·have hq:decide (k<n)=true:=decide_eq_true hlt;by_cases h4:2+4*(k+1)≤D.length
    ·have HNU:=hid (Oct.QbO b g _ 4 wr HR.out (fun y hy=>HBR.out y (List.mem_of_mem_drop hy)) (by decide) (by decide) (by rw[List.length_drop];omega));have hxb:=Oct.Qv ((D.drop (2+4*k)).take 4) (fun y hy=>HBR.out y (List.mem_of_mem_drop (List.mem_of_mem_take hy)));have hx4:((D.drop (2+4*k)).take 4).length=4:=by rw[List.length_take,List.length_drop];omega
     rw[hx4]at hxb;have HMO:=hid (Qfe h4);have HBD:=hid (fun q=>Qkj (K:=(K:Int)) HNN.out hlt h4 q);have HDD:Hid ((D.drop (2+4*k)).drop 4=D.drop (2+4*(k+1))):=hid (by rw[List.drop_drop,show 2+4*k+4=2+4*(k+1) by omega]);obtain⟨y,hy⟩:∃y,ofB ((D.drop (2+4*k)).take 4)=y:=⟨_,rfl⟩;rw[hy]at HNU HMO hxb HBD;rw[show(256:Int) ^ 4=4294967296 from by decide]at hxb;have HD4:=hid h4;clear hx4 h4 hy HD;by_cases y2:y<2
     ·have q2:decide (y<2)=true:=decide_eq_true y2;have HX:Hid (kidsX K D=none):=hid (HBD.out (fun q=>by omega));clear y2 hxb HBD HMO;go_wp2_with fail
      refine HNU.out.mono ?_;rintro e w2 ⟨rfl,hg2,hr2⟩;have HT2:=hid (HT.out.trans (QN hg2) (fun _ _ e=>e));clear hg2 hr2 HNU;dsimp only;go_wp2;go_ret2
      exact⟨HT2.out,.inl ⟨HX.out,rfl⟩⟩
     ·have q2:decide (y<2)=false:=decide_eq_false y2;by_cases y3:(K:Int)≤y
      ·have q3:decide ((K:Int)≤y)=true:=decide_eq_true y3;have HX:Hid (kidsX K D=none):=hid (HBD.out (fun q=>by omega));clear y2 y3 hxb HBD HMO;go_wp2_with fail
       refine HNU.out.mono ?_;rintro e w2 ⟨rfl,hg2,hr2⟩;have HT2:=hid (HT.out.trans (QN hg2) (fun _ _ e=>e));clear hg2 hr2 HNU;dsimp only;go_wp2;go_ret2
       exact⟨HT2.out,.inl ⟨HX.out,rfl⟩⟩
      ·have q3:decide ((K:Int)≤y)=false:=decide_eq_false y3;have e2:IntKind.u32.wrap y=y:=by rw[IntKind.wrap_u32];omega
       have HY:Hid (2≤y∧y<(K:Int)):=hid ⟨by omega,by omega⟩;clear y2 y3 hxb HBD;go_wp2_with fail
       refine HNU.out.mono ?_;rintro e w2 ⟨rfl,hg2,hr2⟩;have HTS:=hid (QN hg2);have HT2:=hid (HT.out.trans HTS.out (fun _ _ e=>e));have HR2:Hid (Rd w2 b g (D.drop (2+4*(k+1)))):=hid (by rw[←HDD.out];exact hr2);have HO1:=hid (QM HO.out HTS.out (fun i h e=>by omega));have hl2:w.heap.size≤w2.heap.size:=HT2.out.size;clear hg2 hr2 HNU HO HR HDD HTS HT;dsimp only;go_wp2_with (first
        |(at_builtin;refine wpList_append_own _ rfl (.tmp 37) (.tmp 40) 39 rfl w.heap.size 30 i0 (.int .u32 0) 1 4 Tryz.underlying39 hi hz0 hz1 hz2 rfl (by decide) (.slice a k c) k _ rfl (HO1.out.alloc _) ⟨w2.heap.size,0,none⟩ 1 1 [.int .u32 y] rfl rfl (by intro t u ht;match t,ht with|0,ht=>simp at ht;subst ht;exact Qac w2 _ _) (by intro u hu;simp at hu;subst hu;rfl) (by unfold maxLen;omega) (by omega) (by simp only[World.size_alloc];omega) ?_;intro v' w4' hown hgr _;obtain⟨g',c',rfl⟩:=QL hown (by omega);have HTA:=hid ((Turn.alloc w2 (.cells #[.int .u32 y] 30) (fun i=>w.heap.size≤i)).trans (Turn.Qf hgr (fun i e _=>((HO1.out.alloc (.cells #[.int .u32 y] 30)).lt i (by first|exact e|(rw[←e]))).1)) (fun _ _ h=>h));have HOW:=hid hown;clear hown hgr)
        |fail)
       have HO3:Hid (w4'.ownsRow w.heap.size 30 1 (.slice (some ⟨g',0,none⟩) (k+1) c') (k+1) ((kidsT D (k+1)).map (Value.int .u32))):=hid (by rw[HMO.out,List.map_append];exact HOW.out);have HT3:Hid (Turn w w4' (·=b)):=hid (HT2.out.trans HTA.out (fun i h e=>by have e2:w.heap.size≤i:=e;omega));have HR3:=hid (QbV HR2.out HTA.out (by omega) (by omega));have HA3:Hid (∀z∈kidsT D (k+1),2≤z∧z<(K:Int)):=hid (fun z hz=>by
        rw[HMO.out]at hz;rcases List.mem_append.1 hz with q|q
        ·exact HA.out z q
        ·rw[List.mem_singleton.1 q];exact HY.out)
       have e3:IntKind.u64.wrap ((k:Int)+1)=(k:Int)+1:=by rw[IntKind.wrap_u64];omega
       go_roundw
       case rel=>exact⟨k+1,_,c',by omega,by go_num,rfl,HO3,HT3,HR3,HD4,HA3⟩
       case measure=>simp[intOf];omega
    ·have HNU:=hid (Oct.Qbz b g _ 4 wr HR.out (by decide) (by decide) (by rw[List.length_drop];omega));have HX:Hid (kidsX K D=none):=hid (Qi3 HNN.out hlt (by omega));clear h4;go_wp2_with fail
     refine HNU.out.mono ?_;rintro e w2 ⟨rfl,rfl⟩;dsimp only;go_wp2;go_ret2
     exact⟨HT.out,.inl ⟨HX.out,rfl⟩⟩
   ·have hq:decide (k<n)=false:=decide_eq_false hlt;obtain rfl:k=n:=by omega
    have HE:=hid (Qkk HNN.out HD.out HA.out);have HLN:Hid ((kidsT D k).length=k):=hid (Qcq k _ (by rw[List.length_drop];have:=HD.out;omega));go_wp2;go_ret2
    refine⟨HT.out,.inr ⟨kidsT D k,a,c,HE.out.1,by rw[HLN.out];rfl,by rw[HLN.out];exact Qcc HO.out,fun ad had=>?_,by rw[HE.out.2];exact HR.out⟩⟩;obtain⟨a2,c2,e2,h3⟩:=QaP HO.out;cases e2
    exact h3 ad had
end Sp
namespace Sp
open Go.RowKit Bs Dv Gr
open Oct (putB ofB Rd)
open Fr (getF fmE fmV Qdb Fm FmOk)
def zeroPg:Array Value:=#[.int .u8 0,.slice none 0 0,.string ⟨#[]⟩]
theorem Qdd:(Tryz.prog.info? 41).map (·.size)=some 3:=by kernel_rfl
theorem QD{fn:Func}{p u:Tmp}(h:fn.results=#[.cell p 41,.tmp u])(tmps:Array Value)(w:World)(g:Nat)(x y z v:Value)(hp:tmps.getD p undef=.pointer (some ⟨g,0,none⟩))
  (hg:w.heap[g]?=some (.cells #[x,y,z] 41 (0,0))) (hv:tmps.getD u undef=v):(results fn tmps).run Tryz.prog w=.ok (.tuple #[.agg #[x,y,z],v]) w:=by
 rw[←hv];exact QZ h tmps w g _ _ _ _ hp hg Tryz.underlying41 rfl Qdd
theorem Qt{w:World}{ops:Array Oper}{rest:List Oper}{o:Oper}{a:Act}{Q:Exit→Act→World→Prop}(hgd:o.guard=none)(x y:Operand)(ho:o.op=.store 41 x y)
  (g:Nat) (hx:a.eval x=.pointer (some ⟨g,0,none⟩)) (v0 v1 v2:Value) (hy:a.eval y=.agg #[v0,v1,v2]) (h0:v0.oneCell'=true) (h1:v1.oneCell'=true) (h2:v2.oneCell'=true)
  (o1 o2 o3:Value) (hg:w.heap[g]?=some (.cells #[o1,o2,o3] 41 (0,0)))
  (h:∀w',w'.heap[g]?=some (.cells #[v0,v1,v2] 41 (0,0))→Turn w w' (·=g)→wpList Tryz.prog ops Q rest (a.put o.dst undef) w'):wpList Tryz.prog ops Q (o :: rest) a w:=by
 refine wpList_store_row hgd _ x y ho g _ hx hy _ _ hg Qdd rfl (by simp[h0,h1,h2]) ?_;exact h _ (setRow_heap w g _ _ _ _ hg) ⟨rfl,rfl,rfl,by simp[World.setRow],fun k _ hk=>setRow_other w g k _ hk⟩
def DecX(K:Nat)(B:List Int)(w:World)(e:Ending)(w':World):Prop:=
 w.grownBy w' none∧((pageF K B=none∧e=.returned (.tuple #[.agg zeroPg,.bool false])) ∨
  ∃p a c,pageF K B=some p∧e=.returned (.tuple #[.agg (pgV p a p.kids.length c),.bool true])∧Ws.Seg w' a p.kids.length c p.kids∧∀ad,a=some ad→w.heap.size≤ad.block)
theorem QhQ(K:Nat)(B:List Int)(w:World)(hB:IsB B)(hlen:B.length≤1000000)(hK:K≤4096) :
  Calls Tryz.prog 112 #[.string (strOfNums B),.int .i64 (K:Int)] w (DecX K B w):=by
 have HC0:=hid (heap_alloc_new w (.cells #[.int .u8 0,.slice none 0 0,.string ⟨#[]⟩] 41));have HG0:=hid (Qb w (.cells #[.int .u8 0,.slice none 0 0,.string ⟨#[]⟩] 41));obtain⟨W0,hW0⟩:∃X,w.alloc (.cells #[.int .u8 0,.slice none 0 0,.string ⟨#[]⟩] 41)=X:=⟨_,rfl⟩;rw[hW0]at HC0 HG0;have HW0:=hid hW0;have HK:=hid (Fr.Q9 B W0 hB hlen);have HP:=hid (Qhs K B);have HKO:Hid (FmOk (getF B).1):=hid (Qdb B hB);have HDL:Hid ((getF B).1.2.2.length≤1000000):=hid (by
  by_cases h:(getF B).2=0
  ·have h1:=Fr.Qhu B hB h;have h2:=(Fr.get_put (B.length:Int) (getF B).1 (Qdb B hB) (by rw[h1])).2.2.2.1;omega
  ·rw[Fr.Qlw B h];exact Nat.zero_le _)
 obtain⟨⟨⟨t,g,D⟩,E⟩,hk⟩:∃r,getF B=r:=⟨_,rfl⟩;rw[hk]at HK HP HKO HDL;dsimp only at HP;obtain⟨S0,hS0⟩:∃S,strOfNums B=S:=⟨_,rfl⟩;rw[hS0]at HK ⊢;have HW:Hid (w.heap.size<W0.heap.size):=hid (block_lt HC0.out);obtain⟨R,hR⟩:∃R,pageF K B=R:=⟨_,rfl⟩;rw[hR]at HP;have HR:=hid hR;clear hB hlen hW0 hk hS0 hR;go_enter Tryz.func112,Tryz.ntmps112
 go_wp2_with fail
 rw[HW0.out];refine HK.out.mono ?_;rintro e w1 ⟨rfl,hg⟩;have hg1:=Qa hg (Qb w1 (.cells #[.int .u8 t,.int .u64 g,.string (strOfNums D)] 132));have HG1:=hid (Qa HG0.out hg1);have HC1:=hid (Qd HC0.out hg1);have HF1:=hid (heap_alloc_new w1 (.cells #[.int .u8 t,.int .u64 g,.string (strOfNums D)] 132));have HW1:Hid (w.heap.size<w1.heap.size):=hid (by have:=hg.size;have:=HW.out;omega);simp only[fmE,fmV];obtain⟨S,hS⟩:∃S,strOfNums D=S:=⟨_,rfl⟩;rw[hS]at HF1 HG1 HC1 ⊢;obtain⟨W1,hW1⟩:∃X,w1.alloc (.cells #[.int .u8 t,.int .u64 g,.string S] 132)=X:=⟨_,rfl⟩;rw[hW1]at HG1 HC1 HF1;have HSD:=hid hS;have HWE:=hid hW1;clear hg hg1 HG0 HC0 HK HW hS hW1 HW0;go_upto_region 2 with fail
 rw[HWE.out];have f0:W1.cell? ⟨w1.heap.size,0,none⟩=some (.int .u8 t):=by rw[cell_of_row _ _ _ _ _ _ HF1.out];rfl
 have f2:W1.cell? ⟨w1.heap.size,2,none⟩=some (.string S):=by rw[cell_of_row _ _ _ _ _ _ HF1.out];rfl
 clear HWE
 -- no page: the error,the tag
 by_cases h0:E=0
 ·by_cases h3:t<3
  ·have hR:R=none:=by rw[HP.out,if_pos (.inr h3)]
   subst hR;have q0:(E != 0)=false:=by rw[h0];rfl
   have q1:decide (t<3)=true:=decide_eq_true h3;clear h0 h3 HP;go_wp2_with (first
    |(with_reducible refine Qt rfl (.tmp 4) (.tmp 23) rfl w.heap.size rfl (.int .u8 0) (.slice none 0 0) (.string ⟨#[]⟩) rfl rfl rfl rfl _ _ _ HC1.out ?_;intro w6 hq6 ht6)
    |fail)
   exact bodyPost_ret (QD rfl _ _ _ _ _ _ (.bool false) rfl hq6 rfl) rfl ⟨Qh HG1.out ht6 (Nat.le_refl _),.inl ⟨HR.out,rfl⟩⟩
  ·have q0:(E != 0)=false:=by rw[h0];rfl
   have q1:decide (t<3)=false:=decide_eq_false h3;have HP2:Hid (R=(kidsX K D).map fun ks=>⟨t,ks,tailX D⟩):=hid (by rw[HP.out,if_neg (fun q=>q.elim (fun z=>z h0) h3)]);have HDB:Hid (IsB D):=hid HKO.out.2.2;obtain⟨cb,W2,hcv,hreg,htw,hle2,hcm⟩:=Qbj D HDB.out (by have:=HDL.out;omega) W1;rw[HSD.out]at hcv;have HG2:=hid (Qa HG1.out htw.grown);have HC2:=hid (Qd HC1.out htw.grown);have HF2:=hid (Qd HF1.out htw.grown);have HNR:=hid (Oct.Qcz (some ⟨W1.heap.size,0,none⟩) D.length cb D W2 (hreg.seg hle2 hcm) (by have:=HDL.out;omega));have HSZ:Hid (S.size=D.length):=hid (by rw[←HSD.out];exact strOfNums_size D);obtain⟨m,hm⟩:∃m,D.length=m:=⟨_,rfl⟩;rw[hm]at hcv HNR HSZ HDL;have HM:=hid hm;clear h0 h3 HP hreg htw hle2 hcm hm HKO;go_upto_region 5 with (first|(go_at_call 133;refine HNR.out.mono ?_;rintro e w3 ⟨rb,rg,rfl,hn1,hn2,hn3,hn4,hrd,hg3⟩;have HRD:=hid hrd;have HG3:=hid (Qa HG2.out hg3);have HC3:=hid (Qd HC2.out hg3);have HF3:=hid (Qd HF2.out hg3);have HNB:=hid hn1;have HLT:=hid (And.intro hn3 hn4);have HW2:Hid (w1.heap.size<W2.heap.size):=hid (block_lt HF2.out);clear hrd hg3 hn1 hn2 hn3 hn4 hcv)|fail)
   have w1':IntKind.u64.wrap (K:Int)=(K:Int):=by rw[IntKind.wrap_u64];omega
   have HRK:=hid (Qgz rb rg K D w3 HRD.out HDB.out (by rw[HM.out];exact HDL.out) hK HLT.out.1 HLT.out.2);go_wp2_with fail
   refine HRK.out.mono ?_;rintro e w4 ⟨ht4,hx⟩;have HT4:=hid ht4;have HN0:Hid (w.heap.size<rb∧w1.heap.size≠rb):=hid (by have:=HG2.out.size;have:=HNB.out;have:=HW2.out;have:=HW1.out;omega);have HG4:Hid (w.grownBy w4 none):=hid (Qh HG3.out ht4 (by have:=HN0.out.1;omega));have HC4:=hid (Fr.Qg HC3.out ht4 (by have:=HN0.out.1;omega));have HF4:=hid (Fr.Qg HF3.out ht4 HN0.out.2);rcases hx with ⟨hno,rfl⟩|⟨ks,a,c,hks,rfl,hseg,hnew,hrd⟩
   ·have hR:R=none:=by rw[HP2.out,hno];rfl
    subst hR;clear hno HP2 ht4 HRK;dsimp only;go_wp2_with (first
     |(with_reducible refine Qt rfl (.tmp 4) (.tmp 37) rfl w.heap.size rfl (.int .u8 0) (.slice none 0 0) (.string ⟨#[]⟩) rfl rfl rfl rfl _ _ _ HC4.out ?_;intro w6 hq6 ht6)
     |fail)
    exact bodyPost_ret (QD rfl _ _ _ _ _ _ (.bool false) rfl hq6 rfl) rfl ⟨Qh HG4.out ht6 (Nat.le_refl _),.inl ⟨HR.out,rfl⟩⟩
   ·have HR2:Hid (R=some ⟨t,ks,tailX D⟩):=hid (by rw[HP2.out,hks];rfl);obtain⟨hka,htl,hle⟩:=Qfg hks;have HLF:Hid (Calls Tryz.prog 135 #[.pointer (some ⟨rb,0,none⟩)] w4.drew fun e w'=>e=.returned (.int .i64 ((tailX D).length:Int))∧w'=w4.drew):=hid ((Oct.Qgd rb rg (tailX D) w4.drew (Su.QbV hrd (Turn.drew w4 nowhere) id id)).mono fun e w' h=>⟨h.1,h.2.symm⟩);have HSG:=hid hseg;have HNR2:Hid (∀ad,a=some ad→w.heap.size<ad.block):=hid (fun ad had=>by have:=hnew ad had;have:=HLT.out.1;have:=HN0.out.1;omega);have HNW:Hid (∀ad,a=some ad→w.heap.size≤ad.block):=hid (fun ad had=>by have:=hnew ad had;have:=HG3.out.size;omega);have hq:(tailX D).length=m-(2+4*ks.length):=by rw[htl,List.length_drop,HM.out]
    have hqm:2+4*ks.length≤m:=by rw[←HM.out];exact hle
    have HEX:Hid (S.extract (2+4*ks.length) S.size=strOfNums (tailX D)):=hid (by rw[HSZ.out,←HSD.out,QdL,htl];congr 1;rw[List.take_of_length_le];rw[List.length_drop,HM.out];exact Nat.le_refl _);obtain⟨T,hT⟩:∃T,strOfNums (tailX D)=T:=⟨_,rfl⟩;rw[hT]at HEX;obtain⟨l,hl⟩:∃l,(tailX D).length=l:=⟨_,rfl⟩;rw[hl]at HLF hq;obtain⟨q,hq2⟩:∃q,2+4*ks.length=q:=⟨_,rfl⟩;rw[hq2]at HEX hq hqm;have HSZ2:=hid HSZ.out;have e1:(m:Int)-(l:Int)=(q:Int):=by omega
    have hm9:m≤1000000:=HDL.out;have e2:IntKind.i64.wrap (q:Int)=(q:Int):=IntWalk.i64_in _ (by omega);have HT:=hid hT;have HQ:=hid hqm;obtain⟨n,hn⟩:∃n,ks.length=n:=⟨_,rfl⟩;have f0:w4.cell? ⟨w1.heap.size,0,none⟩=some (.int .u8 t):=by rw[cell_of_row _ _ _ _ _ _ HF4.out];rfl
    have f2:w4.cell? ⟨w1.heap.size,2,none⟩=some (.string S):=by rw[cell_of_row _ _ _ _ _ _ HF4.out];rfl
    rw[hn];have HN:=hid hn;clear hka htl hle hseg hnew hrd hks HP2 hq hT hl hq2 hn hm9 ht4 HRK hqm;dsimp only;go_upto_region 8 with fail
    have hsz:S.size=m:=HSZ.out;have hqm:q≤m:=HQ.out;have hex:S.extract q m=T:=by rw[←hsz];exact HEX.out
    refine wp_region_still_tail 13 (by kernel_rfl) (by kernel_rfl) ?_
    change wpStill _ _ w4.drew _ _ _
    simp only[List.take_succ_cons,List.take_zero,List.drop_succ_cons,List.drop_zero]
    still_step
    still_step
    still_step
    still_step
    still_step
    still_step
    still_step
    still_step
    still_step
    still_call HLF.out
    still_step
    still_step
    still_step
    refine wpStill_nil ?_
    change wpList _ _ _ _ _ w4.drew
    have hc4:w4.drew.heap[w.heap.size]?=some (.cells #[.int .u8 0,.slice none 0 0,.string ⟨#[]⟩] 41 (0,0)):=HC4.out;refine Qt rfl (.tmp 4) (.tmp 50) rfl w.heap.size rfl (.int .u8 t) (.slice a n c) (.string T) rfl rfl rfl rfl _ _ _ hc4 ?_;intro w6 hq6 ht6;have HX:Hid (DecX K B w (.returned (.tuple #[.agg #[.int .u8 t,.slice a n c,.string T],.bool true])) w6):=hid (by
     have ht7:Turn w4 w6 (·=w.heap.size):=(Turn.drew w4 _).trans ht6 (fun _ _ h=>h);refine⟨Qh HG4.out ht7 (Nat.le_refl _),.inr ⟨⟨t,ks,tailX D⟩,a,c,by rw[←HR2.out];exact HR.out,by show _=Ending.returned (.tuple #[.agg #[.int .u8 t,.slice a ks.length c,.string (strOfNums (tailX D))],.bool true]);rw[HN.out,HT.out],?_,HNW.out⟩⟩;refine Qp HSG.out ht7 (fun ad had e=>?_);have h1:=HNR2.out ad had;have e2:ad.block=w.heap.size:=e;omega)
    go_wp2;exact bodyPost_ret (QD rfl _ _ _ _ _ _ (.bool true) rfl hq6 rfl) rfl HX.out
 ·have hR:R=none:=by rw[HP.out,if_pos (.inl h0)]
  subst hR;have q0:(E != 0)=true:=bne_iff_ne.2 h0;clear h0 HP;go_wp2_with (first
   |(with_reducible refine Qt rfl (.tmp 4) (.tmp 23) rfl w.heap.size rfl (.int .u8 0) (.slice none 0 0) (.string ⟨#[]⟩) rfl rfl rfl rfl _ _ _ HC1.out ?_;intro w6 hq6 ht6)
   |fail)
  exact bodyPost_ret (QD rfl _ _ _ _ _ _ (.bool false) rfl hq6 rfl) rfl ⟨Qh HG1.out ht6 (Nat.le_refl _),.inl ⟨HR.out,rfl⟩⟩
end Sp
namespace Sp
open Go.RowKit Bs Dv Gr
open Cn (CN CC CnOk IsC)
open Su (Sup SupOk)
theorem Qar{w:World}{ops:Array Oper}{rest:List Oper}{o:Oper}{a:Act}{Q:Exit→Act→World→Prop}(hgd:o.guard=none)(x:Operand)(ho:o.op=.load 41 x)
  (g:Nat) (hx:a.eval x=.pointer (some ⟨g,0,none⟩)) (o1 o2 o3:Value) (hg:w.heap[g]?=some (.cells #[o1,o2,o3] 41 (0,0)))
  (h:wpList Tryz.prog ops Q rest (a.put o.dst (.agg #[o1,o2,o3])) w):wpList Tryz.prog ops Q (o :: rest) a w:=
 wpList_load_row hgd _ x ho g hx _ _ _ _ hg Tryz.underlying41 rfl Qdd h
def getErr(s:SpS)(n:Nat):Int:=if useE s n≠0 then useE s n else if pageF s.dv.blocks (s.dv.last n)=none then 10 else 0
theorem QeF{s:SpS}{n:Nat}(h:useE s n=0):2≤n∧n<s.dv.blocks∧(n:Int)∉s.sup.pages∧s.now.getD n 0≠0:=by
 unfold useE at h;by_cases h1:accE s n=0
 ·rw[if_neg (fun q=>q h1)]at h;have h2:s.now.getD n 0≠0:=fun q=>by rw[if_pos q]at h;cases h
  unfold accE at h1;by_cases h3:n<2∨s.dv.blocks≤n
  ·rw[if_pos h3]at h1;cases h1
  ·rw[if_neg h3]at h1;have h4:(n:Int)∉s.sup.pages:=fun q=>by rw[if_pos q]at h1;cases h1
   exact⟨by omega,by omega,h4,h2⟩
 ·rw[if_pos h1]at h;exact absurd h h1
def GetX(s:SpS)(n:Nat)(w:World)(e:Ending)(w':World):Prop:=
 w.grownBy w' none∧((getErr s n≠0∧e=.returned (.tuple #[.agg zeroPg,.int .i64 (getErr s n)])) ∨
  ∃p a c,getErr s n=0∧pageF s.dv.blocks (s.dv.last n)=some p∧e=.returned (.tuple #[.agg (pgV p a p.kids.length c),.int .i64 0])∧Ws.Seg w' a p.kids.length c p.kids∧∀ad,a=some ad→w.heap.size≤ad.block)
section
variable {w0 w : World} {x : Nm} {s : SpS}
theorem SpM.Qbq(h:SpM w0 w x s)(hp:s.sup.pages.length≤100000):x.np≤100000:=by rw[←h.pages.len];exact hp
theorem Q9(h:SpM w0 w x s)(n:Nat)(hn:n<4294967296)(hp:s.sup.pages.length≤100000) :
  Calls Tryz.prog 80 #[.pointer (some ⟨x.sg,0,none⟩),.int .u32 (n:Int)] w (GetX s n w):=by
 have HC0:=hid (heap_alloc_new w (.cells #[.int .u8 0,.slice none 0 0,.string ⟨#[]⟩] 41));have HG0:=hid (Qb w (.cells #[.int .u8 0,.slice none 0 0,.string ⟨#[]⟩] 41));obtain⟨W0,hW0⟩:∃X,w.alloc (.cells #[.int .u8 0,.slice none 0 0,.string ⟨#[]⟩] 41)=X:=⟨_,rfl⟩;rw[hW0]at HC0 HG0;have HW0:=hid hW0;have HM:=hid (h.go HG0.out);have HU:=hid (Qa5 HM.out n hn (h.Qbq hp));have HE:Hid (getErr s n=if useE s n≠0 then useE s n else if pageF s.dv.blocks (s.dv.last n)=none then 10 else 0):=hid rfl;have HUO:=hid (fun q=>QeF (s:=s) (n:=n) q);obtain⟨E,hE⟩:∃E,getErr s n=E:=⟨_,rfl⟩;obtain⟨U,hU⟩:∃U,useE s n=U:=⟨_,rfl⟩;rw[hU]at HU HE HUO;rw[hE]at HE;have HEE:=hid hE;obtain⟨sg,e1⟩:∃q,x.sg=q:=⟨_,rfl⟩;rw[e1]at HU ⊢;have HSG:=hid e1;clear hE hU e1 hW0 hp;go_enter Tryz.func80,Tryz.ntmps80
 go_wp2_with fail
 rw[HW0.out];refine HU.out.mono ?_;rintro e w1 ⟨rfl,rfl⟩;dsimp only;by_cases h0:U=0
 ·have q0:(U != 0)=false:=by rw[h0];rfl
  obtain⟨h2,hlt,hnp,hpos⟩:=HUO.out h0;have HRD:=hid (Dv.QcY x.g x.b x.P s.dv n W0 HM.out.dev.dev hlt);have HLB:Hid (IsB (s.dv.last n)∧(s.dv.last n).length≤1000000):=hid (by
   have h1:=HM.out.dev.dev.ok.last hlt;have h3:=HM.out.dev.dev.ok.hi;exact⟨h1.2,by omega⟩)
  have HE2:Hid (E=if pageF s.dv.blocks (s.dv.last n)=none then 10 else 0):=hid (by rw[HE.out,if_neg (fun q=>q h0)]);have c0:=HM.out.cells.1;rw[HSG.out]at c0;have w1:IntKind.i64.wrap (n:Int)=(n:Int):=IntWalk.i64_in _ (by omega);obtain⟨dg,e2⟩:∃q,x.g=q:=⟨_,rfl⟩;rw[e2]at c0 HRD;obtain⟨S,hS⟩:∃S,strOfNums (s.dv.last n)=S:=⟨_,rfl⟩;rw[hS]at HRD;have HSS:=hid hS;clear h0 h2 hlt hnp hpos HE e2 hS HUO;go_wp2_with fail
  refine HRD.out.mono ?_;rintro e w1 ⟨rfl,ht1⟩;have HG1:=hid (Qa HG0.out ht1.grown);have HM1:=hid (HM.out.go ht1.grown);have HC1:=hid (Qd HC0.out ht1.grown);have HD:Hid (Calls Tryz.prog 112 #[.string S,.int .i64 (s.dv.blocks:Int)] w1 (DecX s.dv.blocks (s.dv.last n) w1)):=hid (by rw[←HSS.out];exact QhQ _ _ w1 HLB.out.1 HLB.out.2 HM1.out.dims.2.2.2.2);have c3:=HM1.out.cells.2.2.2.1;rw[HSG.out]at c3;obtain⟨K,e3⟩:∃q,s.dv.blocks=q:=⟨_,rfl⟩;rw[e3]at c3 HE2 HD;have HK:=hid e3;have HWL:Hid (w.heap.size<w1.heap.size):=hid (block_lt HC1.out);clear ht1 HC0 HRD c0 e3 HG0 HM HU;dsimp only;go_wp2_with fail
  refine HD.out.mono ?_;rintro e w2 ⟨hg2,hx⟩;have HG2:=hid (Qa HG1.out hg2);have HC2:=hid (Qd HC1.out hg2);have HW2:Hid (w.heap.size<w2.heap.size):=hid (block_lt HC2.out);rcases hx with ⟨hno,rfl⟩|⟨p,a,c,hp,rfl,hseg,hnew⟩
  ·have hE:E=10:=by rw[HE2.out,if_pos hno]
   subst hE;clear hno HE2;have HC3:=hid (Qd HC2.out (Qb w2 (.cells zeroPg 41)));have HG3:=hid (Qa HG2.out (Qb w2 (.cells zeroPg 41)));obtain⟨W3,hW3⟩:∃X,w2.alloc (.cells zeroPg 41)=X:=⟨_,rfl⟩;rw[hW3]at HC3 HG3;have HW3:=hid hW3;clear hW3 hg2;dsimp only[zeroPg];go_upto_region 8 with fail
   rw[show(#[.int .u8 0,.slice none 0 0,.string ⟨#[]⟩]:Array Value)=zeroPg from rfl,HW3.out];go_wp2_with (first
    |(with_reducible refine Qt rfl (.tmp 4) (.tmp 45) rfl w.heap.size rfl (.int .u8 0) (.slice none 0 0) (.string ⟨#[]⟩) rfl rfl rfl rfl _ _ _ HC3.out ?_;intro w6 hq6 ht6)
    |fail)
   exact bodyPost_ret (QD rfl _ _ _ _ _ _ (.int .i64 10) rfl hq6 rfl) rfl ⟨Qh HG3.out ht6 (Nat.le_refl _),.inl ⟨by rw[HEE.out];decide,by rw[HEE.out];rfl⟩⟩
  ·have hE:E=0:=by rw[HE2.out,if_neg (fun q=>by rw[hp]at q;cases q)]
   subst hE;have HP:Hid (pageF s.dv.blocks (s.dv.last n)=some p):=hid (by rw[HK.out];exact hp);have HC3:=hid (Qd HC2.out (Qb w2 (.cells (pgV p a p.kids.length c) 41)));have HG3:=hid (Qa HG2.out (Qb w2 (.cells (pgV p a p.kids.length c) 41)));have HN3:=hid (heap_alloc_new w2 (.cells (pgV p a p.kids.length c) 41));have HSG3:=hid (hseg.grown (Qb w2 (.cells (pgV p a p.kids.length c) 41)));have HNW:Hid (∀ad,a=some ad→w.heap.size<ad.block):=hid (fun ad had=>by have:=hnew ad had;have:=HWL.out;omega);obtain⟨W3,hW3⟩:∃X,w2.alloc (.cells (pgV p a p.kids.length c) 41)=X:=⟨_,rfl⟩;rw[hW3]at HC3 HG3 HN3 HSG3;have HW3:=hid hW3;obtain⟨T,hT⟩:∃T,strOfNums p.data=T:=⟨_,rfl⟩;obtain⟨l,hl⟩:∃l,p.kids.length=l:=⟨_,rfl⟩;obtain⟨t,ht⟩:∃t,p.tag=t:=⟨_,rfl⟩;unfold pgV at HW3 HN3;rw[hT,hl,ht]at HW3 HN3;dsimp only[pgV];rw[hT,hl,ht];have HX:Hid (∀w6,Turn W3 w6 (·=w.heap.size)→GetX s n w (.returned (.tuple #[.agg #[.int .u8 t,.slice a l c,.string T],.int .i64 0])) w6):=hid (fun w6 ht6=>⟨Qh HG3.out ht6 (Nat.le_refl _),.inr ⟨p,a,c,HEE.out,HP.out,by rw[←hT,←hl,←ht];rfl,Qp HSG3.out ht6 (fun ad had e=>by have h1:=HNW.out ad had;have e2:ad.block=w.heap.size:=e;omega),fun ad had=>Nat.le_of_lt (HNW.out ad had)⟩⟩);clear hW3 hg2 hp hseg hnew HE2 hT hl ht;go_upto_region 8 with fail
   rw[HW3.out];have HL3:Hid (w.heap.size<w2.heap.size):=hid HW2.out;go_wp2_with (first
    |(with_reducible refine Qar rfl (.tmp 9) rfl w2.heap.size rfl _ _ _ HN3.out ?_)
    |(with_reducible refine Qt rfl (.tmp 4) (.tmp 46) rfl w.heap.size rfl (.int .u8 t) (.slice a l c) (.string T) rfl rfl rfl rfl _ _ _ HC3.out ?_;intro w6 hq6 ht6)
    |fail)
   exact bodyPost_ret (QD rfl _ _ _ _ _ _ (.int .i64 0) rfl hq6 rfl) rfl (HX.out _ ht6)
 ·have q0:(U != 0)=true:=bne_iff_ne.2 h0;have hE:E=U:=by rw[HE.out,if_pos h0]
  subst hE;have HU0:=hid h0;clear h0 HE HUO;go_wp2_with (first
   |(with_reducible refine Qt rfl (.tmp 4) (.tmp 16) rfl w.heap.size rfl (.int .u8 0) (.slice none 0 0) (.string ⟨#[]⟩) rfl rfl rfl rfl _ _ _ HC0.out ?_;intro w6 hq6 ht6)
   |fail)
  exact bodyPost_ret (QD rfl _ _ _ _ _ _ (.int .i64 E) rfl hq6 rfl) rfl ⟨Qh HG0.out ht6 (Nat.le_refl _),.inl ⟨by rw[HEE.out];exact HU0.out,by rw[HEE.out];rfl⟩⟩
end
section
variable {w0 w : World} {x : Nm} {s : SpS}
theorem SpM.may(h:SpM w0 w x s){K:List Int}(hk:∀i,K.getD i 0=0↔s.held.getD i 0=0∧∀m,s.mark=some m→m.getD i 0=0)(i:Nat):mayP s i=true↔s.now.getD i 0=0∧K.getD i 0=0:=by
 rw[QY,hk];refine⟨fun q=>⟨q.2.1,q.2.2⟩,fun q=>⟨?_,q.1,q.2⟩⟩;rcases i with _|_|i
 ·exact absurd (h.now.ok.at0.symm.trans q.1) (by decide)
 ·exact absurd (h.now.ok.at1.symm.trans q.1) (by decide)
 ·omega
def cntP(f:Nat→Bool)(i:Nat):Nat:=(List.range i).countP f
theorem QiH(f:Nat→Bool)(i:Nat):cntP f (i+1)=cntP f i+if f i=true then 1 else 0:=by
 unfold cntP;rw[List.range_succ,List.countP_append,List.countP_cons,List.countP_nil];omega
theorem Qln(f:Nat→Bool)(i:Nat):cntP f i≤i:=by
 have:=List.countP_le_length (p:=f) (l:=List.range i);rw[List.length_range]at this;exact this
theorem QiR(s:SpS):(frees s).length=cntP (mayP s) s.dv.blocks:=by
 unfold frees cntP;rw[←List.countP_eq_length_filter]
theorem QfX(h:SpM w0 w x s):Calls Tryz.prog 17 #[.pointer (some ⟨x.sg,0,none⟩)] w fun e w'=>e=.returned (.int .i64 ((frees s).length:Int))∧w=w':=by
 obtain⟨K,hK,hk⟩:=h.keep;have HV:=hid (Ql x.sg w h.cells.2.2.2.2.2.2.2.2.2.2.2);have HG1:=hid (fun k hk=>h.now.get k hk);have HG2:=hid (fun k hk=>hK.get k hk);have HM:=hid (fun i=>h.may hk i);have HS:=hid (QiH (mayP s));have HLE:=hid (Qln (mayP s));have hd:=h.dims;have c3:=h.cells.2.2.2.1;have c8:=h.cells.2.2.2.2.2.2.2.2.1;have c10:=h.cells.2.2.2.2.2.2.2.2.2.2.1;have HF:=hid (QiR s);obtain⟨F,hF⟩:∃F,(frees s).length=F:=⟨_,rfl⟩;obtain⟨sg,e1⟩:∃q,x.sg=q:=⟨_,rfl⟩;obtain⟨gn,e2⟩:∃q,x.gn=q:=⟨_,rfl⟩;obtain⟨gk,e3⟩:∃q,x.gk=q:=⟨_,rfl⟩;obtain⟨L,e4⟩:∃q,s.dv.blocks=q:=⟨_,rfl⟩;obtain⟨N,e5⟩:∃q,s.now=q:=⟨_,rfl⟩;obtain⟨f,e6⟩:∃q,mayP s=q:=⟨_,rfl⟩;rw[e5]at HM HG1;rw[hF]at HF ⊢;rw[e6]at HF HS HLE;have HM2:Hid (∀i,f i=true↔N.getD i 0=0∧K.getD i 0=0):=hid (by rw[←e6];exact HM.out);rw[e4]at HF c3 hd;rw[e1]at HV c3 c8 c10 ⊢;rw[e2]at HG1 c8;rw[e3]at HG2 c10;have w1:IntKind.u32.wrap (L:Int)=(L:Int):=by rw[IntKind.wrap_u32];omega
 have hL:L≤4096:=by omega
 clear hF e1 e2 e3 e4 e5 e6 h hK hk HM hd;go_enter Tryz.func17,Tryz.ntmps17
 go_wp2_with (first|(go_at_call 46;refine HV.out.mono ?_;rintro e w' ⟨rfl,rfl⟩)|fail)
 go_loopw [3,15] (fun s3 si wr=>∃i:Nat,i≤L∧si=.int .u32 i∧s3=.int .i64 (cntP f i:Int)∧w=wr) (fun _ si _=>L-(intOf si).toNat)
 case atStart=>exact⟨0,Nat.zero_le _,rfl,rfl,rfl⟩
 case round=>
  obtain⟨i,hi,rfl,rfl,rfl⟩:=hrel;by_cases hlt:i<L
  ·have hq:decide (i<L)=true:=decide_eq_true hlt;have H1:=hid (HG1.out i (by omega));have H2:=hid (HG2.out i (by omega));have HSI:=hid (HS.out i);have HMI:=hid (HM2.out i);have hle:=HLE.out i;have w2:IntKind.u32.wrap ((i:Int)+1)=(i:Int)+1:=by rw[IntKind.wrap_u32];omega
   obtain⟨u,hu⟩:∃u,N.getD i 0=u:=⟨_,rfl⟩;obtain⟨v,hv⟩:∃v,K.getD i 0=v:=⟨_,rfl⟩;obtain⟨c,hc⟩:∃c,cntP f i=c:=⟨_,rfl⟩;rw[hu]at H1 HMI;rw[hv]at H2 HMI;rw[hc]at HSI hle;rw[hc];clear hu hv hc;by_cases h1:u=0
   ·have q1:(u==0)=true:=beq_iff_eq.2 h1;by_cases h2:v=0
    ·have q2:(v==0)=true:=beq_iff_eq.2 h2;have HC:Hid (cntP f (i+1)=c+1):=hid (by rw[HSI.out,if_pos (HMI.out.2 ⟨h1,h2⟩)]);clear h1 h2 HSI HMI;go_wp2_with (first|(go_at_call 47;with_reducible refine H1.out.mono ?_;rintro e w' ⟨rfl,rfl⟩)|(go_at_call 47;with_reducible refine H2.out.mono ?_;rintro e w' ⟨rfl,rfl⟩)|fail)
     go_roundw
     case rel=>exact⟨i+1,by omega,by go_num,by rw[HC.out];go_num,trivial⟩
     case measure=>simp[intOf];omega
    ·have q2:(v==0)=false:=beq_eq_false_iff_ne.2 h2;have HC:Hid (cntP f (i+1)=c):=hid (by rw[HSI.out,if_neg (fun q=>h2 (HMI.out.1 q).2)];rfl);clear h1 h2 HSI HMI;go_wp2_with (first|(go_at_call 47;with_reducible refine H1.out.mono ?_;rintro e w' ⟨rfl,rfl⟩)|(go_at_call 47;with_reducible refine H2.out.mono ?_;rintro e w' ⟨rfl,rfl⟩)|fail)
     go_roundw
     case rel=>exact⟨i+1,by omega,by go_num,by rw[HC.out],trivial⟩
     case measure=>simp[intOf];omega
   ·have q1:(u==0)=false:=beq_eq_false_iff_ne.2 h1;have HC:Hid (cntP f (i+1)=c):=hid (by rw[HSI.out,if_neg (fun q=>h1 (HMI.out.1 q).1)];rfl);clear h1 HSI HMI;go_wp2_with (first|(go_at_call 47;with_reducible refine H1.out.mono ?_;rintro e w' ⟨rfl,rfl⟩)|fail)
    go_roundw
    case rel=>exact⟨i+1,by omega,by go_num,by rw[HC.out],trivial⟩
    case measure=>simp[intOf];omega
  ·have hq:decide (i<L)=false:=decide_eq_false hlt;obtain rfl:i=L:=by omega
   rw[←HF.out];go_wp2;go_ret
   exact⟨rfl,rfl⟩
end
end Sp
end Go.Proofs.YtgffbbdcbkikhaaGreatDoor
