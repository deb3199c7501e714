/- Parts of the proof. -/
import Derived.Test.YtbbbocoliandcaaGreatDoorKaM
import Derived.Test.YtbbbocoliandcaaGreatDoorKag
set_option maxRecDepth 100000
set_option maxHeartbeats 8000000
open Go.Lib (hid)
namespace Go.Proofs.YtbbbocoliandcaaGreatDoor
namespace Sp
open Go.RowKit Bs Dv Gr
open Su (Sup SupOk GeoOk putS supE T4)
open Cn (CnOk Qm)
def lp1:Pg:=⟨4,[],[120]⟩
def lp2:Pg:=⟨3,[3],[]⟩
def lp5:Pg:=⟨4,[],[]⟩
section
variable (s0 : SpS)
def lv1:SpS:=putP s0 lp1 3
def lv2:SpS:=putP (lv1 s0) lp2 4
def lv3:SpS:=commitP (lv2 s0) 4
def lv4:SpS:=⟨(lv3 s0).dv,(lv3 s0).sup,(lv3 s0).held,(lv3 s0).held,none,(lv3 s0).slot⟩
def lv5:SpS:=putP (lv4 s0) lp5 2
end
def N1:List Int:=[1,1,1,1,0,0,0,0,0,0,0,0]
def N0:List Int:=[1,1,1,0,0,0,0,0,0,0,0,0]
def N2:List Int:=[1,1,1,1,1,0,0,0,0,0,0,0]
def N3:List Int:=[1,1,0,1,1,1,0,0,0,0,0,0]
def N5:List Int:=[1,1,1,1,1,1,0,0,0,0,0,0]
theorem Qie:PgOk lp1:=⟨by decide,(fun k hk=>by cases hk),fun x hx=>by rcases List.mem_cons.1 hx with rfl|hx;exact⟨by decide,by decide⟩;cases hx⟩
theorem Qc3:PgOk lp2:=⟨by decide,(fun k hk=>by rcases List.mem_cons.1 hk with rfl|hk;exact⟨by decide,by decide⟩;cases hk),fun x hx=>by cases hx⟩
theorem Qif:PgOk lp5:=⟨by decide,(fun k hk=>by cases hk),fun x hx=>by cases hx⟩
structure LvF (s0:SpS):Prop where
 k0:SpOk s0 [] [] [] 0
 k1:SpOk (lv1 s0) [3] [] [] 1
 k2:SpOk (lv2 s0) [4] [] [] 2
 k3:SpOk (lv3 s0) [4] [4] [] 3
 k4:SpOk (lv4 s0) [4] [4] [] 3
 k5:SpOk (lv5 s0) [4,2] [4] [] 4
 f0:frees s0=3 :: [4,5,6,7,8,9,10,11]
 f1:frees (lv1 s0)=4 :: [5,6,7,8,9,10,11]
 f4:frees (lv4 s0)=2 :: [6,7,8,9,10,11]
 f5:frees (lv5 s0)=[6,7,8,9,10,11]
 f6:frees { (lv5 s0) with now:=N3 }=[2,6,7,8,9,10,11]
 e0:putErr s0 lp1=0
 e1:putErr (lv1 s0) lp2=0
 e4:putErr (lv4 s0) lp5=0
 g4:getErr (lv4 s0) 4=0∧pageF (lv4 s0).dv.blocks ((lv4 s0).dv.last 4)=some lp2
 d5:GoodC (lv5 s0).dv (lv5 s0).sup.pages N3 [4]∧∀m,N3.getD m 0≤(lv5 s0).now.getD m 0
 root:(lv4 s0).sup.root=4
 gen:(lv5 s0).sup.gen=2
 kept:Kept (lv3 s0).dv (lv3 s0).sup (lv3 s0).held (lv3 s0).slot
 cok:CnOk (lv3 s0).dv.size (lv3 s0).dv.blocks (lv3 s0).held
theorem lvf{s0:SpS}(k0:SpOk s0 [] [] [] 0)(c0:Cfg s0 N0 N0 none [2] 1):LvF s0:=by
 have f0:frees s0=3 :: [4,5,6,7,8,9,10,11]:=by rw[c0.frees];decide +kernel
 have k1:SpOk (lv1 s0) [3] [] [] 1:=SpOk.put (a:=[]) (p:=lp1) k0 (by decide) Qie (by decide) (by rw[c0.size];decide) f0 (by rw[c0.pages];decide);have c1:Cfg (lv1 s0) N1 N0 none [2] 1:=c0.put k0 (by decide) (by decide);have f1:frees (lv1 s0)=4 :: [5,6,7,8,9,10,11]:=by rw[c1.frees];decide +kernel
 have k2:SpOk (lv2 s0) [4] [] [] 2:=SpOk.put (a:=[]) (p:=lp2) k1 (by decide) Qc3 (by decide) (by rw[c1.size];decide) f1 (by rw[c1.pages];decide);have c2:Cfg (lv2 s0) N2 N0 none [2] 1:=c1.put k1 (by decide) (by decide);have k3:SpOk (lv3 s0) [4] [4] [] 3:=k2.commit (root:=4) (by decide) (.inr ⟨by decide,List.mem_cons_self ..⟩);have c3:Cfg (lv3 s0) N3 N3 none [5] 2:=c2.commit k2 (by decide) (.inr ⟨by decide,List.mem_cons_self ..⟩) (by decide +kernel) (by decide +kernel);have k4:SpOk (lv4 s0) [4] [4] [] 3:=k3.abort;have c4:Cfg (lv4 s0) N3 N3 none [5] 2:=⟨c3.size,c3.blocks,c3.held,c3.held,rfl,c3.pages,c3.gen⟩;have f4:frees (lv4 s0)=2 :: [6,7,8,9,10,11]:=by rw[c4.frees];decide +kernel
 have k5:SpOk (lv5 s0) [4,2] [4] [] 4:=SpOk.put (a:=[4]) (p:=lp5) k4 (by decide) Qif (by decide) (by rw[c4.size];decide) f4 (by rw[c4.pages];decide);have c5:Cfg (lv5 s0) N5 N3 none [5] 2:=c4.put k4 (by decide) (by decide);have e0:putErr s0 lp1=0:=by
  rw[k0.Qel (by decide) (fun k hk=>by cases hk) (by decide) (by rw[c0.size];decide),f0,c0.pages]
  decide
 have e1:putErr (lv1 s0) lp2=0:=by
  rw[k1.Qel (by decide) (fun k hk=>by rcases List.mem_cons.1 hk with rfl|hk;exact List.mem_cons_self ..;cases hk) (by decide) (by rw[c1.size];decide),f1,c1.pages]
  decide
 have e4:putErr (lv4 s0) lp5=0:=by
  rw[k4.Qel (by decide) (fun k hk=>by cases hk) (by decide) (by rw[c4.size];decide),f4,c4.pages]
  decide
 have hpg:pageF (lv4 s0).dv.blocks ((lv4 s0).dv.last 4)=some lp2:=by
  obtain⟨-,-,l3,l4⟩:=k2.Qao (root:=4) (by decide) (.inr ⟨by decide,List.mem_cons_self ..⟩);have h1:(lv3 s0).dv.last 4=(lv2 s0).dv.last 4:=l3 4 (by rw[c2.blocks];decide) (by have:=k2.slots;omega) (by
   unfold newPages;rw[c2.frees,c2.pages]
   decide +kernel)
  have h2:=k1.QjG (p:=lp2) (n:=4) (by decide) (by rw[c1.blocks];decide) (by rw[c1.size];decide) Qc3 (by decide) (fun k hk=>by rw[c1.blocks];rcases List.mem_cons.1 hk with rfl|hk;exact⟨by decide,by decide⟩;cases hk)
  show pageF (lv3 s0).dv.blocks ((lv3 s0).dv.last 4)=_
  rw[h1,c3.blocks,←c1.blocks];exact h2
 refine⟨k0,k1,k2,k3,k4,k5,f0,f1,f4,by rw[c5.frees];decide +kernel,?_,e0,e1,e4,⟨?_,hpg⟩,⟨?_,fun m=>?_⟩,rfl,c5.gen,k3.kept,k3.held.cok⟩
 ·rw[QeF]
  show frL (lv5 s0).dv.blocks N3 (lv5 s0).held (lv5 s0).mark=_
  rw[c5.blocks,c5.held,c5.mark]
  decide +kernel
 ·unfold getErr;rw[k4.use (List.mem_cons_self ..),if_neg (fun q=>q rfl),if_neg];rw[hpg];intro q;cases q
 ·obtain⟨a,b,c,d⟩:=k4.QcO (p:=lp5) (n:=2) (by rw[c4.blocks];decide) (by rw[c4.size];decide);have h1:=k4.now;rw[c4.now]at h1;refine h1.kept a b fun m hm=>?_
  show(putP (lv4 s0) lp5 2).dv.last m=_
  rw[d m,if_neg];rintro rfl;have:=(Qbi hm).2.2.1
  revert this
  decide
 ·rw[c5.now];by_cases hm:m<12
  ·revert m
   decide
  ·rw[List.getD_eq_getElem?_getD,List.getD_eq_getElem?_getD,List.getElem?_eq_none (show N3.length≤m by show 12≤m;omega),List.getElem?_eq_none (show N5.length≤m by show 12≤m;omega)];exact Int.le_refl _
theorem lvf0:LvF (firstP 128 12):=lvf (Qfn Qbt Qcm) QhT
theorem Qhh(w0 w:World)(hw:w0.grownBy w none)(hT4:T4 w0):Calls Tryz.prog 11 #[.agg #[.int .i64 128,.int .i64 12]] w (MadeX w0 w 128 12):=QfG w0 w 128 12 hw Qbt Qcm hT4
end Sp
namespace Sp
open Go.RowKit Bs Dv Gr
open Cn (CnOk)
open Su (Sup SupOk T4)
def Sh(w0 w:World)(sg g:Nat)(A:Nat→Prop)(s:SpS):Prop:=∃x:Nm,x.sg=sg∧x.g=g∧SpM w0 w x s∧∀k,A k→k<w.heap.size∧¬x.fp k
def Rs(w0 w:World)(rg sg g:Nat)(A:Nat→Prop)(r:Rn):Prop:=∃v:Rv,v.rg=rg∧v.x.sg=sg∧v.x.g=g∧RnM w0 w v r∧∀k,A k→k<w.heap.size∧¬v.fp k
def Stay(w w':World)(A:Nat→Prop):Prop:=Turn w w' fun k=>¬A k
theorem QcN{W:World}{b:Nat}{t:Int}{a:Option Addr}{n c:Nat}{S:ByteArray}(h:W.heap[b]?=some (.cells #[.int .u8 t,.slice a n c,.string S] 40 (0,0))):W.cell? ⟨b,0,none⟩=some (.int .u8 t)∧W.cell? ⟨b,1,none⟩=some (.slice a n c)∧W.cell? ⟨b,2,none⟩=some (.string S):=by
 refine⟨?_,?_,?_⟩ <;> rw[cell_of_row _ _ _ _ _ _ h] <;> rfl
section
variable {w0 w w' : World} {sg g : Nat} {A : Nat → Prop} {s s' : SpS}
theorem Stay.Qk(k:w.grownBy w' none):Stay w w' A:=(Qc k).mono (fun _ _ e=>e.elim)
theorem Stay.trans{w2:World}(h:Stay w w' A)(k:Stay w' w2 A):Stay w w2 A:=Turn.trans h k (fun _ _ e=>e)
theorem Stay.block(h:Stay w w' A){k:Nat}(hk:A k)(hl:k<w.heap.size):w'.heap[k]?=w.heap[k]?:=Turn.block h k hl (fun e=>e hk)
theorem Stay.cell(h:Stay w w' A){p:Addr}{v:Value}(hc:w.cell? p=some v)(hp:A p.block):w'.cell? p=some v:=Turn.cell h hc (fun e=>e hp)
theorem Stay.seg(h:Stay w w' A){a:Option Addr}{n c:Nat}{l:List Int}(hs:Ws.Seg w a n c l)(hp:∀ad,a=some ad→A ad.block):Ws.Seg w' a n c l:=Qn hs h (fun ad had e=>e (hp ad had))
theorem Sh.gr(h:Sh w0 w sg g A s):w0.grownBy w none:=by
 obtain⟨x,-,-,h,-⟩:=h;exact h.gr
theorem Sh.go(h:Sh w0 w sg g A s)(k:w.grownBy w' none):Sh w0 w' sg g A s:=by
 obtain⟨x,a,b,h,d⟩:=h;exact⟨x,a,b,h.go k,fun i hi=>⟨Nat.lt_of_lt_of_le (d i hi).1 k.size,(d i hi).2⟩⟩
theorem Sh.more{B:Nat→Prop}(h:Sh w0 w sg g A s)(k:w.grownBy w' none)(hB:∀i,B i→A i∨(w.heap.size≤i∧i<w'.heap.size)):Sh w0 w' sg g B s:=by
 obtain⟨x,a,b,h,d⟩:=h;refine⟨x,a,b,h.go k,fun i hi=>?_⟩;rcases hB i hi with q|q
 ·exact⟨Nat.lt_of_lt_of_le (d i q).1 k.size,(d i q).2⟩
 ·exact⟨q.2,fun e=>by have:=h.lt e;omega⟩
theorem Sh.op{x:Nm}(_h:SpM w0 w x s)(d:∀k,A k→k<w.heap.size∧¬x.fp k)(o:Op w0 w x s' w'):Sh w0 w' x.sg x.g A s'∧Stay w w' A:=by
 obtain⟨x',a,b,c,t,e⟩:=o;exact⟨⟨x',a,b,c,fun k hk=>⟨Nat.lt_of_lt_of_le (d k hk).1 t.size,fun q=>(e k q).elim (d k hk).2 (fun z=>by have:=(d k hk).1;omega)⟩⟩,t.mono (fun k _ q z=>(d k z).2 q)⟩
theorem Sh.of{x:Nm}(h:SpM w0 w x s):Sh w0 w x.sg x.g (fun _=>False) s:=⟨x,rfl,rfl,h,fun _ e=>e.elim⟩
end
section
variable {w0 w w' : World} {sg g : Nat} {A : Nat → Prop} {s s' : SpS} {own hown mown : List Nat} {T : Nat}
theorem QbS(h:Sh w0 w sg g A s){n:Nat}(hn:(frees s).length=n):Calls Tryz.prog 20 #[.pointer (some ⟨sg,0,none⟩)] w fun e w'=>e=.returned (.int .i64 (n:Int))∧w=w':=by
 obtain⟨x,rfl,rfl,h,d⟩:=h;subst hn;exact Qfp h
theorem Qk6(h:Sh w0 w sg g A s):Calls Tryz.prog 29 #[.pointer (some ⟨sg,0,none⟩)] w fun e w'=>e=.returned (.int .u32 s.sup.root)∧w=w':=by
 obtain⟨x,rfl,rfl,h,d⟩:=h;exact QjL h
theorem Qlp(h:Sh w0 w sg g A s):Calls Tryz.prog 30 #[.pointer (some ⟨sg,0,none⟩)] w fun e w'=>e=.returned (.int .u64 s.sup.gen)∧w=w':=by
 obtain⟨x,rfl,rfl,h,d⟩:=h;exact QkB h
theorem Qix(h:Sh w0 w sg g A s)(hp:s.sup.pages.length≤100000)(n:Nat)(hn:n<4294967296):Calls Tryz.prog 25 #[.pointer (some ⟨sg,0,none⟩),.int .u32 (n:Int)] w (GetX s n w):=by
 obtain⟨x,rfl,rfl,h,d⟩:=h;exact Qad h n hn hp
def ShX(w0 w:World)(sg g:Nat)(A:Nat→Prop)(v:Value)(s':SpS)(e:Ending)(w':World):Prop:=e=.returned v∧Sh w0 w' sg g A s'∧Stay w w' A
theorem Qf2(h:Sh w0 w sg g A s)(hk:SpOk s own hown mown T)(hT:T≤1000)(p:Pg)(a:Option Addr)(c:Nat)(ho:PgOk p)(hs:Ws.Seg w a p.kids.length c p.kids)(hdl:p.data.length≤1000000000){n:Nat}{l:List Nat}(he:putErr s p=0)(hf:frees s=n :: l) :
  Calls Tryz.prog 16 #[.pointer (some ⟨sg,0,none⟩),.agg #[.int .u8 p.tag,.slice a p.kids.length c,.string (strOfNums p.data)]] w (ShX w0 w sg g A (.tuple #[.int .u32 (n:Int),.int .i64 0]) (putP s p n)):=by
 obtain⟨x,rfl,rfl,h,d⟩:=h;exact(Qr h hk hT p a c ho hs hdl he hf).mono fun e w' q=>⟨q.1,Sh.op h d q.2⟩
theorem Qk4(h:Sh w0 w sg g A s)(hk:SpOk s own hown mown T)(n:Nat)(own2:List Nat)(hp:∀m,(n :: own2).count m=own.count m){c:List Int}(hc:GoodC s.dv s.sup.pages c own2)(hcl:∀m,c.getD m 0≤s.now.getD m 0) :
  Calls Tryz.prog 19 #[.pointer (some ⟨sg,0,none⟩),.int .u32 (n:Int)] w (ShX w0 w sg g A (.int .i64 0) { s with now:=c }):=by
 obtain⟨x,rfl,rfl,h,d⟩:=h;exact(Qky h hk n own2 hp hc hcl).mono fun e w' q=>⟨q.1,Sh.op h d q.2⟩
theorem QjU(h:Sh w0 w sg g A s)(hk:SpOk s own hown mown T)(n:Nat)(own2:List Nat)(hp:∀m,(n :: own2).count m=own.count m) :
  Calls Tryz.prog 19 #[.pointer (some ⟨sg,0,none⟩),.int .u32 (n:Int)] w fun e w'=>∃c,ShX w0 w sg g A (.int .i64 0) { s with now:=c } e w'∧SpOk { s with now:=c } own2 hown mown (T+1):=by
 obtain⟨x,rfl,rfl,h,d⟩:=h;have h74:=hk.Qac;refine(Qdv h n own2 (by omega) (hk.now.perm hp)).mono fun e w' hx=>?_
 obtain⟨c2,e1,g2,l2,m2,t2⟩:=hx;refine⟨c2,⟨e1,Sh.op h d ⟨x,rfl,rfl,m2,t2.mono (fun _ _ e=>.inl (.inr (.inl e))),fun _ q=>.inl q⟩⟩,hk.turn g2 (fun m h0=>?_) fun m=>?_⟩
 ·have h1:=l2 m;have h2:=(g2.cok).at' m;omega
 ·have:=l2 m;have:=(hk.low m).1;omega
theorem QeW(h:Sh w0 w sg g A s)(hk:SpOk s own hown mown T)(hT:T≤1000)(root:Nat)(hn:root<4294967296)(hr:root=0∨root∈own)(hT4:T4 w0) :
  Calls Tryz.prog 27 #[.pointer (some ⟨sg,0,none⟩),.int .u32 (root:Int)] w (ShX w0 w sg g A (.int .i64 0) (commitP s root)):=by
 obtain⟨x,rfl,rfl,h,d⟩:=h;exact(QbG h hk hT root hn hr hT4).mono fun e w' q=>⟨q.1,Sh.op h d q.2⟩
theorem Qk5(h:Sh w0 w sg g A s){sup:Sup}{held:List Int}{slot:Nat}(hk:Kept s.dv sup held slot)(hok:CnOk s.dv.size s.dv.blocks held)(hT4:T4 w0) :
  Calls Tryz.prog 15 #[.pointer (some ⟨g,0,none⟩)] w fun e w'=>∃sg',e=.returned (.tuple #[.pointer (some ⟨sg',0,none⟩),.int .i64 0])∧Sh w0 w' sg' g A ⟨s.dv,sup,held,held,none,slot⟩∧w.grownBy w' none:=by
 obtain⟨x,rfl,rfl,h,d⟩:=h;refine(open_yes w0 w x.g x.b x.P s.dv h.dev sup held slot hk hok hT4).mono ?_;rintro e w' ⟨y,e1,e2,e3,e4,hm,hg,hn,hf⟩;refine⟨y.sg,e1,⟨y,rfl,e2,hm,fun k hk=>⟨Nat.lt_of_lt_of_le (d k hk).1 hg.size,fun q=>?_⟩⟩,hg⟩;rcases hf k q with z|z
 ·exact(d k hk).2 (.inl (.inr (.inr z)))
 ·have:=(d k hk).1;omega
end
section
variable {w0 w w' : World} {rg sg g : Nat} {A : Nat → Prop} {r r' : Rn}
theorem Rs.gr(h:Rs w0 w rg sg g A r):w0.grownBy w none:=by
 obtain⟨v,-,-,-,h,-⟩:=h;exact h.gr
theorem Rs.go(h:Rs w0 w rg sg g A r)(k:w.grownBy w' none):Rs w0 w' rg sg g A r:=by
 obtain⟨v,a,b,c,h,d⟩:=h;exact⟨v,a,b,c,h.go k,fun i hi=>⟨Nat.lt_of_lt_of_le (d i hi).1 k.size,(d i hi).2⟩⟩
theorem Rs.cell(h:Rs w0 w rg sg g A r):w.cell? ⟨rg,0,none⟩=some (.pointer (some ⟨g,0,none⟩))∧w.cell? ⟨rg,1,none⟩=some (.pointer (some ⟨sg,0,none⟩)):=by
 obtain⟨v,rfl,rfl,rfl,h,-⟩:=h;exact⟨h.box.cells.1,h.box.cells.2.1⟩
theorem Rs.sp(h:Rs w0 w rg sg g A r):Sh w0 w sg g A r.s:=by
 obtain⟨v,rfl,rfl,rfl,h,d⟩:=h;exact⟨v.x,rfl,rfl,h.sp,fun k hk=>⟨(d k hk).1,fun q=>(d k hk).2 (.inl q)⟩⟩
theorem Rs.op{v:Rv}(_h:RnM w0 w v r)(d:∀k,A k→k<w.heap.size∧¬v.fp k)(o:RnOp w0 w v r' w'):(∃sg',Rs w0 w' v.rg sg' v.x.g A r')∧Stay w w' A:=by
 obtain⟨v',a,b,c,t,e⟩:=o;exact⟨⟨v'.x.sg,v',a,rfl,b,c,fun k hk=>⟨Nat.lt_of_lt_of_le (d k hk).1 t.size,fun q=>(e k q).elim (d k hk).2 (fun z=>by have:=(d k hk).1;omega)⟩⟩,t.mono (fun k _ q z=>(d k z).2 q)⟩
theorem Rs.of{v:Rv}(h:RnM w0 w v r):Rs w0 w v.rg v.x.sg v.x.g (fun _=>False) r:=⟨v,rfl,rfl,rfl,h,fun _ e=>e.elim⟩
def DoS(w0 w:World)(rg g:Nat)(A:Nat→Prop)(r:Rn)(a:AcT)(T:Nat)(e:Ending)(w':World):Prop:=
 ∃(n er:Int) (r':Rn) (sg:Nat),e=.returned (.tuple #[.int .u32 n,.int .i64 er])∧DoR a r n er r'∧RnOk r' (T+1)∧Rs w0 w' rg sg g A r'∧Stay w w' A
theorem rs_do{T:Nat}(h:Rs w0 w rg sg g A r)(hk:RnOk r T)(hT:T≤1000)(a:AcT)(ha:AcOk a)(hT4:T4 w0) :
  Calls Tryz.prog 39 #[.pointer (some ⟨rg,0,none⟩),.agg (acV a)] w (DoS w0 w rg g A r a T):=by
 obtain⟨v,rfl,rfl,rfl,h,d⟩:=h;refine(Qlk h hk hT a ha hT4).mono ?_;rintro e w' hx;obtain⟨n,er,r',e1,dr,o⟩:=hx;obtain⟨⟨sg',hr⟩,ht⟩:=Rs.op h d o;exact⟨n,er,r',sg',e1,dr,dr.ok hk hT ha,hr,ht⟩
end
end Sp
namespace Sp
open Go.RowKit Bs Dv Gr
theorem QkO{a b:ByteArray}(h:a≠b):¬a.toList=b.toList:=by
 rw[Go.ByteArray.toList_eq,Go.ByteArray.toList_eq];intro e;apply h
 obtain⟨⟨a⟩⟩:=a;obtain⟨⟨b⟩⟩:=b;have:a=b:=e;rw[this]
def pagesB(p q:Pg):Bool:=decide (p.tag=q.tag) && decide (p.data=q.data) && decide (p.kids=q.kids)
theorem Qin(p:Pg):pagesB p p=true:=by
 unfold pagesB;rw[decide_eq_true rfl,decide_eq_true rfl,decide_eq_true rfl]
 rfl
theorem Qah(p q:Pg)(a b:Option Addr)(c d:Nat)(w:World)(hp:Ws.Seg w a p.kids.length c p.kids)(hq:Ws.Seg w b q.kids.length d q.kids)(hpb:IsB p.data)(hqb:IsB q.data) :
  Calls Tryz.prog 43 #[.agg (pgV p a p.kids.length c),.agg (pgV q b q.kids.length d)] w fun e w'=>e=.returned (.bool (pagesB p q))∧w.grownBy w' none:=by
 have h0:=heap_alloc_new w (.cells (pgV p a p.kids.length c) 40);have g0:=Qb w (.cells (pgV p a p.kids.length c) 40);obtain⟨W0,hW0⟩:∃X,w.alloc (.cells (pgV p a p.kids.length c) 40)=X:=⟨_,rfl⟩;have hsz:W0.heap.size=w.heap.size+1:=by rw[←hW0];simp
 rw[hW0]at h0 g0;have h1:=heap_alloc_new W0 (.cells (pgV q b q.kids.length d) 40);have g1:=Qb W0 (.cells (pgV q b q.kids.length d) 40);obtain⟨W1,hW1⟩:∃X,W0.alloc (.cells (pgV q b q.kids.length d) 40)=X:=⟨_,rfl⟩;rw[hW1]at h1 g1;rw[hsz]at h1;have h2:=Qi h0 g1;have HW0:=hid hW0;have HW1:=hid hW1;have HG:=hid (Qa g0 g1);have a0:W1.cell? ⟨w.heap.size,0,none⟩=some (.int .u8 p.tag):=by rw[cell_of_row _ _ _ _ _ _ h2];rfl
 have a1:W1.cell? ⟨w.heap.size,1,none⟩=some (.slice a p.kids.length c):=by rw[cell_of_row _ _ _ _ _ _ h2];rfl
 have a2:W1.cell? ⟨w.heap.size,2,none⟩=some (.string (strOfNums p.data)):=by rw[cell_of_row _ _ _ _ _ _ h2];rfl
 have b0:W1.cell? ⟨w.heap.size+1,0,none⟩=some (.int .u8 q.tag):=by rw[cell_of_row _ _ _ _ _ _ h1];rfl
 have b1:W1.cell? ⟨w.heap.size+1,1,none⟩=some (.slice b q.kids.length d):=by rw[cell_of_row _ _ _ _ _ _ h1];rfl
 have b2:W1.cell? ⟨w.heap.size+1,2,none⟩=some (.string (strOfNums q.data)):=by rw[cell_of_row _ _ _ _ _ _ h1];rfl
 have HS:=hid (fun W (k:W1.grownBy W none)=>Ws.QjQ a b p.kids.length q.kids.length c d p.kids q.kids W (hp.grown (Qa HG.out k)) (hq.grown (Qa HG.out k)));have HE:Hid (pagesB p q=(decide (p.tag=q.tag) && decide (p.data=q.data) && decide (p.kids=q.kids))):=hid rfl;have HST:Hid (strOfNums p.data=strOfNums q.data↔p.data=q.data):=hid ⟨fun e=>Qlb hpb hqb e,fun e=>by rw[e]⟩;have HL0:=hid hp.len;obtain⟨t1,e1⟩:∃t,p.tag=t:=⟨_,rfl⟩;obtain⟨t2,e2⟩:∃t,q.tag=t:=⟨_,rfl⟩;obtain⟨S1,e3⟩:∃t,strOfNums p.data=t:=⟨_,rfl⟩;obtain⟨S2,e4⟩:∃t,strOfNums q.data=t:=⟨_,rfl⟩;obtain⟨n1,e5⟩:∃t,p.kids.length=t:=⟨_,rfl⟩;obtain⟨n2,e6⟩:∃t,q.kids.length=t:=⟨_,rfl⟩;have hv1:pgV p a p.kids.length c=#[.int .u8 t1,.slice a n1 c,.string S1]:=by unfold pgV;rw[e1,e3,e5]
 have hv2:pgV q b q.kids.length d=#[.int .u8 t2,.slice b n2 d,.string S2]:=by unfold pgV;rw[e2,e4,e6]
 rw[e1]at a0 HE;rw[e5]at a1 HS;rw[e3]at a2;rw[e2]at b0 HE;rw[e6]at b1 HS;rw[e4]at b2;rw[e3,e4]at HST;rw[hv1]at HW0;rw[hv2]at HW1;rw[hv1,hv2];clear hv1 hv2 e1 e2 e3 e4 e5 e6 h0 h1 h2 g0 g1 hW0 hW1 hp hq hpb hqb hsz HL0;by_cases k1:t1=t2
 case neg=>
  have q1:(t1==t2)=false:=beq_eq_false_iff_ne.2 k1;have HF:Hid (pagesB p q=false):=hid (by rw[HE.out,decide_eq_false k1,Bool.false_and,Bool.false_and]);clear k1;go_enter Tryz.func43,Tryz.ntmps43
  go_upto_region 1 with fail
  rw[HW0.out,HW1.out];go_wp2;go_ret
  exact⟨by rw[HF.out];rfl,HG.out⟩
 case pos=>
  subst k1;rw[decide_eq_true rfl,Bool.true_and]at HE;have q1:(t1==t1)=true:=beq_self_eq_true _;by_cases k2:S1=S2
  case neg=>
   have q2:=QkO k2;have HF:Hid (pagesB p q=false):=hid (by rw[HE.out,decide_eq_false (fun e=>k2 (HST.out.2 e)),Bool.false_and]);have q3:(S1.toList==S2.toList)=false:=beq_eq_false_iff_ne.2 q2;clear k2;go_enter Tryz.func43,Tryz.ntmps43
   go_upto_region 1 with fail
   rw[HW0.out,HW1.out];go_wp2;go_ret
   exact⟨by rw[HF.out];rfl,HG.out⟩
  case pos=>
   subst k2;rw[decide_eq_true (HST.out.1 rfl),Bool.true_and]at HE;have HF:Hid (pagesB p q=Ws.sameB p.kids q.kids):=hid HE.out;have q3:(S1.toList==S1.toList)=true:=beq_self_eq_true _;obtain⟨B,hB⟩:∃B,Ws.sameB p.kids q.kids=B:=⟨_,rfl⟩;rw[hB]at HS HF;clear hB;go_enter Tryz.func43,Tryz.ntmps43
   go_upto_region 1 with fail
   rw[HW0.out,HW1.out];go_wp2_with fail
   refine(HS.out _ (Qaa W1)).mono ?_;rintro e w4 ⟨rfl,hm⟩;have hg4:W1.grownBy w4 none:=by obtain⟨m,rfl⟩:=hm;exact(Turn.drewN _ m nowhere).grown
   dsimp only;go_wp2;go_ret
   exact⟨by rw[HF.out];rfl,Qa HG.out hg4⟩
end Sp
namespace Sp
open Go.RowKit Bs Dv Gr
open Su (Sup SupOk GeoOk putS supE T4)
open Cn (CnOk Qm)
theorem QkM(w0 w:World)(hw:w0.grownBy w none)(hT4:T4 w0):Calls Tryz.prog 11 #[.agg #[.int .i64 128,.int .i64 12]] w fun e w'=>∃sg g,e=.returned (.tuple #[.pointer (some ⟨g,0,none⟩),.pointer (some ⟨sg,0,none⟩)])∧Sh w0 w' sg g (fun _=>False) (firstP 128 12)∧w.grownBy w' none:=by
 refine(Qhh w0 w hw hT4).mono ?_;rintro e w' ⟨x,e1,hm,hg,-⟩;exact⟨x.sg,x.g,e1,Sh.of hm,hg⟩
theorem Qgp(w:World)(hT4:T4 w) :
  Calls Tryz.prog 10 #[] w fun e w'=>e=.returned (.bool true)∧w.grownBy w' none:=by
 have HT4:=hid hT4;have HSM:=hid (Qgv w);have HMD:=hid (fun W (k:w.grownBy W none)=>QkM w W k hT4);have F:=hid lvf0;obtain⟨s0,hs0⟩:∃s0,firstP 128 12=s0:=⟨_,rfl⟩;rw[hs0]at HMD F;clear hT4 hs0;go_enter Tryz.func10,Tryz.ntmps10
 go_upto_region 1 with fail
 go_wp2_with fail
 refine HSM.out.mono ?_;rintro e w1 ⟨rfl,hg1⟩;have HM:=hid (HMD.out w1 hg1);clear hg1 HSM
 try dsimp only
 go_wp2_with fail
 refine HM.out.mono ?_;rintro e w2 ⟨sg,g,rfl,hm,-⟩;have HS2:=hid hm;have HF:Hid (Calls Tryz.prog 20 #[.pointer (some ⟨sg,0,none⟩)] w2 fun e w'=>e=.returned (.int .i64 9)∧w2=w'):=hid (QbS hm (n:=9) (by rw[F.out.f0];rfl));have HP:Hid (Calls Tryz.prog 16 #[.pointer (some ⟨sg,0,none⟩),.agg #[.int .u8 4,.slice none 0 0,.string ⟨#[120]⟩]] w2 (ShX w w2 sg g (fun _=>False) (.tuple #[.int .u32 3,.int .i64 0]) (lv1 s0))):=hid (Qf2 hm F.out.k0 (by decide) lp1 none 0 Qie (QbN w2) (by decide) F.out.e0 F.out.f0);clear hm HM HMD
 try dsimp only
 go_wp2_with fail
 refine HF.out.mono ?_;rintro e w3 ⟨rfl,rfl⟩
 try dsimp only
 go_wp2_with fail
 refine HP.out.mono ?_;rintro e w3 ⟨rfl,hm,-⟩;have hg3:=Qb w3 (.cells #[.int .u32 3] 35);have hseg:=lit32 w3 3;obtain⟨W3,hW3⟩:∃X,w3.alloc (.cells #[.int .u32 3] 35)=X:=⟨_,rfl⟩;have hseg:Ws.Seg (w3.alloc (.cells #[.int .u32 3] 35)) (some ⟨w3.heap.size,0,none⟩) 1 1 [3]:=hseg;rw[hW3]at hg3 hseg;have HW3:=hid hW3;have hm3:=hm.go hg3;have HP2:Hid (Calls Tryz.prog 16 #[.pointer (some ⟨sg,0,none⟩),.agg #[.int .u8 3,.slice (some ⟨w3.heap.size,0,none⟩) 1 1,.string ⟨#[]⟩]] W3 (ShX w W3 sg g (fun _=>False) (.tuple #[.int .u32 4,.int .i64 0]) (lv2 s0))):=hid (Qf2 hm3 F.out.k1 (by decide) lp2 (some ⟨w3.heap.size,0,none⟩) 1 Qc3 hseg (by decide) F.out.e1 F.out.f1);clear hm HF HP HS2 hg3 hseg hW3 hm3
 try dsimp only
 go_wp2_with fail
 rw[HW3.out];refine HP2.out.mono ?_;rintro e w4 ⟨rfl,hm,-⟩;have HC:Hid (Calls Tryz.prog 27 #[.pointer (some ⟨sg,0,none⟩),.int .u32 4] w4 (ShX w w4 sg g (fun _=>False) (.int .i64 0) (lv3 s0))):=hid (QeW hm F.out.k2 (by decide) 4 (by decide) (.inr (List.mem_cons_self ..)) HT4.out);clear hm HP2 HW3
 try dsimp only
 go_wp2_with fail
 refine HC.out.mono ?_;rintro e w5 ⟨rfl,hm,-⟩;have HO:=hid (Qk5 hm F.out.kept F.out.cok HT4.out);clear hm HC
 try dsimp only
 go_wp2_with fail
 refine HO.out.mono ?_;rintro e w6 ⟨so,rfl,hm,-⟩;have hm:Sh w w6 so g (fun _=>False) (lv4 s0):=hm;have HS6:=hid hm;have HR:Hid (Calls Tryz.prog 29 #[.pointer (some ⟨so,0,none⟩)] w6 fun e w'=>e=.returned (.int .u32 4)∧w6=w'):=hid (by
  have h1:=Qk6 hm;rw[F.out.root]at h1;exact h1)
 have HGT:=hid (Qix hm (by have:=F.out.k4.Qac;omega) 4 (by decide));clear hm HO
 try dsimp only
 go_wp2_with (first|(go_at_call 29;refine HR.out.mono ?_;rintro e w7 ⟨rfl,rfl⟩)|fail)
 refine HGT.out.mono ?_;rintro e w7 ⟨hg7,hx⟩;rcases hx with ⟨hE,-⟩|⟨p,a,c,-,hpg,rfl,hsg,hnw⟩
 ·exact absurd F.out.g4.1 hE
 obtain rfl:p=lp2:=Option.some.inj (hpg.symm.trans F.out.g4.2);have hsg:Ws.Seg w7 a 1 c [3]:=hsg;have hv:pgV lp2 a lp2.kids.length c=#[.int .u8 3,.slice a 1 c,.string ⟨#[]⟩]:=rfl;rw[hv];obtain⟨gk,ok,rfl,hk⟩:=hsg.addr (by omega);have hk0:=hk 0 (by omega);have HLT:Hid (w6.heap.size≤gk∧gk<w7.heap.size):=hid ⟨hnw _ rfl,World.block_lt_of_cell? _ _ hk0⟩;have hm7:=HS6.out.go hg7;have HC7:=hid (heap_alloc_new w7 (.cells #[.int .u8 0,.slice none 0 0,.string ⟨#[]⟩] 40));have HG7:=hid (Qb w7 (.cells #[.int .u8 0,.slice none 0 0,.string ⟨#[]⟩] 40));have HG67:=hid hg7;have HSG7:=hid hsg;clear hpg hnw hv hk hk0 hsg hg7 hm7 HR HGT
 try dsimp only
 go_wp2_with (first
  |(with_reducible refine Qu rfl (.tmp 11) (.tmp 75) rfl w7.heap.size rfl (.int .u8 3) (.slice (some ⟨gk,ok,none⟩) 1 c) (.string ⟨#[]⟩) rfl rfl rfl rfl _ _ _ HC7.out ?_;intro w8 hq8 ht8)
  |fail)
 have hg78:=Ql HG7.out ht8 (Nat.le_refl _);have hm8:Sh w w8 so g (fun k=>k=w7.heap.size∨k=gk) (lv4 s0):=HS6.out.more (Qa HG67.out hg78) (fun k hk=>.inr (by
  have h1:=HLT.out;have h2:=hg78.size;have h3:=HG67.out.size;have h4:=block_lt hq8;rcases hk with rfl|rfl <;> omega))
 have HP5:Hid (Calls Tryz.prog 16 #[.pointer (some ⟨so,0,none⟩),.agg #[.int .u8 4,.slice none 0 0,.string ⟨#[]⟩]] w8 (ShX w w8 so g (fun k=>k=w7.heap.size∨k=gk) (.tuple #[.int .u32 2,.int .i64 0]) (lv5 s0))):=hid (Qf2 hm8 F.out.k4 (by decide) lp5 none 0 Qif (QbN w8) (by decide) F.out.e4 F.out.f4);have HQ8:=hid hq8;have HSG8:=hid (HSG7.out.grown hg78);clear hq8 ht8 hg78 hm8 HSG7 HC7 HG7 HG67 HS6 HLT
 try dsimp only
 go_wp2_with fail
 refine HP5.out.mono ?_;rintro e w9 ⟨rfl,hm,hst⟩;have HQ9:=hid ((hst.block (.inl rfl) (block_lt HQ8.out)).trans HQ8.out);have HSG9:=hid (hst.seg HSG8.out (fun ad had=>by cases had;exact .inr rfl));have HF:Hid (Calls Tryz.prog 20 #[.pointer (some ⟨so,0,none⟩)] w9 fun e w'=>e=.returned (.int .i64 6)∧w9=w'):=hid (QbS hm (n:=6) (by rw[F.out.f5];rfl));have HD:Hid (Calls Tryz.prog 19 #[.pointer (some ⟨so,0,none⟩),.int .u32 2] w9 (ShX w w9 so g (fun k=>k=w7.heap.size∨k=gk) (.int .i64 0) { lv5 s0 with now:=N3 })):=hid (Qk4 hm F.out.k5 2 [4] (fun m=>by
   rw[List.count_cons,List.count_cons,List.count_nil,List.count_cons,List.count_cons,List.count_nil];omega) F.out.d5.1 F.out.d5.2)
 clear hm hst HQ8 HSG8 HP5
 try dsimp only
 go_wp2_with (first|(go_at_call 20;refine HF.out.mono ?_;rintro e w10 ⟨rfl,rfl⟩)|fail)
 refine HD.out.mono ?_;rintro e w10 ⟨rfl,hm,hst⟩;have HQ10:=hid ((hst.block (.inl rfl) (block_lt HQ9.out)).trans HQ9.out);have HSG10:=hid (hst.seg HSG9.out (fun ad had=>by cases had;exact .inr rfl));have hg10:=Qb w10 (.cells #[.int .u32 3] 35);have hseg:Ws.Seg (w10.alloc (.cells #[.int .u32 3] 35)) (some ⟨w10.heap.size,0,none⟩) 1 1 [3]:=lit32 w10 3;obtain⟨W10,hW10⟩:∃X,w10.alloc (.cells #[.int .u32 3] 35)=X:=⟨_,rfl⟩;rw[hW10]at hg10 hseg;have HW10:=hid hW10;have HM10:=hid (hm.go hg10);have HSP:Hid (Calls Tryz.prog 43 #[.agg #[.int .u8 3,.slice (some ⟨gk,ok,none⟩) 1 c,.string ⟨#[]⟩],.agg #[.int .u8 3,.slice (some ⟨w10.heap.size,0,none⟩) 1 1,.string ⟨#[]⟩]] W10 fun e w'=>e=.returned (.bool true)∧W10.grownBy w' none):=hid (by
  have h1:=Qah lp2 lp2 (some ⟨gk,ok,none⟩) (some ⟨w10.heap.size,0,none⟩) c 1 W10 (HSG10.out.grown hg10) hseg Qc3.data Qc3.data;rw[Qin]at h1;exact h1)
 obtain⟨p0,p1,p2⟩:=QcN HQ10.out;have HGE:Hid (∀W,W10.grownBy W none→Calls Tryz.prog 30 #[.pointer (some ⟨so,0,none⟩)] W fun e w'=>e=.returned (.int .u64 2)∧W=w'):=hid (fun W k=>by
  have h1:=Qlp (HM10.out.go k);rw[show({ lv5 s0 with now:=N3 }:SpS).sup.gen=2 from F.out.gen]at h1;exact h1)
 have HF2:Hid (∀W,W10.grownBy W none→Calls Tryz.prog 20 #[.pointer (some ⟨so,0,none⟩)] W fun e w'=>e=.returned (.int .i64 7)∧W=w'):=hid (fun W k=>QbS (HM10.out.go k) (n:=7) (by rw[F.out.f6];rfl));clear hm hst hg10 hseg hW10 HQ9 HSG9 HD HF HQ10 HSG10
 try dsimp only
 go_wp2_with fail
 rw[HW10.out];refine HSP.out.mono ?_;rintro e w11 ⟨rfl,hg11⟩;have HGE2:=hid (HGE.out w11 hg11);have HF3:=hid (HF2.out w11 hg11);have HX:Hid (w.grownBy w11 none):=hid (HM10.out.go hg11).gr;clear hg11 HSP HGE HF2 p0 p1 p2;go_wp2_with (first
  |(go_at_call 30;refine HGE2.out.mono ?_;rintro e w12 ⟨rfl,rfl⟩)
  |(go_at_call 20;refine HF3.out.mono ?_;rintro e w12 ⟨rfl,rfl⟩)
  |fail)
 go_ret
 exact⟨rfl,HX.out⟩
end Sp
namespace Sp
open Go.RowKit Bs Dv Gr
open Su (Sup SupOk GeoOk putS getS supE)
open Cn (CnOk)
section
variable {s t : SpS} {own own2 : List Nat}
theorem Qjp(h:GoodC s.dv s.sup.pages s.now own){n:Nat}(hn:0<dOf s.sup.pages s.now n):getErr s n=0∧∃p,pageF s.dv.blocks (s.dv.last n)=some p:=by
 obtain⟨a,b,c,_⟩:=Qbi hn;have hlt:=h.ref.lt hn;have hp:=h.has n hn;have hu:useE s n=0:=by
  unfold useE accE;rw[if_neg (show ¬(n<2∨s.dv.blocks≤n) by omega),if_neg b,if_neg (fun q=>q rfl),if_neg (by omega)]
 cases hpg:pageF s.dv.blocks (s.dv.last n) with
 |none=>rw[hpg]at hp;cases hp
 |some p=>
  refine⟨?_,p,rfl⟩;unfold getErr;rw[hu,if_neg (fun q=>q rfl),hpg,if_neg (fun q=>by cases q)]
end
end Sp
end Go.Proofs.YtbbbocoliandcaaGreatDoor
