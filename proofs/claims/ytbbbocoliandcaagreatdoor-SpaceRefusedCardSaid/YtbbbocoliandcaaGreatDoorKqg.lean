/- Parts of the proof. -/
import Derived.Test.YtbbbocoliandcaaGreatDoorKqf
set_option maxRecDepth 100000
set_option maxHeartbeats 8000000
open Go.Lib (hid)
namespace Go.Proofs.YtbbbocoliandcaaGreatDoor
namespace Sp
open Go.RowKit Bs Dv Gr
open Su (Sup SupOk GeoOk putS supE T4)
open Cn (CnOk Ql)
def lp1:Pg:=⟨4,[],[120]⟩
def lp2:Pg:=⟨3,[3],[]⟩
def lp5:Pg:=⟨4,[],[]⟩
section
variable (s0 : SpS)
def lv1:SpS:=putP s0 lp1 3
def lv2:SpS:=putP (lv1 s0) lp2 4
def lv3:SpS:=commitP (lv2 s0) 4
def lv4:SpS:=⟨(lv3 s0).dv,(lv3 s0).sup,(lv3 s0).held,(lv3 s0).held,none,(lv3 s0).slot⟩
def lv5:SpS:=putP (lv4 s0) lp5 2
end
def N1:List Int:=[1,1,1,1,0,0,0,0,0,0,0,0]
def N0:List Int:=[1,1,1,0,0,0,0,0,0,0,0,0]
def N2:List Int:=[1,1,1,1,1,0,0,0,0,0,0,0]
def N3:List Int:=[1,1,0,1,1,1,0,0,0,0,0,0]
def N5:List Int:=[1,1,1,1,1,1,0,0,0,0,0,0]
theorem Qio:PgOk lp1:=⟨by decide,(fun k hk=>by cases hk),fun x hx=>by rcases List.mem_cons.1 hx with rfl|hx;exact⟨by decide,by decide⟩;cases hx⟩
theorem Qdk:PgOk lp2:=⟨by decide,(fun k hk=>by rcases List.mem_cons.1 hk with rfl|hk;exact⟨by decide,by decide⟩;cases hk),fun x hx=>by cases hx⟩
theorem Qip:PgOk lp5:=⟨by decide,(fun k hk=>by cases hk),fun x hx=>by cases hx⟩
structure LvF (s0:SpS):Prop where
 k0:SpOk s0 [] [] [] 0
 k1:SpOk (lv1 s0) [3] [] [] 1
 k2:SpOk (lv2 s0) [4] [] [] 2
 k3:SpOk (lv3 s0) [4] [4] [] 3
 k4:SpOk (lv4 s0) [4] [4] [] 3
 k5:SpOk (lv5 s0) [4,2] [4] [] 4
 f0:frees s0=3 :: [4,5,6,7,8,9,10,11]
 f1:frees (lv1 s0)=4 :: [5,6,7,8,9,10,11]
 f4:frees (lv4 s0)=2 :: [6,7,8,9,10,11]
 f5:frees (lv5 s0)=[6,7,8,9,10,11]
 f6:frees { (lv5 s0) with now:=N3 }=[2,6,7,8,9,10,11]
 e0:putErr s0 lp1=0
 e1:putErr (lv1 s0) lp2=0
 e4:putErr (lv4 s0) lp5=0
 g4:getErr (lv4 s0) 4=0∧pageF (lv4 s0).dv.blocks ((lv4 s0).dv.last 4)=some lp2
 d5:GoodC (lv5 s0).dv (lv5 s0).sup.pages N3 [4]∧∀m,N3.getD m 0≤(lv5 s0).now.getD m 0
 root:(lv4 s0).sup.root=4
 gen:(lv5 s0).sup.gen=2
 kept:Kept (lv3 s0).dv (lv3 s0).sup (lv3 s0).held (lv3 s0).slot
 cok:CnOk (lv3 s0).dv.size (lv3 s0).dv.blocks (lv3 s0).held
theorem lvf{s0:SpS}(k0:SpOk s0 [] [] [] 0)(c0:Cfg s0 N0 N0 none [2] 1):LvF s0:=by
 have f0:frees s0=3 :: [4,5,6,7,8,9,10,11]:=by rw[c0.frees];decide +kernel
 have k1:SpOk (lv1 s0) [3] [] [] 1:=SpOk.put (a:=[]) (p:=lp1) k0 (by decide) Qio (by decide) (by rw[c0.size];decide) f0 (by rw[c0.pages];decide);have c1:Cfg (lv1 s0) N1 N0 none [2] 1:=c0.put k0 (by decide) (by decide);have f1:frees (lv1 s0)=4 :: [5,6,7,8,9,10,11]:=by rw[c1.frees];decide +kernel
 have k2:SpOk (lv2 s0) [4] [] [] 2:=SpOk.put (a:=[]) (p:=lp2) k1 (by decide) Qdk (by decide) (by rw[c1.size];decide) f1 (by rw[c1.pages];decide);have c2:Cfg (lv2 s0) N2 N0 none [2] 1:=c1.put k1 (by decide) (by decide);have k3:SpOk (lv3 s0) [4] [4] [] 3:=k2.commit (root:=4) (by decide) (.inr ⟨by decide,List.mem_cons_self ..⟩);have c3:Cfg (lv3 s0) N3 N3 none [5] 2:=c2.commit k2 (by decide) (.inr ⟨by decide,List.mem_cons_self ..⟩) (by decide +kernel) (by decide +kernel);have k4:SpOk (lv4 s0) [4] [4] [] 3:=k3.abort;have c4:Cfg (lv4 s0) N3 N3 none [5] 2:=⟨c3.size,c3.blocks,c3.held,c3.held,rfl,c3.pages,c3.gen⟩;have f4:frees (lv4 s0)=2 :: [6,7,8,9,10,11]:=by rw[c4.frees];decide +kernel
 have k5:SpOk (lv5 s0) [4,2] [4] [] 4:=SpOk.put (a:=[4]) (p:=lp5) k4 (by decide) Qip (by decide) (by rw[c4.size];decide) f4 (by rw[c4.pages];decide);have c5:Cfg (lv5 s0) N5 N3 none [5] 2:=c4.put k4 (by decide) (by decide);have e0:putErr s0 lp1=0:=by
  rw[k0.Qa1 (by decide) (fun k hk=>by cases hk) (by decide) (by rw[c0.size];decide),f0,c0.pages]
  decide
 have e1:putErr (lv1 s0) lp2=0:=by
  rw[k1.Qa1 (by decide) (fun k hk=>by rcases List.mem_cons.1 hk with rfl|hk;exact List.mem_cons_self ..;cases hk) (by decide) (by rw[c1.size];decide),f1,c1.pages]
  decide
 have e4:putErr (lv4 s0) lp5=0:=by
  rw[k4.Qa1 (by decide) (fun k hk=>by cases hk) (by decide) (by rw[c4.size];decide),f4,c4.pages]
  decide
 have hpg:pageF (lv4 s0).dv.blocks ((lv4 s0).dv.last 4)=some lp2:=by
  obtain⟨-,-,l3,l4⟩:=k2.Qas (root:=4) (by decide) (.inr ⟨by decide,List.mem_cons_self ..⟩);have h1:(lv3 s0).dv.last 4=(lv2 s0).dv.last 4:=l3 4 (by rw[c2.blocks];decide) (by have:=k2.slots;omega) (by
   unfold newPages;rw[c2.frees,c2.pages]
   decide +kernel)
  have h2:=k1.Qc1 (p:=lp2) (n:=4) (by decide) (by rw[c1.blocks];decide) (by rw[c1.size];decide) Qdk (by decide) (fun k hk=>by rw[c1.blocks];rcases List.mem_cons.1 hk with rfl|hk;exact⟨by decide,by decide⟩;cases hk)
  show pageF (lv3 s0).dv.blocks ((lv3 s0).dv.last 4)=_
  rw[h1,c3.blocks,←c1.blocks];exact h2
 refine⟨k0,k1,k2,k3,k4,k5,f0,f1,f4,by rw[c5.frees];decide +kernel,?_,e0,e1,e4,⟨?_,hpg⟩,⟨?_,fun m=>?_⟩,rfl,c5.gen,k3.kept,k3.held.cok⟩
 ·rw[QaF]
  show frL (lv5 s0).dv.blocks N3 (lv5 s0).held (lv5 s0).mark=_
  rw[c5.blocks,c5.held,c5.mark]
  decide +kernel
 ·unfold getErr;rw[k4.use (List.mem_cons_self ..),if_neg (fun q=>q rfl),if_neg];rw[hpg];intro q;cases q
 ·obtain⟨a,b,c,d⟩:=k4.Qav (p:=lp5) (n:=2) (by rw[c4.blocks];decide) (by rw[c4.size];decide);have h1:=k4.now;rw[c4.now]at h1;refine h1.kept a b fun m hm=>?_
  show(putP (lv4 s0) lp5 2).dv.last m=_
  rw[d m,if_neg];rintro rfl;have:=(Qcz hm).2.2.1
  revert this
  decide
 ·rw[c5.now];by_cases hm:m<12
  ·revert m
   decide
  ·rw[List.getD_eq_getElem?_getD,List.getD_eq_getElem?_getD,List.getElem?_eq_none (show N3.length≤m by show 12≤m;omega),List.getElem?_eq_none (show N5.length≤m by show 12≤m;omega)];exact Int.le_refl _
theorem lvf0:LvF (firstP 128 12):=lvf (QdO QaQ QbK) QeY
theorem Qhx(w0 w:World)(hw:w0.grownBy w none)(hT4:T4 w0):Calls Tryz.prog 11 #[.agg #[.int .i64 128,.int .i64 12]] w (MadeX w0 w 128 12):=QfZ w0 w 128 12 hw QaQ QbK hT4
end Sp
namespace Sp
open Go.RowKit Bs Dv Gr
open Su (Sup SupOk GeoOk putS supE)
open Cn (CnOk Ql)
open Fr (blk putF Fits)
def onePg(b:Int):Pg:=⟨3+b % 200,[],[b]⟩
theorem QcY{b:Int}(hb:0≤b∧b<256):PgOk (onePg b)∧3≤(onePg b).tag∧(dataP (onePg b)).length=3:=by
 refine⟨⟨by show 0≤3+b % 200∧3+b % 200<256;omega,(fun k hk=>by cases hk),fun x hx=>?_⟩,by show 3≤3+b % 200;omega,QbO _⟩;rcases List.mem_cons.1 hx with rfl|hx
 ·exact hb
 ·cases hx
def Has(s:SpS)(b:Int)(l:List Nat):Prop:=∀n∈l,pageF s.dv.blocks (s.dv.last n)=some (onePg b)∧s.now.getD n 0=1
structure PutsI (f0:Nat) (s:SpS) (own0 hown mown:List Nat) (T:Nat) (b:Int) (l:List Nat):Prop where
 sp:SpOk s (own0++l) hown mown T
 has:Has s b l
 few:l.length+(frees s).length≤f0
section
variable {f0 : Nat} {s : SpS} {own0 hown mown : List Nat} {T : Nat} {b : Int} {l : List Nat}
theorem PutsI.start(h:SpOk s own0 hown mown T)(b:Int):PutsI (frees s).length s own0 hown mown T b []:=⟨by rw[List.append_nil];exact h,(fun _ hn=>by cases hn),by rw[List.length_nil];omega⟩
theorem PutsI.err(h:PutsI f0 s own0 hown mown T b l)(hb:0≤b∧b<256):putErr s (onePg b)=if (frees s).length≤s.sup.pages.length then 9 else 0:=by
 obtain⟨h1,h2,h3⟩:=QcY hb;exact h.sp.Qa1 h2 (fun k hk=>by cases hk) (by show 0≤65535;omega) (by have:=h.sp.dok.lo;omega)
theorem PutsI.put(h:PutsI f0 s own0 hown mown T b l)(hb:0≤b∧b<256)(hT:T≤1000){n:Nat}{r:List Nat}(hf:frees s=n :: r)(hl:s.sup.pages.length≤r.length):PutsI f0 (putP s (onePg b) n) own0 hown mown (T+1) b (l++[n]):=by
 obtain⟨h1,h2,h3⟩:=QcY hb;have h4:(dataP (onePg b)).length+16≤s.dv.size:=by have:=h.sp.dok.lo;omega
 obtain⟨hn,hn2,hnp,c0,c1,c2⟩:=h.sp.free (n:=n) (by rw[hf];exact List.mem_cons_self ..);obtain⟨e1,e2,e3,e4⟩:=h.sp.Qav (p:=onePg b) hn h4;have hlen:n<s.now.length:=by rw[h.sp.now.cok.len];exact hn
 have hsp:SpOk (putP s (onePg b) n) (own0++l++[n]) hown mown (T+1):=by
  refine SpOk.put (a:=own0++l) (p:=onePg b) ?_ hT h1 h2 h4 hf hl
  show SpOk s (own0++l++[]) hown mown T
  rw[List.append_nil];exact h.sp
 refine⟨by rw[←List.append_assoc];exact hsp,fun m hm=>?_,?_⟩
 ·rw[e2];rcases List.mem_append.1 hm with q|q
  ·obtain⟨a,b'⟩:=h.has m q;have hmn:m≠n:=fun e=>by rw[e]at b';omega
   refine⟨by rw[e4 m,if_neg hmn];exact a,?_⟩
   show(s.now.set n 1).getD m 0=1
   rw[Ql _ _ _ _ hlen,if_neg hmn];exact b'
  ·obtain rfl:=List.mem_singleton.1 q;refine⟨h.sp.Qc1 hT hn h4 h1 h2 (fun k hk=>by cases hk),?_⟩
   show(s.now.set m 1).getD m 0=1
   rw[Ql _ _ _ _ hlen,if_pos rfl]
 ·have e5:frees (putP s (onePg b) n)=r:=by
   have e6:frees (putP s (onePg b) n)=frees { s with now:=s.now.set n 1 }:=by
    rw[QaF,QaF,e2]
    rfl
   rw[e6];exact QcM hf (by rw[h.sp.now.cok.len])
  rw[e5,List.length_append];have:=h.few;rw[hf,List.length_cons]at this
  show l.length+1+r.length≤f0
  omega
structure HeldI (s:SpS) (b:Int) (l:List Nat):Prop where
 page:∀n∈l,pageF s.dv.blocks (s.dv.last n)=some (onePg b)
 held:∀n∈l,s.held.getD n 0=1
 at':∀n∈l,2≤n∧n<s.dv.blocks∧(n:Int)∉s.sup.pages
theorem PutsI.commit(h:PutsI f0 s own0 hown mown T b l)(hT:T≤1000):SpOk (commitP s 0) (own0++l) (own0++l) [] (T+1)∧HeldI (commitP s 0) b l:=by
 have hc:=h.sp.commit (root:=0) hT (.inl rfl);obtain⟨-,-,c3,c4⟩:=h.sp.Qas (root:=0) hT (.inl rfl);have hbk:(commitP s 0).dv.blocks=s.dv.blocks:=by rw[c4]
 have hat:∀n∈l,2≤n∧n<s.dv.blocks∧(n:Int)∉s.sup.pages∧n∉newPages s:=fun n hn=>by
  obtain⟨a1,a2,a3,a4⟩:=h.sp.now.at' (n:=n) (List.mem_append_right _ hn);exact⟨a1,a2,a3,fun q=>by have:=(h.sp.QaI q).2.2.2.1;omega⟩
 refine⟨hc,fun n hn=>?_,fun n hn=>?_,fun n hn=>?_⟩
 ·obtain⟨a1,a2,a3,a4⟩:=hat n hn;rw[hbk,c3 n a2 (by have:=h.sp.slots;omega) a4];exact(h.has n hn).1
 ·obtain⟨a1,a2,a3,a4⟩:=hat n hn
  show(newNow s).getD n 0=1
  unfold newNow;rw[QbW (fun m hm=>?_) (fun m hm=>by rw[h.sp.now.cok.len];exact(h.sp.QaI hm).1),if_neg (fun q=>?_),if_neg a4]
  ·exact(h.has n hn).2
  ·obtain⟨p,hp,e⟩:=List.mem_map.1 q;have:=h.sp.QjO hp;exact a3 (by rw[←e,this];exact hp)
  ·obtain⟨p,hp,rfl⟩:=List.mem_map.1 hm;have:=h.sp.page hp;rw[h.sp.now.cok.len];omega
 ·obtain⟨a1,a2,-,-⟩:=hat n hn;have:=hc.held.at' (n:=n) (List.mem_append_right _ hn);exact⟨this.1,this.2.1,this.2.2.1⟩
theorem HeldI.put{p:Pg}{n:Nat}{r:List Nat}{own:List Nat}(h:HeldI s b l)(hs:SpOk s own hown mown T)(hlen:(dataP p).length+16≤s.dv.size)(hf:frees s=n :: r):HeldI (putP s p n) b l:=by
 obtain⟨hn,hn2,hnp,c0,c1,c2⟩:=hs.free (n:=n) (by rw[hf];exact List.mem_cons_self ..);obtain⟨e1,e2,e3,e4⟩:=hs.Qav (p:=p) hn hlen;refine⟨fun m hm=>?_,h.held,fun m hm=>?_⟩
 ·have h1:=h.held m hm;have hmn:m≠n:=fun e=>by rw[e]at h1;omega
  rw[e2,e4 m,if_neg hmn];exact h.page m hm
 ·rw[e2];exact h.at' m hm
theorem HeldI.now{c:List Int}(h:HeldI s b l):HeldI { s with now:=c } b l:=⟨h.page,h.held,h.at'⟩
theorem HeldI.abort(h:HeldI s b l):HeldI { s with now:=s.held,mark:=none } b l:=⟨h.page,h.held,h.at'⟩
theorem HeldI.got(h:HeldI s b l){n:Nat}(hn:n∈l):getErr { s with now:=s.held,mark:=none } n=0∧pageF s.dv.blocks (s.dv.last n)=some (onePg b)∧s.held.getD n 0=1:=by
 obtain⟨a1,a2,a3⟩:=h.at' n hn;have h1:=h.held n hn;have h2:=h.page n hn;have hu:useE { s with now:=s.held,mark:=none } n=0:=by
  unfold useE accE;rw[if_neg (show ¬(n<2∨s.dv.blocks≤n) by omega),if_neg a3,if_neg (fun q=>q rfl),if_neg (show ¬s.held.getD n 0=0 by omega)]
 refine⟨?_,h2,h1⟩;unfold getErr;rw[hu,if_neg (fun q=>q rfl),if_neg]
 show ¬pageF s.dv.blocks (s.dv.last n)=none
 rw[h2];intro q;cases q
end
end Sp
namespace Sp
open Go.RowKit Bs Dv Gr
open Cn (CnOk)
open Su (Sup SupOk T4)
def Sh(w0 w:World)(sg g:Nat)(A:Nat→Prop)(s:SpS):Prop:=∃x:Nm,x.sg=sg∧x.g=g∧SpM w0 w x s∧∀k,A k→k<w.heap.size∧¬x.fp k
def Rs(w0 w:World)(rg sg g:Nat)(A:Nat→Prop)(r:Rn):Prop:=∃v:Rv,v.rg=rg∧v.x.sg=sg∧v.x.g=g∧RnM w0 w v r∧∀k,A k→k<w.heap.size∧¬v.fp k
def Stay(w w':World)(A:Nat→Prop):Prop:=Turn w w' fun k=>¬A k
theorem QaK{W:World}{b:Nat}{t:Int}{a:Option Addr}{n c:Nat}{S:ByteArray}(h:W.heap[b]?=some (.cells #[.int .u8 t,.slice a n c,.string S] 40 (0,0))):W.cell? ⟨b,0,none⟩=some (.int .u8 t)∧W.cell? ⟨b,1,none⟩=some (.slice a n c)∧W.cell? ⟨b,2,none⟩=some (.string S):=by
 refine⟨?_,?_,?_⟩ <;> rw[cell_of_row _ _ _ _ _ _ h] <;> rfl
theorem Qjb(W:World)(b:Int):(convert 101 9 (.slice (some ⟨W.heap.size,0,none⟩) 1 1)).run Tryz.prog (W.alloc (.cells #[.int .u8 b] 5))=.ok (.string (strOfNums [b])) (W.alloc (.cells #[.int .u8 b] 5)):=
 Qam W.heap.size 0 1 1 [b] _ (fun j x hx=>by
  match j,hx with
  |0,hx=>
   have hx:some b=some x:=hx;cases hx
   exact⟨Su.Qae W _ _,by unfold World.frozen?;rw[heap_alloc_new];simp⟩
  |j+1,hx=>cases hx) rfl
section
variable {w0 w w' : World} {sg g : Nat} {A : Nat → Prop} {s s' : SpS}
theorem Stay.Qm(k:w.grownBy w' none):Stay w w' A:=(Qd k).mono (fun _ _ e=>e.elim)
theorem Stay.refl:Stay w w A:=Turn.refl w _
theorem Stay.trans{w2:World}(h:Stay w w' A)(k:Stay w' w2 A):Stay w w2 A:=Turn.trans h k (fun _ _ e=>e)
theorem Stay.less{B:Nat→Prop}(h:Stay w w' A)(k:∀i,B i→A i):Stay w w' B:=h.mono (fun i _ e q=>e (k i q))
theorem Stay.block(h:Stay w w' A){k:Nat}(hk:A k)(hl:k<w.heap.size):w'.heap[k]?=w.heap[k]?:=Turn.block h k hl (fun e=>e hk)
theorem Stay.cell(h:Stay w w' A){p:Addr}{v:Value}(hc:w.cell? p=some v)(hp:A p.block):w'.cell? p=some v:=Turn.cell h hc (fun e=>e hp)
theorem Stay.seg(h:Stay w w' A){a:Option Addr}{n c:Nat}{l:List Int}(hs:Ws.Seg w a n c l)(hp:∀ad,a=some ad→A ad.block):Ws.Seg w' a n c l:=Qo hs h (fun ad had e=>e (hp ad had))
theorem Sh.gr(h:Sh w0 w sg g A s):w0.grownBy w none:=by
 obtain⟨x,-,-,h,-⟩:=h;exact h.gr
theorem Sh.go(h:Sh w0 w sg g A s)(k:w.grownBy w' none):Sh w0 w' sg g A s:=by
 obtain⟨x,a,b,h,d⟩:=h;exact⟨x,a,b,h.go k,fun i hi=>⟨Nat.lt_of_lt_of_le (d i hi).1 k.size,(d i hi).2⟩⟩
theorem Sh.less{B:Nat→Prop}(h:Sh w0 w sg g A s)(k:∀i,B i→A i):Sh w0 w sg g B s:=by
 obtain⟨x,a,b,h,d⟩:=h;exact⟨x,a,b,h,fun i hi=>d i (k i hi)⟩
theorem Sh.more{B:Nat→Prop}(h:Sh w0 w sg g A s)(k:w.grownBy w' none)(hB:∀i,B i→A i∨(w.heap.size≤i∧i<w'.heap.size)):Sh w0 w' sg g B s:=by
 obtain⟨x,a,b,h,d⟩:=h;refine⟨x,a,b,h.go k,fun i hi=>?_⟩;rcases hB i hi with q|q
 ·exact⟨Nat.lt_of_lt_of_le (d i q).1 k.size,(d i q).2⟩
 ·exact⟨q.2,fun e=>by have:=h.lt e;omega⟩
theorem Sh.op{x:Nm}(_h:SpM w0 w x s)(d:∀k,A k→k<w.heap.size∧¬x.fp k)(o:Op w0 w x s' w'):Sh w0 w' x.sg x.g A s'∧Stay w w' A:=by
 obtain⟨x',a,b,c,t,e⟩:=o;exact⟨⟨x',a,b,c,fun k hk=>⟨Nat.lt_of_lt_of_le (d k hk).1 t.size,fun q=>(e k q).elim (d k hk).2 (fun z=>by have:=(d k hk).1;omega)⟩⟩,t.mono (fun k _ q z=>(d k z).2 q)⟩
theorem Sh.of{x:Nm}(h:SpM w0 w x s):Sh w0 w x.sg x.g (fun _=>False) s:=⟨x,rfl,rfl,h,fun _ e=>e.elim⟩
theorem Sh.lt(h:Sh w0 w sg g A s){k:Nat}(hk:A k):k<w.heap.size:=by
 obtain⟨x,-,-,-,d⟩:=h;exact(d k hk).1
end
section
variable {w0 w w' : World} {sg g : Nat} {A : Nat → Prop} {s s' : SpS} {own hown mown : List Nat} {T : Nat}
theorem QbC(h:Sh w0 w sg g A s){n:Nat}(hn:(frees s).length=n):Calls Tryz.prog 20 #[.pointer (some ⟨sg,0,none⟩)] w fun e w'=>e=.returned (.int .i64 (n:Int))∧w=w':=by
 obtain⟨x,rfl,rfl,h,d⟩:=h;subst hn;exact QfI h
theorem Qg4(h:Sh w0 w sg g A s):Calls Tryz.prog 29 #[.pointer (some ⟨sg,0,none⟩)] w fun e w'=>e=.returned (.int .u32 s.sup.root)∧w=w':=by
 obtain⟨x,rfl,rfl,h,d⟩:=h;exact QjT h
theorem QiK(h:Sh w0 w sg g A s):Calls Tryz.prog 30 #[.pointer (some ⟨sg,0,none⟩)] w fun e w'=>e=.returned (.int .u64 s.sup.gen)∧w=w':=by
 obtain⟨x,rfl,rfl,h,d⟩:=h;exact QkG h
theorem Qbg(h:Sh w0 w sg g A s)(k:Nat)(hk:k<4294967296):Calls Tryz.prog 23 #[.pointer (some ⟨sg,0,none⟩),.int .u32 (k:Int)] w fun e w'=>e=.returned (.int .i64 (s.now.getD k 0))∧w=w':=by
 obtain⟨x,rfl,rfl,h,d⟩:=h;exact Qdc h k hk
theorem Qlf(h:Sh w0 w sg g A s)(kids:Int)(hk:-9223372036854775808≤kids∧kids≤9223372036854775807):Calls Tryz.prog 26 #[.pointer (some ⟨sg,0,none⟩),.int .i64 kids] w fun e w'=>e=.returned (.int .i64 (roomP s.dv.size kids))∧w.grownBy w' none:=by
 obtain⟨x,rfl,rfl,h,d⟩:=h;exact Qis h kids hk
theorem Qer(h:Sh w0 w sg g A s)(hp:s.sup.pages.length≤100000)(n:Nat)(hn:n<4294967296):Calls Tryz.prog 25 #[.pointer (some ⟨sg,0,none⟩),.int .u32 (n:Int)] w (GetX s n w):=by
 obtain⟨x,rfl,rfl,h,d⟩:=h;exact Qaj h n hn hp
def ShX(w0 w:World)(sg g:Nat)(A:Nat→Prop)(v:Value)(s':SpS)(e:Ending)(w':World):Prop:=e=.returned v∧Sh w0 w' sg g A s'∧Stay w w' A
theorem Qbs(h:Sh w0 w sg g A s)(hk:SpOk s own hown mown T)(hT:T≤1000)(p:Pg)(a:Option Addr)(c:Nat)(ho:PgOk p)(hs:Ws.Seg w a p.kids.length c p.kids)(hdl:p.data.length≤1000000000){n:Nat}{l:List Nat}(he:putErr s p=0)(hf:frees s=n :: l) :
  Calls Tryz.prog 16 #[.pointer (some ⟨sg,0,none⟩),.agg #[.int .u8 p.tag,.slice a p.kids.length c,.string (strOfNums p.data)]] w (ShX w0 w sg g A (.tuple #[.int .u32 (n:Int),.int .i64 0]) (putP s p n)):=by
 obtain⟨x,rfl,rfl,h,d⟩:=h;exact(Qw h hk hT p a c ho hs hdl he hf).mono fun e w' q=>⟨q.1,Sh.op h d q.2⟩
theorem Qar(h:Sh w0 w sg g A s)(hk:SpOk s own hown mown T)(hT:T≤1000)(p:Pg)(a:Option Addr)(c:Nat)(ho:PgOk p)(hs:Ws.Seg w a p.kids.length c p.kids)(hdl:p.data.length≤1000000000){E:Int}(he:putErr s p=E)(h0:E≠0) :
  Calls Tryz.prog 16 #[.pointer (some ⟨sg,0,none⟩),.agg #[.int .u8 p.tag,.slice a p.kids.length c,.string (strOfNums p.data)]] w (ShX w0 w sg g A (.tuple #[.int .u32 0,.int .i64 E]) s):=by
 obtain⟨x,rfl,rfl,h,d⟩:=h;exact(Qk5 h hk hT p a c ho hs hdl he h0).mono fun e w' q=>⟨q.1,Sh.op h d q.2⟩
theorem Qg3(h:Sh w0 w sg g A s)(hk:SpOk s own hown mown T)(n:Nat)(own2:List Nat)(hp:∀m,(n :: own2).count m=own.count m){c:List Int}(hc:GoodC s.dv s.sup.pages c own2)(hcl:∀m,c.getD m 0≤s.now.getD m 0) :
  Calls Tryz.prog 19 #[.pointer (some ⟨sg,0,none⟩),.int .u32 (n:Int)] w (ShX w0 w sg g A (.int .i64 0) { s with now:=c }):=by
 obtain⟨x,rfl,rfl,h,d⟩:=h;exact(QkD h hk n own2 hp hc hcl).mono fun e w' q=>⟨q.1,Sh.op h d q.2⟩
theorem QjZ(h:Sh w0 w sg g A s)(hk:SpOk s own hown mown T)(n:Nat)(own2:List Nat)(hp:∀m,(n :: own2).count m=own.count m) :
  Calls Tryz.prog 19 #[.pointer (some ⟨sg,0,none⟩),.int .u32 (n:Int)] w fun e w'=>∃c,ShX w0 w sg g A (.int .i64 0) { s with now:=c } e w'∧SpOk { s with now:=c } own2 hown mown (T+1):=by
 obtain⟨x,rfl,rfl,h,d⟩:=h;have h74:=hk.QW;refine(QdM h n own2 (by omega) (hk.now.perm hp)).mono fun e w' hx=>?_
 obtain⟨c2,e1,g2,l2,m2,t2⟩:=hx;refine⟨c2,⟨e1,Sh.op h d ⟨x,rfl,rfl,m2,t2.mono (fun _ _ e=>.inl (.inr (.inl e))),fun _ q=>.inl q⟩⟩,hk.turn g2 (fun m h0=>?_) fun m=>?_⟩
 ·have h1:=l2 m;have h2:=(g2.cok).at' m;omega
 ·have:=l2 m;have:=(hk.low m).1;omega
theorem Qff(h:Sh w0 w sg g A s)(hk:SpOk s own hown mown T)(hT:T≤1000)(root:Nat)(hn:root<4294967296)(hr:root=0∨root∈own)(hT4:T4 w0) :
  Calls Tryz.prog 27 #[.pointer (some ⟨sg,0,none⟩),.int .u32 (root:Int)] w (ShX w0 w sg g A (.int .i64 0) (commitP s root)):=by
 obtain⟨x,rfl,rfl,h,d⟩:=h;exact(QbX h hk hT root hn hr hT4).mono fun e w' q=>⟨q.1,Sh.op h d q.2⟩
theorem Qcf(h:Sh w0 w sg g A s)(root:Nat)(hn:root<4294967296)(hp:s.sup.pages.length≤100000){E:Int}(hE:comE s root=E)(h0:E≠0) :
  Calls Tryz.prog 27 #[.pointer (some ⟨sg,0,none⟩),.int .u32 (root:Int)] w fun e w'=>e=.returned (.int .i64 E)∧w=w':=by
 obtain⟨x,rfl,rfl,h,d⟩:=h;refine(Qh5 h root hn hp (by rw[hE];exact h0)).mono ?_;rintro e w' (⟨-,q,z⟩|⟨q,-⟩)
 ·exact⟨by rw[q,hE],z⟩
 ·rw[hE]at q;exact absurd q h0
theorem Qgn(h:Sh w0 w sg g A s):Calls Tryz.prog 24 #[.pointer (some ⟨sg,0,none⟩)] w (ShX w0 w sg g A (.int .i64 0) { s with now:=s.held,mark:=none }):=by
 obtain⟨x,rfl,rfl,h,d⟩:=h;exact(abort_yes h).mono fun e w' q=>⟨q.1,Sh.op h d q.2⟩
theorem Qld(h:Sh w0 w sg g A s)(hm:s.mark=none):Calls Tryz.prog 18 #[.pointer (some ⟨sg,0,none⟩)] w (ShX w0 w sg g A (.int .i64 0) { s with mark:=some s.now }):=by
 obtain⟨x,rfl,rfl,h,d⟩:=h;exact(mark_yes h hm).mono fun e w' q=>⟨q.1,Sh.op h d q.2⟩
theorem QhM(h:Sh w0 w sg g A s){m:List Int}(hm:s.mark=some m):Calls Tryz.prog 18 #[.pointer (some ⟨sg,0,none⟩)] w fun e w'=>e=.returned (.int .i64 8)∧w=w':=by
 obtain⟨x,rfl,rfl,h,d⟩:=h;exact QkS h hm
theorem Qlc(h:Sh w0 w sg g A s){m:List Int}(hm:s.mark=some m):Calls Tryz.prog 21 #[.pointer (some ⟨sg,0,none⟩)] w (ShX w0 w sg g A (.int .i64 0) { s with now:=m,mark:=none }):=by
 obtain⟨x,rfl,rfl,h,d⟩:=h;exact(Qfv h hm).mono fun e w' q=>⟨q.1,Sh.op h d q.2⟩
theorem QhK(h:Sh w0 w sg g A s)(hm:s.mark=none):Calls Tryz.prog 22 #[.pointer (some ⟨sg,0,none⟩)] w fun e w'=>e=.returned (.int .i64 8)∧w=w':=by
 obtain⟨x,rfl,rfl,h,d⟩:=h;exact QkB h hm
theorem Qle(h:Sh w0 w sg g A s){sup:Sup}{held:List Int}{slot:Nat}(hk:Kept s.dv sup held slot)(hok:CnOk s.dv.size s.dv.blocks held)(hT4:T4 w0) :
  Calls Tryz.prog 15 #[.pointer (some ⟨g,0,none⟩)] w fun e w'=>∃sg',e=.returned (.tuple #[.pointer (some ⟨sg',0,none⟩),.int .i64 0])∧Sh w0 w' sg' g A ⟨s.dv,sup,held,held,none,slot⟩∧w.grownBy w' none:=by
 obtain⟨x,rfl,rfl,h,d⟩:=h;refine(open_yes w0 w x.g x.b x.P s.dv h.dev sup held slot hk hok hT4).mono ?_;rintro e w' ⟨y,e1,e2,e3,e4,hm,hg,hn,hf⟩;refine⟨y.sg,e1,⟨y,rfl,e2,hm,fun k hk=>⟨Nat.lt_of_lt_of_le (d k hk).1 hg.size,fun q=>?_⟩⟩,hg⟩;rcases hf k q with z|z
 ·exact(d k hk).2 (.inl (.inr (.inr z)))
 ·have:=(d k hk).1;omega
end
section
variable {w0 w w' : World} {rg sg g : Nat} {A : Nat → Prop} {r r' : Rn}
theorem Rs.gr(h:Rs w0 w rg sg g A r):w0.grownBy w none:=by
 obtain⟨v,-,-,-,h,-⟩:=h;exact h.gr
theorem Rs.go(h:Rs w0 w rg sg g A r)(k:w.grownBy w' none):Rs w0 w' rg sg g A r:=by
 obtain⟨v,a,b,c,h,d⟩:=h;exact⟨v,a,b,c,h.go k,fun i hi=>⟨Nat.lt_of_lt_of_le (d i hi).1 k.size,(d i hi).2⟩⟩
theorem Rs.less{B:Nat→Prop}(h:Rs w0 w rg sg g A r)(k:∀i,B i→A i):Rs w0 w rg sg g B r:=by
 obtain⟨v,a,b,c,h,d⟩:=h;exact⟨v,a,b,c,h,fun i hi=>d i (k i hi)⟩
theorem Rs.more{B:Nat→Prop}(h:Rs w0 w rg sg g A r)(k:w.grownBy w' none)(hB:∀i,B i→A i∨(w.heap.size≤i∧i<w'.heap.size)):Rs w0 w' rg sg g B r:=by
 obtain⟨v,a,b,c,h,d⟩:=h;refine⟨v,a,b,c,h.go k,fun i hi=>?_⟩;rcases hB i hi with q|q
 ·exact⟨Nat.lt_of_lt_of_le (d i q).1 k.size,(d i q).2⟩
 ·exact⟨q.2,fun e=>by have:=h.lt e;omega⟩
theorem Rs.lt(h:Rs w0 w rg sg g A r){k:Nat}(hk:A k):k<w.heap.size:=by
 obtain⟨v,-,-,-,-,d⟩:=h;exact(d k hk).1
theorem Rs.cell(h:Rs w0 w rg sg g A r):w.cell? ⟨rg,0,none⟩=some (.pointer (some ⟨g,0,none⟩))∧w.cell? ⟨rg,1,none⟩=some (.pointer (some ⟨sg,0,none⟩)):=by
 obtain⟨v,rfl,rfl,rfl,h,-⟩:=h;exact⟨h.box.cells.1,h.box.cells.2.1⟩
theorem Rs.own(h:Rs w0 w rg sg g A r):∃a c,w.cell? ⟨rg,2,none⟩=some (.slice a r.own.length c)∧Ws.Seg w a r.own.length c (ints r.own):=by
 obtain⟨v,rfl,rfl,rfl,h,-⟩:=h;exact⟨v.oa,v.oc,h.box.cells.2.2.1,h.o⟩
theorem Rs.root(h:Rs w0 w rg sg g A r):w.cell? ⟨rg,6,none⟩=some (.int .u32 (r.root:Int)):=by
 obtain⟨v,rfl,rfl,rfl,h,-⟩:=h;exact h.box.cells.2.2.2.2.2.2
theorem Rs.sp(h:Rs w0 w rg sg g A r):Sh w0 w sg g A r.s:=by
 obtain⟨v,rfl,rfl,rfl,h,d⟩:=h;exact⟨v.x,rfl,rfl,h.sp,fun k hk=>⟨(d k hk).1,fun q=>(d k hk).2 (.inl q)⟩⟩
theorem Rs.op{v:Rv}(_h:RnM w0 w v r)(d:∀k,A k→k<w.heap.size∧¬v.fp k)(o:RnOp w0 w v r' w'):(∃sg',Rs w0 w' v.rg sg' v.x.g A r')∧Stay w w' A:=by
 obtain⟨v',a,b,c,t,e⟩:=o;exact⟨⟨v'.x.sg,v',a,rfl,b,c,fun k hk=>⟨Nat.lt_of_lt_of_le (d k hk).1 t.size,fun q=>(e k q).elim (d k hk).2 (fun z=>by have:=(d k hk).1;omega)⟩⟩,t.mono (fun k _ q z=>(d k z).2 q)⟩
theorem Rs.of{v:Rv}(h:RnM w0 w v r):Rs w0 w v.rg v.x.sg v.x.g (fun _=>False) r:=⟨v,rfl,rfl,rfl,h,fun _ e=>e.elim⟩
def DoS(w0 w:World)(rg g:Nat)(A:Nat→Prop)(r:Rn)(a:AcT)(T:Nat)(e:Ending)(w':World):Prop:=
 ∃(n er:Int) (r':Rn) (sg:Nat),e=.returned (.tuple #[.int .u32 n,.int .i64 er])∧DoR a r n er r'∧RnOk r' (T+1)∧Rs w0 w' rg sg g A r'∧Stay w w' A
theorem rs_do{T:Nat}(h:Rs w0 w rg sg g A r)(hk:RnOk r T)(hT:T≤1000)(a:AcT)(ha:AcOk a)(hT4:T4 w0) :
  Calls Tryz.prog 39 #[.pointer (some ⟨rg,0,none⟩),.agg (acV a)] w (DoS w0 w rg g A r a T):=by
 obtain⟨v,rfl,rfl,rfl,h,d⟩:=h;refine(Qls h hk hT a ha hT4).mono ?_;rintro e w' hx;obtain⟨n,er,r',e1,dr,o⟩:=hx;obtain⟨⟨sg',hr⟩,ht⟩:=Rs.op h d o;exact⟨n,er,r',sg',e1,dr,dr.ok hk hT ha,hr,ht⟩
theorem Rs.step{v:Rv}{s':SpS}(h:RnM w0 w v r)(d:∀k,A k→k<w.heap.size∧¬v.fp k)(o:Op w0 w v.x s' w'):Rs w0 w' v.rg v.x.sg v.x.g A { r with s:=s' }∧Stay w w' A:=by
 have hs:∃v',v'.rg=v.rg∧v'.x.sg=v.x.sg∧v'.x.g=v.x.g∧RnM w0 w' v' { r with s:=s' }∧Turn w w' v.fp∧∀k,v'.fp k→v.fp k∨w.heap.size≤k:=by
  obtain⟨x',a,b,c,t,e⟩:=o;obtain⟨v',a',b',c',t',e'⟩:=h.step (s':=s') ⟨x',a,b,c,t,e⟩;have q1:=c'.box.cells.2.1;have hb:w'.cell? ⟨v.rg,1,none⟩=some (.pointer (some ⟨v.x.sg,0,none⟩)):=t.cell h.box.cells.2.1 h.rgn;rw[a',hb]at q1;have q2:v'.x.sg=v.x.sg:=by
   injection q1 with q1
   injection q1 with q1
   injection q1 with q1
   injection q1 with q1
   exact q1.symm
  exact⟨v',a',q2,b',c',t',e'⟩
 obtain⟨v',a,a2,b,c,t,e⟩:=hs;exact⟨⟨v',a,a2,b,c,fun k hk=>⟨Nat.lt_of_lt_of_le (d k hk).1 t.size,fun q=>(e k q).elim (d k hk).2 (fun z=>by have:=(d k hk).1;omega)⟩⟩,t.mono (fun k _ q z=>(d k z).2 q)⟩
end
end Sp
namespace Sp
open Go.RowKit Bs Dv Gr
theorem QkT{a b:ByteArray}(h:a≠b):¬a.toList=b.toList:=by
 rw[Go.ByteArray.toList_eq,Go.ByteArray.toList_eq];intro e;apply h
 obtain⟨⟨a⟩⟩:=a;obtain⟨⟨b⟩⟩:=b;have:a=b:=e;rw[this]
def pagesB(p q:Pg):Bool:=decide (p.tag=q.tag) && decide (p.data=q.data) && decide (p.kids=q.kids)
theorem Qiz(p:Pg):pagesB p p=true:=by
 unfold pagesB;rw[decide_eq_true rfl,decide_eq_true rfl,decide_eq_true rfl]
 rfl
theorem Qai(p q:Pg)(a b:Option Addr)(c d:Nat)(w:World)(hp:Ws.Seg w a p.kids.length c p.kids)(hq:Ws.Seg w b q.kids.length d q.kids)(hpb:IsB p.data)(hqb:IsB q.data) :
  Calls Tryz.prog 43 #[.agg (pgV p a p.kids.length c),.agg (pgV q b q.kids.length d)] w fun e w'=>e=.returned (.bool (pagesB p q))∧w.grownBy w' none:=by
 have h0:=heap_alloc_new w (.cells (pgV p a p.kids.length c) 40);have g0:=Qb w (.cells (pgV p a p.kids.length c) 40);obtain⟨W0,hW0⟩:∃X,w.alloc (.cells (pgV p a p.kids.length c) 40)=X:=⟨_,rfl⟩;have hsz:W0.heap.size=w.heap.size+1:=by rw[←hW0];simp
 rw[hW0]at h0 g0;have h1:=heap_alloc_new W0 (.cells (pgV q b q.kids.length d) 40);have g1:=Qb W0 (.cells (pgV q b q.kids.length d) 40);obtain⟨W1,hW1⟩:∃X,W0.alloc (.cells (pgV q b q.kids.length d) 40)=X:=⟨_,rfl⟩;rw[hW1]at h1 g1;rw[hsz]at h1;have h2:=Qk h0 g1;have HW0:=hid hW0;have HW1:=hid hW1;have HG:=hid (Qa g0 g1);have a0:W1.cell? ⟨w.heap.size,0,none⟩=some (.int .u8 p.tag):=by rw[cell_of_row _ _ _ _ _ _ h2];rfl
 have a1:W1.cell? ⟨w.heap.size,1,none⟩=some (.slice a p.kids.length c):=by rw[cell_of_row _ _ _ _ _ _ h2];rfl
 have a2:W1.cell? ⟨w.heap.size,2,none⟩=some (.string (strOfNums p.data)):=by rw[cell_of_row _ _ _ _ _ _ h2];rfl
 have b0:W1.cell? ⟨w.heap.size+1,0,none⟩=some (.int .u8 q.tag):=by rw[cell_of_row _ _ _ _ _ _ h1];rfl
 have b1:W1.cell? ⟨w.heap.size+1,1,none⟩=some (.slice b q.kids.length d):=by rw[cell_of_row _ _ _ _ _ _ h1];rfl
 have b2:W1.cell? ⟨w.heap.size+1,2,none⟩=some (.string (strOfNums q.data)):=by rw[cell_of_row _ _ _ _ _ _ h1];rfl
 have HS:=hid (fun W (k:W1.grownBy W none)=>Ws.QjX a b p.kids.length q.kids.length c d p.kids q.kids W (hp.grown (Qa HG.out k)) (hq.grown (Qa HG.out k)));have HE:Hid (pagesB p q=(decide (p.tag=q.tag) && decide (p.data=q.data) && decide (p.kids=q.kids))):=hid rfl;have HST:Hid (strOfNums p.data=strOfNums q.data↔p.data=q.data):=hid ⟨fun e=>Qlj hpb hqb e,fun e=>by rw[e]⟩;have HL0:=hid hp.len;obtain⟨t1,e1⟩:∃t,p.tag=t:=⟨_,rfl⟩;obtain⟨t2,e2⟩:∃t,q.tag=t:=⟨_,rfl⟩;obtain⟨S1,e3⟩:∃t,strOfNums p.data=t:=⟨_,rfl⟩;obtain⟨S2,e4⟩:∃t,strOfNums q.data=t:=⟨_,rfl⟩;obtain⟨n1,e5⟩:∃t,p.kids.length=t:=⟨_,rfl⟩;obtain⟨n2,e6⟩:∃t,q.kids.length=t:=⟨_,rfl⟩;have hv1:pgV p a p.kids.length c=#[.int .u8 t1,.slice a n1 c,.string S1]:=by unfold pgV;rw[e1,e3,e5]
 have hv2:pgV q b q.kids.length d=#[.int .u8 t2,.slice b n2 d,.string S2]:=by unfold pgV;rw[e2,e4,e6]
 rw[e1]at a0 HE;rw[e5]at a1 HS;rw[e3]at a2;rw[e2]at b0 HE;rw[e6]at b1 HS;rw[e4]at b2;rw[e3,e4]at HST;rw[hv1]at HW0;rw[hv2]at HW1;rw[hv1,hv2];clear hv1 hv2 e1 e2 e3 e4 e5 e6 h0 h1 h2 g0 g1 hW0 hW1 hp hq hpb hqb hsz HL0;by_cases k1:t1=t2
 case neg=>
  have q1:(t1==t2)=false:=beq_eq_false_iff_ne.2 k1;have HF:Hid (pagesB p q=false):=hid (by rw[HE.out,decide_eq_false k1,Bool.false_and,Bool.false_and]);clear k1;go_enter Tryz.func43,Tryz.ntmps43
  go_upto_region 1 with fail
  rw[HW0.out,HW1.out];go_wp2;go_ret
  exact⟨by rw[HF.out];rfl,HG.out⟩
 case pos=>
  subst k1;rw[decide_eq_true rfl,Bool.true_and]at HE;have q1:(t1==t1)=true:=beq_self_eq_true _;by_cases k2:S1=S2
  case neg=>
   have q2:=QkT k2;have HF:Hid (pagesB p q=false):=hid (by rw[HE.out,decide_eq_false (fun e=>k2 (HST.out.2 e)),Bool.false_and]);have q3:(S1.toList==S2.toList)=false:=beq_eq_false_iff_ne.2 q2;clear k2;go_enter Tryz.func43,Tryz.ntmps43
   go_upto_region 1 with fail
   rw[HW0.out,HW1.out];go_wp2;go_ret
   exact⟨by rw[HF.out];rfl,HG.out⟩
  case pos=>
   subst k2;rw[decide_eq_true (HST.out.1 rfl),Bool.true_and]at HE;have HF:Hid (pagesB p q=Ws.sameB p.kids q.kids):=hid HE.out;have q3:(S1.toList==S1.toList)=true:=beq_self_eq_true _;obtain⟨B,hB⟩:∃B,Ws.sameB p.kids q.kids=B:=⟨_,rfl⟩;rw[hB]at HS HF;clear hB;go_enter Tryz.func43,Tryz.ntmps43
   go_upto_region 1 with fail
   rw[HW0.out,HW1.out];go_wp2_with fail
   refine(HS.out _ (Qy W1)).mono ?_;rintro e w4 ⟨rfl,hm⟩;have hg4:W1.grownBy w4 none:=by obtain⟨m,rfl⟩:=hm;exact(Turn.drewN _ m nowhere).grown
   dsimp only;go_wp2;go_ret
   exact⟨by rw[HF.out];rfl,Qa HG.out hg4⟩
end Sp
namespace Sp
open Go.RowKit Bs Dv Gr
open Su (Sup SupOk GeoOk putS supE T4)
open Cn (CnOk Ql)
theorem QgX(w0 w:World)(hw:w0.grownBy w none)(hT4:T4 w0):Calls Tryz.prog 11 #[.agg #[.int .i64 128,.int .i64 12]] w fun e w'=>∃sg g,e=.returned (.tuple #[.pointer (some ⟨g,0,none⟩),.pointer (some ⟨sg,0,none⟩)])∧Sh w0 w' sg g (fun _=>False) (firstP 128 12)∧w.grownBy w' none:=by
 refine(Qhx w0 w hw hT4).mono ?_;rintro e w' ⟨x,e1,hm,hg,-⟩;exact⟨x.sg,x.g,e1,Sh.of hm,hg⟩
theorem Qcv(w:World)(hT4:T4 w) :
  Calls Tryz.prog 10 #[] w fun e w'=>e=.returned (.bool true)∧w.grownBy w' none:=by
 have HT4:=hid hT4;have HSM:=hid (QdI w);have HMD:=hid (fun W (k:w.grownBy W none)=>QgX w W k hT4);have F:=hid lvf0;obtain⟨s0,hs0⟩:∃s0,firstP 128 12=s0:=⟨_,rfl⟩;rw[hs0]at HMD F;clear hT4 hs0;go_enter Tryz.func10,Tryz.ntmps10
 go_upto_region 1 with fail
 go_wp2_with fail
 refine HSM.out.mono ?_;rintro e w1 ⟨rfl,hg1⟩;have HM:=hid (HMD.out w1 hg1);clear hg1 HSM
 try dsimp only
 go_wp2_with fail
 refine HM.out.mono ?_;rintro e w2 ⟨sg,g,rfl,hm,-⟩;have HS2:=hid hm;have HF:Hid (Calls Tryz.prog 20 #[.pointer (some ⟨sg,0,none⟩)] w2 fun e w'=>e=.returned (.int .i64 9)∧w2=w'):=hid (QbC hm (n:=9) (by rw[F.out.f0];rfl));have HP:Hid (Calls Tryz.prog 16 #[.pointer (some ⟨sg,0,none⟩),.agg #[.int .u8 4,.slice none 0 0,.string ⟨#[120]⟩]] w2 (ShX w w2 sg g (fun _=>False) (.tuple #[.int .u32 3,.int .i64 0]) (lv1 s0))):=hid (Qbs hm F.out.k0 (by decide) lp1 none 0 Qio (Q9 w2) (by decide) F.out.e0 F.out.f0);clear hm HM HMD
 try dsimp only
 go_wp2_with fail
 refine HF.out.mono ?_;rintro e w3 ⟨rfl,rfl⟩
 try dsimp only
 go_wp2_with fail
 refine HP.out.mono ?_;rintro e w3 ⟨rfl,hm,-⟩;have hg3:=Qb w3 (.cells #[.int .u32 3] 35);have hseg:=lit32 w3 3;obtain⟨W3,hW3⟩:∃X,w3.alloc (.cells #[.int .u32 3] 35)=X:=⟨_,rfl⟩;have hseg:Ws.Seg (w3.alloc (.cells #[.int .u32 3] 35)) (some ⟨w3.heap.size,0,none⟩) 1 1 [3]:=hseg;rw[hW3]at hg3 hseg;have HW3:=hid hW3;have hm3:=hm.go hg3;have HP2:Hid (Calls Tryz.prog 16 #[.pointer (some ⟨sg,0,none⟩),.agg #[.int .u8 3,.slice (some ⟨w3.heap.size,0,none⟩) 1 1,.string ⟨#[]⟩]] W3 (ShX w W3 sg g (fun _=>False) (.tuple #[.int .u32 4,.int .i64 0]) (lv2 s0))):=hid (Qbs hm3 F.out.k1 (by decide) lp2 (some ⟨w3.heap.size,0,none⟩) 1 Qdk hseg (by decide) F.out.e1 F.out.f1);clear hm HF HP HS2 hg3 hseg hW3 hm3
 try dsimp only
 go_wp2_with fail
 rw[HW3.out];refine HP2.out.mono ?_;rintro e w4 ⟨rfl,hm,-⟩;have HC:Hid (Calls Tryz.prog 27 #[.pointer (some ⟨sg,0,none⟩),.int .u32 4] w4 (ShX w w4 sg g (fun _=>False) (.int .i64 0) (lv3 s0))):=hid (Qff hm F.out.k2 (by decide) 4 (by decide) (.inr (List.mem_cons_self ..)) HT4.out);clear hm HP2 HW3
 try dsimp only
 go_wp2_with fail
 refine HC.out.mono ?_;rintro e w5 ⟨rfl,hm,-⟩;have HO:=hid (Qle hm F.out.kept F.out.cok HT4.out);clear hm HC
 try dsimp only
 go_wp2_with fail
 refine HO.out.mono ?_;rintro e w6 ⟨so,rfl,hm,-⟩;have hm:Sh w w6 so g (fun _=>False) (lv4 s0):=hm;have HS6:=hid hm;have HR:Hid (Calls Tryz.prog 29 #[.pointer (some ⟨so,0,none⟩)] w6 fun e w'=>e=.returned (.int .u32 4)∧w6=w'):=hid (by
  have h1:=Qg4 hm;rw[F.out.root]at h1;exact h1)
 have HGT:=hid (Qer hm (by have:=F.out.k4.QW;omega) 4 (by decide));clear hm HO
 try dsimp only
 go_wp2_with (first|(go_at_call 29;refine HR.out.mono ?_;rintro e w7 ⟨rfl,rfl⟩)|fail)
 refine HGT.out.mono ?_;rintro e w7 ⟨hg7,hx⟩;rcases hx with ⟨hE,-⟩|⟨p,a,c,-,hpg,rfl,hsg,hnw⟩
 ·exact absurd F.out.g4.1 hE
 obtain rfl:p=lp2:=Option.some.inj (hpg.symm.trans F.out.g4.2);have hsg:Ws.Seg w7 a 1 c [3]:=hsg;have hv:pgV lp2 a lp2.kids.length c=#[.int .u8 3,.slice a 1 c,.string ⟨#[]⟩]:=rfl;rw[hv];obtain⟨gk,ok,rfl,hk⟩:=hsg.addr (by omega);have hk0:=hk 0 (by omega);have HLT:Hid (w6.heap.size≤gk∧gk<w7.heap.size):=hid ⟨hnw _ rfl,World.block_lt_of_cell? _ _ hk0⟩;have hm7:=HS6.out.go hg7;have HC7:=hid (heap_alloc_new w7 (.cells #[.int .u8 0,.slice none 0 0,.string ⟨#[]⟩] 40));have HG7:=hid (Qb w7 (.cells #[.int .u8 0,.slice none 0 0,.string ⟨#[]⟩] 40));have HG67:=hid hg7;have HSG7:=hid hsg;clear hpg hnw hv hk hk0 hsg hg7 hm7 HR HGT
 try dsimp only
 go_wp2_with (first
  |(with_reducible refine Qt rfl (.tmp 11) (.tmp 75) rfl w7.heap.size rfl (.int .u8 3) (.slice (some ⟨gk,ok,none⟩) 1 c) (.string ⟨#[]⟩) rfl rfl rfl rfl _ _ _ HC7.out ?_;intro w8 hq8 ht8)
  |fail)
 have hg78:=Qj HG7.out ht8 (Nat.le_refl _);have hm8:Sh w w8 so g (fun k=>k=w7.heap.size∨k=gk) (lv4 s0):=HS6.out.more (Qa HG67.out hg78) (fun k hk=>.inr (by
  have h1:=HLT.out;have h2:=hg78.size;have h3:=HG67.out.size;have h4:=block_lt hq8;rcases hk with rfl|rfl <;> omega))
 have HP5:Hid (Calls Tryz.prog 16 #[.pointer (some ⟨so,0,none⟩),.agg #[.int .u8 4,.slice none 0 0,.string ⟨#[]⟩]] w8 (ShX w w8 so g (fun k=>k=w7.heap.size∨k=gk) (.tuple #[.int .u32 2,.int .i64 0]) (lv5 s0))):=hid (Qbs hm8 F.out.k4 (by decide) lp5 none 0 Qip (Q9 w8) (by decide) F.out.e4 F.out.f4);have HQ8:=hid hq8;have HSG8:=hid (HSG7.out.grown hg78);clear hq8 ht8 hg78 hm8 HSG7 HC7 HG7 HG67 HS6 HLT
 try dsimp only
 go_wp2_with fail
 refine HP5.out.mono ?_;rintro e w9 ⟨rfl,hm,hst⟩;have HQ9:=hid ((hst.block (.inl rfl) (block_lt HQ8.out)).trans HQ8.out);have HSG9:=hid (hst.seg HSG8.out (fun ad had=>by cases had;exact .inr rfl));have HF:Hid (Calls Tryz.prog 20 #[.pointer (some ⟨so,0,none⟩)] w9 fun e w'=>e=.returned (.int .i64 6)∧w9=w'):=hid (QbC hm (n:=6) (by rw[F.out.f5];rfl));have HD:Hid (Calls Tryz.prog 19 #[.pointer (some ⟨so,0,none⟩),.int .u32 2] w9 (ShX w w9 so g (fun k=>k=w7.heap.size∨k=gk) (.int .i64 0) { lv5 s0 with now:=N3 })):=hid (Qg3 hm F.out.k5 2 [4] (fun m=>by
   rw[List.count_cons,List.count_cons,List.count_nil,List.count_cons,List.count_cons,List.count_nil];omega) F.out.d5.1 F.out.d5.2)
 clear hm hst HQ8 HSG8 HP5
 try dsimp only
 go_wp2_with (first|(go_at_call 20;refine HF.out.mono ?_;rintro e w10 ⟨rfl,rfl⟩)|fail)
 refine HD.out.mono ?_;rintro e w10 ⟨rfl,hm,hst⟩;have HQ10:=hid ((hst.block (.inl rfl) (block_lt HQ9.out)).trans HQ9.out);have HSG10:=hid (hst.seg HSG9.out (fun ad had=>by cases had;exact .inr rfl));have hg10:=Qb w10 (.cells #[.int .u32 3] 35);have hseg:Ws.Seg (w10.alloc (.cells #[.int .u32 3] 35)) (some ⟨w10.heap.size,0,none⟩) 1 1 [3]:=lit32 w10 3;obtain⟨W10,hW10⟩:∃X,w10.alloc (.cells #[.int .u32 3] 35)=X:=⟨_,rfl⟩;rw[hW10]at hg10 hseg;have HW10:=hid hW10;have HM10:=hid (hm.go hg10);have HSP:Hid (Calls Tryz.prog 43 #[.agg #[.int .u8 3,.slice (some ⟨gk,ok,none⟩) 1 c,.string ⟨#[]⟩],.agg #[.int .u8 3,.slice (some ⟨w10.heap.size,0,none⟩) 1 1,.string ⟨#[]⟩]] W10 fun e w'=>e=.returned (.bool true)∧W10.grownBy w' none):=hid (by
  have h1:=Qai lp2 lp2 (some ⟨gk,ok,none⟩) (some ⟨w10.heap.size,0,none⟩) c 1 W10 (HSG10.out.grown hg10) hseg Qdk.data Qdk.data;rw[Qiz]at h1;exact h1)
 obtain⟨p0,p1,p2⟩:=QaK HQ10.out;have HGE:Hid (∀W,W10.grownBy W none→Calls Tryz.prog 30 #[.pointer (some ⟨so,0,none⟩)] W fun e w'=>e=.returned (.int .u64 2)∧W=w'):=hid (fun W k=>by
  have h1:=QiK (HM10.out.go k);rw[show({ lv5 s0 with now:=N3 }:SpS).sup.gen=2 from F.out.gen]at h1;exact h1)
 have HF2:Hid (∀W,W10.grownBy W none→Calls Tryz.prog 20 #[.pointer (some ⟨so,0,none⟩)] W fun e w'=>e=.returned (.int .i64 7)∧W=w'):=hid (fun W k=>QbC (HM10.out.go k) (n:=7) (by rw[F.out.f6];rfl));clear hm hst hg10 hseg hW10 HQ9 HSG9 HD HF HQ10 HSG10
 try dsimp only
 go_wp2_with fail
 rw[HW10.out];refine HSP.out.mono ?_;rintro e w11 ⟨rfl,hg11⟩;have HGE2:=hid (HGE.out w11 hg11);have HF3:=hid (HF2.out w11 hg11);have HX:Hid (w.grownBy w11 none):=hid (HM10.out.go hg11).gr;clear hg11 HSP HGE HF2 p0 p1 p2;go_wp2_with (first
  |(go_at_call 30;refine HGE2.out.mono ?_;rintro e w12 ⟨rfl,rfl⟩)
  |(go_at_call 20;refine HF3.out.mono ?_;rintro e w12 ⟨rfl,rfl⟩)
  |fail)
 go_ret
 exact⟨rfl,HX.out⟩
end Sp
end Go.Proofs.YtbbbocoliandcaaGreatDoor
