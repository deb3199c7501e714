/- Parts of the proof. -/
import Derived.Test.YtgffbbdcbkikhaaGreatDoorKbc
set_option maxRecDepth 100000
set_option maxHeartbeats 8000000
namespace Go.Proofs.YtgffbbdcbkikhaaGreatDoor
namespace Sp
open Go.RowKit Bs Dv Gr
open Su (Sup SupOk GeoOk putS supE)
open Cn (CnOk Qj)
open Fr (blk putF Fits)
section
variable {s : SpS} {own hown mown : List Nat} {T : Nat} {p : Pg} {n : Nat}
theorem SpOk.fits(h:SpOk s own hown mown T):Fits (s.dv.size:Int):=by
 have:=h.dok;exact⟨by have:=this.lo;omega,by have:=this.hi;omega,by have:=this.by64;omega⟩
theorem SpOk.Qgx(h:SpOk s own hown mown T)(hn:n<s.dv.blocks)(hlen:(dataP p).length+16≤s.dv.size) :
  (putP s p n).dv.size=s.dv.size∧(putP s p n).dv.blocks=s.dv.blocks∧(putP s p n).dv.fuse=-1∧∀m,(putP s p n).dv.last m=if m=n then blk s.dv.size p.tag (s.sup.gen+1) (dataP p) else s.dv.last m:=by
 have hbl:(blk s.dv.size p.tag (s.sup.gen+1) (dataP p)).length=s.dv.size:=Fr.Qo _ _ _ _ hlen;have hw:=QaC s.dv n _ h.fuse hn hbl;have hlast:=(QcS s.dv n _ hn hbl (by have:=h.fuse;omega)).2;refine⟨by unfold putP;rw[hw],by unfold putP;rw[hw],by unfold putP;rw[hw];exact h.fuse,fun m=>by unfold putP;rw[hlast m]⟩
theorem SpOk.QkH(h:SpOk s own hown mown T)(hT:T≤9000)(hn:n<s.dv.blocks)(hlen:(dataP p).length+16≤s.dv.size)(ho:PgOk p)(h3:3≤p.tag)(hkd:∀k∈p.kids,2≤k∧k<(s.dv.blocks:Int)):pageF s.dv.blocks ((putP s p n).dv.last n)=some p:=by
 have hg0:0≤s.sup.gen:=h.kept.ok.gen.1;have hgen:=h.gen;rw[(h.Qgx hn hlen).2.2.2 n,if_pos rfl];exact Qgv (K:=s.dv.blocks) (g:=s.sup.gen+1) ho h3 hkd h.fits hlen (by omega)
end
section
variable {w0 w : World} {x : Nm} {s : SpS} {own hown mown : List Nat} {T : Nat}
theorem Qu(h:SpM w0 w x s)(hk:SpOk s own hown mown T)(hT:T≤9000)(p:Pg)(a:Option Addr)(c:Nat)(ho:PgOk p)(hs:Ws.Seg w a p.kids.length c p.kids)(hdl:p.data.length≤1000000000){n:Nat}{l:List Nat}(he:putErr s p=0)(hf:frees s=n :: l) :
  Calls Tryz.prog 14 #[.pointer (some ⟨x.sg,0,none⟩),.agg #[.int .u8 p.tag,.slice a p.kids.length c,.string (strOfNums p.data)]] w fun e w'=>e=.returned (.tuple #[.int .u32 (n:Int),.int .i64 0])∧Op w0 w x (putP s p n) w':=by
 have hgen:=hk.gen;have hg0:0≤s.sup.gen:=hk.kept.ok.gen.1;have hops:=hk.ops;have hfew:=hk.few;have h74:=hk.Qaf;refine(QbU h p a c ho hs hdl (by omega) (by omega) hk.fuse (by omega) (by omega)).mono fun e w' hx=>?_
 rcases hx with ⟨q,_⟩|⟨n',l',_,e1,_,e2,e3⟩
 ·exact absurd he q
 ·rw[hf]at e1;cases e1
  exact⟨e2,e3⟩
theorem QlO(h:SpM w0 w x s)(hk:SpOk s own hown mown T)(hT:T≤9000)(p:Pg)(a:Option Addr)(c:Nat)(ho:PgOk p)(hs:Ws.Seg w a p.kids.length c p.kids)(hdl:p.data.length≤1000000000){E:Int}(he:putErr s p=E)(h0:E≠0) :
  Calls Tryz.prog 14 #[.pointer (some ⟨x.sg,0,none⟩),.agg #[.int .u8 p.tag,.slice a p.kids.length c,.string (strOfNums p.data)]] w fun e w'=>e=.returned (.tuple #[.int .u32 0,.int .i64 E])∧Op w0 w x s w':=by
 have hgen:=hk.gen;have hg0:0≤s.sup.gen:=hk.kept.ok.gen.1;have hops:=hk.ops;have hfew:=hk.few;have h74:=hk.Qaf;refine(QbU h p a c ho hs hdl (by omega) (by omega) hk.fuse (by omega) (by omega)).mono fun e w' hx=>?_
 rcases hx with ⟨q,e2,e3⟩|⟨n',l',q,_⟩
 ·rw[he]at e2;exact⟨e2,e3⟩
 ·rw[he]at q;exact absurd q h0
end
end Sp
namespace Sp
open Go.RowKit Bs Dv Gr
open Cn (CnOk)
open Su (Sup SupOk T4)
def Sh(w0 w:World)(sg g:Nat)(A:Nat→Prop)(s:SpS):Prop:=∃x:Nm,x.sg=sg∧x.g=g∧SpM w0 w x s∧∀k,A k→k<w.heap.size∧¬x.fp k
def Stay(w w':World)(A:Nat→Prop):Prop:=Turn w w' fun k=>¬A k
theorem Qbs{W:World}{b:Nat}{t:Int}{a:Option Addr}{n c:Nat}{S:ByteArray}(h:W.heap[b]?=some (.cells #[.int .u8 t,.slice a n c,.string S] 41 (0,0))):W.cell? ⟨b,0,none⟩=some (.int .u8 t)∧W.cell? ⟨b,1,none⟩=some (.slice a n c)∧W.cell? ⟨b,2,none⟩=some (.string S):=by
 refine⟨?_,?_,?_⟩ <;> rw[cell_of_row _ _ _ _ _ _ h] <;> rfl
theorem QfP(W:World)(b:Int):(convert 46 9 (.slice (some ⟨W.heap.size,0,none⟩) 1 1)).run Tryz.prog (W.alloc (.cells #[.int .u8 b] 5))=.ok (.string (strOfNums [b])) (W.alloc (.cells #[.int .u8 b] 5)):=
 Qaw W.heap.size 0 1 1 [b] _ (fun j x hx=>by
  match j,hx with
  |0,hx=>
   have hx:some b=some x:=hx;cases hx
   exact⟨Su.Qac W _ _,by unfold World.frozen?;rw[heap_alloc_new];simp⟩
  |j+1,hx=>cases hx) rfl
section
variable {w0 w w' : World} {sg g : Nat} {A : Nat → Prop} {s s' : SpS}
theorem Stay.Qf(k:w.grownBy w' none):Stay w w' A:=(Qc k).mono (fun _ _ e=>e.elim)
theorem Stay.refl:Stay w w A:=Turn.refl w _
theorem Stay.trans{w2:World}(h:Stay w w' A)(k:Stay w' w2 A):Stay w w2 A:=Turn.trans h k (fun _ _ e=>e)
theorem Stay.less{B:Nat→Prop}(h:Stay w w' A)(k:∀i,B i→A i):Stay w w' B:=h.mono (fun i _ e q=>e (k i q))
theorem Stay.block(h:Stay w w' A){k:Nat}(hk:A k)(hl:k<w.heap.size):w'.heap[k]?=w.heap[k]?:=Turn.block h k hl (fun e=>e hk)
theorem Stay.seg(h:Stay w w' A){a:Option Addr}{n c:Nat}{l:List Int}(hs:Ws.Seg w a n c l)(hp:∀ad,a=some ad→A ad.block):Ws.Seg w' a n c l:=Qp hs h (fun ad had e=>e (hp ad had))
theorem Sh.gr(h:Sh w0 w sg g A s):w0.grownBy w none:=by
 obtain⟨x,-,-,h,-⟩:=h;exact h.gr
theorem Sh.go(h:Sh w0 w sg g A s)(k:w.grownBy w' none):Sh w0 w' sg g A s:=by
 obtain⟨x,a,b,h,d⟩:=h;exact⟨x,a,b,h.go k,fun i hi=>⟨Nat.lt_of_lt_of_le (d i hi).1 k.size,(d i hi).2⟩⟩
theorem Sh.less{B:Nat→Prop}(h:Sh w0 w sg g A s)(k:∀i,B i→A i):Sh w0 w sg g B s:=by
 obtain⟨x,a,b,h,d⟩:=h;exact⟨x,a,b,h,fun i hi=>d i (k i hi)⟩
theorem Sh.op{x:Nm}(_h:SpM w0 w x s)(d:∀k,A k→k<w.heap.size∧¬x.fp k)(o:Op w0 w x s' w'):Sh w0 w' x.sg x.g A s'∧Stay w w' A:=by
 obtain⟨x',a,b,c,t,e⟩:=o;exact⟨⟨x',a,b,c,fun k hk=>⟨Nat.lt_of_lt_of_le (d k hk).1 t.size,fun q=>(e k q).elim (d k hk).2 (fun z=>by have:=(d k hk).1;omega)⟩⟩,t.mono (fun k _ q z=>(d k z).2 q)⟩
theorem Sh.lt(h:Sh w0 w sg g A s){k:Nat}(hk:A k):k<w.heap.size:=by
 obtain⟨x,-,-,-,d⟩:=h;exact(d k hk).1
end
section
variable {w0 w w' : World} {sg g : Nat} {A : Nat → Prop} {s s' : SpS} {own hown mown : List Nat} {T : Nat}
theorem Qap(h:Sh w0 w sg g A s){n:Nat}(hn:(frees s).length=n):Calls Tryz.prog 17 #[.pointer (some ⟨sg,0,none⟩)] w fun e w'=>e=.returned (.int .i64 (n:Int))∧w=w':=by
 obtain⟨x,rfl,rfl,h,d⟩:=h;subst hn;exact QfX h
theorem QlV(h:Sh w0 w sg g A s):Calls Tryz.prog 24 #[.pointer (some ⟨sg,0,none⟩)] w fun e w'=>e=.returned (.int .u32 s.sup.root)∧w=w':=by
 obtain⟨x,rfl,rfl,h,d⟩:=h;exact QkM h
theorem QkS(h:Sh w0 w sg g A s)(k:Nat)(hk:k<4294967296):Calls Tryz.prog 29 #[.pointer (some ⟨sg,0,none⟩),.int .u32 (k:Int)] w fun e w'=>e=.returned (.int .i64 (s.now.getD k 0))∧w=w':=by
 obtain⟨x,rfl,rfl,h,d⟩:=h;exact Qc7 h k hk
theorem Qbg(h:Sh w0 w sg g A s)(kids:Int)(hk:-9223372036854775808≤kids∧kids≤9223372036854775807):Calls Tryz.prog 27 #[.pointer (some ⟨sg,0,none⟩),.int .i64 kids] w fun e w'=>e=.returned (.int .i64 (roomP s.dv.size kids))∧w.grownBy w' none:=by
 obtain⟨x,rfl,rfl,h,d⟩:=h;exact Qjf h kids hk
theorem QgG(h:Sh w0 w sg g A s)(hp:s.sup.pages.length≤100000)(n:Nat)(hn:n<4294967296):Calls Tryz.prog 80 #[.pointer (some ⟨sg,0,none⟩),.int .u32 (n:Int)] w (GetX s n w):=by
 obtain⟨x,rfl,rfl,h,d⟩:=h;exact Q9 h n hn hp
def ShX(w0 w:World)(sg g:Nat)(A:Nat→Prop)(v:Value)(s':SpS)(e:Ending)(w':World):Prop:=e=.returned v∧Sh w0 w' sg g A s'∧Stay w w' A
theorem QgH(h:Sh w0 w sg g A s)(hk:SpOk s own hown mown T)(hT:T≤9000)(p:Pg)(a:Option Addr)(c:Nat)(ho:PgOk p)(hs:Ws.Seg w a p.kids.length c p.kids)(hdl:p.data.length≤1000000000){n:Nat}{l:List Nat}(he:putErr s p=0)(hf:frees s=n :: l) :
  Calls Tryz.prog 14 #[.pointer (some ⟨sg,0,none⟩),.agg #[.int .u8 p.tag,.slice a p.kids.length c,.string (strOfNums p.data)]] w (ShX w0 w sg g A (.tuple #[.int .u32 (n:Int),.int .i64 0]) (putP s p n)):=by
 obtain⟨x,rfl,rfl,h,d⟩:=h;exact(Qu h hk hT p a c ho hs hdl he hf).mono fun e w' q=>⟨q.1,Sh.op h d q.2⟩
theorem QeB(h:Sh w0 w sg g A s)(hk:SpOk s own hown mown T)(hT:T≤9000)(p:Pg)(a:Option Addr)(c:Nat)(ho:PgOk p)(hs:Ws.Seg w a p.kids.length c p.kids)(hdl:p.data.length≤1000000000){E:Int}(he:putErr s p=E)(h0:E≠0) :
  Calls Tryz.prog 14 #[.pointer (some ⟨sg,0,none⟩),.agg #[.int .u8 p.tag,.slice a p.kids.length c,.string (strOfNums p.data)]] w (ShX w0 w sg g A (.tuple #[.int .u32 0,.int .i64 E]) s):=by
 obtain⟨x,rfl,rfl,h,d⟩:=h;exact(QlO h hk hT p a c ho hs hdl he h0).mono fun e w' q=>⟨q.1,Sh.op h d q.2⟩
theorem Qea(h:Sh w0 w sg g A s)(hk:SpOk s own hown mown T)(n:Nat)(own2:List Nat)(hp:∀m,(n :: own2).count m=own.count m) :
  Calls Tryz.prog 25 #[.pointer (some ⟨sg,0,none⟩),.int .u32 (n:Int)] w fun e w'=>∃c,ShX w0 w sg g A (.int .i64 0) { s with now:=c } e w'∧SpOk { s with now:=c } own2 hown mown (T+1):=by
 obtain⟨x,rfl,rfl,h,d⟩:=h;have h74:=hk.Qaf;refine(Qj2 h n own2 (by omega) (hk.now.perm hp)).mono fun e w' hx=>?_
 obtain⟨c2,e1,g2,l2,m2,t2⟩:=hx;refine⟨c2,⟨e1,Sh.op h d ⟨x,rfl,rfl,m2,t2.mono (fun _ _ e=>.inl (.inr (.inl e))),fun _ q=>.inl q⟩⟩,hk.turn g2 (fun m h0=>?_) fun m=>?_⟩
 ·have h1:=l2 m;have h2:=(g2.cok).at' m;omega
 ·have:=l2 m;have:=(hk.low m).1;omega
theorem QjC(h:Sh w0 w sg g A s)(hk:SpOk s own hown mown T)(hT:T≤9000)(root:Nat)(hn:root<4294967296)(hr:root=0∨root∈own)(hT4:T4 w0) :
  Calls Tryz.prog 22 #[.pointer (some ⟨sg,0,none⟩),.int .u32 (root:Int)] w (ShX w0 w sg g A (.int .i64 0) (commitP s root)):=by
 obtain⟨x,rfl,rfl,h,d⟩:=h;exact(QhP h hk hT root hn hr hT4).mono fun e w' q=>⟨q.1,Sh.op h d q.2⟩
theorem QlU(h:Sh w0 w sg g A s){sup:Sup}{held:List Int}{slot:Nat}(hk:Kept s.dv sup held slot)(hok:CnOk s.dv.size s.dv.blocks held)(hT4:T4 w0) :
  Calls Tryz.prog 23 #[.pointer (some ⟨g,0,none⟩)] w fun e w'=>∃sg',e=.returned (.tuple #[.pointer (some ⟨sg',0,none⟩),.int .i64 0])∧Sh w0 w' sg' g A ⟨s.dv,sup,held,held,none,slot⟩∧w.grownBy w' none:=by
 obtain⟨x,rfl,rfl,h,d⟩:=h;refine(open_yes w0 w x.g x.b x.P s.dv h.dev sup held slot hk hok hT4).mono ?_;rintro e w' ⟨y,e1,e2,e3,e4,hm,hg,hn,hf⟩;refine⟨y.sg,e1,⟨y,rfl,e2,hm,fun k hk=>⟨Nat.lt_of_lt_of_le (d k hk).1 hg.size,fun q=>?_⟩⟩,hg⟩;rcases hf k q with z|z
 ·exact(d k hk).2 (.inl (.inr (.inr z)))
 ·have:=(d k hk).1;omega
end
end Sp
namespace Sp
open Go.RowKit Bs Dv Gr
open Su (Sup SupOk GeoOk putS getS supE)
open Cn (CnOk)
section
variable {s t : SpS} {own own2 : List Nat}
theorem Qko(h:GoodC s.dv s.sup.pages s.now own){n:Nat}(hn:0<dOf s.sup.pages s.now n):getErr s n=0∧∃p,pageF s.dv.blocks (s.dv.last n)=some p:=by
 obtain⟨a,b,c,_⟩:=Qba hn;have hlt:=h.ref.lt hn;have hp:=h.has n hn;have hu:useE s n=0:=by
  unfold useE accE;rw[if_neg (show ¬(n<2∨s.dv.blocks≤n) by omega),if_neg b,if_neg (fun q=>q rfl),if_neg (by omega)]
 cases hpg:pageF s.dv.blocks (s.dv.last n) with
 |none=>rw[hpg]at hp;cases hp
 |some p=>
  refine⟨?_,p,rfl⟩;unfold getErr;rw[hu,if_neg (fun q=>q rfl),hpg,if_neg (fun q=>by cases q)]
end
end Sp
end Go.Proofs.YtgffbbdcbkikhaaGreatDoor
