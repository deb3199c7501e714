/- Parts of the proof. -/
import Derived.WalkSpells
import Derived.Test.YtbbbocoliandcaaGreatDoorKqS
set_option maxRecDepth 100000
set_option maxHeartbeats 8000000
namespace Go.Proofs.YtbbbocoliandcaaGreatDoor
namespace Dv
open Go.RowKit Bs
def Left(s k r:Nat):Prop:=∀j,r.testBit j=(decide (k≤j) && s.testBit j)
theorem Left.start(s:Nat):Left s 0 s:=fun j=>by simp
theorem Left.low{s k r t:Nat}(h:Left s k r)(ht:Lowest r t):k≤t∧s.testBit t=true∧∀j,k≤j→j<t→s.testBit j=false:=by
 have h1:=h t;rw[ht.1]at h1;have h1:=h1.symm;simp only[Bool.and_eq_true,decide_eq_true_eq]at h1;refine⟨h1.1,h1.2,fun j hk hj=>?_⟩;have h2:=h j;rw[ht.2 j hj]at h2
 simpa [hk] using h2.symm
theorem Left.done{s k:Nat}(h:Left s k 0):s % 2 ^ k=s:=by
 apply Nat.eq_of_testBit_eq
 intro j;rw[Nat.testBit_mod_two_pow];have h1:=h j;rw[Nat.zero_testBit]at h1;by_cases e:j<k
 ·simp[e]
 ·have:k≤j:=by omega
  simp[this]at h1;simp[e,h1]
theorem T64.turn{w w':World}{S:Nat→Prop}(h:T64 w)(k:Turn w w' S)(hS:¬S 0):T64 w':=fun j hj=>k.cell (h j hj) hS
end Dv
namespace Dv
open Go.RowKit Bs
theorem Qfh{w:World}{a:Addr}{v:Value}(h:w.cell? a=some v):a.spot=none:=by
 unfold World.cell? at h
 split at h
 ·split at h
  ·cases h
  ·rename_i h2
   simpa using h2
 ·cases h
theorem PSeg.form{w:World}{pa:Option Addr}{n c:Nat}{l:List (Int×Nat)}(h:PSeg w pa n c l)(hn:n≠0):∃B O,pa=some ⟨B,O,none⟩∧∀k,k<n→w.cell? ⟨B,O+k*2,none⟩=some (.int .i64 (l.getD k (0,0)).1)∧w.cell? ⟨B,O+k*2+1,none⟩=some (.int .u64 ((l.getD k (0,0)).2:Int)):=by
 cases pa with
 |none=>exact absurd (h.nil_ rfl).1 hn
 |some ad=>
  have h0:=Qfh (h.at_ ad rfl 0 (by omega)).1;obtain⟨B,O,sp⟩:=ad;have:sp=none:=h0;subst this;refine⟨B,O,rfl,fun k hk=>?_⟩;have h1:=h.at_ _ rfl k hk
  rwa [Addr.add_lit,Addr.add_lit,←Nat.add_assoc]at h1
def Marks(w:World)(h n:Nat)(f:Nat→Bool):Prop:=∀j,j<n→w.cell? ⟨h,j,none⟩=some (.bool (f j))∧w.frozen? ⟨h,j,none⟩=false
theorem Marks.turn{w w':World}{h n:Nat}{f:Nat→Bool}{S:Nat→Prop}(m:Marks w h n f)(k:Turn w w' S)(hS:¬S h)(hlt:h<w.heap.size):Marks w' h n f:=fun j hj=>
 ⟨k.cell (m j hj).1 hS,by rw[k.frozen (p:=⟨h,j,none⟩) hlt hS];exact(m j hj).2⟩
theorem Marks.set{w:World}{h n:Nat}{f:Nat→Bool}(m:Marks w h n f)(j:Nat)(hj:j<n)(b:Bool):Marks (w.setCell ⟨h,j,none⟩ (.bool b)) h n (fun i=>if i=j then b else f i):=fun i hi=>by
 have ho:=Out.setCell w h 0 n j (.bool b) (Nat.zero_le _) (by omega);refine⟨?_,by rw[ho.frozen];exact(m i hi).2⟩
 show _=some (Value.bool (if i=j then b else f i))
 by_cases e:i=j
 ·subst e;rw[if_pos rfl];exact World.cell?_setCell_same _ _ _ (m i hi).1
 ·rw[if_neg e,World.cell?_setCell_other _ _ _ _ (by intro e2;injection e2 with _ e3;exact e e3.symm)];exact(m i hi).1
def Told(s:St)(l:List (Int×Nat))(w:World)(e:Ending)(w':World):Prop:=∃ok:Bool,e=.returned (.bool ok)∧(ok=true↔picksOk s l)∧Turn w w' nowhere
theorem Told.drewN{s:St}{l:List (Int×Nat)}{w w':World}{e:Ending}(h:Told s l w e w')(n:Nat):Told s l w e (w'.drewN n):=by
 obtain⟨ok,h1,h2,h3⟩:=h;exact⟨ok,h1,h2,h3.trans (Turn.drewN _ _ nowhere) (fun _ _ h=>h)⟩
end Dv
namespace Dv
open Go.RowKit Bs
structure Held (w0 w:World) (g b:Nat) (P:Value) (s:St):Prop where
 dev:Dev w g b P s
 new:∀k,fp g b P k→w0.heap.size≤k
 turn:Turn w0 w nowhere
theorem Held.go{w0 w w':World}{g b:Nat}{P:Value}{s:St}(h:Held w0 w g b P s)(k:Turn w w' nowhere):Held w0 w' g b P s:=
 ⟨h.dev.turn k (fun _ _=>id),h.new,h.turn.trans k (fun _ _ h=>h)⟩
theorem Held.wrote{w0 w w':World}{g b:Nat}{P:Value}{s:St}{r:Int×St}{e:Ending}(h:Held w0 w g b P s)(k:Wrote g b P r w e w') :
  ∃P',e=.returned (.int .i64 r.1)∧Held w0 w' g b P' r.2∧Turn w w' (fp g b P)∧∀k,fp g b P' k→fp g b P k∨w.heap.size≤k:=by
 obtain⟨P',he,hd,ht,hg⟩:=k;refine⟨P',he,⟨hd,fun k hk=>?_,h.turn.trans ht (fun i hi hf=>?_)⟩,ht,hg⟩
 ·rcases hg k hk with h1|h1
  ·exact h.new k h1
  ·exact Nat.le_trans h.turn.size h1
 ·have:=h.new i hf;omega
theorem Qju{w0 w w':World}{size blocks:Nat}{e:Ending}(k0:Turn w0 w nowhere)(k:NewX w size blocks e w') :
  ∃g b,e=.returned (.tuple #[.pointer (some ⟨g,0,none⟩),.int .i64 0])∧Held w0 w' g b (.slice none 0 0) (St.fresh size blocks (zeros size blocks))∧Turn w w' nowhere:=by
 obtain⟨g,b,he,hd,h1,h2,ht⟩:=k;have:=k0.size;exact⟨g,b,he,⟨hd,fun k hk=>by
  rcases hk with rfl|rfl|hk
  ·omega
  ·omega
  ·simp[Value.ownBlock]at hk,k0.trans ht (fun _ _ h=>h)⟩,ht⟩
end Dv
namespace Dv
open Go.RowKit Bs
def z8:St:=St.fresh 128 8 (zeros 128 8)
def s8:St:={ z8.burn with pend:=[(3,rep 128 97)] }
def c8:St:=s8.crash []
end Dv
namespace Dv
open Go.RowKit Bs
structure AAct where
 kind:Int
 block:Int
 b:Int
 n:Int
 mask:Nat
 pa:Option Addr
 pn:Nat
 pc:Nat
 picks:List (Int×Nat)
instance:Inhabited AAct:=⟨⟨0,0,0,0,0,none,0,0,[]⟩⟩
def acells(x:AAct):List Value:=[.int .i64 x.kind,.int .i64 x.block,.int .u8 x.b,.int .i64 x.n,.int .u32 (x.mask:Int),.slice x.pa x.pn x.pc]
structure AAct.Ok (w:World) (x:AAct):Prop where
 kind:-9223372036854775808≤x.kind∧x.kind≤9223372036854775807
 block:-9223372036854775808≤x.block∧x.block≤9223372036854775807
 b:0≤x.b∧x.b<256
 n:-9223372036854775808≤x.n∧x.n≤9223372036854775807
 mask:x.mask<4294967296
 picks:PSeg w x.pa x.pn x.pc x.picks
structure ASeg (w:World) (a:Option Addr) (n c:Nat) (l:List AAct):Prop where
 len:l.length=n
 le:n≤c
 cap:c≤maxLen
 nil_:a=none→n=0∧c=0
 at_:∀ad,a=some ad→∀k,k<n→∀j v,(acells (l.getD k default))[j]?=some v→w.cell? (ad.add (k*6+j))=some v
 ok:∀x∈l,x.Ok w
theorem PSeg.old{w w':World}{a:Option Addr}{n c:Nat}{l:List (Int×Nat)}(h:PSeg w a n c l)(k:Turn w w' nowhere):PSeg w' a n c l:=h.turn k (fun _ _=>id)
theorem AAct.Ok.old{w w':World}{x:AAct}(h:x.Ok w)(k:Turn w w' nowhere):x.Ok w':=⟨h.kind,h.block,h.b,h.n,h.mask,h.picks.old k⟩
theorem ASeg.old{w w':World}{a:Option Addr}{n c:Nat}{l:List AAct}(h:ASeg w a n c l)(k:Turn w w' nowhere):ASeg w' a n c l:=
 ⟨h.len,h.le,h.cap,h.nil_,fun ad had i hi j v hv=>k.cell (h.at_ ad had i hi j v hv) id,fun x hx=>(h.ok x hx).old k⟩
structure ActAt (w:World) (B o:Nat) (x:AAct):Prop where
 c0:w.cell? ⟨B,o,none⟩=some (.int .i64 x.kind)
 c1:w.cell? ⟨B,o+1,none⟩=some (.int .i64 x.block)
 c2:w.cell? ⟨B,o+2,none⟩=some (.int .u8 x.b)
 c3:w.cell? ⟨B,o+3,none⟩=some (.int .i64 x.n)
 c4:w.cell? ⟨B,o+4,none⟩=some (.int .u32 (x.mask:Int))
 c5:w.cell? ⟨B,o+5,none⟩=some (.slice x.pa x.pn x.pc)
theorem ASeg.form{w:World}{a:Option Addr}{n c:Nat}{l:List AAct}(h:ASeg w a n c l)(hn:n≠0):∃B O,a=some ⟨B,O,none⟩∧∀k,k<n→ActAt w B (O+k*6) (l.getD k default)∧(l.getD k default).Ok w:=by
 cases a with
 |none=>exact absurd (h.nil_ rfl).1 hn
 |some ad=>
  have h0:=Qfh (h.at_ ad rfl 0 (by omega) 0 _ rfl);obtain⟨B,O,sp⟩:=ad;have:sp=none:=h0;subst this;refine⟨B,O,rfl,fun k hk=>⟨?_,h.ok _ ?_⟩⟩
  ·have h1:=fun j v hv=>h.at_ _ rfl k hk j v hv
   constructor
   ·have:=h1 0 _ rfl;rwa [Addr.add_lit]at this
   ·have:=h1 1 _ rfl;rwa [Addr.add_lit,←Nat.add_assoc]at this
   ·have:=h1 2 _ rfl;rwa [Addr.add_lit,←Nat.add_assoc]at this
   ·have:=h1 3 _ rfl;rwa [Addr.add_lit,←Nat.add_assoc]at this
   ·have:=h1 4 _ rfl;rwa [Addr.add_lit,←Nat.add_assoc]at this
   ·have:=h1 5 _ rfl;rwa [Addr.add_lit,←Nat.add_assoc]at this
  ·have hk':k<l.length:=by rw[h.len];exact hk
   simp[List.getD,hk']
theorem ActAt.old{w w':World}{B o:Nat}{x:AAct}(h:ActAt w B o x)(k:Turn w w' nowhere):ActAt w' B o x:=⟨k.cell h.c0 id,k.cell h.c1 id,k.cell h.c2 id,k.cell h.c3 id,k.cell h.c4 id,k.cell h.c5 id⟩
def AAct.bytes(x:AAct)(size:Nat):List Int:=actL (actN x.n size) size x.b
theorem AAct.QaT(x:AAct)(size:Nat):(x.bytes size).length=size:=Qi2 _ _ _ (Qkj _ _)
end Dv
namespace Dv
open Go.RowKit Bs
structure Two (w0 w:World) (g b:Nat) (P:Value) (s:St) (g' b':Nat) (P':Value) (s':St):Prop where
 d:Held w0 w g b P s
 c:Held w0 w g' b' P' s'
 dis:∀k,fp g b P k→¬fp g' b' P' k
theorem Two.start{w0 w w':World}{g b g' b':Nat}{P P':Value}{s s':St}(h:Held w0 w g b P s)(k:Turn w w' nowhere)(c:Held w w' g' b' P' s'):Two w0 w' g b P s g' b' P' s':=
 ⟨h.go k,⟨c.dev,fun i hi=>Nat.le_trans h.turn.size (c.new i hi),h.turn.trans k (fun _ _ h=>h)⟩,fun i hi hc=>by have:=h.dev.lt i hi;have:=c.new i hc;omega⟩
theorem Two.go{w0 w w':World}{g b g' b':Nat}{P P':Value}{s s':St}(h:Two w0 w g b P s g' b' P' s')(k:Turn w w' nowhere):Two w0 w' g b P s g' b' P' s':=⟨h.d.go k,h.c.go k,h.dis⟩
theorem Two.wrote{w0 w w':World}{g b g' b':Nat}{P P':Value}{s s':St}{r:Int×St}{e:Ending}(h:Two w0 w g b P s g' b' P' s')(k:Wrote g b P r w e w') :
  ∃P2,e=.returned (.int .i64 r.1)∧Two w0 w' g b P2 r.2 g' b' P' s':=by
 obtain⟨P2,he,hd,ht,hg⟩:=h.d.wrote k;refine⟨P2,he,hd,⟨h.c.dev.turn ht (fun i hi hf=>h.dis i hf hi),h.c.new,hd.turn⟩,fun i hi hc=>?_⟩;rcases hg i hi with h1|h1
 ·exact h.dis i h1 hc
 ·have:=h.c.dev.lt i hc;omega
theorem T64.held{w0 w:World}{g b:Nat}{P:Value}{s:St}(h:T64 w0)(k:Held w0 w g b P s):T64 w:=h.turn k.turn id
end Dv
end Go.Proofs.YtbbbocoliandcaaGreatDoor
