/- Parts of the proof. -/
import Derived.Test.YtljanfnhmhimiaaGreatScD
set_option maxRecDepth 100000
set_option maxHeartbeats 8000000
namespace Go.Proofs.YtljanfnhmhimiaaGreat
namespace Bl
open Go.RowKit
open Bs (grownBy_trans Qv)
def encW(x:Bool):Value:=.bool x
structure Seg (w:World) (a:Option Addr) (n c:Nat) (l:List Bool):Prop where
 len:l.length=n
 le:n≤c
 cap:c≤maxLen
 nil_:a=none→n=0∧c=0
 at_:∀ad,a=some ad→∀j u,(l.map encW)[j]?=some u→w.cell? (ad.add j)=some u
theorem Seg.nil(w:World):Seg w none 0 0 []:=⟨rfl,Nat.le_refl _,by unfold maxLen;omega,fun _=>⟨rfl,rfl⟩,fun _ h=>by cases h⟩
theorem Seg.own{w:World}{base e g n c:Nat}{l:List Bool}(h:w.ownsRow base e 1 (.slice (some ⟨g,0,none⟩) n c) n (l.map encW)):Seg w (some ⟨g,0,none⟩) n c l:=by
 have hl:l.length=n:=by simpa using h.1
 refine⟨hl,?_,?_,fun e=>by(cases e),?_⟩
 ·rcases h.2 with ⟨e,_⟩|⟨g',cap,cur,e,_,_,h1,h2,_⟩
  ·cases e
  ·cases e;exact h1
 ·rcases h.2 with ⟨e,_⟩|⟨g',cap,cur,e,_,_,h1,h2,_⟩
  ·cases e
  ·cases e;exact h2
 ·intro ad had j u hu;cases had
  exact h.cells rfl j u hu
theorem Seg.kept{w w':World}{a:Option Addr}{n c:Nat}{l:List Bool}(h:Seg w a n c l){row:Option Nat}(hg:w.grownBy w' row)(hne:∀ad,a=some ad→row≠some ad.block):Seg w' a n c l:=by
 refine⟨h.len,h.le,h.cap,h.nil_,fun ad had j u hu=>hg.cell (h.at_ ad had j u hu) ?_⟩;intro e;have:(ad.add j).block=ad.block:=by unfold Addr.add;split <;> rfl
 rw[this]at e;exact hne ad had e.symm
theorem Seg.grown{w w':World}{a:Option Addr}{n c:Nat}{l:List Bool}(h:Seg w a n c l)(hg:w.grownBy w' none):Seg w' a n c l:=h.kept hg (fun _ _ e=>by cases e)
theorem Seg.addr{w:World}{a:Option Addr}{n c:Nat}{l:List Bool}(h:Seg w a n c l)(hn:0<n):∃g o,a=some ⟨g,o,none⟩∧∀j,j<n→w.cell? ⟨g,o+j,none⟩=some (.bool (l.getD j false)):=by
 have hl:=h.len;cases a with
 |none=>have:=h.nil_ rfl;omega
 |some ad=>
  have hc:=h.at_ ad rfl;obtain⟨g,o,spot⟩:=ad;have h0:=hc 0 (encW (l.getD 0 false)) (by rw[List.getElem?_map,List.getElem?_eq_getElem (show 0<l.length by omega)];simp[List.getD,List.getElem?_eq_getElem (show 0<l.length by omega)]);have hspot:spot=none:=by simpa [Addr.add] using World.cell?_spot h0
  subst hspot;refine⟨g,o,rfl,fun j hj=>?_⟩;have h1:=hc j (encW (l.getD j false)) (by rw[List.getElem?_map,List.getElem?_eq_getElem (show j<l.length by omega)];simp[List.getD,List.getElem?_eq_getElem (show j<l.length by omega)]);rw[Addr.add_lit]at h1;exact h1
theorem Seg.drop{w:World}{g o n c k:Nat}{l:List Bool}(h:Seg w (some ⟨g,o,none⟩) n c l)(hk:k≤n):Seg w (some ⟨g,o+k,none⟩) (n-k) (c-k) (l.drop k):=by
 refine⟨by rw[List.length_drop,h.len],by have:=h.le;omega,by have:=h.cap;omega,(fun e=>by cases e),fun ad had j u hu=>?_⟩;cases had
 rw[List.map_drop,List.getElem?_drop]at hu;have h1:=h.at_ _ rfl (k+j) u hu;rw[Addr.add_lit]at h1 ⊢;rw[Nat.add_assoc];exact h1
theorem QbY:(Tryz.prog.info? 4).map (fun i=>(i.zero,i.size,i.bytes))=some (some (.bool false),1,1):=by kernel_rfl
end Bl
namespace Js
open Go.RowKit
open Bs (grownBy_trans Qv)
structure Seg (w:World) (a:Option Addr) (n c:Nat) (l:List Int):Prop where
 len:l.length=n
 le:n≤c
 cap:c≤maxLen
 nil_:a=none→n=0∧c=0
 at_:∀ad,a=some ad→∀j u,(l.map (Value.int .i64))[j]?=some u→w.cell? (ad.add j)=some u
end Js
end Go.Proofs.YtljanfnhmhimiaaGreat
