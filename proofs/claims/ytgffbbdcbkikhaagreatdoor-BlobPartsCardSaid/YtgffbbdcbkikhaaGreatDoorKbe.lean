/- Parts of the proof. -/
import Derived.Lib.AppendZeros
import Derived.Test.YtgffbbdcbkikhaaGreatDoorKbd
set_option maxRecDepth 100000
set_option maxHeartbeats 8000000
namespace Go.Proofs.YtgffbbdcbkikhaaGreatDoor
namespace Sp
open Go.RowKit Bs Dv Gr
open Su (Sup SupOk GeoOk supE T4)
theorem Qdz{oa:Option Addr}{L oc k:Nat}(h:(Value.slice oa L oc).ownBlock=some k):∃ad:Addr,oa=some ad∧k=ad.block:=by
 cases oa with
 |none=>simp[Value.ownBlock]at h
 |some ad=>
  simp[Value.ownBlock]at h;exact⟨ad,rfl,h.symm⟩
theorem QcX{w w':World}{base e size n:Nat}{v:Value}{xs:List Value}{A:Nat→Prop}(h:w.ownsRow base e size v n xs)(k:Stay w w' A)(hv:∀i,v.ownBlock=some i→A i):w'.ownsRow base e size v n xs:=by
 refine⟨h.1,?_⟩;rcases h.2 with h2|⟨g,cap,cur,e1,h3,h4,h5⟩
 ·exact .inl h2
 ·refine .inr ⟨g,cap,cur,e1,h3,?_,h5⟩;rw[k.block (hv g (by rw[e1];rfl)) (Array.getElem?_eq_some_iff.1 h4).1];exact h4
theorem Qew{w:World}{base e L oc n:Nat}{oa:Option Addr}{xs:List Value}(h:w.ownsRow base e 1 (.slice oa L oc) n xs):∀ad,oa=some ad→base≤ad.block∧ad.block<w.heap.size:=by
 intro ad had;subst had;have h1:=h.lt ad.block rfl;exact h1
theorem Sh.beside{w0 w w':World}{sg g:Nat}{A B S:Nat→Prop}{s:SpS}(h:Sh w0 w sg g A s)(t:Turn w w' S)(hS:∀k,S k→A k)(h0:∀k,S k→w0.heap.size≤k)(hB:∀i,B i→A i∨(w.heap.size≤i∧i<w'.heap.size)):Sh w0 w' sg g B s:=by
 obtain⟨x,a,b,h,d⟩:=h;refine⟨x,a,b,h.turn t (fun k hk e=>(d k (hS k e)).2 hk) (Qao h.gr t h0),fun i hi=>?_⟩;rcases hB i hi with q|q
 ·exact⟨Nat.lt_of_lt_of_le (d i q).1 t.size,(d i q).2⟩
 ·exact⟨q.2,fun e=>by have:=h.lt e;omega⟩
end Sp
end Go.Proofs.YtgffbbdcbkikhaaGreatDoor
