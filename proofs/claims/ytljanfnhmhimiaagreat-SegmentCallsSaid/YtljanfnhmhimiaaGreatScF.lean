/- Parts of the proof. -/
import Derived.Lib.ConvBytes
import Derived.Test.YtljanfnhmhimiaaGreatScD
set_option maxRecDepth 100000
set_option maxHeartbeats 8000000
namespace Go.Proofs.YtljanfnhmhimiaaGreat
namespace Dv
open Go.RowKit Bs
structure Turn (w w':World) (S:Nat→Prop):Prop where
 os:w'.os=w.os
 tape:w'.tape=w.tape
 output:w'.output=w.output
 size:w.heap.size≤w'.heap.size
 block:∀k,k<w.heap.size→¬S k→w'.heap[k]?=w.heap[k]?
def nowhere:Nat→Prop:=fun _=>False
theorem Turn.refl(w:World)(S:Nat→Prop):Turn w w S:=⟨rfl,rfl,rfl,Nat.le_refl _,fun _ _ _=>rfl⟩
theorem Turn.trans{a b c:World}{S S':Nat→Prop}(h:Turn a b S)(k:Turn b c S')(hS:∀i,i<a.heap.size→S' i→S i):Turn a c S:=
 ⟨k.os.trans h.os,k.tape.trans h.tape,k.output.trans h.output,Nat.le_trans h.size k.size,fun i hi hn=>(k.block i (Nat.lt_of_lt_of_le hi h.size) (fun e=>hn (hS i hi e))).trans (h.block i hi hn)⟩
theorem Turn.mono{a b:World}{S S':Nat→Prop}(h:Turn a b S)(hS:∀i,i<a.heap.size→S i→S' i):Turn a b S':=⟨h.os,h.tape,h.output,h.size,fun i hi hn=>h.block i hi (fun e=>hn (hS i hi e))⟩
theorem Turn.QD{a b:World}{row:Option Nat}{S:Nat→Prop}(h:a.grownBy b row)(hS:∀i,row=some i→i<a.heap.size→S i):Turn a b S:=
 ⟨h.os,h.tape,h.output,h.size,fun i hi hn=>h.block i hi (fun e=>hn (hS i e.symm hi))⟩
theorem Turn.grown{a b:World}(h:Turn a b nowhere):a.grownBy b none:=⟨h.os,h.tape,h.output,h.size,fun i hi _=>h.block i hi id⟩
theorem Turn.drewN(a:World)(n:Nat)(S:Nat→Prop):Turn a (a.drewN n) S:=⟨rfl,rfl,rfl,Nat.le_refl _,fun _ _ _=>rfl⟩
theorem Turn.drew(a:World)(S:Nat→Prop):Turn a a.drew S:=⟨rfl,rfl,rfl,Nat.le_refl _,fun _ _ _=>rfl⟩
theorem Turn.alloc(a:World)(o:Obj)(S:Nat→Prop):Turn a (a.alloc o) S:=⟨rfl,rfl,rfl,by simp,fun i hi _=>Below.heap_alloc a o i hi⟩
theorem Turn.setCell(a:World)(p:Addr)(v:Value){S:Nat→Prop}(hS:S p.block):Turn a (a.setCell p v) S:=
 ⟨rfl,rfl,rfl,by simp[World.setCell],fun i _ hn=>Below.heap_setCell _ _ _ _ (fun e=>hn (by rw[e];exact hS))⟩
theorem Turn.cell{a b:World}{S:Nat→Prop}(h:Turn a b S){p:Addr}{v:Value}(hv:a.cell? p=some v)(hp:¬S p.block):b.cell? p=some v:=
 (World.cell?_of_block (h.block p.block (World.block_lt_of_cell? a p hv) hp)).trans hv
theorem Turn.frozen{a b:World}{S:Nat→Prop}(h:Turn a b S){p:Addr}(hlt:p.block<a.heap.size)(hp:¬S p.block):b.frozen? p=a.frozen? p:=World.frozen?_of_block (h.block p.block hlt hp)
theorem Qil(b:Nat){S:Nat→Prop}(hS:S b):∀(vs:List Value) (o:Nat) (w:World),Turn w (w.setCells b o vs) S
 | [],_,w=>Turn.refl w S
 |v :: r,o,w=>(Turn.setCell w ⟨b,o,none⟩ v hS).trans (Qil b hS r (o+1) _) (fun _ _ h=>h)
def Reg(w:World)(b o:Nat)(l:List Int):Prop:=∀j x,l[j]?=some x→w.cell? ⟨b,o+j,none⟩=some (.int .u8 x)∧w.frozen? ⟨b,o+j,none⟩=false
structure Out (w w':World) (b o n:Nat):Prop where
 turn:Turn w w' (·=b)
 cell:∀j,j<o∨o+n≤j→w'.cell? ⟨b,j,none⟩=w.cell? ⟨b,j,none⟩
 frozen:∀j,w'.frozen? ⟨b,j,none⟩=w.frozen? ⟨b,j,none⟩
def spl(l:List Int)(p:Nat)(v:List Int):List Int:=l.take p++v++l.drop (p+v.length)
theorem spl_get(l:List Int)(p:Nat)(v:List Int)(h:p+v.length≤l.length)(j:Nat):(spl l p v)[j]?=if j<p then l[j]? else if j<p+v.length then v[j-p]? else l[j]?:=by
 unfold spl;have ht:(l.take p).length=p:=by rw[List.length_take];omega
 by_cases h1:j<p
 ·rw[if_pos h1,List.append_assoc,List.getElem?_append_left (by omega),List.getElem?_take_of_lt h1]
 ·rw[if_neg h1];by_cases h2:j<p+v.length
  ·rw[if_pos h2,List.append_assoc,List.getElem?_append_right (by omega),ht,List.getElem?_append_left (by omega)]
  ·rw[if_neg h2,List.getElem?_append_right (by rw[List.length_append];omega),List.length_append,ht,List.getElem?_drop]
   congr 1
   omega
theorem block_add(a:Addr)(n:Nat):(a.add n).block=a.block:=by unfold Addr.add;split <;> rfl
end Dv
end Go.Proofs.YtljanfnhmhimiaaGreat
