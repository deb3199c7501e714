/- Parts of the proof. -/
import Derived.Lib.LazyBuf
import Derived.Lib.BufferWrite
import Derived.Maps.AppendAt
import Derived.Test.YtgffbbdcbkikhaaGreatDoorKbE
import Derived.Test.YtgffbbdcbkikhaaGreatDoorKbH
set_option maxRecDepth 100000
set_option maxHeartbeats 8000000
namespace Go.Proofs.YtgffbbdcbkikhaaGreatDoor
namespace Dv
open Go.RowKit Bs
theorem Reg.block{w:World}{b n:Nat}{d:List (List Int)}(h:Reg w b 0 d.flatten)(hn:0<n)(hd:IsD n d)(k:Nat)(hk:k<d.length):Reg w b (k*n) (d.getD k []):=fun j x hx=>by
 have e:d.getD k []=d[k]:=by simp[List.getD,hk]
 rw[e]at hx;have hj:j<n:=by
  have:=(List.getElem?_eq_some_iff.1 hx).1;rw[(hd _ (List.getElem_mem hk)).1]at this;exact this
 have:=h (k*n+j) x (by rw[QhZ n hn d hd k hk j hj];exact hx);rw[Nat.zero_add]at this;exact this
theorem Reg.reblock{w w':World}{b n:Nat}{d:List (List Int)}(h:Reg w b 0 d.flatten)(hn:0<n)(hd:IsD n d)(k:Nat)(hk:k<d.length)(l:List Int)(hl:l.length=n)(hB:IsB l)
  (h1:Reg w' b (k*n) l) (ho:Out w w' b (k*n) n):Reg w' b 0 (d.set k l).flatten:=fun j x hx=>by
 rw[Qj7 n hn d hd k hk l hl hB]at hx;rw[Nat.zero_add];have hdm:=Nat.div_add_mod j n;have hlt:=Nat.mod_lt j hn;by_cases e:j / n=k
 ·rw[if_pos e]at hx;have:=h1 (j % n) x hx;rw[show k*n+j % n=j from by rw[←e,Nat.mul_comm];exact hdm]at this;exact this
 ·rw[if_neg e]at hx;have h2:=h j x hx;rw[Nat.zero_add]at h2;rw[ho.frozen,ho.cell j ?_]
  ·exact h2
  ·rcases Nat.lt_or_gt_of_ne e with h3|h3
   ·left
    have:(j / n+1)*n≤k*n:=Nat.mul_le_mul_right _ h3;rw[Nat.add_mul,Nat.mul_comm]at this;omega
   ·right
    have:(k+1)*n≤j / n*n:=Nat.mul_le_mul_right _ h3;rw[Nat.add_mul,Nat.mul_comm (j / n)]at this;omega
def wcells(p:Nat×List Int):List Value:=[.int .i64 (p.1:Int),.string (strOfNums p.2)]
def wrow(l:List (Nat×List Int)):List Value:=l.flatMap wcells
theorem QhG(l:List (Nat×List Int)):∀k,k<l.length→(wrow l)[2*k]?=some (.int .i64 ((l.getD k (0,[])).1:Int))∧(wrow l)[2*k+1]?=some (.string (strOfNums (l.getD k (0,[])).2)):=by
 induction l with
 |nil=>intro k hk;simp at hk
 |cons x l ih=>
  intro k hk;cases k with
  |zero=>exact⟨rfl,rfl⟩
  |succ k=>
   have:=ih k (by simpa using hk);unfold wrow at this ⊢;rw[List.flatMap_cons,show 2*(k+1)=(2*k)+2 from by omega];exact this
theorem QjP(l:List (Nat×List Int))(p:Nat×List Int):wrow (l++[p])=wrow l++wcells p:=by simp[wrow]
structure Dev (w:World) (g b:Nat) (P:Value) (s:St):Prop where
 ok:s.Ok
 box:∃c,s.size*s.blocks≤c∧c≤maxLen∧w.heap[g]?=some (.cells #[.int .i64 (s.size:Int),.int .i64 (s.blocks:Int),.slice (some ⟨b,0,none⟩) (s.size*s.blocks) c,P,.int .i64 (s.ops:Int),.int .i64 s.fuse,.pointer (some ⟨g,0,none⟩)] 140 (0,0))
 reg:Reg w b 0 s.dur.flatten
 row:w.ownsRow 0 143 2 P s.pend.length (wrow s.pend)
 gb:g≠b
 pg:P.ownBlock≠some g
 pb:P.ownBlock≠some b
def fp(g b:Nat)(P:Value)(k:Nat):Prop:=k=g∨k=b∨P.ownBlock=some k
theorem St.Ok.len{s:St}(h:s.Ok):s.dur.flatten.length=s.size*s.blocks:=by rw[Qj6 s.size _ h.dblk,h.dlen]
theorem St.Ok.some{s:St}(h:s.Ok):s.dur.flatten≠[]:=by
 intro e;have:=h.len;rw[e]at this;have h1:=h.lo;have h2:=h.blo;have:1*1≤s.size*s.blocks:=Nat.mul_le_mul (by omega) (by omega);simp at *;omega
theorem Dev.lt{w:World}{g b:Nat}{P:Value}{s:St}(h:Dev w g b P s):∀k,fp g b P k→k<w.heap.size:=by
 rintro k (rfl|rfl|hk)
 ·obtain⟨c,_,_,hg⟩:=h.box;exact(Array.getElem?_eq_some_iff.1 hg).1
 ·exact h.reg.lt h.ok.some
 ·exact(h.row.lt k hk).2
theorem Dev.turn{w w':World}{g b:Nat}{P:Value}{s:St}{S:Nat→Prop}(h:Dev w g b P s)(k:Turn w w' S)(hS:∀i,fp g b P i→¬S i):Dev w' g b P s:=by
 obtain⟨c,h1,h2,hg⟩:=h.box;refine⟨h.ok,⟨c,h1,h2,?_⟩,h.reg.turn k (hS b (.inr (.inl rfl))),Qa3 h.row k (fun i hi=>hS i (.inr (.inr hi))),h.gb,h.pg,h.pb⟩;rw[k.block g (Array.getElem?_eq_some_iff.1 hg).1 (hS g (.inl rfl))];exact hg
theorem Dev.cells{w:World}{g b:Nat}{P:Value}{s:St}(h:Dev w g b P s):∃c,s.size*s.blocks≤c∧c≤maxLen ∧
  w.cell? ⟨g,0,none⟩=some (.int .i64 (s.size:Int))∧w.cell? ⟨g,1,none⟩=some (.int .i64 (s.blocks:Int))∧w.cell? ⟨g,2,none⟩=some (.slice (some ⟨b,0,none⟩) (s.size*s.blocks) c)∧w.cell? ⟨g,3,none⟩=some P ∧
  w.cell? ⟨g,4,none⟩=some (.int .i64 (s.ops:Int))∧w.cell? ⟨g,5,none⟩=some (.int .i64 s.fuse)∧w.cell? ⟨g,6,none⟩=some (.pointer (some ⟨g,0,none⟩)):=by
 obtain⟨c,h1,h2,hg⟩:=h.box;refine⟨c,h1,h2,?_,?_,?_,?_,?_,?_,?_⟩ <;> rw[cell_of_row w g _ _ _ _ hg] <;> rfl
theorem Dev.free{w:World}{g b:Nat}{P:Value}{s:St}(h:Dev w g b P s)(i:Nat):w.frozen? ⟨g,i,none⟩=false:=by
 obtain⟨c,_,_,hg⟩:=h.box;simp[World.frozen?,hg]
theorem Dev.reboxS{w w':World}{g b c:Nat}{P P':Value}{s s':St}{S:Nat→Prop}(h:Dev w g b P s)(k:Turn w w' S)(hSb:¬S b)(hc:s.size*s.blocks≤c)(hm:c≤maxLen)
  (hg:w'.heap[g]?=some (.cells #[.int .i64 (s'.size:Int),.int .i64 (s'.blocks:Int),.slice (some ⟨b,0,none⟩) (s'.size*s'.blocks) c,P',.int .i64 (s'.ops:Int),.int .i64 s'.fuse,.pointer (some ⟨g,0,none⟩)] 140 (0,0)))
  (ok:s'.Ok) (hs:s'.size=s.size) (hb:s'.blocks=s.blocks) (hd:s'.dur=s.dur) (hrow:w'.ownsRow 0 143 2 P' s'.pend.length (wrow s'.pend)) (pg:P'.ownBlock≠some g) (pb:P'.ownBlock≠some b):Dev w' g b P' s':=by
 refine⟨ok,⟨c,by rw[hs,hb];exact hc,hm,hg⟩,?_,hrow,h.gb,pg,pb⟩;rw[hd];exact h.reg.turn k hSb
theorem Dev.rebox{w w':World}{g b c:Nat}{P P':Value}{s s':St}(h:Dev w g b P s)(k:Turn w w' (·=g))(hc:s.size*s.blocks≤c)(hm:c≤maxLen)
  (hg:w'.heap[g]?=some (.cells #[.int .i64 (s'.size:Int),.int .i64 (s'.blocks:Int),.slice (some ⟨b,0,none⟩) (s'.size*s'.blocks) c,P',.int .i64 (s'.ops:Int),.int .i64 s'.fuse,.pointer (some ⟨g,0,none⟩)] 140 (0,0)))
  (ok:s'.Ok) (hs:s'.size=s.size) (hb:s'.blocks=s.blocks) (hd:s'.dur=s.dur) (hrow:w'.ownsRow 0 143 2 P' s'.pend.length (wrow s'.pend)) (pg:P'.ownBlock≠some g) (pb:P'.ownBlock≠some b):Dev w' g b P' s':=
 h.reboxS k (fun e=>h.gb e.symm) hc hm hg ok hs hb hd hrow pg pb
theorem Qh7:(Tryz.prog.info? 143).map (fun i=>(i.zero,i.size,i.bytes))=some (some (.agg #[.int .i64 0,.string ⟨#[]⟩]),2,24):=by kernel_rfl
end Dv
end Go.Proofs.YtgffbbdcbkikhaaGreatDoor
