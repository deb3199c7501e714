/- Parts of the proof. -/
import Derived.Lib.LazyBuf
import Derived.Deep.RegionHeld3
import Derived.StillTailTactics
import Derived.Test.YtgffbbdcbkikhaaGreatDoorKbH
set_option maxRecDepth 100000
set_option maxHeartbeats 8000000
namespace Go.Proofs.YtgffbbdcbkikhaaGreatDoor
namespace Dv
open Go.RowKit Bs
theorem QlW(w:World):(Go.sizeOf 5).run Tryz.prog w=.ok 1 w:=by
 obtain⟨i0,hi,_,hz1,_⟩:=info_parts QU;simp[Go.sizeOf,typeInfo,hi,hz1]
theorem QgD(w:World)(ty:TypeId)(b o dLen dCap:Nat)(l v:List Int)(h:Reg w b o l)(hv:IsB v)(hlen:v.length≤dLen)(hl:v.length≤l.length) :
  (Builtin.copy_ #[46,9] ty #[.slice (some ⟨b,o,none⟩) dLen dCap,.string (strOfNums v)]).run Tryz.prog w=.ok (goInt v.length) (w.setCells b o (v.map (Value.int .u8))):=by
 have h1:=run_copy_string (P:=Tryz.prog) w 46 9 ty 5 b o dLen dCap (strOfNums v) Tryz.underlying46 QlW (by rw[strOfNums_size];exact hlen)
  (fun j hj=>by rw[strOfNums_size]at hj;rw[(h.at_ j (by omega)).1];rfl) (fun j hj=>by rw[strOfNums_size]at hj;exact(h.at_ j (by omega)).2)
 rw[QgJ v hv,strOfNums_size]at h1;exact h1
theorem QdM{w:World}{o:Oper}{a:Act}{K:Act→World→Prop}{Q:Exit→Act→World→Prop}(d s:Operand)
  (ho:o.op=.call { callee:=.builtin .copy,args:=#[d,s],argTypes:=#[46,9] }) (b off dLen dCap:Nat) (hd:a.eval d=.slice (some ⟨b,off,none⟩) dLen dCap) (l v:List Int) (hs:a.eval s=.string (strOfNums v))
  (h:Reg w b off l) (hv:IsB v) (hlen:v.length≤dLen) (hl:v.length≤l.length)
  (hK:∀w',Reg w' b off (spl l 0 v)→Out w w' b off v.length→K (a.put o.dst (goInt v.length)) w'):o.wp Tryz.prog a w K Q:=by
 have hrun:=QgD w o.type b off dLen dCap l v h hv hlen hl;unfold Oper.wp;simp[execOp,ho,resolve,invoke,builtin,hd,hs,hrun,Result.andThen];exact hK _ (h.setCells 0 v (by omega)) (Out.setCells w b off v.length off _ (Nat.le_refl _) (by simp))
theorem QeH{w:World}{ops:Array Oper}{rest:List Oper}{o:Oper}{a:Act}{Q:Exit→Act→World→Prop}(hgd:o.guard=none)(d s:Operand)
  (ho:o.op=.call { callee:=.builtin .copy,args:=#[d,s],argTypes:=#[46,9] }) (b off dLen dCap:Nat) (hd:a.eval d=.slice (some ⟨b,off,none⟩) dLen dCap) (l v:List Int) (hs:a.eval s=.string (strOfNums v))
  (h:Reg w b off l) (hv:IsB v) (hlen:v.length≤dLen) (hl:v.length≤l.length)
  (hK:∀w',Reg w' b off (spl l 0 v)→Out w w' b off v.length→wpList Tryz.prog ops Q rest (a.put o.dst (goInt v.length)) w'):wpList Tryz.prog ops Q (o :: rest) a w:=
 wpList_plain hgd fun _ hk=>QdM d s ho b off dLen dCap hd l v hs h hv hlen hl fun w' h1 h2=>hk _ _ (hK w' h1 h2)
theorem QfC{w:World}{ops:Array Oper}{o:Oper}{a:Act}{K:Act→World→Prop}{Q:Exit→Act→World→Prop}{E:Prop}(hgd:o.guard=none)(d s:Operand)
  (ho:o.op=.call { callee:=.builtin .copy,args:=#[d,s],argTypes:=#[46,9] }) (b off dLen dCap:Nat) (hd:a.eval d=.slice (some ⟨b,off,none⟩) dLen dCap) (l v:List Int) (hs:a.eval s=.string (strOfNums v))
  (h:Reg w b off l) (hv:IsB v) (hlen:v.length≤dLen) (hl:v.length≤l.length)
  (hK:∀w',Reg w' b off (spl l 0 v)→Out w w' b off v.length→K (a.put o.dst (goInt v.length)) w'):if Region.wanted o (yielded ops a.tmps)=true then Oper.wp Tryz.prog o a w K Q else E:=by
 have hw:Region.wanted o (yielded ops a.tmps)=true:=by simp[Region.wanted,hgd]
 rw[if_pos hw];exact QdM d s ho b off dLen dCap hd l v hs h hv hlen hl hK
theorem Qkz{w:World}{base e g n c:Nat}{xs:List Value}(h:w.ownsRow base e 1 (.slice (some ⟨g,0,none⟩) n c) n xs):∃cur:Array Value,w.heap[g]?=some (.cells cur e (0,0))∧cur.size=c:=by
 rcases h.2 with ⟨e,_⟩|⟨g',cap,cur,e,_,hg,_,_,hs,_⟩
 ·cases e
 ·cases e
  exact⟨cur,hg,by omega⟩
theorem Qg1(w:World)(p:Addr)(n:Nat){S:Nat→Prop}(hS:S p.block):Turn w (w.freeze p n) S:=by
 unfold World.freeze
 split
 ·exact Turn.refl _ _
 ·exact⟨rfl,rfl,rfl,by simp,fun k _ hk=>by
   have hne:k≠p.block:=fun e=>hk (by rw[e];exact hS)
   simp[Array.getElem?_modify,Ne.symm hne]⟩
theorem Reg.sub{w:World}{b:Nat}{l:List Int}(h:Reg w b 0 l)(o:Nat):Reg w b o (l.drop o):=fun j x hx=>by
 rw[List.getElem?_drop]at hx;have:=h (o+j) x hx
 rwa [Nat.zero_add]at this
theorem Reg.take{w:World}{b o:Nat}{l:List Int}(h:Reg w b o l)(n:Nat):Reg w b o (l.take n):=fun j x hx=>by
 refine h j x ?_;have hj:j<n:=by
  have:=(List.getElem?_eq_some_iff.1 hx).1;rw[List.length_take]at this;omega
 rwa [List.getElem?_take_of_lt hj]at hx
theorem Reg.patch{w w':World}{b o:Nat}{l v:List Int}(h:Reg w b 0 l)(h1:Reg w' b o v)(ho:Out w w' b o v.length)(hl:o+v.length≤l.length):Reg w' b 0 (spl l o v):=fun j x hx=>by
 rw[QeV l o v hl]at hx;rw[Nat.zero_add];by_cases h2:j<o
 ·rw[if_pos h2]at hx;have h3:=h j x hx;rw[Nat.zero_add]at h3;rw[ho.frozen,ho.cell j (.inl h2)];exact h3
 ·rw[if_neg h2]at hx;by_cases h3:j<o+v.length
  ·rw[if_pos h3]at hx;have h4:=h1 (j-o) x hx;rw[show o+(j-o)=j from by omega]at h4;exact h4
  ·rw[if_neg h3]at hx;have h4:=h j x hx;rw[Nat.zero_add]at h4;rw[ho.frozen,ho.cell j (.inr (by omega))];exact h4
theorem QeI{w:World}{ops:Array Oper}{rest:List Oper}{o:Oper}{a:Act}{Q:Exit→Act→World→Prop}(hgd:o.guard=none)(d s:Operand)
  (ho:o.op=.call { callee:=.builtin .copy,args:=#[d,s],argTypes:=#[46,46] }) (b off dLen dCap:Nat) (hd:a.eval d=.slice (some ⟨b,off,none⟩) dLen dCap)
  (ad:Addr) (n c:Nat) (l v:List Int) (hs:a.eval s=.slice (some ad) n c) (hv:Seg w (some ad) n c v) (h:Reg w b off l) (hlen:n≤dLen) (hl:n≤l.length)
  (hK:∀w',Reg w' b off (spl l 0 v)→Out w w' b off n→wpList Tryz.prog ops Q rest (a.put o.dst (goInt n)) w'):wpList Tryz.prog ops Q (o :: rest) a w:=by
 obtain⟨i0,hi,_,hz1,_⟩:=info_parts QU;have hvl:=hv.len;refine wpList_plain hgd fun _ hk=>?_
 have hrun:=run_copy_cells (P:=Tryz.prog) w 46 46 o.type 5 b off dLen dCap ad n c (v.map (Value.int .u8)) Tryz.underlying46 (by rw[hi];simp[hz1])
  (by rw[List.length_map,hvl];exact(Nat.min_eq_left hlen).symm) (hv.at_ ad rfl) (fun j hj=>by rw[List.length_map]at hj;rw[(h.at_ j (by omega)).1];rfl) (fun j hj=>by rw[List.length_map]at hj;exact(h.at_ j (by omega)).2) (ints_oneCell _ _)
 rw[List.length_map,hvl]at hrun;unfold Oper.wp;simp[execOp,ho,resolve,invoke,builtin,hd,hs,hrun,Result.andThen];have h1:=h.setCells 0 v (by omega);have h2:=Out.setCells w b off n off (v.map (Value.int .u8)) (Nat.le_refl _) (by rw[List.length_map];omega);exact hk _ _ (hK _ h1 h2)
theorem Qaw(g o n c:Nat)(l:List Int)(w:World)(h:Reg w g o l)(hl:l.length=n):(convert 46 9 (.slice (some ⟨g,o,none⟩) n c)).run Tryz.prog w=.ok (.string (strOfNums l)) w:=
 run_convert_bytes_arg w 46 5 Tryz.underlying46 Tryz.underlying5 g o n c l hl (fun j hj=>(h.at_ j (by omega)).1) 9 Tryz.underlying9
theorem Qbj(l:List Int)(hl:IsB l)(hn:l.length≤1000000000)(W:World):∃cap W',(convert 9 46 (.string (strOfNums l))).run Tryz.prog W=.ok (.slice (some ⟨W.heap.size,0,none⟩) l.length cap) W' ∧
  Reg W' W.heap.size 0 l∧Turn W W' nowhere∧l.length≤cap∧cap≤maxLen:=by
 have h:=Lib.run_convert_string_bytes (P:=Tryz.prog) W 9 46 5 (strOfNums l) Tryz.underlying9 Tryz.underlying46 Tryz.underlying5;rw[strOfNums_size]at h;refine⟨_,_,h,fun j x hx=>?_,⟨?_,?_,?_,?_,fun k hk _=>Lib.bytesWorld_at_old W _ _ k hk⟩,grownCap_ge _ _ _ _,grownCap_le_maxLen _ _ _ _ (by unfold maxLen;omega)⟩
 ·have hj:j<l.length:=(List.getElem?_eq_some_iff.1 hx).1;have hsz:(strOfNums l).size=l.length:=strOfNums_size l;have h1:=Lib.bytesWorld_cell W 5 (strOfNums l) j (by rw[hsz];exact hj);have h2:=QgJ l hl;have h3:((strOfNums l).data.toList.map (fun b=>Value.int .u8 (b.toNat:Int)))[j]?=some (.int .u8 x):=by
   rw[h2,List.getElem?_map,hx];rfl
  have hj2:j<(strOfNums l).data.toList.length:=by
   have:(strOfNums l).data.toList.length=(strOfNums l).size:=rfl;omega
  rw[List.getElem?_map,List.getElem?_eq_getElem hj2]at h3;rw[Nat.zero_add,h1];have e:(strOfNums l).data.toList.getD j 0=(strOfNums l).data.toList[j]:=by rw[List.getD_eq_getElem?_getD,List.getElem?_eq_getElem hj2];rfl
  rw[e];refine⟨h3,?_⟩;unfold World.frozen?;rw[Lib.bytesWorld_at_new];have hs:(Lib.bytesCells W 5 (strOfNums l)).size=(strOfNums l).size+(grownCap W (strOfNums l).size 0 5-(strOfNums l).size):=by
   unfold Lib.bytesCells;rw[Array.size_append,Array.size_map,Array.size_replicate]
   rfl
  have hlt:¬(Lib.bytesCells W 5 (strOfNums l)).size≤j:=by omega
  simp[hlt]
 ·rfl
 ·rfl
 ·rfl
 ·rw[Lib.bytesWorld_size];omega
end Dv
end Go.Proofs.YtgffbbdcbkikhaaGreatDoor
