/- Parts of the proof. -/
import Derived.Lib.AppendZerosOnto
import Derived.Test.YtbbbocoliandcaaGreatDoorKrC
set_option maxRecDepth 100000
set_option maxHeartbeats 8000000
namespace Go.Proofs.YtbbbocoliandcaaGreatDoor
namespace Bs
open Go.RowKit Go.Lib
theorem Qd7(k:Nat):Builtin.zeroCells (Value.int .u8 0).cells k=(List.replicate k (Value.int .u8 0)).toArray:=by
 have hz:(Value.int .u8 0).cells=#[Value.int .u8 0]:=rfl;rw[hz];apply Array.ext
 ·simp[Builtin.zeroCells]
 ·intro i h1 h2;simp[Builtin.zeroCells,Nat.mod_one]
theorem Qdg(base:Nat)(w:World)(t tn ty e:TypeId)(i:TypeInfo)(kn:IntKind)(ht:Tryz.prog.underlying t=some (.slice e))(htn:Tryz.prog.underlying tn=some (.int kn))(hi:Tryz.prog.info? e=some i)(hz:i.zero=some (.int .u8 0))
  (hsize:i.size=1) (hby:i.bytes=1) (g n c:Nat) (xs:List Value) (hown:w.ownsRow base e 1 (.slice (some ⟨g,0,none⟩) n c) n xs) (k:Nat) (hk:n+k≤1000000000) (hbase:base≤w.heap.size) :
  ∃g' c' w',(Builtin.append_ #[t,tn] ty #[.slice (some ⟨g,0,none⟩) n c,.int .i64 k]).run Tryz.prog w=.ok (.slice (some ⟨g',0,none⟩) (n+k) c') w' ∧
   w'.ownsRow base e 1 (.slice (some ⟨g',0,none⟩) (n+k) c') (n+k) (xs++List.replicate k (.int .u8 0))∧w.grownBy w' (some g):=by
 have hxl:xs.length=n:=by simpa using hown.1
 have hlen:(xs++List.replicate k (Value.int .u8 0)).length=(n+k)*1:=by rw[List.length_append,hxl,List.length_replicate,Nat.mul_one]
 have hw:IntKind.i64.wrap (k:Int)=k:=by rw[IntKind.wrap_i64];omega
 have hneg:¬((k:Int)<0):=by omega
 have hw0:IntKind.i64.wrap 0=0:=by rw[IntKind.wrap_i64];rfl
 rcases hown.2 with ⟨e1,_⟩|⟨g0,cap,cur,e1,hbg,hg,hnc,hcm,hcs,htake⟩
 ·cases e1
 ·cases e1
  have h48:¬(281474976710656<(k:Int)):=by omega
  by_cases hroom:n+k≤c
  ·by_cases h0:k=0
   ·subst h0;refine⟨g,c,w,?_,by simpa using hown,⟨rfl,rfl,rfl,Nat.le_refl _,fun _ _ _=>rfl⟩⟩;have hnc':n≤c:=hnc;have hst:(storeCells ⟨g,n,none⟩ ([]:List Value)).run Tryz.prog w=.ok () w:=rfl;simp[Builtin.append_,run_underlying ht,run_underlying htn,sizeOf,typeInfo,hi,hsize,hby,asInt,asIntOf,Addr.add_lit,hst,hnc',hw0]
   ·have hcs':cur.size=c:=by simpa using hcs
    have hst:=run_storeCells_at Tryz.prog g n e (List.replicate k (Value.int .u8 0)) 0 cur w hg (by simp;omega) (by intro u hu;rw[List.eq_of_mem_replicate hu];rfl);simp only[Nat.add_zero,List.length_replicate]at hst;refine⟨g,c,w.setRow g (cur.toList.take n++List.replicate k (Value.int .u8 0)++cur.toList.drop (n+k)).toArray,?_,⟨hlen,.inr ⟨g,c,_,rfl,hbg,setRow_heap w g cur _ e _ hg,hroom,hcm,?_,?_⟩⟩,⟨rfl,rfl,rfl,by simp,fun j _ hj=>setRow_other w g j _ (fun e=>hj (by rw[e]))⟩⟩
    ·simp[Builtin.append_,run_underlying ht,run_underlying htn,sizeOf,typeInfo,zeroValue,hi,hz,hsize,hby,asInt,asIntOf,hw,hneg,h48,h0,hroom,Qd7,Addr.add_lit,hst]
    ·simp only[List.size_toArray,List.length_append,List.length_take,List.length_drop,Array.length_toList,List.length_replicate];omega
    ·have ht':cur.toList.take n=xs:=by simpa using htake
     rw[ht',←hlen];exact List.take_left
  ·have holds:∀j u,xs[j]?=some u→w.cell? ((⟨g,0,none⟩:Addr).add j)=some u:=hown.cells (g:=g) rfl;have hfo:=run_firstCells_some (P:=Tryz.prog) w.drew i.size n ⟨g,0,none⟩ n c xs (by rw[hsize];simpa using hxl) (by simpa using holds);have hr:=run_append_grow_zeros (P:=Tryz.prog) w t tn ty e i (.int .u8 0) .i64 kn ht htn hi hz (some ⟨g,0,none⟩) n c xs hfo k (by omega) (by omega) (by omega) (by omega) (by rw[hby];omega) (by rw[hby];exact growslice_fits (by omega) (by omega));have hge:=grownCap_ge w (n+k) c e;have hcm2:grownCap w (n+k) c e≤maxLen:=grownCap_le_maxLen w (n+k) c e (by unfold maxLen;omega);refine⟨w.heap.size,_,_,hr,⟨hlen,.inr ⟨w.heap.size,_,_,rfl,hbase,heap_alloc_new w.drew _,hge,hcm2,?_,?_⟩⟩,⟨rfl,rfl,rfl,by simp,fun j hj _=>Below.heap_alloc w.drew _ j hj⟩⟩
   ·have hz1:(Value.int IntKind.u8 0).cells.size=1:=rfl;simp only[Array.size_append,List.size_toArray,size_zeroCells,hz1,hxl];omega
   ·rw[Qd7];simp only[Array.toList_append,List.append_assoc];rw[←List.append_assoc,←hlen];exact List.take_left
theorem Qdo{w:World}{ops:Array Oper}{rest:List Oper}{o:Oper}{a:Act}{Q:Exit→Act→World→Prop}(hgd:o.guard=none)(s x:Operand)
  (ho:o.op=.call { callee:=.builtin .append,args:=#[s,x],argTypes:=#[101,3] }) (base g n c:Nat) (l:List Int) (hs:a.eval s=.slice (some ⟨g,0,none⟩) n c)
  (hown:w.ownsRow base 5 1 (.slice (some ⟨g,0,none⟩) n c) n (l.map (Value.int .u8))) (k:Nat) (hx:a.eval x=.int .i64 k) (hk:n+k≤1000000000) (hbase:base≤w.heap.size)
  (h:∀g' c' w',w'.ownsRow base 5 1 (.slice (some ⟨g',0,none⟩) (n+k) c') (n+k) ((l++List.replicate k 0).map (Value.int .u8))→w.grownBy w' (some g)→wpList Tryz.prog ops Q rest (a.put o.dst (.slice (some ⟨g',0,none⟩) (n+k) c')) w'):wpList Tryz.prog ops Q (o :: rest) a w:=by
 obtain⟨i0,hi,hz0,hz1,hz2⟩:=info_parts QX;obtain⟨g',c',w',hr,ho2,hg2⟩:=Qdg base w 101 3 o.type 5 i0 .i64 Tryz.underlying101 Tryz.underlying3 hi hz0 hz1 hz2 g n c _ hown k hk hbase;refine wpList_append_run w hgd s x _ _ ho _ _ hs hx _ _ hr ?_;exact h g' c' w' (by rw[List.map_append,List.map_replicate];exact ho2) hg2
end Bs
end Go.Proofs.YtbbbocoliandcaaGreatDoor
