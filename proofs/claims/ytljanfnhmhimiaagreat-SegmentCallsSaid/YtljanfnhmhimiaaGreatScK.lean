/- Parts of the proof. -/
import Derived.Lib.LazyBuf
import Derived.Deep.RegionHeld3
import Derived.StillTailTactics
import Derived.Test.YtljanfnhmhimiaaGreatScF
set_option maxRecDepth 100000
set_option maxHeartbeats 8000000
namespace Go.Proofs.YtljanfnhmhimiaaGreat
namespace Dv
open Go.RowKit Bs
theorem Qlo(l:List Int)(hl:IsB l)(hn:l.length≤1000000000)(W:World):∃cap W',(convert 9 45 (.string (strOfNums l))).run Tryz.prog W=.ok (.slice (some ⟨W.heap.size,0,none⟩) l.length cap) W' ∧
  Reg W' W.heap.size 0 l∧Turn W W' nowhere∧l.length≤cap∧cap≤maxLen:=by
 have h:=Lib.run_convert_string_bytes (P:=Tryz.prog) W 9 45 5 (strOfNums l) Tryz.underlying9 Tryz.underlying45 Tryz.underlying5;rw[strOfNums_size]at h;refine⟨_,_,h,fun j x hx=>?_,⟨?_,?_,?_,?_,fun k hk _=>Lib.bytesWorld_at_old W _ _ k hk⟩,grownCap_ge _ _ _ _,grownCap_le_maxLen _ _ _ _ (by unfold maxLen;omega)⟩
 ·have hj:j<l.length:=(List.getElem?_eq_some_iff.1 hx).1;have hsz:(strOfNums l).size=l.length:=strOfNums_size l;have h1:=Lib.bytesWorld_cell W 5 (strOfNums l) j (by rw[hsz];exact hj);have h2:=Qja l hl;have h3:((strOfNums l).data.toList.map (fun b=>Value.int .u8 (b.toNat:Int)))[j]?=some (.int .u8 x):=by
   rw[h2,List.getElem?_map,hx];rfl
  have hj2:j<(strOfNums l).data.toList.length:=by
   have:(strOfNums l).data.toList.length=(strOfNums l).size:=rfl;omega
  rw[List.getElem?_map,List.getElem?_eq_getElem hj2]at h3;rw[Nat.zero_add,h1];have e:(strOfNums l).data.toList.getD j 0=(strOfNums l).data.toList[j]:=by rw[List.getD_eq_getElem?_getD,List.getElem?_eq_getElem hj2];rfl
  rw[e];refine⟨h3,?_⟩;unfold World.frozen?;rw[Lib.bytesWorld_at_new];have hs:(Lib.bytesCells W 5 (strOfNums l)).size=(strOfNums l).size+(grownCap W (strOfNums l).size 0 5-(strOfNums l).size):=by
   unfold Lib.bytesCells;rw[Array.size_append,Array.size_map,Array.size_replicate]
   rfl
  have hlt:¬(Lib.bytesCells W 5 (strOfNums l)).size≤j:=by omega
  simp[hlt]
 ·rfl
 ·rfl
 ·rfl
 ·rw[Lib.bytesWorld_size];omega
end Dv
end Go.Proofs.YtljanfnhmhimiaaGreat
