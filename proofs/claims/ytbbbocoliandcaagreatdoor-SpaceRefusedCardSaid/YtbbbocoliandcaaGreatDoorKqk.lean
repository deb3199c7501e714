/- Parts of the proof. -/
import Derived.Test.YtbbbocoliandcaaGreatDoorKqh
import Derived.Test.YtbbbocoliandcaaGreatDoorKqj
set_option maxRecDepth 100000
set_option maxHeartbeats 8000000
namespace Go.Proofs.YtbbbocoliandcaaGreatDoor
namespace Sp
open Go.RowKit Bs Dv Gr
open Su (T4)
theorem refused_int(size blocks:Int)(a1:Option Addr)(n c:Nat)(l:List AcT)(p:Pg)(a2:Option Addr)(c2:Nat)(z:Int)(w:World)(hs:AcSeg w a1 n c l)(hi:∀x∈l,AcIn x)(ho:PgOk p)(hs2:Ws.Seg w a2 p.kids.length c2 p.kids)(hz:0≤z∧z≤4294967295)(hT4:T4 w) :
  Calls Tryz.prog 5 #[.agg #[.int .i64 size,.int .i64 blocks],.slice a1 n c,.agg #[.int .u8 p.tag,.slice a2 p.kids.length c2,.string (strOfNums p.data)],.int .u32 z] w fun e w'=>e=.returned (.bool true)∧w.grownBy w' none:=by
 obtain⟨k,rfl⟩:∃k:Nat,z=k:=Int.eq_ofNat_of_zero_le hz.1;exact refused_any size blocks a1 n c l p a2 c2 k w hs hi ho hs2 (by omega) hT4
end Sp
end Go.Proofs.YtbbbocoliandcaaGreatDoor
