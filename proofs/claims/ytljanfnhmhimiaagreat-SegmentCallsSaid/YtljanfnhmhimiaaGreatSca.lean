/- Parts of the proof. -/
import Derived.Test.YtljanfnhmhimiaaGreatScK
import Derived.Test.YtljanfnhmhimiaaGreatScV
set_option maxRecDepth 100000
set_option maxHeartbeats 8000000
namespace Go.Proofs.YtljanfnhmhimiaaGreat
namespace Tx
open Go.RowKit Go.Joins
open Ss (IsS encW)
open Pk (PutF Turn.then QW Qc)
open In (Qd)
open Dv (Turn nowhere)
theorem Qbd{l:List (List Int)}{E:Int}{B:List Int}{m:Nat}(hR:formR (bestT l) l=(E,B))(hm:B.length=m)(hb:AllB l)(a:Option Addr)(n c:Nat)(W:World)(hs:Ss.Seg W a n c l) :
  Calls Tryz.prog 109 #[.slice a n c] W (PutF W m E B):=
 (Qc4 a n c l W hs hb).mono fun _ _ h=>QmM h hR hm
def GotF(w:World)(m:Nat)(E:Int)(L:List (List Int))(e:Ending)(w':World):Prop:=
 ∃a k,e=.returned (.tuple #[.slice a m k,.int .i64 E])∧Ss.Seg w' a m k L∧Turn w w' nowhere
theorem QpB{w w':World}{r:Int×List (List Int)}{e:Ending}{E:Int}{L:List (List Int)}{m:Nat}(h:GetE w r e w')(hr:r=(E,L))(hm:L.length=m):GotF w m E L e w':=by
 subst hr;obtain⟨a,k,he,hs,hb⟩:=h;subst hm;exact⟨a,k,he,hs,Qd hb⟩
theorem QaP{bs:List Int}{E:Int}{L:List (List Int)}{m:Nat}(hR:resT (getT bs)=(E,L))(hm:L.length=m)(hb:Oct.IsB bs)(hn:bs.length≤100000000)(a:Option Addr)(n c:Nat)(W:World)(hs:Bs.Seg W a n c bs) :
  Calls Tryz.prog 111 #[.slice a n c] W (GotF W m E L):=
 (Qc2 a n c bs W hs hb (by rw[←hs.len];exact hn)).mono fun _ _ h=>QpB h hR hm
end Tx
end Go.Proofs.YtljanfnhmhimiaaGreat
