/- Parts of the proof. -/
import Derived.WalkSpells
import Derived.Test.YtgffbbdcbkikhaaGreatDoorKbT
set_option maxRecDepth 100000
set_option maxHeartbeats 8000000
namespace Go.Proofs.YtgffbbdcbkikhaaGreatDoor
namespace Dv
open Go.RowKit Bs
structure Held (w0 w:World) (g b:Nat) (P:Value) (s:St):Prop where
 dev:Dev w g b P s
 new:∀k,fp g b P k→w0.heap.size≤k
 turn:Turn w0 w nowhere
theorem Held.go{w0 w w':World}{g b:Nat}{P:Value}{s:St}(h:Held w0 w g b P s)(k:Turn w w' nowhere):Held w0 w' g b P s:=
 ⟨h.dev.turn k (fun _ _=>id),h.new,h.turn.trans k (fun _ _ h=>h)⟩
theorem Held.wrote{w0 w w':World}{g b:Nat}{P:Value}{s:St}{r:Int×St}{e:Ending}(h:Held w0 w g b P s)(k:Wrote g b P r w e w') :
  ∃P',e=.returned (.int .i64 r.1)∧Held w0 w' g b P' r.2∧Turn w w' (fp g b P)∧∀k,fp g b P' k→fp g b P k∨w.heap.size≤k:=by
 obtain⟨P',he,hd,ht,hg⟩:=k;refine⟨P',he,⟨hd,fun k hk=>?_,h.turn.trans ht (fun i hi hf=>?_)⟩,ht,hg⟩
 ·rcases hg k hk with h1|h1
  ·exact h.new k h1
  ·exact Nat.le_trans h.turn.size h1
 ·have:=h.new i hf;omega
end Dv
end Go.Proofs.YtgffbbdcbkikhaaGreatDoor
