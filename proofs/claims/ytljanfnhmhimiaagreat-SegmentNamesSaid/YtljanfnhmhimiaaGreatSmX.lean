/-
  What the program's and the document's functions do, in memory and as plain functions: TxLawF, TxRef, SgGrow.
-/
import Derived.Deep.RegionLaw
import Derived.Deep.RegionHeld3
import Derived.BigRegion
import Derived.Sort.Walk0
import Derived.Test.YtljanfnhmhimiaaGreatSmH
import Derived.Test.YtljanfnhmhimiaaGreatSmJ
import Derived.Test.YtljanfnhmhimiaaGreatSmM
import Derived.Test.YtljanfnhmhimiaaGreatSmN
import Derived.Test.YtljanfnhmhimiaaGreatSmQ
import Derived.Test.YtljanfnhmhimiaaGreatSmT

namespace Go.Proofs.YtljanfnhmhimiaaGreat.Tx
open Go.RowKit Go.Joins
open Ss (IsS encW)
open Pk (PutF Turn.then below_of turn_of)
open In (turn_below)
open Dv (Turn nowhere)

theorem put_form {l : List (List Int)} {E : Int} {B : List Int} {m : Nat} (hR : formR (bestT l) l = (E, B)) (hm : B.length = m) (hb : AllB l) (a : Option Addr) (n c : Nat) (W : World) (hs : Ss.Seg W a n c l) :
    Calls Tryz.prog 109 #[.slice a n c] W (PutF W m E B) :=
  (put_any a n c l W hs hb).mono fun _ _ h => putT_form h hR hm
/-- a result of texts and an error -/
def GotF (w : World) (m : Nat) (E : Int) (L : List (List Int)) (e : Ending) (w' : World) : Prop :=
  ∃ a k, e = .returned (.tuple #[.slice a m k, .int .i64 E]) ∧ Ss.Seg w' a m k L ∧ Turn w w' nowhere
theorem got_of {w w' : World} {r : Int × List (List Int)} {e : Ending} {E : Int} {L : List (List Int)} {m : Nat} (h : GetE w r e w') (hr : r = (E, L)) (hm : L.length = m) : GotF w m E L e w' := by
  subst hr
  obtain ⟨a, k, he, hs, hb⟩ := h
  subst hm
  exact ⟨a, k, he, hs, turn_below hb⟩
theorem got_form {bs : List Int} {E : Int} {L : List (List Int)} {m : Nat} (hR : resT (getT bs) = (E, L)) (hm : L.length = m) (hb : Oct.IsB bs) (hn : bs.length ≤ 100000000) (a : Option Addr) (n c : Nat) (W : World) (hs : Bs.Seg W a n c bs) :
    Calls Tryz.prog 111 #[.slice a n c] W (GotF W m E L) :=
  (get_any a n c bs W hs hb (by rw [← hs.len]; exact hn)).mono fun _ _ h => got_of h hR hm
end Go.Proofs.YtljanfnhmhimiaaGreat.Tx

namespace Go.Proofs.YtljanfnhmhimiaaGreat.Tx
open Go.RowKit Go.Joins
open Ss (IsS encW info_str)
open Bs (info_u8)
open Ref1 (GrowB)
open Oct (varB)
open In (turn_below below_mono)
open Dv (Turn nowhere)

end Go.Proofs.YtljanfnhmhimiaaGreat.Tx
namespace Go.Proofs.YtljanfnhmhimiaaGreat.Tx
open Go.RowKit Go.Joins
open Ss (IsS encW info_str)
open In (turn_below below_mono)
open Pk (Turn.then)
open Dv (Turn nowhere)

end Go.Proofs.YtljanfnhmhimiaaGreat.Tx
namespace Go.Proofs.YtljanfnhmhimiaaGreat.Tx
open Go.RowKit Go.Joins
open Ss (IsS encW info_str)
open Bs (info_u8)
open Us (info_u64)
open Ref1 (GrowB)
open Oct (varB)
open In (turn_below below_mono)
open Pk (wid putR IsU Turn.then)
open Dv (Turn nowhere)

end Go.Proofs.YtljanfnhmhimiaaGreat.Tx
namespace Go.Proofs.YtljanfnhmhimiaaGreat.Tx
open Go.RowKit Go.Joins
open In (below_mono)
open Dv (Turn nowhere)

end Go.Proofs.YtljanfnhmhimiaaGreat.Tx
namespace Go.Proofs.YtljanfnhmhimiaaGreat.Tx
open Go.RowKit Go.Joins
open Ss (IsS encW info_str)
open Bs (info_u8)
open Oct (readV ofB)
open In (At RR RRead RVarX turn_more isB_drop isB_take)
open Pk (Turn.then)
open Dv (Turn nowhere)

end Go.Proofs.YtljanfnhmhimiaaGreat.Tx
namespace Go.Proofs.YtljanfnhmhimiaaGreat.Tx
open Go.RowKit Go.Joins
open Ss (IsS encW info_str)
open Oct (readV ofB)
open In (At RR RRead RVarX turn_more turn_below isB_drop isB_take below_mono)
open Pk (Turn.then getR IsU)
open Dv (Turn nowhere)

end Go.Proofs.YtljanfnhmhimiaaGreat.Tx
namespace Go.Proofs.YtljanfnhmhimiaaGreat.Tx
open Go.RowKit Go.Joins
open Ss (IsS encW info_str)
open Oct (readV ofB varB)
open In (At RR RRead RVarX turn_up below_grown below_mono isB_drop)
open Pk (Turn.then)
open Dv (Turn nowhere)

theorem plain_isB' {l : List (List Int)} (h : OkT l) (hb : AllB l) : Oct.IsB (plainT l) := by
  intro x hx
  unfold plainT at hx
  rcases List.mem_cons.1 hx with e | hx
  · subst e; decide
  · exact In.isB_app (In.varB_isB l.length (by have := h.1; omega)) (strsB_isB hb fun s hs => by have := h.2 s hs; omega) x hx
theorem dict_isB' {l : List (List Int)} (h : OkT l) (hb : AllB l) : Oct.IsB (dictT l) := by
  have hw := words_len l
  intro x hx
  unfold dictT at hx
  rcases List.mem_cons.1 hx with e | hx
  · subst e; decide
  · exact In.isB_app (In.varB_isB (wordsF l).length (by have := h.1; omega) |> fun _ => In.varB_isB l.length (by have := h.1; omega)) (In.isB_app (In.isB_app (In.varB_isB (wordsF l).length (by have := h.1; omega)) (strsB_isB (allB_words hb) fun s hs => by have := h.2 s ((mem_words s l).1 hs); omega)) (tail_isB _ (ix_isU (by have := h.1; omega)))) x hx
end Go.Proofs.YtljanfnhmhimiaaGreat.Tx

namespace Go.Proofs.YtljanfnhmhimiaaGreat.Sg
open Go.RowKit Go.Joins Bs Oct

open Tx (strB)

/-- what is below base stays, and whatever is no row of bytes -/
structure Bt (base : Nat) (w w' : World) : Prop where
  below : Below base w w'
  else_ : ∀ i, i < w.heap.size → (∀ cur f, w.heap[i]? ≠ some (.cells cur 5 f)) → w'.heap[i]? = w.heap[i]?
theorem Bt.refl (base : Nat) (w : World) : Bt base w w := ⟨Below.refl _ _, fun _ _ _ => rfl⟩
theorem Bt.trans {base : Nat} {w w1 w2 : World} (h : Bt base w w1) (k : Bt base w1 w2) : Bt base w w2 := ⟨h.below.trans k.below, fun i hi hn => by
  have e := h.else_ i hi hn
  rw [k.else_ i (Nat.lt_of_lt_of_le hi h.below.size) (by rw [e]; exact hn), e]⟩
theorem Bt.alloc {base : Nat} {w w1 : World} (h : Bt base w w1) (hb : base ≤ w1.heap.size) (o : Obj) : Bt base w (w1.alloc o) := ⟨h.below.alloc hb o, fun i hi hn => by
  have e := h.else_ i hi hn
  rw [(World.grownBy_alloc w1 o none).block i (Nat.lt_of_lt_of_le hi h.below.size) (by simp), e]⟩
theorem Bt.grown {base e s n : Nat} {w w1 w2 : World} {V : Value} {xs : List Value} (h : Bt base w w1) (hown : w1.ownsRow base 5 s V n xs) (hg : w1.grownBy w2 V.ownBlock) (hb : base ≤ w1.heap.size) (_ : e = e) : Bt base w w2 :=
  ⟨h.below.grown hg hb (fun i q => (hown.lt i q).1), fun i hi hn => by
    have e := h.else_ i hi hn
    rw [hg.block i (Nat.lt_of_lt_of_le hi h.below.size) (fun q => by
      rcases hown.2 with ⟨rfl, _⟩ | ⟨g, cap, cur, rfl, _, hgg, _⟩
      · cases q
      · obtain rfl : i = g := (Option.some.inj q)
        rw [e] at hgg
        exact hn _ _ hgg), e]⟩
end Go.Proofs.YtljanfnhmhimiaaGreat.Sg
