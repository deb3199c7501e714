/-
  What the program's and the document's functions do, in memory and as plain functions: InLawF, InRefA.
-/

import Derived.Test.YtljanfnhmhimiaaGreatSmJ
import Derived.Test.YtljanfnhmhimiaaGreatSmM
import Derived.Test.YtljanfnhmhimiaaGreatSmN
import Derived.Test.YtljanfnhmhimiaaGreatSmY

namespace Go.Proofs.YtljanfnhmhimiaaGreat.In
open Go.RowKit Go.Joins
open Is (IsI)
open Pk (PutF Turn.then below_of)
open Dv (Turn nowhere)

theorem putf_of {w w' : World} {E : Int} {B : List Int} {m : Nat} {e : Ending} (hm : B.length = m) (h : PartE w E B e w') : PutF w m E B e w' := by
  obtain ⟨a, m', k, he, hm', hs, hb⟩ := h
  obtain rfl : m' = m := hm'.trans hm
  exact ⟨a, k, he, hs, turn_below hb⟩
theorem put_form {l : List Int} {E : Int} {B : List Int} {m : Nat} (hR : tooMany l (bestB l) = (E, B)) (hm : B.length = m) (hI : IsI l) (a : Option Addr) (n c : Nat) (W : World) (hs : Is.Seg W a n c l) :
    Calls Tryz.prog 95 #[.slice a n c] W (PutF W m E B) :=
  (put_any a n c l W hs hI).mono fun e w' h => by unfold PutE at h; rw [hR] at h; exact putf_of hm h

/-- a result of numbers with a sign and an error -/
def GotF (w : World) (m : Nat) (E : Int) (L : List Int) (e : Ending) (w' : World) : Prop :=
  ∃ a k, e = .returned (.tuple #[.slice a m k, .int .i64 E]) ∧ Is.Seg w' a m k L ∧ Turn w w' nowhere
theorem got_form {bs : List Int} {E : Int} {L : List Int} {m : Nat} (hR : getI bs = (E, L)) (hm : L.length = m) (hb : Oct.IsB bs) (hn : bs.length ≤ 100000000) (a : Option Addr) (n c : Nat) (W : World) (hs : Bs.Seg W a n c bs) :
    Calls Tryz.prog 97 #[.slice a n c] W (GotF W m E L) :=
  (get_any a n c bs W hs hb (by rw [← hs.len]; exact hn)).mono fun e w' h => by
    rw [hR] at h
    obtain ⟨a', k, he, h1, h2⟩ := h
    subst hm
    exact ⟨a', k, he, h1, turn_below h2⟩
theorem ne_list {a b : ByteArray} (h : a ≠ b) : ¬ a.toList = b.toList := by
  rw [Go.ByteArray.toList_eq, Go.ByteArray.toList_eq]
  intro e
  apply h
  obtain ⟨⟨a⟩⟩ := a
  obtain ⟨⟨b⟩⟩ := b
  simp at e
  rw [e]
theorem few_of {l : List Int} {e : List Int} (h : l.length ≤ 4096) : tooMany l e = (0, e) := by unfold tooMany; rw [if_neg (by omega)]
theorem encB_len (k : Nat) (l : List Int) (hl : l.length ≤ 4096) : 0 < (encB k l).length ∧ (encB k l).length ≤ 2000000 := by
  have hb := body_len k l (by omega)
  have hv := Oct.varB_le 9 (l.length : Int)
  unfold encB headB
  rw [List.length_append, List.length_cons]
  omega
end Go.Proofs.YtljanfnhmhimiaaGreat.In

namespace Go.Proofs.YtljanfnhmhimiaaGreat.In
open Go.RowKit Go.Joins
open Is (IsI)
open Bs (info_u8)
open Ref1 (GrowB)
open Oct (varB putB)
open Pk (PutF)

end Go.Proofs.YtljanfnhmhimiaaGreat.In
namespace Go.Proofs.YtljanfnhmhimiaaGreat.In
open Go.RowKit Go.Joins
open Is (IsI)
open Bs (info_u8)
open Ref1 (GrowB)
open Oct (varB putB)

theorem conv_u (v : Int) : IntKind.u64.wrap v = u v := by rw [IntKind.wrap_u64]; rfl

end Go.Proofs.YtljanfnhmhimiaaGreat.In
namespace Go.Proofs.YtljanfnhmhimiaaGreat.In
open Go.RowKit Go.Joins
open Is (IsI)
open Bs (info_u8)
open Ref1 (GrowB)
open Oct (varB putB)

end Go.Proofs.YtljanfnhmhimiaaGreat.In
namespace Go.Proofs.YtljanfnhmhimiaaGreat.In
open Go.RowKit Go.Joins
open Is (IsI)
open Bs (info_u8)
open Ref1 (GrowB)
open Oct (varB putB)
open Us (info_u64)
open Pk (wid putR PutX IsU)

end Go.Proofs.YtljanfnhmhimiaaGreat.In
namespace Go.Proofs.YtljanfnhmhimiaaGreat.In
open Go.RowKit Go.Joins
open Is (IsI)

end Go.Proofs.YtljanfnhmhimiaaGreat.In
