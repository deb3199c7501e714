/-
  The callees' contracts in the laws' form; strings of bytes; lives.
-/
import Derived.Test.YteolpjlpjjjchaaInGetA
import Derived.Test.YteolpjlpjjjchaaISame
import Derived.Test.YteolpjlpjjjchaaIOwn
import Derived.Test.YteolpjlpjjjchaaMemLib
import Derived.Test.YteolpjlpjjjchaaMemMore
namespace Go.Proofs.Yteolpjlpjjjchaa.In
open Go.RowKit Go.Joins
open Is (IsI)
open Pk (PutF Turn.then below_of)
open Dv (Turn nowhere)

theorem putf_of {w w' : World} {E : Int} {B : List Int} {m : Nat} {e : Ending} (hm : B.length = m) (h : PartE w E B e w') : PutF w m E B e w' := by
  obtain ⟨a, m', k, he, hm', hs, hb⟩ := h
  obtain rfl : m' = m := hm'.trans hm
  exact ⟨a, k, he, hs, turn_below hb⟩
theorem plain_form {l : List Int} {E : Int} {B : List Int} {m : Nat} (hR : tooMany l (encB 1 l) = (E, B)) (hm : B.length = m) (hI : IsI l) (a : Option Addr) (n c : Nat) (W : World) (hs : Is.Seg W a n c l) :
    Calls Try.prog 14 #[.slice a n c] W (PutF W m E B) :=
  (plain_any a n c l W hs hI).mono fun e w' h => by unfold PutE at h; rw [hR] at h; exact putf_of hm h
theorem runs_form {l : List Int} {E : Int} {B : List Int} {m : Nat} (hR : tooMany l (encB 2 l) = (E, B)) (hm : B.length = m) (hI : IsI l) (a : Option Addr) (n c : Nat) (W : World) (hs : Is.Seg W a n c l) :
    Calls Try.prog 10 #[.slice a n c] W (PutF W m E B) :=
  (runs_any a n c l W hs hI).mono fun e w' h => by unfold PutE at h; rw [hR] at h; exact putf_of hm h
theorem packed_form {l : List Int} {E : Int} {B : List Int} {m : Nat} (hR : tooMany l (encB 3 l) = (E, B)) (hm : B.length = m) (hI : IsI l) (a : Option Addr) (n c : Nat) (W : World) (hs : Is.Seg W a n c l) :
    Calls Try.prog 17 #[.slice a n c] W (PutF W m E B) :=
  (packed_any a n c l W hs hI).mono fun e w' h => by unfold PutE at h; rw [hR] at h; exact putf_of hm h
theorem put_form {l : List Int} {E : Int} {B : List Int} {m : Nat} (hR : tooMany l (bestB l) = (E, B)) (hm : B.length = m) (hI : IsI l) (a : Option Addr) (n c : Nat) (W : World) (hs : Is.Seg W a n c l) :
    Calls Try.prog 9 #[.slice a n c] W (PutF W m E B) :=
  (put_any a n c l W hs hI).mono fun e w' h => by unfold PutE at h; rw [hR] at h; exact putf_of hm h

/-- a result of numbers with a sign and an error -/
def GotF (w : World) (m : Nat) (E : Int) (L : List Int) (e : Ending) (w' : World) : Prop :=
  ∃ a k, e = .returned (.tuple #[.slice a m k, .int .i64 E]) ∧ Is.Seg w' a m k L ∧ Turn w w' nowhere
theorem got_form {bs : List Int} {E : Int} {L : List Int} {m : Nat} (hR : getI bs = (E, L)) (hm : L.length = m) (hb : Oct.IsB bs) (hn : bs.length ≤ 100000000) (a : Option Addr) (n c : Nat) (W : World) (hs : Bs.Seg W a n c bs) :
    Calls Try.prog 11 #[.slice a n c] W (GotF W m E L) :=
  (get_any a n c bs W hs hb (by rw [← hs.len]; exact hn)).mono fun e w' h => by
    rw [hR] at h
    obtain ⟨a', k, he, h1, h2⟩ := h
    subst hm
    exact ⟨a', k, he, h1, turn_below h2⟩
theorem count_form {bs : List Int} {E : Int} {L : List Int} {m : Nat} (hR : getI bs = (E, L)) (hm : L.length = m) (hb : Oct.IsB bs) (hn : bs.length ≤ 100000000) (a : Option Addr) (n c : Nat) (W : World) (hs : Bs.Seg W a n c bs) :
    Calls Try.prog 12 #[.slice a n c] W fun e w' => e = .returned (.tuple #[.int .i64 m, .int .i64 E]) ∧ Turn W w' nowhere :=
  (count_any a n c bs W hs hb (by rw [← hs.len]; exact hn)).mono fun e w' h => by
    rw [hR] at h
    obtain ⟨he, h2⟩ := h
    subst hm
    exact ⟨he, turn_below h2⟩
theorem isame_form (a0 a1 : Option Addr) (n0 n1 c0 c1 : Nat) (l0 l1 : List Int) (W : World) (h0 : Is.Seg W a0 n0 c0 l0) (h1 : Is.Seg W a1 n1 c1 l1) (b : Bool) (hb : Is.sameB l0 l1 = b) :
    Calls Try.prog 13 #[.slice a0 n0 c0, .slice a1 n1 c1] W fun e w' => e = .returned (.bool b) ∧ Turn W w' nowhere :=
  (Is.same_any a0 a1 n0 n1 c0 c1 l0 l1 W h0 h1).mono fun e w' h => by obtain ⟨he, m, rfl⟩ := h; exact ⟨by rw [he, hb], Turn.drewN W m nowhere⟩
theorem iseg_stay {w w' : World} {a : Option Addr} {n c : Nat} {l : List Int} (h : Is.Seg w a n c l) (k : Turn w w' nowhere) : Is.Seg w' a n c l := h.grown k.grown

/-- 'string(b)' of bytes that are there. -/
theorem conv_seg {w : World} {a : Option Addr} {n c : Nat} {l : List Int} (hs : Bs.Seg w a n c l) (hn : 0 < n) : (convert 23 9 (.slice a n c)).run Try.prog w = .ok (.string (strOfNums l)) w := by
  obtain ⟨g, o, rfl, hc⟩ := hs.addr hn
  exact run_convert_bytes_arg w 23 5 Try.underlying23 Try.underlying5 g o n c l hs.len (fun j hj => by
    have := hc j (by have := hs.len; omega)
    rw [this]) 9 Try.underlying9
theorem isI_of (l : List Int) (h : (l.all fun x => decide (-9223372036854775808 ≤ x) && decide (x ≤ 9223372036854775807)) = true) : IsI l := by
  intro x hx
  have := List.all_eq_true.1 h x hx
  simpa using this

set_option maxHeartbeats 1000000 in
theorem lives_any (w : World) : Calls Try.prog 8 #[] w fun e w' => e = .returned (.bool true) ∧ Turn w w' nowhere := by
  have HP := Lib.hid (put_form (l := [7, 7, 7, 7]) (E := 0) (B := [2, 4, 4, 7, 0, 0, 0, 0, 0, 0, 0]) (m := 11) (by decide +kernel) rfl (isI_of _ (by decide)) _ _ _ _ (Is.lit_seg w [7, 7, 7, 7] (by decide)))
  have HT := Lib.hid (Turn.alloc w (.cells #[.int .i64 7, .int .i64 7, .int .i64 7, .int .i64 7] 2) nowhere)
  go_enter Try.func8, Try.ntmps8
  go_wp2_with fail
  refine HP.out.mono ?_
  rintro e w1 ⟨a, k, rfl, hs, hT⟩
  have T1 := Lib.hid (Turn.then HT.out hT)
  have HP2 := Lib.hid (put_form (l := [5, 6]) (E := 0) (B := [3, 2, 5, 0, 0, 0, 0, 0, 0, 0, 1, 2]) (m := 12) (by decide +kernel) rfl (isI_of _ (by decide)) _ _ _ _ (Is.lit_seg w1 [5, 6] (by decide)))
  have T2 := Lib.hid (Turn.then T1.out (Turn.alloc w1 (.cells #[.int .i64 5, .int .i64 6] 2) nowhere))
  have HS := Lib.hid (Pk.seg_stay hs (Turn.alloc w1 (.cells #[.int .i64 5, .int .i64 6] 2) nowhere))
  clear hs hT
  dsimp only
  go_wp2_with fail
  refine HP2.out.mono ?_
  rintro e w2 ⟨a2, k2, rfl, hs2, hT⟩
  have T3 := Lib.hid (Turn.then T2.out hT)
  have hc1 : (convert 23 9 (.slice a 11 k)).run Try.prog w2 = .ok (.string ⟨#[2, 4, 4, 7, 0, 0, 0, 0, 0, 0, 0]⟩) w2 := conv_seg (Pk.seg_stay HS.out hT) (by decide)
  have hc2 : (convert 23 9 (.slice a2 12 k2)).run Try.prog w2 = .ok (.string ⟨#[3, 2, 5, 0, 0, 0, 0, 0, 0, 0, 1, 2]⟩) w2 := conv_seg hs2 (by decide)
  clear hs2 hT
  dsimp only
  go_wp2
  go_ret
  exact ⟨rfl, T3.out⟩
end Go.Proofs.Yteolpjlpjjjchaa.In
