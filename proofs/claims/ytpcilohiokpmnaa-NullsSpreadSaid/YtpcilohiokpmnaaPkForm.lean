/-
  The callees' contracts in the laws' form.
-/
import Derived.Test.YtpcilohiokpmnaaPkGet
import Derived.Test.YtpcilohiokpmnaaKitSame
namespace Go.Proofs.Ytpcilohiokpmnaa.Pk
open Go.RowKit Bs Dv

theorem below_of {w w' : World} (h : Turn w w' nowhere) : Below w.heap.size w w' := ⟨h.os, h.tape, h.output, h.size, fun k hk => h.block k hk id⟩
theorem turn_of {w w' : World} (h : w.grownBy w' none) : Turn w w' nowhere := Turn.of_grown h (fun _ e => by cases e)
theorem Turn.then {a b c : World} (h : Turn a b nowhere) (k : Turn b c nowhere) : Turn a c nowhere := Turn.trans h k (fun _ _ h => h)
theorem seg_stay {w w' : World} {a : Option Addr} {n c : Nat} {l : List Int} (h : Seg w a n c l) (k : Turn w w' nowhere) : Seg w' a n c l := h.grown k.grown
theorem useg_stay {w w' : World} {a : Option Addr} {n c : Nat} {l : List Int} (h : Us.Seg w a n c l) (k : Turn w w' nowhere) : Us.Seg w' a n c l := h.grown k.grown

/-- a result of bytes and an error -/
def PutF (w : World) (m : Nat) (E : Int) (B : List Int) (e : Ending) (w' : World) : Prop :=
  ∃ a k, e = .returned (.tuple #[.slice a m k, .int .i64 E]) ∧ Seg w' a m k B ∧ Turn w w' nowhere
/-- a result of numbers and an error -/
def GetF (w : World) (m : Nat) (E : Int) (B : List Int) (e : Ending) (w' : World) : Prop :=
  ∃ a k, e = .returned (.tuple #[.slice a m k, .int .i64 E]) ∧ Us.Seg w' a m k B ∧ Turn w w' nowhere

theorem put_form {l : List Int} {v E : Int} {B : List Int} {m : Nat} (hR : putR l v = (E, B)) (hm : B.length = m) (hu : IsU l) (a : Option Addr) (n c : Nat) (W : World) (hs : Us.Seg W a n c l) :
    Calls Try.prog 25 #[.slice a n c, .int .i64 v] W (PutF W m E B) :=
  (put_any a n c l v W hs hu).mono fun e w' h => by
    rw [hR] at h
    obtain ⟨a', k, he, h1, h2, _⟩ := h
    subst hm
    exact ⟨a', k, he, h1, turn_of h2⟩
/-- the same, and that the bytes are new memory -/
def PutO (w : World) (m : Nat) (E : Int) (B : List Int) (e : Ending) (w' : World) : Prop :=
  ∃ a k, e = .returned (.tuple #[.slice a m k, .int .i64 E]) ∧ Seg w' a m k B ∧ Turn w w' nowhere ∧ (E = 0 → ∃ g, a = some ⟨g, 0, none⟩ ∧ w'.ownsRow w.heap.size 5 1 (.slice (some ⟨g, 0, none⟩) m k) m (B.map (Value.int .u8)))
theorem put_own_form {l : List Int} {v E : Int} {B : List Int} {m : Nat} (hR : putR l v = (E, B)) (hm : B.length = m) (hu : IsU l) (a : Option Addr) (n c : Nat) (W : World) (hs : Us.Seg W a n c l) :
    Calls Try.prog 25 #[.slice a n c, .int .i64 v] W (PutO W m E B) :=
  (put_any a n c l v W hs hu).mono fun e w' h => by
    rw [hR] at h
    obtain ⟨a', k, he, h1, h2, h3⟩ := h
    subst hm
    exact ⟨a', k, he, h1, turn_of h2, h3⟩
theorem get_form {l : List Int} {n v E : Int} {B : List Int} {m : Nat} (hR : getR l n v = (E, B)) (hm : B.length = m) (hb : Fit 8 l) (a : Option Addr) (len c : Nat) (W : World) (hs : Seg W a len c l) :
    Calls Try.prog 66 #[.slice a len c, .int .i64 n, .int .i64 v] W (GetF W m E B) :=
  (get_any a len c l n v W hs hb).mono fun e w' h => by
    rw [hR] at h
    obtain ⟨a', k, he, h1, h2⟩ := h
    subst hm
    exact ⟨a', k, he, h1, turn_of h2⟩
theorem same_form (a0 a1 : Option Addr) (n0 n1 c0 c1 : Nat) (l0 l1 : List Int) (W : World) (h0 : Seg W a0 n0 c0 l0) (h1 : Seg W a1 n1 c1 l1) (b : Bool) (hb : sameB l0 l1 = b) :
    Calls Try.prog 11 #[.slice a0 n0 c0, .slice a1 n1 c1] W fun e w' => e = .returned (.bool b) ∧ Turn W w' nowhere :=
  (same_any a0 a1 n0 n1 c0 c1 l0 l1 W h0 h1).mono fun e w' h => by obtain ⟨he, m, rfl⟩ := h; exact ⟨by rw [he, hb], Turn.drewN W m nowhere⟩
theorem isU_of (l : List Int) (h : (l.all fun x => decide (0 ≤ x) && decide (x < 18446744073709551616)) = true) : IsU l := by
  intro x hx
  have := List.all_eq_true.1 h x hx
  simpa using this

end Go.Proofs.Ytpcilohiokpmnaa.Pk
