/-
  The callees' contracts in the laws' form; the document's Get; lives.
-/
import Derived.Test.YtpcilohiokpmnaaNuRefB
import Derived.Test.YtpcilohiokpmnaaJSame
import Derived.Test.YtpcilohiokpmnaaBSame
import Derived.Test.YtpcilohiokpmnaaKitSame
namespace Go.Proofs.Ytpcilohiokpmnaa.Nu
open Go.RowKit
open Dv (Turn nowhere)
open Pk (Turn.then PutF sizeN)

/-- The document's Get, in the laws' form. -/
theorem rgot_form {bs : List Int} {L : List Bool} {z E : Int} {m : Nat} (hR : resN bs (getN bs) = (L, z, E)) (hm : L.length = m) (hb : Oct.IsB bs) (hn : bs.length ≤ 100000000) (a : Option Addr) (n c : Nat) (W : World) (hs : Bs.Seg W a n c bs) :
    Calls Try.prog 17 #[.slice a n c] W (GetX W m L z E) := by
  have hl := hs.len
  rw [← rget_eq hb] at hR
  cases hc : readC bs with
  | none =>
    unfold rgetN rdN at hR
    rw [hc] at hR
    simp only [resN, Prod.mk.injEq] at hR
    obtain ⟨rfl, rfl, rfl⟩ := hR
    obtain rfl : m = 0 := by rw [← hm]; rfl
    exact rget_count a n c bs W hs hb (by omega) hc
  | some p =>
    obtain ⟨k, r⟩ := p
    obtain ⟨-, hbe⟩ := readC_some hb hc
    cases r with
    | nil =>
      unfold rgetN rdN at hR
      rw [hc] at hR
      simp only [resN, Prod.mk.injEq] at hR
      obtain ⟨rfl, rfl, rfl⟩ := hR
      obtain rfl : m = 0 := by rw [← hm]; rfl
      exact rget_form a n c bs k [] W hs hb (by omega) hc (.inl rfl)
    | cons x r =>
      have hx := isB_right (hbe ▸ hb) x (by simp)
      by_cases h0 : x = 0
      · subst h0; exact rget_0 a n c bs k r W hs hb (by omega) hc m L z E hR hm
      · by_cases h1 : x = 1
        · subst h1; exact rget_1 a n c bs k r W hs hb (by omega) hc m L z E hR hm
        · by_cases h2 : x = 2
          · subst h2
            by_cases hsh : r.length < sizeN k 1
            · exact rget_more a n c bs k r W hs hb (by omega) hc m L z E hR hm hsh
            · exact rget_2 a n c bs k r W hs hb (by omega) hc m L z E hR hm hsh
          · rw [rgetN_none hc (show rdK k x r = none from by unfold rdK; rw [if_neg (by omega), if_neg h2])] at hR
            simp only [resN, Prod.mk.injEq] at hR
            obtain ⟨rfl, rfl, rfl⟩ := hR
            obtain rfl : m = 0 := by rw [← hm]; rfl
            exact rget_form a n c bs k (x :: r) W hs hb (by omega) hc (.inr ⟨x, r, rfl, by omega⟩)

theorem bsame_form (a0 a1 : Option Addr) (n0 n1 c0 c1 : Nat) (l0 l1 : List Bool) (W : World) (h0 : Bl.Seg W a0 n0 c0 l0) (h1 : Bl.Seg W a1 n1 c1 l1) (b : Bool) (hb : Bl.sameB l0 l1 = b) :
    Calls Try.prog 12 #[.slice a0 n0 c0, .slice a1 n1 c1] W fun e w' => e = .returned (.bool b) ∧ Turn W w' nowhere :=
  (Bl.same_any a0 a1 n0 n1 c0 c1 l0 l1 W h0 h1).mono fun e w' h => by obtain ⟨he, m, rfl⟩ := h; exact ⟨by rw [he, hb], Turn.drewN W m nowhere⟩
theorem jsame_form (a0 a1 : Option Addr) (n0 n1 c0 c1 : Nat) (l0 l1 : List Int) (W : World) (h0 : Js.Seg W a0 n0 c0 l0) (h1 : Js.Seg W a1 n1 c1 l1) (b : Bool) (hb : Js.sameB l0 l1 = b) :
    Calls Try.prog 14 #[.slice a0 n0 c0, .slice a1 n1 c1] W fun e w' => e = .returned (.bool b) ∧ Turn W w' nowhere :=
  (Js.same_any a0 a1 n0 n1 c0 c1 l0 l1 W h0 h1).mono fun e w' h => by obtain ⟨he, m, rfl⟩ := h; exact ⟨by rw [he, hb], Turn.drewN W m nowhere⟩
theorem jseg_stay {w w' : World} {a : Option Addr} {n c : Nat} {l : List Int} (h : Js.Seg w a n c l) (k : Turn w w' nowhere) : Js.Seg w' a n c l := h.grown k.grown

set_option maxRecDepth 100000 in
set_option maxHeartbeats 1000000 in
theorem lives_any (w : World) : Calls Try.prog 8 #[] w fun e w' => e = .returned (.bool true) ∧ Turn w w' nowhere := by
  have HP := Lib.hid (put_form (l := [true, false, true]) (E := 0) (B := [3, 2, 5]) (m := 3) (by decide +kernel) rfl _ _ _ _ (Bl.lit_seg w [true, false, true] (by decide)))
  have HT := Lib.hid (Turn.alloc w (.cells #[.bool true, .bool false, .bool true] 4) nowhere)
  go_enter Try.func8, Try.ntmps8
  go_wp2_with fail
  refine HP.out.mono ?_
  rintro e w1 ⟨a, k, rfl, hs, hT⟩
  have T1 := Lib.hid (Turn.then HT.out hT)
  have R1 := Lib.hid (Turn.alloc w1 (.cells #[.int .u8 3, .int .u8 2, .int .u8 5] 5) nowhere)
  have HSm := Lib.hid (Pk.same_form a (some ⟨w1.heap.size, 0, none⟩) 3 3 k 3 [3, 2, 5] [3, 2, 5] (w1.alloc (.cells #[.int .u8 3, .int .u8 2, .int .u8 5] 5)) (Pk.seg_stay hs R1.out) (Bs.lit_seg w1 [3, 2, 5] (by decide)) true (by decide))
  clear hs hT
  dsimp only
  go_wp2_with fail
  refine HSm.out.mono ?_
  rintro e w2 ⟨rfl, hT⟩
  have T2 := Lib.hid (Turn.then (Turn.then T1.out R1.out) hT)
  clear hT
  dsimp only
  go_wp2
  go_ret
  exact ⟨rfl, T2.out⟩
end Go.Proofs.Ytpcilohiokpmnaa.Nu
