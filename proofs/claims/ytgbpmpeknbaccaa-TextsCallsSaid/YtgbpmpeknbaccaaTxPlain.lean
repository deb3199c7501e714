/-
  Plain: texts as bytes, one behind the other.
-/
import Derived.Test.YtgbpmpeknbaccaaTxStrs
import Derived.Test.YtgbpmpeknbaccaaPkForm
namespace Go.Proofs.Ytgbpmpeknbaccaa.Tx
open Go.RowKit Go.Joins
open Ss (IsS)
open Bs (info_u8)
open Oct (varB)
open Ref1 (GrowB)
open In (below_grown below_mono own_grown oseg)
open Pk (PutF)
open Dv (Turn nowhere)

/-- bytes and an error, the answer plain -/
def PutT (w : World) (r : Int × List Int) (e : Ending) (w' : World) : Prop :=
  ∃ a k, e = .returned (.tuple #[.slice a r.2.length k, .int .i64 r.1]) ∧ Bs.Seg w' a r.2.length k r.2 ∧ Below w.heap.size w w'
theorem putT_form {w w' : World} {r : Int × List Int} {e : Ending} {E : Int} {B : List Int} {m : Nat} (h : PutT w r e w') (hr : r = (E, B)) (hm : B.length = m) : PutF w m E B e w' := by
  subst hr
  obtain ⟨a, k, he, hs, hb⟩ := h
  subst hm
  exact ⟨a, k, he, hs, In.turn_below hb⟩
theorem can_below (a : Option Addr) (n c : Nat) (l : List (List Int)) (w : World) (hs : Ss.Seg w a n c l) :
    Calls Try.prog 26 #[.slice a n c] w fun e w' => e = .returned (.bool (okB l)) ∧ Below w.heap.size w w' :=
  (canPut_any a n c l w hs).mono fun e w' ⟨he, m, hw⟩ => ⟨he, by subst hw; exact Bs.below_drewN m (Below.refl _ w)⟩
theorem form_no {b : List Int} {l : List (List Int)} (h : okB l = false) : formR b l = (3, []) := by unfold formR; rw [h]; rfl
theorem form_yes {b : List Int} {l : List (List Int)} (h : okB l = true) : formR b l = (0, b) := by unfold formR; rw [h]; rfl
theorem putT_no {w w' : World} (h : Below w.heap.size w w') : PutT w (3, []) (.returned (.tuple #[.slice none 0 0, .int .i64 3])) w' := ⟨none, 0, rfl, Bs.Seg.nil w', h⟩

set_option maxRecDepth 100000 in
set_option maxHeartbeats 1000000 in
theorem plain_any (a : Option Addr) (n c : Nat) (l : List (List Int)) (w : World) (hs : Ss.Seg w a n c l) (hb : AllB l) :
    Calls Try.prog 13 #[.slice a n c] w (PutT w (formR (plainT l) l)) := by
  have HC := Lib.hid (can_below a n c l w hs)
  cases hok : okB l with
  | false =>
    rw [hok] at HC
    rw [form_no hok]
    clear hs hb hok
    go_enter Try.func13, Try.ntmps13
    go_wp2_with fail
    refine HC.out.mono ?_
    rintro e w1 ⟨rfl, hb1⟩
    have HF := Lib.hid (putT_no hb1)
    clear hb1
    dsimp only
    go_wp2
    go_ret2
    exact HF.out
  | true =>
    have hO := (okB_iff l).1 hok
    rw [hok] at HC
    rw [form_yes hok]
    have HOk := Lib.hid hO
    have hn : n ≤ 4096 := by rw [← hs.len]; exact hO.1
    have HLen := Lib.hid hs.len
    have HSeg := Lib.hid hs
    have HBB := Lib.hid hb
    have hwu := wrap_u64 (n := n) (by omega)
    clear hs hb hok hO
    go_enter Try.func13, Try.ntmps13
    go_wp2_with fail
    refine HC.out.mono ?_
    rintro e w1 ⟨rfl, hb1⟩
    have HPut := Lib.hid (Oct.putVar_any _ 1 1 [1] (n : Int) (w1.alloc (.cells #[.int .u8 1] 5)) (oseg (Bs.lit_seg w1 [1] (by decide))) (by omega) (by omega) (by decide))
    have HB1 : Hid (Below w.heap.size w (w1.alloc (.cells #[.int .u8 1] 5))) := Lib.hid (hb1.alloc hb1.size _)
    clear hb1
    dsimp only
    go_wp2_with fail
    refine HPut.out.mono ?_
    rintro e w2 hnew
    obtain ⟨g, p, rfl, hf⟩ := hnew.value
    obtain ⟨hp, hown1, hg⟩ := hf.is
    have hvl := Oct.varB_le 9 (n : Int)
    have hp1 : p ≤ 11 := by rw [hp]; simp; omega
    have hp0 : 0 < p := by rw [hp]; simp
    have HB2 := Lib.hid (HB1.out.trans (below_grown hg HB1.out.size))
    have HStr := Lib.hid (putStrings_any w.heap.size _ p ([1] ++ varB 9 (n : Int)) a n c l w2 (sseg_below HSeg.out HB2.out rfl) (fun h => sseg_lt HSeg.out h) HB2.out.size (Oct.ownsRow_mono hown1 HB1.out.size) hp0 (by omega) HBB.out HOk.out.2 (by omega))
    have HE : Hid (plainT l = [1] ++ varB 9 (n : Int) ++ strsB l) := Lib.hid (by unfold plainT; rw [HLen.out]; rfl)
    have HPl := Lib.hid hp
    clear hnew hf hown1 hg hp hvl hp1 hp0
    dsimp only
    go_wp2_with fail
    refine HStr.out.mono ?_
    rintro e w3 ⟨g3, c3, rfl, hown3, hb3⟩
    have HF : Hid (PutT w (0, plainT l) (.returned (.tuple #[.slice (some ⟨g3, 0, none⟩) (p + (strsB l).length) c3, .int .i64 0])) w3) := by
      have hl : (plainT l).length = p + (strsB l).length := by rw [HE.out, List.length_append, ← HPl.out]
      refine Lib.hid ⟨some ⟨g3, 0, none⟩, c3, by rw [← hl], ?_, HB2.out.trans hb3⟩
      rw [hl, HE.out]
      exact Bs.Seg.own hown3
    clear hown3 hb3
    dsimp only
    go_wp2
    go_ret2
    exact HF.out
end Go.Proofs.Ytgbpmpeknbaccaa.Tx
