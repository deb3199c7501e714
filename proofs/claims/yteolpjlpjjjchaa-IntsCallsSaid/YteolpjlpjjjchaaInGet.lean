/-
  Get, Count: columns read.
-/
import Derived.Test.YteolpjlpjjjchaaInGetK
namespace Go.Proofs.Yteolpjlpjjjchaa.In
open Go.RowKit Go.Joins
open Is (IsI)
open Oct (Rd ReadN ReadV readV ofB)
open Dv (Turn nowhere)

/-- A result of numbers and an error, the answer plain. -/
def GetE (w : World) (r : Int × List Int) (e : Ending) (w' : World) : Prop :=
  ∃ a c, e = .returned (.tuple #[.slice a r.2.length c, .int .i64 r.1]) ∧ Is.Seg w' a r.2.length c r.2 ∧ Below w.heap.size w w'
theorem turn_up {w w1 w2 : World} {b : Nat} (h : Below w.heap.size w w1) (k : Turn w1 w2 (At b)) (hb : w.heap.size ≤ b) : Below w.heap.size w w2 :=
  ⟨k.os.trans h.os, k.tape.trans h.tape, k.output.trans h.output, Nat.le_trans h.size k.size, fun i hi => (k.block i (Nat.lt_of_lt_of_le hi h.size) (fun e => by unfold At at e; omega)).trans (h.block i hi)⟩
theorem gete_bad {w w' : World} (h : Below w.heap.size w w') : GetE w (4, []) (.returned (.tuple #[.slice none 0 0, .int .i64 4])) w' := ⟨none, 0, rfl, Is.Seg.nil w', h⟩

set_option maxRecDepth 100000 in
set_option maxHeartbeats 2000000 in
theorem get_1 (a : Option Addr) (n c N nn : Nat) (t : List Int) (w : World) (hs : Bs.Seg w a n c (1 :: t)) (hb : Oct.IsB (1 :: t)) (hn : n ≤ 100000000) (hv : readV 0 0 t = ((N : Int), 0, nn)) (hN : N ≤ 4096) :
    Calls Try.prog 11 #[.slice a n c] w (GetE w (fin (decF true 1 N (t.drop nn)))) := by
  have HNew := Lib.hid (new_any a n c (1 :: t) w (oseg hs) (by omega))
  have hlen := hs.len
  have htl : (t.drop nn).length ≤ 100000000 := by rw [List.length_drop]; rw [List.length_cons] at hlen; omega
  have hbt : Oct.IsB t := fun x hx => hb x (by simp [hx])
  have HBt := Lib.hid hbt
  have HB := Lib.hid hb
  have HTL := Lib.hid htl
  have HVe := Lib.hid hv
  obtain ⟨X, hX⟩ : ∃ X, decF true 1 N (t.drop nn) = X := ⟨_, rfl⟩
  have HXe := Lib.hid hX
  rw [hX]
  clear hs hb hbt htl hv hX hlen hn
  go_enter Try.func11, Try.ntmps11
  go_wp2_with fail
  refine HNew.out.mono ?_
  rintro e w1 ⟨b, g, rfl, hb0, hg0, hb1, hg1, hrd, hgr⟩
  have HNum : Hid (Calls Try.prog 26 #[.pointer (some ⟨b, 0, none⟩), .int .i64 1] w1 (ReadN b g w1 1 t)) := Lib.hid (by
    have := Oct.number_yes b g (1 :: t) 1 w1 hrd HB.out (by decide) (by decide) (by simp)
    exact this)
  unfold ReadN at HNum
  have HB1 : Hid (Below w.heap.size w w1) := Lib.hid (below_grown hgr (Nat.le_refl _))
  have HB0 := Lib.hid hb0
  have HG1 := Lib.hid hg1
  clear hb0 hg0 hb1 hg1 hrd hgr
  dsimp only
  go_wp2_with fail
  refine HNum.out.mono ?_
  rintro e w2 ⟨rfl, hg2, hr2⟩
  have HVar := Lib.hid (Oct.var_any b g t w2 hr2 HBt.out)
  unfold ReadV at HVar
  rw [HVe.out] at HVar
  have HB2 : Hid (Below w.heap.size w w2) := Lib.hid (turn_up HB1.out (turn_read hg2) HB0.out)
  have HG2 : Hid (g < w2.heap.size) := Lib.hid (Nat.lt_of_lt_of_le HG1.out hg2.size)
  clear hg2 hr2
  dsimp only at HVar
  dsimp only
  go_wp2_with fail
  refine HVar.out.mono ?_
  rintro e w3 ⟨rfl, hg3, hr3⟩
  have HForm := Lib.hid (forms_any w3)
  have HB3 : Hid (Below w.heap.size w w3) := Lib.hid (turn_up HB2.out (turn_read hg3) HB0.out)
  have HG3 : Hid (g < w3.heap.size) := Lib.hid (Nat.lt_of_lt_of_le HG2.out hg3.size)
  have HR3 := Lib.hid hr3
  clear hg3 hr3
  dsimp only
  go_wp2_with fail
  refine HForm.out.mono ?_
  rintro e w4 ⟨rfl, hb4⟩
  have HB4 : Hid (Below w.heap.size w w4) := Lib.hid (HB3.out.trans (below_mono hb4 HB3.out.size))
  have HGet : Hid (Calls Try.prog 50 #[.pointer (some ⟨b, 0, none⟩), .int .i64 N] w4 (GetsX b g w4 X)) := Lib.hid (by
    rw [← HXe.out]
    exact getPlain_any b g N (t.drop nn) w4 (Turn.rd (turn_below (S := nowhere) hb4) HR3.out id id) (Nat.lt_of_lt_of_le HG3.out hb4.size) (isB_drop HBt.out nn) (by omega))
  clear hb4
  dsimp only
  unfold formsV
  have hix : ∀ W, (Instr.index 53 (.agg #[.nilFunc, .nilFunc, .func (.func 49) #[] #[], .func (.func 50) #[] #[], .func (.func 51) #[] #[], .func (.func 52) #[] #[], .func (.func 53) #[] #[], .func (.func 54) #[] #[]]) (.int .u64 1)).run Try.prog W = .ok (.agg #[.func (.func 49) #[] #[], .func (.func 50) #[] #[]]) W := fun _ => by kernel_rfl
  have hfx : ∀ W, (Instr.field 52 (.agg #[.func (.func 49) #[] #[], .func (.func 50) #[] #[]]) 1).run Try.prog W = .ok (.func (.func 50) #[] #[]) W := fun _ => by kernel_rfl
  go_wp2_with fail
  refine HGet.out.mono ?_
  rintro e w5 ⟨ht5, hx⟩
  have HB5 : Hid (Below w.heap.size w w5) := Lib.hid (turn_up HB4.out ht5 HB0.out)
  clear ht5 hix hfx HVar HNum HForm
  cases X with
  | none =>
    obtain ⟨E, hE, rfl⟩ := hx
    have HF : Hid (GetE w (fin none) (.returned (.tuple #[.slice none 0 0, .int .i64 4])) w5) := Lib.hid (gete_bad HB5.out)
    dsimp only
    go_wp2_with fail
    go_ret2
    exact HF.out
  | some p =>
    obtain ⟨l, rest⟩ := p
    obtain ⟨a5, c5, rfl, hs5, hr5⟩ := hx
    have HL := Lib.hid (Oct.left_yes b g rest w5 hr5)
    obtain ⟨m, hm⟩ : ∃ m, l.length = m := ⟨_, rfl⟩
    cases rest with
    | nil =>
      have HF : Hid (GetE w (fin (some (l, []))) (.returned (.tuple #[.slice a5 m c5, .int .i64 0])) w5) := Lib.hid ⟨a5, c5, by rw [← hm]; rfl, hs5, HB5.out⟩
      rw [hm]
      clear hm hs5 hr5
      dsimp only [List.length_nil] at HL
      dsimp only
      go_wp2_with (first
        | (go_at_call 29; refine HL.out.mono ?_; rintro e w' ⟨rfl, rfl⟩)
        | fail)
      go_ret2
      exact HF.out
    | cons y r =>
      have HF : Hid (GetE w (fin (some (l, y :: r))) (.returned (.tuple #[.slice none 0 0, .int .i64 4])) w5) := Lib.hid (gete_bad HB5.out)
      obtain ⟨q, hq⟩ : ∃ q, (y :: r).length = q := ⟨_, rfl⟩
      have hq1 : 0 < q := by rw [← hq]; simp
      rw [hq] at HL
      rw [hm]
      clear hm hs5 hr5 hq
      dsimp only
      go_wp2_with (first
        | (go_at_call 29; refine HL.out.mono ?_; rintro e w' ⟨rfl, rfl⟩)
        | fail)
      go_ret2
      exact HF.out

set_option maxRecDepth 100000 in
set_option maxHeartbeats 2000000 in
theorem get_2 (a : Option Addr) (n c N nn : Nat) (t : List Int) (w : World) (hs : Bs.Seg w a n c (2 :: t)) (hb : Oct.IsB (2 :: t)) (hn : n ≤ 100000000) (hv : readV 0 0 t = ((N : Int), 0, nn)) (hN : N ≤ 4096) :
    Calls Try.prog 11 #[.slice a n c] w (GetE w (fin (decF true 2 N (t.drop nn)))) := by
  have HNew := Lib.hid (new_any a n c (2 :: t) w (oseg hs) (by omega))
  have hlen := hs.len
  have htl : (t.drop nn).length ≤ 100000000 := by rw [List.length_drop]; rw [List.length_cons] at hlen; omega
  have hbt : Oct.IsB t := fun x hx => hb x (by simp [hx])
  have HBt := Lib.hid hbt
  have HB := Lib.hid hb
  have HTL := Lib.hid htl
  have HVe := Lib.hid hv
  obtain ⟨X, hX⟩ : ∃ X, decF true 2 N (t.drop nn) = X := ⟨_, rfl⟩
  have HXe := Lib.hid hX
  rw [hX]
  clear hs hb hbt htl hv hX hlen hn
  go_enter Try.func11, Try.ntmps11
  go_wp2_with fail
  refine HNew.out.mono ?_
  rintro e w1 ⟨b, g, rfl, hb0, hg0, hb1, hg1, hrd, hgr⟩
  have HNum : Hid (Calls Try.prog 26 #[.pointer (some ⟨b, 0, none⟩), .int .i64 1] w1 (ReadN b g w1 2 t)) := Lib.hid (by
    have := Oct.number_yes b g (2 :: t) 1 w1 hrd HB.out (by decide) (by decide) (by simp)
    exact this)
  unfold ReadN at HNum
  have HB1 : Hid (Below w.heap.size w w1) := Lib.hid (below_grown hgr (Nat.le_refl _))
  have HB0 := Lib.hid hb0
  have HG1 := Lib.hid hg1
  clear hb0 hg0 hb1 hg1 hrd hgr
  dsimp only
  go_wp2_with fail
  refine HNum.out.mono ?_
  rintro e w2 ⟨rfl, hg2, hr2⟩
  have HVar := Lib.hid (Oct.var_any b g t w2 hr2 HBt.out)
  unfold ReadV at HVar
  rw [HVe.out] at HVar
  have HB2 : Hid (Below w.heap.size w w2) := Lib.hid (turn_up HB1.out (turn_read hg2) HB0.out)
  have HG2 : Hid (g < w2.heap.size) := Lib.hid (Nat.lt_of_lt_of_le HG1.out hg2.size)
  clear hg2 hr2
  dsimp only at HVar
  dsimp only
  go_wp2_with fail
  refine HVar.out.mono ?_
  rintro e w3 ⟨rfl, hg3, hr3⟩
  have HForm := Lib.hid (forms_any w3)
  have HB3 : Hid (Below w.heap.size w w3) := Lib.hid (turn_up HB2.out (turn_read hg3) HB0.out)
  have HG3 : Hid (g < w3.heap.size) := Lib.hid (Nat.lt_of_lt_of_le HG2.out hg3.size)
  have HR3 := Lib.hid hr3
  clear hg3 hr3
  dsimp only
  go_wp2_with fail
  refine HForm.out.mono ?_
  rintro e w4 ⟨rfl, hb4⟩
  have HB4 : Hid (Below w.heap.size w w4) := Lib.hid (HB3.out.trans (below_mono hb4 HB3.out.size))
  have HGet : Hid (Calls Try.prog 52 #[.pointer (some ⟨b, 0, none⟩), .int .i64 N] w4 (GetsX b g w4 X)) := Lib.hid (by
    rw [← HXe.out]
    exact getRuns_any b g N (t.drop nn) w4 (Turn.rd (turn_below (S := nowhere) hb4) HR3.out id id) (Nat.lt_of_lt_of_le HG3.out hb4.size) (isB_drop HBt.out nn) (by omega))
  clear hb4
  dsimp only
  unfold formsV
  have hix : ∀ W, (Instr.index 53 (.agg #[.nilFunc, .nilFunc, .func (.func 49) #[] #[], .func (.func 50) #[] #[], .func (.func 51) #[] #[], .func (.func 52) #[] #[], .func (.func 53) #[] #[], .func (.func 54) #[] #[]]) (.int .u64 2)).run Try.prog W = .ok (.agg #[.func (.func 51) #[] #[], .func (.func 52) #[] #[]]) W := fun _ => by kernel_rfl
  have hfx : ∀ W, (Instr.field 52 (.agg #[.func (.func 51) #[] #[], .func (.func 52) #[] #[]]) 1).run Try.prog W = .ok (.func (.func 52) #[] #[]) W := fun _ => by kernel_rfl
  go_wp2_with fail
  refine HGet.out.mono ?_
  rintro e w5 ⟨ht5, hx⟩
  have HB5 : Hid (Below w.heap.size w w5) := Lib.hid (turn_up HB4.out ht5 HB0.out)
  clear ht5 hix hfx HVar HNum HForm
  cases X with
  | none =>
    obtain ⟨E, hE, rfl⟩ := hx
    have HF : Hid (GetE w (fin none) (.returned (.tuple #[.slice none 0 0, .int .i64 4])) w5) := Lib.hid (gete_bad HB5.out)
    dsimp only
    go_wp2_with fail
    go_ret2
    exact HF.out
  | some p =>
    obtain ⟨l, rest⟩ := p
    obtain ⟨a5, c5, rfl, hs5, hr5⟩ := hx
    have HL := Lib.hid (Oct.left_yes b g rest w5 hr5)
    obtain ⟨m, hm⟩ : ∃ m, l.length = m := ⟨_, rfl⟩
    cases rest with
    | nil =>
      have HF : Hid (GetE w (fin (some (l, []))) (.returned (.tuple #[.slice a5 m c5, .int .i64 0])) w5) := Lib.hid ⟨a5, c5, by rw [← hm]; rfl, hs5, HB5.out⟩
      rw [hm]
      clear hm hs5 hr5
      dsimp only [List.length_nil] at HL
      dsimp only
      go_wp2_with (first
        | (go_at_call 29; refine HL.out.mono ?_; rintro e w' ⟨rfl, rfl⟩)
        | fail)
      go_ret2
      exact HF.out
    | cons y r =>
      have HF : Hid (GetE w (fin (some (l, y :: r))) (.returned (.tuple #[.slice none 0 0, .int .i64 4])) w5) := Lib.hid (gete_bad HB5.out)
      obtain ⟨q, hq⟩ : ∃ q, (y :: r).length = q := ⟨_, rfl⟩
      have hq1 : 0 < q := by rw [← hq]; simp
      rw [hq] at HL
      rw [hm]
      clear hm hs5 hr5 hq
      dsimp only
      go_wp2_with (first
        | (go_at_call 29; refine HL.out.mono ?_; rintro e w' ⟨rfl, rfl⟩)
        | fail)
      go_ret2
      exact HF.out

set_option maxRecDepth 100000 in
set_option maxHeartbeats 2000000 in
theorem get_3 (a : Option Addr) (n c N nn : Nat) (t : List Int) (w : World) (hs : Bs.Seg w a n c (3 :: t)) (hb : Oct.IsB (3 :: t)) (hn : n ≤ 100000000) (hv : readV 0 0 t = ((N : Int), 0, nn)) (hN : N ≤ 4096) :
    Calls Try.prog 11 #[.slice a n c] w (GetE w (fin (decF true 3 N (t.drop nn)))) := by
  have HNew := Lib.hid (new_any a n c (3 :: t) w (oseg hs) (by omega))
  have hlen := hs.len
  have htl : (t.drop nn).length ≤ 100000000 := by rw [List.length_drop]; rw [List.length_cons] at hlen; omega
  have hbt : Oct.IsB t := fun x hx => hb x (by simp [hx])
  have HBt := Lib.hid hbt
  have HB := Lib.hid hb
  have HTL := Lib.hid htl
  have HVe := Lib.hid hv
  obtain ⟨X, hX⟩ : ∃ X, decF true 3 N (t.drop nn) = X := ⟨_, rfl⟩
  have HXe := Lib.hid hX
  rw [hX]
  clear hs hb hbt htl hv hX hlen hn
  go_enter Try.func11, Try.ntmps11
  go_wp2_with fail
  refine HNew.out.mono ?_
  rintro e w1 ⟨b, g, rfl, hb0, hg0, hb1, hg1, hrd, hgr⟩
  have HNum : Hid (Calls Try.prog 26 #[.pointer (some ⟨b, 0, none⟩), .int .i64 1] w1 (ReadN b g w1 3 t)) := Lib.hid (by
    have := Oct.number_yes b g (3 :: t) 1 w1 hrd HB.out (by decide) (by decide) (by simp)
    exact this)
  unfold ReadN at HNum
  have HB1 : Hid (Below w.heap.size w w1) := Lib.hid (below_grown hgr (Nat.le_refl _))
  have HB0 := Lib.hid hb0
  have HG1 := Lib.hid hg1
  clear hb0 hg0 hb1 hg1 hrd hgr
  dsimp only
  go_wp2_with fail
  refine HNum.out.mono ?_
  rintro e w2 ⟨rfl, hg2, hr2⟩
  have HVar := Lib.hid (Oct.var_any b g t w2 hr2 HBt.out)
  unfold ReadV at HVar
  rw [HVe.out] at HVar
  have HB2 : Hid (Below w.heap.size w w2) := Lib.hid (turn_up HB1.out (turn_read hg2) HB0.out)
  have HG2 : Hid (g < w2.heap.size) := Lib.hid (Nat.lt_of_lt_of_le HG1.out hg2.size)
  clear hg2 hr2
  dsimp only at HVar
  dsimp only
  go_wp2_with fail
  refine HVar.out.mono ?_
  rintro e w3 ⟨rfl, hg3, hr3⟩
  have HForm := Lib.hid (forms_any w3)
  have HB3 : Hid (Below w.heap.size w w3) := Lib.hid (turn_up HB2.out (turn_read hg3) HB0.out)
  have HG3 : Hid (g < w3.heap.size) := Lib.hid (Nat.lt_of_lt_of_le HG2.out hg3.size)
  have HR3 := Lib.hid hr3
  clear hg3 hr3
  dsimp only
  go_wp2_with fail
  refine HForm.out.mono ?_
  rintro e w4 ⟨rfl, hb4⟩
  have HB4 : Hid (Below w.heap.size w w4) := Lib.hid (HB3.out.trans (below_mono hb4 HB3.out.size))
  have HGet : Hid (Calls Try.prog 54 #[.pointer (some ⟨b, 0, none⟩), .int .i64 N] w4 (GetsX b g w4 X)) := Lib.hid (by
    rw [← HXe.out]
    exact getPacked_any b g N (t.drop nn) w4 (Turn.rd (turn_below (S := nowhere) hb4) HR3.out id id) (Nat.lt_of_lt_of_le HG3.out hb4.size) (isB_drop HBt.out nn) (by omega) HTL.out)
  clear hb4
  dsimp only
  unfold formsV
  have hix : ∀ W, (Instr.index 53 (.agg #[.nilFunc, .nilFunc, .func (.func 49) #[] #[], .func (.func 50) #[] #[], .func (.func 51) #[] #[], .func (.func 52) #[] #[], .func (.func 53) #[] #[], .func (.func 54) #[] #[]]) (.int .u64 3)).run Try.prog W = .ok (.agg #[.func (.func 53) #[] #[], .func (.func 54) #[] #[]]) W := fun _ => by kernel_rfl
  have hfx : ∀ W, (Instr.field 52 (.agg #[.func (.func 53) #[] #[], .func (.func 54) #[] #[]]) 1).run Try.prog W = .ok (.func (.func 54) #[] #[]) W := fun _ => by kernel_rfl
  go_wp2_with fail
  refine HGet.out.mono ?_
  rintro e w5 ⟨ht5, hx⟩
  have HB5 : Hid (Below w.heap.size w w5) := Lib.hid (turn_up HB4.out ht5 HB0.out)
  clear ht5 hix hfx HVar HNum HForm
  cases X with
  | none =>
    obtain ⟨E, hE, rfl⟩ := hx
    have HF : Hid (GetE w (fin none) (.returned (.tuple #[.slice none 0 0, .int .i64 4])) w5) := Lib.hid (gete_bad HB5.out)
    dsimp only
    go_wp2_with fail
    go_ret2
    exact HF.out
  | some p =>
    obtain ⟨l, rest⟩ := p
    obtain ⟨a5, c5, rfl, hs5, hr5⟩ := hx
    have HL := Lib.hid (Oct.left_yes b g rest w5 hr5)
    obtain ⟨m, hm⟩ : ∃ m, l.length = m := ⟨_, rfl⟩
    cases rest with
    | nil =>
      have HF : Hid (GetE w (fin (some (l, []))) (.returned (.tuple #[.slice a5 m c5, .int .i64 0])) w5) := Lib.hid ⟨a5, c5, by rw [← hm]; rfl, hs5, HB5.out⟩
      rw [hm]
      clear hm hs5 hr5
      dsimp only [List.length_nil] at HL
      dsimp only
      go_wp2_with (first
        | (go_at_call 29; refine HL.out.mono ?_; rintro e w' ⟨rfl, rfl⟩)
        | fail)
      go_ret2
      exact HF.out
    | cons y r =>
      have HF : Hid (GetE w (fin (some (l, y :: r))) (.returned (.tuple #[.slice none 0 0, .int .i64 4])) w5) := Lib.hid (gete_bad HB5.out)
      obtain ⟨q, hq⟩ : ∃ q, (y :: r).length = q := ⟨_, rfl⟩
      have hq1 : 0 < q := by rw [← hq]; simp
      rw [hq] at HL
      rw [hm]
      clear hm hs5 hr5 hq
      dsimp only
      go_wp2_with (first
        | (go_at_call 29; refine HL.out.mono ?_; rintro e w' ⟨rfl, rfl⟩)
        | fail)
      go_ret2
      exact HF.out

end Go.Proofs.Yteolpjlpjjjchaa.In
