/-
  Get: texts read again.
-/
import Derived.Test.YtgbpmpeknbaccaaTxGetL
namespace Go.Proofs.Ytgbpmpeknbaccaa.Tx
open Go.RowKit Go.Joins
open Ss (IsS encW info_str)
open Oct (Rd ReadN ReadV readV ofB)
open In (At turn_read turn_row turn_more own_at turn_below below_mono below_grown turn_up new_any oseg)
open Dv (Turn nowhere)

/-- texts and an error, the answer plain -/
def GetE (w : World) (r : Int × List (List Int)) (e : Ending) (w' : World) : Prop :=
  ∃ a c, e = .returned (.tuple #[.slice a r.2.length c, .int .i64 r.1]) ∧ Ss.Seg w' a r.2.length c r.2 ∧ Below w.heap.size w w'
theorem gete_bad {w w' : World} (h : Below w.heap.size w w') : GetE w (4, []) (.returned (.tuple #[.slice none 0 0, .int .i64 4])) w' := ⟨none, 0, rfl, Ss.Seg.nil w', h⟩

set_option maxRecDepth 100000 in
set_option maxHeartbeats 2000000 in
theorem get_none (a : Option Addr) (n c : Nat) (w : World) (hs : Bs.Seg w a n c []) (hn : n ≤ 100000000) :
    Calls Try.prog 11 #[.slice a n c] w (GetE w (4, [])) := by
  have HNew := Lib.hid (new_any a n c [] w (oseg hs) (by omega))
  clear hs hn
  go_enter Try.func11, Try.ntmps11
  go_wp2_with fail
  refine HNew.out.mono ?_
  rintro e w1 ⟨b, g, rfl, hb0, hg0, hb1, hg1, hrd, hgr⟩
  have HNum := Lib.hid (Oct.number_more b g [] 1 w1 hrd (by decide) (by decide) (by decide))
  have HF : Hid (GetE w (4, []) (.returned (.tuple #[.slice none 0 0, .int .i64 4])) w1) := Lib.hid (gete_bad (below_grown hgr (Nat.le_refl _)))
  clear hb0 hg0 hb1 hg1 hrd hgr
  dsimp only
  go_wp2_with fail
  refine HNum.out.mono ?_
  rintro e w2 ⟨rfl, rfl⟩
  dsimp only
  go_wp2
  go_ret2
  exact HF.out

set_option maxRecDepth 100000 in
set_option maxHeartbeats 2000000 in
theorem get_kind (a : Option Addr) (n c : Nat) (k : Int) (t : List Int) (w : World) (hs : Bs.Seg w a n c (k :: t)) (hb : Oct.IsB (k :: t)) (hn : n ≤ 100000000) (hk1 : ¬ k = 1) (hk2 : ¬ k = 2) :
    Calls Try.prog 11 #[.slice a n c] w (GetE w (4, [])) := by
  have HNew := Lib.hid (new_any a n c (k :: t) w (oseg hs) (by omega))
  have HB := Lib.hid hb
  have e1 : (k == 1) = false := beq_eq_false_iff_ne.2 hk1
  have e2 : (k == 2) = false := beq_eq_false_iff_ne.2 hk2
  clear hs hb hn hk1 hk2
  go_enter Try.func11, Try.ntmps11
  go_wp2_with fail
  refine HNew.out.mono ?_
  rintro e w1 ⟨b, g, rfl, hb0, hg0, hb1, hg1, hrd, hgr⟩
  have HNum : Hid (Calls Try.prog 33 #[.pointer (some ⟨b, 0, none⟩), .int .i64 1] w1 (ReadN b g w1 k t)) := Lib.hid (by
    have := Oct.number_yes b g (k :: t) 1 w1 hrd HB.out (by decide) (by decide) (by simp)
    rwa [show ofB ((k :: t).take 1) = k from by simp [ofB]] at this)
  unfold ReadN at HNum
  have HB1 : Hid (Below w.heap.size w w1) := Lib.hid (below_grown hgr (Nat.le_refl _))
  have HB0 := Lib.hid hb0
  clear hb0 hg0 hb1 hg1 hrd hgr
  dsimp only
  go_wp2_with fail
  refine HNum.out.mono ?_
  rintro e w2 ⟨rfl, hg2, hr2⟩
  have HF : Hid (GetE w (4, []) (.returned (.tuple #[.slice none 0 0, .int .i64 4])) w2) := Lib.hid (gete_bad (turn_up HB1.out (turn_read hg2) HB0.out))
  clear hg2 hr2
  dsimp only
  go_wp2
  go_ret2
  exact HF.out

set_option maxRecDepth 100000 in
set_option maxHeartbeats 2000000 in
theorem get_1 (a : Option Addr) (n c : Nat) (t : List Int) (w : World) (hs : Bs.Seg w a n c (1 :: t)) (hb : Oct.IsB (1 :: t)) (hn : n ≤ 100000000) :
    Calls Try.prog 11 #[.slice a n c] w (GetE w (resT (endT (getPl t)))) := by
  have HNew := Lib.hid (new_any a n c (1 :: t) w (oseg hs) (by omega))
  have hlen := hs.len
  have htl : t.length ≤ 100000000 := by rw [List.length_cons] at hlen; omega
  have HBt : Hid (Oct.IsB t) := Lib.hid fun x hx => hb x (by simp [hx])
  have HB := Lib.hid hb
  have HTL := Lib.hid htl
  obtain ⟨X, hX⟩ : ∃ X, getPl t = X := ⟨_, rfl⟩
  have HXe := Lib.hid hX
  rw [hX]
  clear hs hb htl hX hlen hn
  go_enter Try.func11, Try.ntmps11
  go_wp2_with fail
  refine HNew.out.mono ?_
  rintro e w1 ⟨b, g, rfl, hb0, hg0, hb1, hg1, hrd, hgr⟩
  have HNum : Hid (Calls Try.prog 33 #[.pointer (some ⟨b, 0, none⟩), .int .i64 1] w1 (ReadN b g w1 1 t)) := Lib.hid (by
    have := Oct.number_yes b g (1 :: t) 1 w1 hrd HB.out (by decide) (by decide) (by simp)
    exact this)
  unfold ReadN at HNum
  have HB1 : Hid (Below w.heap.size w w1) := Lib.hid (below_grown hgr (Nat.le_refl _))
  have HB0 := Lib.hid hb0
  have HG1 := Lib.hid hg1
  clear hb0 hg0 hb1 hg1 hrd hgr
  dsimp only
  go_wp2_with fail
  refine HNum.out.mono ?_
  rintro e w2 ⟨rfl, hg2, hr2⟩
  have HB2 : Hid (Below w.heap.size w w2) := Lib.hid (turn_up HB1.out (turn_read hg2) HB0.out)
  have HGet : Hid (Calls Try.prog 34 #[.pointer (some ⟨b, 0, none⟩)] w2 (GetsX b g w2 X)) := Lib.hid (by
    rw [← HXe.out]
    exact getPlain_any b g t w2 hr2 (Nat.lt_of_lt_of_le HG1.out hg2.size) HBt.out HTL.out)
  clear hg2 hr2
  dsimp only
  go_wp2_with fail
  refine HGet.out.mono ?_
  rintro e w5 ⟨ht5, hx⟩
  have HB5 : Hid (Below w.heap.size w w5) := Lib.hid (turn_up HB2.out ht5 HB0.out)
  clear ht5 HNum
  cases X with
  | none =>
    obtain ⟨E, hE, rfl⟩ := hx
    have HF : Hid (GetE w (resT (endT none)) (.returned (.tuple #[.slice none 0 0, .int .i64 4])) w5) := Lib.hid (gete_bad HB5.out)
    have hEb : (E != 0) = true := bne_iff_ne.2 hE
    dsimp only
    go_wp2_with fail
    go_ret2
    exact HF.out
  | some p =>
    obtain ⟨l, rest⟩ := p
    obtain ⟨a5, c5, rfl, hs5, hr5, -⟩ := hx
    have HL := Lib.hid (Oct.left_yes b g rest w5 hr5)
    obtain ⟨m, hm⟩ : ∃ m, l.length = m := ⟨_, rfl⟩
    cases rest with
    | nil =>
      have HF : Hid (GetE w (resT (endT (some (l, [])))) (.returned (.tuple #[.slice a5 m c5, .int .i64 0])) w5) := Lib.hid ⟨a5, c5, by rw [← hm]; rfl, hs5, HB5.out⟩
      rw [hm]
      clear hm hs5 hr5
      dsimp only [List.length_nil] at HL
      dsimp only
      go_wp2_with (first
        | (go_at_call 36; refine HL.out.mono ?_; rintro e w' ⟨rfl, rfl⟩)
        | fail)
      go_ret2
      exact HF.out
    | cons y r =>
      have HF : Hid (GetE w (resT (endT (some (l, y :: r)))) (.returned (.tuple #[.slice none 0 0, .int .i64 4])) w5) := Lib.hid (gete_bad HB5.out)
      obtain ⟨q, hq⟩ : ∃ q, (y :: r).length = q := ⟨_, rfl⟩
      have hq1 : 0 < q := by rw [← hq]; simp
      rw [hq] at HL
      rw [hm]
      clear hm hs5 hr5 hq
      dsimp only
      go_wp2_with (first
        | (go_at_call 36; refine HL.out.mono ?_; rintro e w' ⟨rfl, rfl⟩)
        | fail)
      go_ret2
      exact HF.out

set_option maxRecDepth 100000 in
set_option maxHeartbeats 2000000 in
theorem get_2 (a : Option Addr) (n c : Nat) (t : List Int) (w : World) (hs : Bs.Seg w a n c (2 :: t)) (hb : Oct.IsB (2 :: t)) (hn : n ≤ 100000000) :
    Calls Try.prog 11 #[.slice a n c] w (GetE w (resT (getDt t))) := by
  have HNew := Lib.hid (new_any a n c (2 :: t) w (oseg hs) (by omega))
  have hlen := hs.len
  have htl : t.length ≤ 100000000 := by rw [List.length_cons] at hlen; omega
  have HBt : Hid (Oct.IsB t) := Lib.hid fun x hx => hb x (by simp [hx])
  have HB := Lib.hid hb
  have HTL := Lib.hid htl
  obtain ⟨X, hX⟩ : ∃ X, getDt t = X := ⟨_, rfl⟩
  have HXe := Lib.hid hX
  rw [hX]
  clear hs hb htl hX hlen hn
  go_enter Try.func11, Try.ntmps11
  go_wp2_with fail
  refine HNew.out.mono ?_
  rintro e w1 ⟨b, g, rfl, hb0, hg0, hb1, hg1, hrd, hgr⟩
  have HNum : Hid (Calls Try.prog 33 #[.pointer (some ⟨b, 0, none⟩), .int .i64 1] w1 (ReadN b g w1 2 t)) := Lib.hid (by
    have := Oct.number_yes b g (2 :: t) 1 w1 hrd HB.out (by decide) (by decide) (by simp)
    exact this)
  unfold ReadN at HNum
  have HB1 : Hid (Below w.heap.size w w1) := Lib.hid (below_grown hgr (Nat.le_refl _))
  have HB0 := Lib.hid hb0
  have HG1 := Lib.hid hg1
  clear hb0 hg0 hb1 hg1 hrd hgr
  dsimp only
  go_wp2_with fail
  refine HNum.out.mono ?_
  rintro e w2 ⟨rfl, hg2, hr2⟩
  have HB2 : Hid (Below w.heap.size w w2) := Lib.hid (turn_up HB1.out (turn_read hg2) HB0.out)
  have HGet : Hid (Calls Try.prog 35 #[.pointer (some ⟨b, 0, none⟩)] w2 (GotX b g w2 X)) := Lib.hid (by
    rw [← HXe.out]
    exact getDict_any b g t w2 hr2 (Nat.lt_of_lt_of_le HG1.out hg2.size) HBt.out HTL.out)
  clear hg2 hr2
  dsimp only
  go_wp2_with fail
  refine HGet.out.mono ?_
  rintro e w5 ⟨ht5, hx⟩
  have HB5 : Hid (Below w.heap.size w w5) := Lib.hid (turn_up HB2.out ht5 HB0.out)
  clear ht5 HNum
  cases X with
  | none =>
    obtain ⟨E, hE, rfl⟩ := hx
    have HF : Hid (GetE w (resT none) (.returned (.tuple #[.slice none 0 0, .int .i64 4])) w5) := Lib.hid (gete_bad HB5.out)
    have hEb : (E != 0) = true := bne_iff_ne.2 hE
    dsimp only
    go_wp2_with fail
    go_ret2
    exact HF.out
  | some l =>
    obtain ⟨a5, c5, rfl, hs5, hr5⟩ := hx
    have HL := Lib.hid (Oct.left_yes b g [] w5 hr5)
    obtain ⟨m, hm⟩ : ∃ m, l.length = m := ⟨_, rfl⟩
    have HF : Hid (GetE w (resT (some l)) (.returned (.tuple #[.slice a5 m c5, .int .i64 0])) w5) := Lib.hid ⟨a5, c5, by rw [← hm]; rfl, hs5, HB5.out⟩
    rw [hm]
    clear hm hs5 hr5
    dsimp only [List.length_nil] at HL
    dsimp only
    go_wp2_with (first
      | (go_at_call 36; refine HL.out.mono ?_; rintro e w' ⟨rfl, rfl⟩)
      | fail)
    go_ret2
    exact HF.out

theorem get_any (a : Option Addr) (n c : Nat) (bs : List Int) (w : World) (hs : Bs.Seg w a n c bs) (hb : Oct.IsB bs) (hn : n ≤ 100000000) :
    Calls Try.prog 11 #[.slice a n c] w (GetE w (resT (getT bs))) := by
  match bs, hs, hb with
  | [], hs, _ => exact get_none a n c w hs hn
  | k :: t, hs, hb =>
    rw [getT_cons]
    by_cases h1 : k = 1
    · subst h1
      rw [if_pos rfl]
      exact get_1 a n c t w hs hb hn
    · rw [if_neg h1]
      by_cases h2 : k = 2
      · subst h2
        rw [if_pos rfl]
        exact get_2 a n c t w hs hb hn
      · rw [if_neg h2]
        exact get_kind a n c k t w hs hb hn h1 h2
end Go.Proofs.Ytgbpmpeknbaccaa.Tx
