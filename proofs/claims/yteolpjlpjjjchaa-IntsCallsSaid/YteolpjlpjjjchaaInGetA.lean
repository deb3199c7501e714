/-
  Get of whatever bytes; Count.
-/
import Derived.Test.YteolpjlpjjjchaaInGet
namespace Go.Proofs.Yteolpjlpjjjchaa.In
open Go.RowKit Go.Joins
open Is (IsI)
open Oct (Rd ReadN ReadV readV ofB)
open Dv (Turn nowhere)

set_option maxRecDepth 100000 in
set_option maxHeartbeats 2000000 in
theorem get_none (a : Option Addr) (n c : Nat) (w : World) (hs : Bs.Seg w a n c []) (hn : n ≤ 100000000) :
    Calls Try.prog 11 #[.slice a n c] w (GetE w (4, [])) := by
  have HNew := Lib.hid (new_any a n c [] w (oseg hs) (by omega))
  clear hs hn
  go_enter Try.func11, Try.ntmps11
  go_wp2_with fail
  refine HNew.out.mono ?_
  rintro e w1 ⟨b, g, rfl, hb0, hg0, hb1, hg1, hrd, hgr⟩
  have HNum := Lib.hid (Oct.number_more b g [] 1 w1 hrd (by decide) (by decide) (by decide))
  have HF : Hid (GetE w (4, []) (.returned (.tuple #[.slice none 0 0, .int .i64 4])) w1) := Lib.hid (gete_bad (below_grown hgr (Nat.le_refl _)))
  clear hb0 hg0 hb1 hg1 hrd hgr
  dsimp only
  go_wp2_with fail
  refine HNum.out.mono ?_
  rintro e w2 ⟨rfl, rfl⟩
  dsimp only
  go_wp2
  go_ret2
  exact HF.out

set_option maxRecDepth 100000 in
set_option maxHeartbeats 2000000 in
theorem get_kind (a : Option Addr) (n c : Nat) (k : Int) (t : List Int) (w : World) (hs : Bs.Seg w a n c (k :: t)) (hb : Oct.IsB (k :: t)) (hn : n ≤ 100000000) (hk : k < 1 ∨ 3 < k) :
    Calls Try.prog 11 #[.slice a n c] w (GetE w (4, [])) := by
  have HNew := Lib.hid (new_any a n c (k :: t) w (oseg hs) (by omega))
  have HB := Lib.hid hb
  have hk0 := hb k (by simp)
  clear hs hb hn
  go_enter Try.func11, Try.ntmps11
  go_wp2_with fail
  refine HNew.out.mono ?_
  rintro e w1 ⟨b, g, rfl, hb0, hg0, hb1, hg1, hrd, hgr⟩
  have HNum : Hid (Calls Try.prog 26 #[.pointer (some ⟨b, 0, none⟩), .int .i64 1] w1 (ReadN b g w1 k t)) := Lib.hid (by
    have := Oct.number_yes b g (k :: t) 1 w1 hrd HB.out (by decide) (by decide) (by simp)
    rwa [show ofB ((k :: t).take 1) = k from by simp [ofB]] at this)
  unfold ReadN at HNum
  have HB1 : Hid (Below w.heap.size w w1) := Lib.hid (below_grown hgr (Nat.le_refl _))
  have HB0 := Lib.hid hb0
  clear hb0 hg0 hb1 hg1 hrd hgr
  dsimp only
  go_wp2_with fail
  refine HNum.out.mono ?_
  rintro e w2 ⟨rfl, hg2, hr2⟩
  have HF : Hid (GetE w (4, []) (.returned (.tuple #[.slice none 0 0, .int .i64 4])) w2) := Lib.hid (gete_bad (turn_up HB1.out (turn_read hg2) HB0.out))
  clear hg2 hr2
  dsimp only
  rcases hk with hk | hk
  · obtain rfl : k = 0 := by omega
    go_wp2
    go_ret2
    exact HF.out
  · have h1 : ¬ k < 1 := by omega
    have h3 : 3 < k := hk
    go_wp2
    go_ret2
    exact HF.out

set_option maxRecDepth 100000 in
set_option maxHeartbeats 2000000 in
theorem get_num (a : Option Addr) (n c : Nat) (k N er : Int) (nn : Nat) (t : List Int) (w : World) (hs : Bs.Seg w a n c (k :: t)) (hb : Oct.IsB (k :: t)) (hn : n ≤ 100000000) (k1 : 1 ≤ k) (k3 : k ≤ 3) (hv : readV 0 0 t = (N, er, nn)) (hN : er ≠ 0 ∨ (er = 0 ∧ 4096 < N)) :
    Calls Try.prog 11 #[.slice a n c] w (GetE w (4, [])) := by
  have HNew := Lib.hid (new_any a n c (k :: t) w (oseg hs) (by omega))
  have HB := Lib.hid hb
  have HBt : Hid (Oct.IsB t) := Lib.hid fun x hx => hb x (by simp [hx])
  have HVe := Lib.hid hv
  have h1 : ¬ k < 1 := by omega
  have h3 : ¬ 3 < k := by omega
  clear hs hb hn hv k1 k3
  go_enter Try.func11, Try.ntmps11
  go_wp2_with fail
  refine HNew.out.mono ?_
  rintro e w1 ⟨b, g, rfl, hb0, hg0, hb1, hg1, hrd, hgr⟩
  have HNum : Hid (Calls Try.prog 26 #[.pointer (some ⟨b, 0, none⟩), .int .i64 1] w1 (ReadN b g w1 k t)) := Lib.hid (by
    have := Oct.number_yes b g (k :: t) 1 w1 hrd HB.out (by decide) (by decide) (by simp)
    rwa [show ofB ((k :: t).take 1) = k from by simp [ofB]] at this)
  unfold ReadN at HNum
  have HB1 : Hid (Below w.heap.size w w1) := Lib.hid (below_grown hgr (Nat.le_refl _))
  have HB0 := Lib.hid hb0
  clear hb0 hg0 hb1 hg1 hrd hgr
  dsimp only
  go_wp2_with fail
  refine HNum.out.mono ?_
  rintro e w2 ⟨rfl, hg2, hr2⟩
  have HVar := Lib.hid (Oct.var_any b g t w2 hr2 HBt.out)
  unfold ReadV at HVar
  rw [HVe.out] at HVar
  have HB2 : Hid (Below w.heap.size w w2) := Lib.hid (turn_up HB1.out (turn_read hg2) HB0.out)
  clear hg2 hr2
  dsimp only at HVar
  dsimp only
  rcases hN with hN | ⟨rfl, hN⟩
  · go_wp2_with fail
    refine HVar.out.mono ?_
    rintro e w3 ⟨rfl, hg3, hr3⟩
    have HF : Hid (GetE w (4, []) (.returned (.tuple #[.slice none 0 0, .int .i64 4])) w3) := Lib.hid (gete_bad (turn_up HB2.out (turn_read hg3) HB0.out))
    clear hg3 hr3
    dsimp only
    go_wp2
    go_ret2
    exact HF.out
  · go_wp2_with fail
    refine HVar.out.mono ?_
    rintro e w3 ⟨rfl, hg3, hr3⟩
    have HF : Hid (GetE w (4, []) (.returned (.tuple #[.slice none 0 0, .int .i64 4])) w3) := Lib.hid (gete_bad (turn_up HB2.out (turn_read hg3) HB0.out))
    clear hg3 hr3
    dsimp only
    go_wp2
    go_ret2
    exact HF.out

theorem get_any (a : Option Addr) (n c : Nat) (bs : List Int) (w : World) (hs : Bs.Seg w a n c bs) (hb : Oct.IsB bs) (hn : n ≤ 100000000) :
    Calls Try.prog 11 #[.slice a n c] w (GetE w (getI bs)) := by
  match bs, hs, hb with
  | [], hs, _ => exact get_none a n c w hs hn
  | k :: t, hs, hb =>
    obtain ⟨N, er, nn, hv⟩ : ∃ N er nn, readV 0 0 t = (N, er, nn) := ⟨_, _, _, rfl⟩
    by_cases hk : k < 1 ∨ 3 < k
    · rw [getI, if_pos hk]; exact get_kind a n c k t w hs hb hn hk
    · rw [getI, if_neg hk, hv]
      dsimp only
      by_cases hN : er ≠ 0 ∨ 4096 < N
      · rw [if_pos hN]
        exact get_num a n c k N er nn t w hs hb hn (by omega) (by omega) hv (by
          by_cases h : er = 0
          · exact .inr ⟨h, hN.resolve_left fun h2 => h2 h⟩
          · exact .inl h)
      · rw [if_neg hN]
        have her : er = 0 := Classical.byContradiction fun h => hN (.inl h)
        subst her
        obtain ⟨q0, q1, -⟩ := var_readV t (fun x hx => hb x (by simp [hx])) N nn hv
        obtain ⟨M, rfl⟩ : ∃ M : Nat, N = (M : Int) := ⟨N.toNat, by omega⟩
        have hM : M ≤ 4096 := by omega
        rw [Int.toNat_natCast]
        have hk3 : k = 1 ∨ k = 2 ∨ k = 3 := by omega
        rcases hk3 with rfl | rfl | rfl
        · exact get_1 a n c M nn t w hs hb hn hv hM
        · exact get_2 a n c M nn t w hs hb hn hv hM
        · exact get_3 a n c M nn t w hs hb hn hv hM

/-- How many, and an error. -/
def CountE (w : World) (r : Int × List Int) (e : Ending) (w' : World) : Prop :=
  e = .returned (.tuple #[.int .i64 r.2.length, .int .i64 r.1]) ∧ Below w.heap.size w w'

set_option maxRecDepth 100000 in
set_option maxHeartbeats 2000000 in
theorem count_any (a : Option Addr) (n c : Nat) (bs : List Int) (w : World) (hs : Bs.Seg w a n c bs) (hb : Oct.IsB bs) (hn : n ≤ 100000000) :
    Calls Try.prog 12 #[.slice a n c] w (CountE w (getI bs)) := by
  have HG := Lib.hid (get_any a n c bs w hs hb hn)
  obtain ⟨R, hR⟩ : ∃ R, getI bs = R := ⟨_, rfl⟩
  rw [hR] at HG ⊢
  obtain ⟨E, L⟩ := R
  clear hs hb hn hR
  go_enter Try.func12, Try.ntmps12
  go_wp2_with fail
  refine HG.out.mono ?_
  rintro e w1 ⟨a1, c1, rfl, hs1, hb1⟩
  have HB1 := Lib.hid hb1
  clear hs1 hb1
  dsimp only
  go_wp2
  go_ret2
  exact ⟨rfl, HB1.out⟩
end Go.Proofs.Yteolpjlpjjjchaa.In
