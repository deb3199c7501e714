/-
  Var: what a reader tells of a varint.
-/
import Derived.Test.YtpcilohiokpmnaaOctRead
namespace Go.Proofs.Ytpcilohiokpmnaa.Oct
open Go.RowKit

/-- What Var answers, and what it leaves. -/
def ReadV (b g : Nat) (w : World) (l : List Int) (e : Ending) (w' : World) : Prop :=
  e = .returned (.tuple #[.int .u64 (readV 0 0 l).1, .int .i64 (readV 0 0 l).2.1]) ∧ w.grownBy w' (some b) ∧ Rd w' b g (l.drop (readV 0 0 l).2.2)

/-- Where Var stands behind k bytes. -/
def VInv (l : List Int) (k : Nat) (acc : Int) : Prop := readV k acc (l.drop k) = readV 0 0 l ∧ k ≤ 9 ∧ 0 ≤ acc ∧ acc < 2 ^ (7 * k)

theorem VInv.start (l : List Int) : VInv l 0 0 := ⟨rfl, by decide, by decide, by decide⟩

theorem VInv.end {l : List Int} {acc : Int} (h : VInv l l.length acc) : readV 0 0 l = (0, 7, 0) := by
  have := h.1
  rw [List.drop_length] at this
  rw [← this, readV]

theorem pow7_le (k : Nat) (hk : k ≤ 9) : (2 : Int) ^ (7 * k) ≤ 9223372036854775808 := by
  have h5 : (2 : Nat) ^ (7 * k) ≤ 9223372036854775808 := Nat.le_trans (Nat.pow_le_pow_right (by decide : 0 < 2) (by omega : 7 * k ≤ 63)) (by decide)
  have h6 : ((2 ^ (7 * k) : Nat) : Int) ≤ 9223372036854775808 := by omega
  rw [Int.natCast_pow] at h6
  exact h6

theorem pow7_lt (k : Nat) (hk : k ≤ 8) : (128 : Int) * 2 ^ (7 * k) ≤ 9223372036854775808 := by
  have h := pow7_le (k + 1) (by omega)
  have e : (2 : Int) ^ (7 * (k + 1)) = 128 * 2 ^ (7 * k) := by rw [Nat.mul_add, Int.pow_add, Int.mul_comm]; rfl
  omega

/-- The facts of a round at a byte. -/
theorem VInv.round {l : List Int} {k : Nat} {acc : Int} (h : VInv l k acc) (hk : k < l.length) (hb : IsB l) :
    0 ≤ l.getD k 0 ∧ l.getD k 0 < 256 ∧ 0 ≤ acc ∧
    (k = 9 ∧ 1 < l.getD k 0 → readV 0 0 l = (0, 4, 0)) ∧
    (¬ (k = 9 ∧ 1 < l.getD k 0) →
      0 ≤ l.getD k 0 % 128 * 2 ^ (7 * k) ∧ l.getD k 0 % 128 * 2 ^ (7 * k) < 18446744073709551616 ∧
      bits BinOp.or IntKind.u64 acc (l.getD k 0 % 128 * 2 ^ (7 * k)) = acc + l.getD k 0 % 128 * 2 ^ (7 * k) ∧
      (128 ≤ l.getD k 0 → VInv l (k + 1) (acc + l.getD k 0 % 128 * 2 ^ (7 * k))) ∧
      (l.getD k 0 = 0 ∧ 0 < k → readV 0 0 l = (0, 4, 0)) ∧
      (l.getD k 0 < 128 → ¬ (l.getD k 0 = 0 ∧ 0 < k) → readV 0 0 l = (acc + l.getD k 0 % 128 * 2 ^ (7 * k), 0, k + 1))) := by
  obtain ⟨h1, h2, h3, h4⟩ := h
  have hd : l.drop k = l.getD k 0 :: l.drop (k + 1) := by rw [List.drop_eq_getElem_cons hk]; simp [List.getD, hk]
  have hx := hb (l.getD k 0) (by simp [List.getD, hk])
  generalize l.getD k 0 = x at *
  rw [hd, readV] at h1
  have hp : (0 : Int) < 2 ^ (7 * k) := Int.pow_pos (by decide)
  refine ⟨hx.1, hx.2, h3, fun hc => by rw [← h1, if_pos hc], fun hc => ?_⟩
  rw [if_neg hc] at h1
  have hy : 0 ≤ x % 128 * 2 ^ (7 * k) := Int.mul_nonneg (by omega) (Int.le_of_lt hp)
  have hz : x % 128 * 2 ^ (7 * k) < 18446744073709551616 := by
    by_cases h9 : k = 9
    · subst h9
      have : x % 128 ≤ 1 := by omega
      have h7 := pow7_le 9 (by decide)
      have := Int.mul_le_mul_of_nonneg_right this (Int.le_of_lt hp)
      omega
    · have h7 := pow7_lt k (by omega)
      have : x % 128 ≤ 128 := by omega
      have := Int.mul_le_mul_of_nonneg_right this (Int.le_of_lt hp)
      omega
  refine ⟨hy, hz, or_add acc (x % 128) (7 * k) h3 h4 (by omega) hz (by omega), fun hge => ?_, fun hc2 => ?_, fun hlt hc2 => ?_⟩
  · rw [if_pos hge] at h1
    refine ⟨h1, by omega, by omega, ?_⟩
    have e : (2 : Int) ^ (7 * (k + 1)) = 128 * 2 ^ (7 * k) := by rw [Nat.mul_add, Int.pow_add, Int.mul_comm]; rfl
    rw [e]
    have : x % 128 ≤ 127 := by omega
    have := Int.mul_le_mul_of_nonneg_right this (Int.le_of_lt hp)
    omega
  · rw [if_neg (by omega), if_pos hc2] at h1
    exact h1.symm
  · rw [if_neg (by omega), if_neg hc2] at h1
    exact h1.symm

theorem ReadV.err {b g : Nat} {w : World} {l : List Int} {x : Int} (hr : readV 0 0 l = (0, x, 0)) (h : Rd w b g l) : ReadV b g w l (.returned (.tuple #[.int .u64 0, .int .i64 x])) w := by
  unfold ReadV
  rw [hr]
  exact ⟨rfl, World.grownBy.refl _ _, h⟩
theorem ReadV.ok {b g n : Nat} {w w' : World} {l : List Int} {v : Int} (hr : readV 0 0 l = (v, 0, n)) (h : Rd w' b g (l.drop n)) (hg : w.grownBy w' (some b)) : ReadV b g w l (.returned (.tuple #[.int .u64 v, .int .i64 0])) w' := by
  unfold ReadV
  rw [hr]
  exact ⟨rfl, hg, h⟩

set_option maxRecDepth 100000 in
set_option maxHeartbeats 2000000 in
theorem var_any (b g : Nat) (l : List Int) (w : World) (h : Rd w b g l) (hb : IsB l) :
    Calls Try.prog 28 #[.pointer (some ⟨b, 0, none⟩)] w (ReadV b g w l) := by
  obtain ⟨o, c, h0, hle, hc, hj⟩ := h.cells
  unfold maxLen at hc
  have HV := Lib.hid (valid_yes b w h.self)
  have HC := Lib.hid (fun n hn => cut_any b g l n w h hn)
  have HJ := Lib.hid hj
  have HI := Lib.hid (fun k acc (hi : VInv l k acc) (hk : k < l.length) => hi.round hk hb)
  have HE := Lib.hid (fun acc (hi : VInv l l.length acc) => hi.end)
  have H := Lib.hid h
  obtain ⟨n, hn⟩ : ∃ n, n = l.length := ⟨_, rfl⟩
  have HN := Lib.hid hn
  rw [← hn] at h0 hle
  clear hj hb h hn
  go_enter Try.func28, Try.ntmps28
  go_wp2_with (go_at_call 52; refine HV.out.mono ?_; rintro e w' ⟨rfl, rfl⟩)
  go_loop [4, 15] (fun sv si => ∃ (k : Nat) (acc : Int), k ≤ n ∧ si = .int .i64 k ∧ sv = .int .u64 acc ∧ Hid (VInv l k acc)) (fun _ si => n - (intOf si).toNat)
  case atStart => exact ⟨0, 0, Nat.zero_le _, rfl, rfl, Lib.hid (VInv.start l)⟩
  case round =>
    obtain ⟨k, acc, hk, rfl, rfl, HA⟩ := hrel
    by_cases hlt : k < n
    · obtain ⟨x0, x1, a0, hA, hrest⟩ := HI.out k acc HA.out (by have := HN.out; omega)
      have g1 := HJ.out k (by have := HN.out; omega)
      obtain ⟨x, hx⟩ : ∃ x, x = l.getD k 0 := ⟨_, rfl⟩
      rw [← hx] at x0 x1 hA hrest g1
      have kle : k ≤ 9 := HA.out.2.1
      clear hx
      by_cases cA : k = 9 ∧ 1 < x
      · have HF := Lib.hid (hA cA)
        obtain ⟨rfl, cx⟩ := cA
        clear hA hrest
        go_wp2
        go_ret2
        exact ReadV.err HF.out H.out
      · obtain ⟨y0, y1, ho, hB, hC, hD⟩ := hrest cA
        have HB := Lib.hid hB
        have HC2 := Lib.hid hC
        have HD := Lib.hid hD
        have HNC := Lib.hid cA
        clear hA hrest hB hC hD
        by_cases cB : 128 ≤ x
        · have k9 : ((k : Int) == 9) = false := by simp; omega
          clear cA
          go_wp2
          go_round
          case rel => exact ⟨k + 1, acc + x % 128 * 2 ^ (7 * k), by omega, by go_num, rfl, Lib.hid (HB.out cB)⟩
          case measure => simp [intOf]; omega
        · have x127 : x ≤ 127 := by omega
          by_cases cz : x = 0 ∧ 0 < k
          · have HF := Lib.hid (HC2.out cz)
            have xz : (x == 0) = true := by simp; omega
            have kp : (0 : Int) < (k : Int) := by omega
            by_cases e9 : k = 9
            · have k9 : ((k : Int) == 9) = true := by simp; omega
              have x1' : x ≤ 1 := by omega
              clear cA cz e9
              go_wp2
              go_ret2
              exact ReadV.err HF.out H.out
            · have k9 : ((k : Int) == 9) = false := by simp; omega
              clear cA cz e9
              go_wp2
              go_ret2
              exact ReadV.err HF.out H.out
          · have HF := Lib.hid (HD.out (by omega) cz)
            have HCut := Lib.hid (HC.out (k + 1) (by have := HN.out; omega))
            rw [show (((k + 1 : Nat)) : Int) = (k : Int) + 1 from by omega] at HCut
            by_cases e9 : k = 9
            · have k9 : ((k : Int) == 9) = true := by simp; omega
              have x1' : x ≤ 1 := by omega
              have xz : (x == 0) = false := by simp; omega
              clear cA cz e9
              go_wp2_with (go_at_call 53; refine HCut.out.mono ?_; rintro e w1 ⟨o', c', rfl, hr, hg, _⟩)
              go_ret2
              exact ReadV.ok HF.out hr hg
            · have k9 : ((k : Int) == 9) = false := by simp; omega
              by_cases ez : x = 0
              · have xz : (x == 0) = true := by simp; omega
                have kp : (k : Int) ≤ 0 := by omega
                have kp2 : decide ((0 : Int) < (k : Int)) = false := by simp; omega
                have ho0 : bits BinOp.or IntKind.u64 acc 0 = acc := by rw [ez] at ho; simpa using ho
                have HF2 : Hid (readV 0 0 l = (acc, 0, k + 1)) := Lib.hid (by have := HF.out; rw [ez] at this; simpa using this)
                clear cA cz e9
                go_wp2_with (go_at_call 53; refine HCut.out.mono ?_; rintro e w1 ⟨o', c', rfl, hr, hg, _⟩)
                go_ret2
                exact ReadV.ok HF2.out hr hg
              · have xz : (x == 0) = false := by simp; omega
                clear cA cz e9
                go_wp2_with (go_at_call 53; refine HCut.out.mono ?_; rintro e w1 ⟨o', c', rfl, hr, hg, _⟩)
                go_ret2
                exact ReadV.ok HF.out hr hg
    · obtain rfl : k = n := by omega
      have HF : Hid (readV 0 0 l = (0, 7, 0)) := by
        have hn := HN.out
        subst hn
        exact Lib.hid (HE.out acc HA.out)
      go_wp2
      go_ret2
      exact ReadV.err HF.out H.out
end Go.Proofs.Ytpcilohiokpmnaa.Oct
