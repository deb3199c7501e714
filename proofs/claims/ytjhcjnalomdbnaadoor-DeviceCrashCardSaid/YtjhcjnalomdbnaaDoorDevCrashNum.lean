/-
  Behind a crash each sector is as it was durable, or as some pick has it. No program.
-/
import Derived.Test.YtjhcjnalomdbnaaDoorDevLastNum
namespace Go.Proofs.YtjhcjnalomdbnaaDoor.Dv
open Go.RowKit Bs

def SecEq (A : List Int) (a : Nat) (B : List Int) (b : Nat) : Prop := ∀ j, j < 64 → A[a + j]? = B[b + j]?

theorem SecEq.ext {A B : List Int} {a b : Nat} (h : SecEq A a B b) : (strOfNums A).extract a (a + 64) = (strOfNums B).extract b (b + 64) := by
  rw [str_extract, str_extract, Nat.add_sub_cancel_left, Nat.add_sub_cancel_left]
  congr 1
  apply List.ext_getElem?
  intro j
  by_cases hj : j < 64
  · rw [List.getElem?_take_of_lt hj, List.getElem?_take_of_lt hj, List.getElem?_drop, List.getElem?_drop]
    exact h j hj
  · rw [List.getElem?_eq_none (by rw [List.length_take]; omega), List.getElem?_eq_none (by rw [List.length_take]; omega)]

/-- Pick i has the sector that begins at 64 t. -/
structure Cov (s : St) (l : List (Int × Nat)) (i t : Nat) (A : List Int) : Prop where
  lo : (s.pend.getD (l.getD i (0, 0)).1.toNat (0, [])).1 * s.size ≤ 64 * t
  hi : 64 * t < (s.pend.getD (l.getD i (0, 0)).1.toNat (0, [])).1 * s.size + s.size
  bit : (l.getD i (0, 0)).2.testBit ((64 * t - (s.pend.getD (l.getD i (0, 0)).1.toNat (0, [])).1 * s.size) / 64) = true
  eq : SecEq A (64 * t) (s.pend.getD (l.getD i (0, 0)).1.toNat (0, [])).2 (64 * t - (s.pend.getD (l.getD i (0, 0)).1.toNat (0, [])).1 * s.size)

theorem sec_div (n t j : Nat) (hn : 0 < n) (h64 : n % 64 = 0) (hj : j < 64) : (64 * t + j) / n = 64 * t / n ∧ (64 * t + j) % n = 64 * t % n + j ∧ 64 * t % n % 64 = 0 ∧ 64 * t % n + 64 ≤ n := by
  have h1 := Nat.div_add_mod (64 * t) n
  have h2 := Nat.mod_lt (64 * t) hn
  generalize hB : 64 * t / n = B at *
  generalize hr : 64 * t % n = r at *
  obtain ⟨q, rfl⟩ : ∃ q, n = 64 * q := ⟨n / 64, by omega⟩
  have h3 : r % 64 = 0 := by
    have h4 : 64 * q * B = 64 * (q * B) := Nat.mul_assoc _ _ _
    omega
  have h5 : r + 64 ≤ 64 * q := by omega
  have h6 : 64 * t + j = (r + j) + 64 * q * B := by omega
  refine ⟨?_, ?_, h3, h5⟩
  · rw [h6, Nat.add_mul_div_left _ _ hn, Nat.div_eq_of_lt (by omega), Nat.zero_add]
  · rw [h6, Nat.add_mul_mod_self_left, Nat.mod_eq_of_lt (by omega)]

theorem crash_sec (s : St) (h : s.Ok) (l : List (Int × Nat)) (hl : picksOk s l) (t : Nat) : ∀ k, k ≤ l.length → SecEq (puts s (l.take k)).flatten (64 * t) s.dur.flatten (64 * t) ∨ ∃ i, i < k ∧ Cov s l i t (puts s (l.take k)).flatten := by
  intro k
  induction k with
  | zero => intro _; exact .inl (fun j _ => rfl)
  | succ k ih =>
    intro hk
    have ih := ih (by omega)
    have lo := h.lo
    have h64 := h.by64
    have hok := hl k (by omega)
    have hpo := puts_ok h (l.take k) (fun p hp => by
      obtain ⟨i, hi, rfl⟩ := List.mem_iff_getElem.1 hp
      rw [List.length_take] at hi
      have := hl i (by omega)
      have e : l.getD i (0, 0) = l[i]'(by omega) := by simp [List.getD, show i < l.length by omega]
      rw [e] at this
      rw [List.getElem_take]
      exact ⟨this.1, this.2.1⟩)
    rw [puts_take l k (by omega)]
    generalize puts s (l.take k) = D at *
    obtain ⟨⟨p1, p2⟩, hp⟩ : ∃ q, l.getD k (0, 0) = q := ⟨_, rfl⟩
    obtain ⟨⟨x1, x2⟩, hx⟩ : ∃ q, s.pend.getD p1.toNat (0, []) = q := ⟨_, rfl⟩
    rw [hp] at hok
    have hj : p1.toNat < s.pend.length := by have := hok.1; have := hok.2.1; omega
    have hpb := h.pblk _ (List.getElem_mem hj)
    have hpe : s.pend.getD p1.toNat (0, []) = s.pend[p1.toNat] := by simp [List.getD, hj]
    rw [← hpe, hx] at hpb
    obtain ⟨b1, b2, b3⟩ := hpb
    have hg := getD_mem hpo.1 (b := x1) (by rw [hpo.2]; exact b1)
    have hflat := fun j => flat_set s.size (by omega) D hpo.1 x1 (by rw [hpo.2]; exact b1) (mix p2 (D.getD x1 []) x2) (by rw [mix_len]; exact hg.1) (mix_isB _ hg.2 b3 (by rw [b2, hg.1])) j
    have hput : put s D (l.getD k (0, 0)) = D.set x1 (mix p2 (D.getD x1 []) x2) := by
      rw [hp]
      unfold put
      rw [hx]
    rw [hput]
    have hsec := fun j (hj : j < 64) => sec_div s.size t j (by omega) h64 hj
    obtain ⟨_, _, r3, r4⟩ := hsec 0 (by omega)
    have h1 := Nat.div_add_mod (64 * t) s.size
    have same : (64 * t / s.size = x1 → p2.testBit (64 * t % s.size / 64) = false) → SecEq (D.set x1 (mix p2 (D.getD x1 []) x2)).flatten (64 * t) D.flatten (64 * t) := by
      intro hno j hj
      obtain ⟨d1, d2, _, _⟩ := hsec j hj
      rw [hflat, d1, d2]
      by_cases e : 64 * t / s.size = x1
      · rw [if_pos e, mix_get? _ _ _ (by rw [b2, hg.1]), show (64 * t % s.size + j) / 64 = 64 * t % s.size / 64 by omega, hno e]
        rw [flat_get s.size (by omega) D hpo.1, d1, d2, e]
        have : D.getD x1 [] = D[x1]'(by rw [hpo.2]; exact b1) := by simp [List.getD, show x1 < D.length by rw [hpo.2]; exact b1]
        have e5 : D[x1]? = some (D[x1]'(by rw [hpo.2]; exact b1)) := List.getElem?_eq_getElem _
        rw [this, e5]
        rfl
      · rw [if_neg e]
    by_cases hc : 64 * t / s.size = x1 ∧ p2.testBit (64 * t % s.size / 64) = true
    · right
      obtain ⟨c1, c2⟩ := hc
      have hoff : 64 * t - x1 * s.size = 64 * t % s.size := by rw [c1, Nat.mul_comm] at h1; omega
      refine ⟨k, by omega, ?_⟩
      refine ⟨?_, ?_, ?_, ?_⟩ <;> rw [hp, hx]
      · show x1 * s.size ≤ 64 * t; rw [c1, Nat.mul_comm] at h1; omega
      · show 64 * t < x1 * s.size + s.size; rw [c1, Nat.mul_comm] at h1; omega
      · show p2.testBit ((64 * t - x1 * s.size) / 64) = true; rw [hoff]; exact c2
      · show SecEq _ (64 * t) x2 (64 * t - x1 * s.size)
        intro j hj
        obtain ⟨d1, d2, _, _⟩ := hsec j hj
        rw [hflat, d1, d2, if_pos c1, hoff, mix_get? _ _ _ (by rw [b2, hg.1]), show (64 * t % s.size + j) / 64 = 64 * t % s.size / 64 by omega, c2]
        rfl
    · have hs := same (fun e => by
        cases hb : p2.testBit (64 * t % s.size / 64) with
        | false => rfl
        | true => exact absurd ⟨e, hb⟩ hc)
      rcases ih with h2 | ⟨i, hi, hcv⟩
      · exact .inl (fun j hj => (hs j hj).trans (h2 j hj))
      · exact .inr ⟨i, by omega, hcv.lo, hcv.hi, hcv.bit, fun j hj => (hs j hj).trans (hcv.eq j hj)⟩
end Go.Proofs.YtjhcjnalomdbnaaDoor.Dv
