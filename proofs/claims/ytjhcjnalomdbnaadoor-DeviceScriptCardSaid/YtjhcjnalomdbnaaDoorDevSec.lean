/-
  The device: putSectors.
-/
import Derived.Test.YtjhcjnalomdbnaaDoorDevFlush
import Derived.WalkSpells
namespace Go.Proofs.YtjhcjnalomdbnaaDoor.Dv
open Go.RowKit Bs

theorem Reg.sub {w : World} {b o : Nat} {l : List Int} (h : Reg w b o l) (p : Nat) : Reg w b (o + p) (l.drop p) := fun j x hx => by
  rw [List.getElem?_drop] at hx
  have := h (p + j) x hx
  rw [← Nat.add_assoc] at this
  exact this

theorem Reg.join {w w' : World} {b o p : Nat} {l v : List Int} (h : Reg w b o l) (h1 : Reg w' b (o + p) (spl (l.drop p) 0 v)) (ho : Out w w' b (o + p) v.length) (hp : p + v.length ≤ l.length) : Reg w' b o (spl l p v) := fun j x hx => by
  rw [spl_get l p v hp] at hx
  by_cases h2 : j < p
  · rw [if_pos h2] at hx
    rw [ho.frozen, ho.cell (o + j) (by omega)]
    exact h j x hx
  · rw [if_neg h2] at hx
    have h3 := h1 (j - p) x (by
      rw [spl_get _ _ _ (by rw [List.length_drop]; omega), if_neg (by omega)]
      by_cases h4 : j < p + v.length
      · rw [if_pos h4] at hx
        rw [if_pos (by omega)]
        exact hx
      · rw [if_neg h4] at hx
        rw [if_neg (by omega), List.getElem?_drop, show p + (j - p) = j from by omega]
        exact hx)
    rw [show o + p + (j - p) = o + j from by omega] at h3
    exact h3

theorem mix_get? (s : Nat) (old new : List Int) (hl : new.length = old.length) (j : Nat) : (mix s old new)[j]? = if s.testBit (j / 64) then new[j]? else old[j]? := by
  by_cases hj : j < old.length
  · unfold mix
    rw [List.getElem?_map, List.getElem?_range hj]
    have h2 : j < new.length := by omega
    simp only [Option.map_some, List.getD, hj, h2, List.getElem?_eq_getElem, Option.getD_some]
    split <;> rfl
  · rw [List.getElem?_eq_none (by rw [mix_len]; omega), List.getElem?_eq_none (by omega), List.getElem?_eq_none (by omega)]
    simp

theorem mix_step (s t : Nat) (old new : List Int) (hl : new.length = old.length) (ht : s.testBit t = true) (hp : 64 * t + 64 ≤ old.length) :
    spl (mix (s % 2 ^ t) old new) (64 * t) ((new.drop (64 * t)).take 64) = mix (s % 2 ^ (t + 1)) old new := by
  apply List.ext_getElem?
  intro j
  have hv : ((new.drop (64 * t)).take 64).length = 64 := by rw [List.length_take, List.length_drop]; omega
  rw [spl_get _ _ _ (by rw [hv, mix_len]; exact hp), hv, mix_get? _ _ _ hl, mix_get? _ _ _ hl, Nat.testBit_mod_two_pow, Nat.testBit_mod_two_pow]
  by_cases h1 : j < 64 * t
  · rw [if_pos h1]
    have e1 : j / 64 < t := by omega
    have e2 : j / 64 < t + 1 := by omega
    simp [e1, e2]
  · rw [if_neg h1]
    by_cases h2 : j < 64 * t + 64
    · rw [if_pos h2]
      have e1 : j / 64 = t := by omega
      rw [e1, ht, List.getElem?_take_of_lt (by omega), List.getElem?_drop, show 64 * t + (j - 64 * t) = j from by omega]
      simp
    · rw [if_neg h2]
      have e1 : ¬ j / 64 < t := by omega
      have e2 : ¬ j / 64 < t + 1 := by omega
      simp [e1, e2]

theorem mod_skip (s k t : Nat) (hkt : k ≤ t) (h : ∀ j, k ≤ j → j < t → s.testBit j = false) : s % 2 ^ t = s % 2 ^ k := by
  apply Nat.eq_of_testBit_eq
  intro j
  rw [Nat.testBit_mod_two_pow, Nat.testBit_mod_two_pow]
  by_cases h1 : j < k
  · simp [h1, show j < t by omega]
  · by_cases h2 : j < t
    · simp [h1, h2, h j (by omega) h2]
    · simp [h1, h2]

/-- What is left of the bits of s from k on. -/
def Left (s k r : Nat) : Prop := ∀ j, r.testBit j = (decide (k ≤ j) && s.testBit j)
theorem Left.start (s : Nat) : Left s 0 s := fun j => by simp
theorem Left.low {s k r t : Nat} (h : Left s k r) (ht : Lowest r t) : k ≤ t ∧ s.testBit t = true ∧ ∀ j, k ≤ j → j < t → s.testBit j = false := by
  have h1 := h t
  rw [ht.1] at h1
  have h1 := h1.symm
  simp only [Bool.and_eq_true, decide_eq_true_eq] at h1
  refine ⟨h1.1, h1.2, fun j hk hj => ?_⟩
  have h2 := h j
  rw [ht.2 j hj] at h2
  simpa [hk] using h2.symm
theorem Left.next {s k r t : Nat} (h : Left s k r) (ht : Lowest r t) : Left s (t + 1) (r &&& (r - 1)) := fun j => by
  rw [clear_low r t ht, h j]
  have h1 := (h.low ht).1
  by_cases e : t < j
  · simp [e, show k ≤ j by omega, show t + 1 ≤ j by omega]
  · simp [e, show ¬ t + 1 ≤ j by omega]
theorem Left.done {s k : Nat} (h : Left s k 0) : s % 2 ^ k = s := by
  apply Nat.eq_of_testBit_eq
  intro j
  rw [Nat.testBit_mod_two_pow]
  have h1 := h j
  rw [Nat.zero_testBit] at h1
  by_cases e : j < k
  · simp [e]
  · have : k ≤ j := by omega
    simp [this] at h1
    simp [e, h1]
theorem and_pred_lt (r : Nat) (h : r ≠ 0) : r &&& (r - 1) < r := Nat.lt_of_le_of_lt Nat.and_le_right (by omega)

theorem bit_lt (s m t : Nat) (h : s < 2 ^ m) (ht : s.testBit t = true) : t < m := by
  apply Nat.lt_of_not_le
  intro hle
  rw [Nat.testBit_lt_two_pow (Nat.lt_of_lt_of_le h (Nat.pow_le_pow_right (by decide) hle))] at ht
  cases ht

theorem T64.turn {w w' : World} {S : Nat → Prop} (h : T64 w) (k : Turn w w' S) (hS : ¬ S 1) : T64 w' := fun j hj => k.cell (h j hj) hS
theorem T32.turn {w w' : World} {S : Nat → Prop} (h : T32 w) (k : Turn w w' S) (hS : ¬ S 0) : T32 w' := fun j hj => k.cell (h j hj) hS

/-- Sectors are put. -/
def Mixed (b o n : Nat) (l : List Int) (w : World) (e : Ending) (w' : World) : Prop := e = .returned (.tuple #[]) ∧ Reg w' b o l ∧ Out w w' b o n

set_option maxRecDepth 100000 in
set_option maxHeartbeats 2000000 in
theorem putsec_any (b o n c s : Nat) (old new : List Int) (w : World) (h : Reg w b o old) (hl : old.length = n) (hn : new.length = n) (hB : IsB new) (hc : n ≤ c) (hm : n ≤ 4096) (h64 : n % 64 = 0) (hs : s < 2 ^ (n / 64)) (hT : T64 w) (hg : b ≠ 1) :
    Calls Tryd.prog 47 #[.slice (some ⟨b, o, none⟩) n c, .string (strOfNums new), .int .u64 (s : Int)] w (Mixed b o n (mix s old new) w) := by
  have hs64 : s < 18446744073709551616 := Nat.lt_of_lt_of_le hs (Nat.le_trans (Nat.pow_le_pow_right (by decide) (by omega : n / 64 ≤ 64)) (by decide))
  have HT := Lib.hid hT
  have HH := Lib.hid h
  have HL := Lib.hid hl
  have HN := Lib.hid hn
  have HB := Lib.hid hB
  have HS := Lib.hid hs
  have HG := Lib.hid hg
  have H64 := Lib.hid h64
  obtain ⟨T, hTT⟩ : ∃ T, T = strOfNums new := ⟨_, rfl⟩
  have hsz : T.size = n := by rw [hTT, strOfNums_size, hn]
  rw [← hTT]
  have HTT := Lib.hid hTT
  have HSZ := Lib.hid hsz
  clear h hl hn hB hs hT hg h64 hTT hsz
  go_enter Tryd.func47, Tryd.ntmps47
  go_wp2
  go_loopw [2] (fun sv wr => ∃ r k : Nat, sv = .int .u64 (r : Int) ∧ r < 18446744073709551616 ∧ Hid (Left s k r) ∧ Hid (Reg wr b o (mix (s % 2 ^ k) old new)) ∧ Hid (Out w wr b o n)) (fun sv _ => (intOf sv).toNat)
  case atStart => exact ⟨s, 0, rfl, hs64, Left.start s, by rw [show s % 2 ^ 0 = 0 from by simp [Nat.mod_one], mix_zero]; exact HH.out, Out.refl _ _ _ _⟩
  case round =>
    obtain ⟨r, k, rfl, hr64, HLF, HR, HO⟩ := hrel
    by_cases hr0 : r = 0
    · subst hr0
      have HD := Lib.hid (HLF.out.done)
      rw [HD.out] at HR
      go_wp2
      go_end0
      exact ⟨rfl, HR.out, HO.out⟩
    · obtain ⟨hlow, ht64⟩ := lowest_of 64 r hr0 hr64
      obtain ⟨hkt, hst, hno⟩ := HLF.out.low hlow
      have HLO := Lib.hid hlow
      have htn := bit_lt s (n / 64) _ HS.out hst
      have HNX := Lib.hid (HLF.out.next hlow)
      have HMS := Lib.hid (mod_skip s k _ hkt hno)
      have HST := Lib.hid hst
      have hp64 : 64 * Lib.ctz 64 r + 64 ≤ n := by have := H64.out; omega
      have HTZ := Lib.hid (tz64_any r wr hr64 hr0 (HT.out.turn HO.out.turn (fun e => HG.out e.symm)))
      have hne : ((r : Int) != 0) = true := bne_iff_ne.2 (by omega)
      have hand : bits BinOp.and IntKind.u64 (r : Int) ((r : Int) - 1) = ((r &&& (r - 1) : Nat) : Int) := by
        rw [show (r : Int) - 1 = ((r - 1 : Nat) : Int) from by omega]
        exact bits_and_u64_nat r (r - 1) hr64 (by omega)
      have HAND := Lib.hid hand
      have hlt := and_pred_lt r hr0
      have hr1 : 1 ≤ (r : Int) := by omega
      clear hlow hkt hst hno htn hand hr0
      generalize Lib.ctz 64 r = t at *
      go_wp2_with (first
        | (go_at_call 56; refine HTZ.out.mono ?_; rintro e w' ⟨rfl, rfl⟩)
        | fail)
      have hwr : IntKind.i64.wrap (64 * (t : Int) + 64) = 64 * (t : Int) + 64 := by rw [IntKind.wrap_i64]; omega
      have i1 : ¬ (64 * (t : Int) < 0) := by omega
      have i2 : ¬ ((n : Int) < 64 * (t : Int)) := by omega
      have i3 : 0 ≤ 64 * (t : Int) := by omega
      have i4 : 64 * (t : Int) ≤ n := by omega
      have hz := HSZ.out
      have i5 : 64 * (t : Int) + 64 ≤ (T.size : Int) := by omega
      have i6 : 0 ≤ 64 * (t : Int) + 64 := by omega
      have i7 : 64 * (t : Int) ≤ 64 * (t : Int) + 64 := by omega
      have i8 : ¬ (c = (64 * (t : Int)).toNat) := by omega
      have i10 : ¬ (c = 64 * t) := by omega
      have i9 : 64 * (t : Int) ≤ c := by omega
      clear hz
      have e1 : (64 * (t : Int)).toNat = 64 * t := by omega
      have e2 : (64 * (t : Int) + 64).toNat = 64 * t + 64 := by omega
      have hx := HN.out
      have hxl := HL.out
      rw [← HMS.out] at HR
      have HV : Hid (T.extract (64 * t) (64 * t + 64) = strOfNums ((new.drop (64 * t)).take 64)) := Lib.hid (by rw [HTT.out, str_extract, show 64 * t + 64 - 64 * t = 64 from by omega])
      have HVL : Hid (((new.drop (64 * t)).take 64).length = 64) := Lib.hid (by rw [List.length_take, List.length_drop]; omega)
      have HML : Hid ((mix (s % 2 ^ t) old new).length = n) := Lib.hid (by rw [mix_len]; omega)
      clear hx hxl
      go_region_held3 (fun _ => True) (trivial)
        (first
          | (refine step_copy_reg (by rfl) (.tmp 18) (.tmp 23) (by rfl) b (o + 64 * t) (n - 64 * t) (c - 64 * t) (by rfl) ((mix (s % 2 ^ t) old new).drop (64 * t)) ((new.drop (64 * t)).take 64) (by rw [← HV.out]; rfl) (by exact HR.out.sub (64 * t)) (isB_take (isB_drop HB.out _) _) (by rw [HVL.out]; omega) (by rw [HVL.out, List.length_drop, HML.out]; omega) ?_
             intro w3 hr3 ho3
             have HR3 : Hid (Reg w3 b o (mix (s % 2 ^ (t + 1)) old new)) := Lib.hid (by
               rw [← mix_step s t old new (by rw [HN.out, HL.out]) HST.out (by rw [HL.out]; omega)]
               exact Reg.join (w := wr.drew) (by exact HR.out) hr3 ho3 (by rw [HVL.out, HML.out]; omega))
             have HO3 : Hid (Out w w3 b o n) := Lib.hid (HO.out.trans (((Out.refl wr b o n).drewN 1).trans (ho3.mono (by omega) (by rw [HVL.out]; omega))))
             clear hr3 ho3)
          | fail)
      go_wp2
      go_roundw
      case rel => exact ⟨r &&& (r - 1), t + 1, by rw [HAND.out], by omega, HNX, HR3, HO3⟩
      case measure => simp [intOf, HAND.out]; omega
end Go.Proofs.YtjhcjnalomdbnaaDoor.Dv
