/-
  The device: Rot.
-/
import Derived.Test.YtjhcjnalomdbnaaDoorDevCrash
import Derived.Laws.BitsAllLaws
import Derived.Laws.ShiftsVarLaws
namespace Go.Proofs.YtjhcjnalomdbnaaDoor.Dv
open Go.RowKit Bs

theorem xorbit (x : Int) (s : Nat) (h0 : 0 ≤ x) (h1 : x < 256) (hs : s < 8) : bits BinOp.xor IntKind.u8 x (2 ^ s % 256) = ((x.toNat ^^^ 2 ^ s : Nat) : Int) := by
  have h2 : (2 : Nat) ^ s < 2 ^ 8 := Nat.pow_lt_pow_right (by decide) hs
  have e : (2 : Int) ^ s % 256 = ((2 ^ s : Nat) : Int) := by
    have h3 : (2 : Int) ^ s = ((2 ^ s : Nat) : Int) := by rw [Int.natCast_pow]; rfl
    rw [h3]
    generalize 2 ^ s = y at h2
    omega
  rw [e, u8_xor x _ h0 h1 (by omega) (by omega), Int.toNat_natCast]

theorem isBget {l : List Int} (h : IsB l) (j : Nat) : 0 ≤ l.getD j 0 ∧ l.getD j 0 < 256 := by
  by_cases hj : j < l.length
  · have e : l.getD j 0 = l[j] := by simp [List.getD, hj]
    rw [e]
    exact h _ (List.getElem_mem hj)
  · have e : l.getD j 0 = 0 := by simp [List.getD, hj]
    rw [e]
    omega

theorem flipTo_skip (l : List Int) (bit mask k : Nat) : ∀ t, k ≤ t → (∀ j, k ≤ j → j < t → mask.testBit j = false) → Crc.flipTo l bit mask t = Crc.flipTo l bit mask k := by
  intro t
  induction t with
  | zero => intro hk _; obtain rfl : k = 0 := by omega
            rfl
  | succ t ih =>
    intro hk h
    by_cases e : k = t + 1
    · rw [e]
    · have h1 := h t (by omega) (by omega)
      rw [Nat.testBit_eq_decide_div_mod_eq] at h1
      have h1 := of_decide_eq_false h1
      show (if mask / 2 ^ t % 2 = 1 then _ else _) = _
      rw [if_neg h1]
      exact ih (by omega) (fun j hj hj2 => h j hj (by omega))
theorem flipTo_step (l : List Int) (bit mask t : Nat) (h : mask.testBit t = true) : Crc.flipTo l bit mask (t + 1) = Crc.inv (Crc.flipTo l bit mask t) (bit + t) := by
  rw [Nat.testBit_eq_decide_div_mod_eq] at h
  have h1 := of_decide_eq_true h
  show (if mask / 2 ^ t % 2 = 1 then _ else _) = _
  rw [if_pos h1]

theorem bits_reach {mask : Nat} {n : Int} (h : HasBits (mask : Int) n) (h0 : mask ≠ 0) (bit room : Int) : (∀ i, mask.testBit i = true → bit + (i : Int) < room) ↔ n ≤ room - bit := by
  obtain ⟨m, rfl⟩ : ∃ m : Nat, n = (m : Int) := ⟨n.toNat, by have := h.1; omega⟩
  obtain ⟨_, _, h3, h4⟩ := h
  rw [Int.toNat_natCast] at h3 h4
  have e1 : ((2 : Int) ^ m) = ((2 ^ m : Nat) : Int) := by simp
  have e2 : ((2 : Int) ^ (m - 1)) = ((2 ^ (m - 1) : Nat) : Int) := by simp
  rw [e1] at h3
  rw [e2] at h4
  have h3 : mask < 2 ^ m := by omega
  have hm : 1 ≤ m := by
    rcases Nat.eq_zero_or_pos m with rfl | h5
    · simp at h3; omega
    · exact h5
  have h4 : 2 ^ (m - 1) ≤ mask := by have := h4 (by omega); omega
  constructor
  · intro h
    have h5 : mask.testBit (m - 1) = true := by
      rw [Nat.testBit_eq_decide_div_mod_eq]
      have h6 : mask / 2 ^ (m - 1) = 1 := by
        have e3 : 2 ^ m = 2 * 2 ^ (m - 1) := by
          obtain ⟨q, rfl⟩ : ∃ q, m = q + 1 := ⟨m - 1, by omega⟩
          rw [Nat.add_sub_cancel, Nat.pow_succ, Nat.mul_comm]
        rw [e3] at h3
        have hp : 0 < 2 ^ (m - 1) := Nat.pow_pos (by decide)
        exact Nat.div_eq_of_lt_le (by omega) (by omega)
      rw [h6]; rfl
    have := h _ h5
    omega
  · intro hle i hi
    have := bit_lt mask m i h3 hi
    omega

theorem rotOk_iff (s : St) (block : Int) (q : Nat) (mask : Nat) (n : Int) (hm : mask ≠ 0) (hb : s.hasB block) (h : HasBits (mask : Int) n) : rotOk s block (q : Int) mask ↔ n ≤ 8 * (s.size : Int) - (q : Int) := by
  rw [← bits_reach h hm (q : Int) (8 * (s.size : Int))]
  unfold rotOk
  constructor
  · intro hr i hi
    have := hr.2.2.2 i hi
    exact this
  · intro hr
    exact ⟨hb, by omega, hm, hr⟩

def RotNo (w : World) (e : Ending) (w' : World) : Prop := e = .returned (.int .i64 2) ∧ Turn w w' nowhere
def RotYes (g b : Nat) (P : Value) (s : St) (w : World) (e : Ending) (w' : World) : Prop := e = .returned (.int .i64 0) ∧ Dev w' g b P s ∧ Turn w w' (· = b)

set_option maxRecDepth 100000 in
set_option maxHeartbeats 2000000 in
theorem rot_no (g b : Nat) (P : Value) (s : St) (block bit : Int) (mask : Nat) (w : World) (h : Dev w g b P s) (hm : mask < 4294967296) (hb : bit ≤ 9223372036854775807) (hn : ¬ rotOk s block bit mask) :
    Calls Tryd.prog 18 #[.pointer (some ⟨g, 0, none⟩), .int .i64 block, .int .i64 bit, .int .u32 (mask : Int)] w (RotNo w) := by
  have HFI := Lib.hid (find_any g b P s block w h)
  obtain ⟨c, hc, hcm, q0, q1, q2, q3, q4, q5, q6⟩ := h.cells
  have lo := h.ok.lo
  have hi := h.ok.hi
  clear h
  by_cases h1 : s.hasB block
  · have HB : Hid (blockE s block = 0) := Lib.hid (if_pos h1)
    rw [HB.out] at HFI
    by_cases h2 : bit < 0
    · go_enter Tryd.func18, Tryd.ntmps18
      go_wp2_with fail
      refine HFI.out.mono ?_
      rintro e w' ⟨rfl, rfl⟩
      go_wp2
      go_ret
      exact ⟨rfl, Turn.refl _ _⟩
    · by_cases h3 : mask = 0
      · subst h3
        go_enter Tryd.func18, Tryd.ntmps18
        go_wp2_with fail
        refine HFI.out.mono ?_
        rintro e w' ⟨rfl, rfl⟩
        go_wp2
        go_ret
        exact ⟨rfl, Turn.refl _ _⟩
      · obtain ⟨q, rfl⟩ : ∃ q : Nat, bit = (q : Int) := ⟨bit.toNat, by omega⟩
        have HLN := Lib.hid (len32_any (mask : Int) w (by omega) (by omega))
        have hmz : ((mask : Int) == 0) = false := beq_eq_false_iff_ne.2 (by omega)
        have HN := Lib.hid hn
        have hw1 : IntKind.i64.wrap (8 * (s.size : Int) - (q : Int)) = 8 * (s.size : Int) - (q : Int) := by rw [IntKind.wrap_i64]; omega
        go_enter Tryd.func18, Tryd.ntmps18
        go_wp2_with fail
        refine HFI.out.mono ?_
        rintro e w' ⟨rfl, rfl⟩
        go_wp2_with fail
        refine HLN.out.mono ?_
        rintro e w' ⟨n, rfl, hbn, rfl⟩
        have hle : decide (8 * (s.size : Int) - (q : Int) < n) = true := decide_eq_true (by
          have := mt (rotOk_iff s block q mask n h3 h1 hbn).2 HN.out
          omega)
        go_wp2
        go_ret
        exact ⟨rfl, Turn.refl _ _⟩
  · have HB : Hid (blockE s block = 2) := Lib.hid (if_neg h1)
    rw [HB.out] at HFI
    go_enter Tryd.func18, Tryd.ntmps18
    go_wp2_with fail
    refine HFI.out.mono ?_
    rintro e w' ⟨rfl, rfl⟩
    go_wp2
    go_ret
    exact ⟨rfl, Turn.refl _ _⟩

set_option maxRecDepth 100000 in
set_option maxHeartbeats 4000000 in
theorem rot_yes (g b : Nat) (P : Value) (s : St) (block bit : Int) (mask : Nat) (w : World) (h : Dev w g b P s) (hm : mask < 4294967296) (hr : rotOk s block bit mask) (hT : T32 w) (hgb : b ≠ 0) :
    Calls Tryd.prog 18 #[.pointer (some ⟨g, 0, none⟩), .int .i64 block, .int .i64 bit, .int .u32 (mask : Int)] w (RotYes g b P (s.rot block bit mask) w) := by
  have HFI := Lib.hid (find_any g b P s block w h)
  obtain ⟨c, hc, hcm, q0, q1, q2, q3, q4, q5, q6⟩ := h.cells
  have lo := h.ok.lo
  have hi := h.ok.hi
  have HB : Hid (blockE s block = 0) := Lib.hid (if_pos hr.1)
  rw [HB.out] at HFI
  have hb := hr.1
  unfold St.hasB at hb
  obtain ⟨p, rfl⟩ : ∃ p : Nat, block = (p : Int) := ⟨block.toNat, by omega⟩
  obtain ⟨q, rfl⟩ : ∃ q : Nat, bit = (q : Int) := ⟨bit.toNat, by have := hr.2.1; omega⟩
  have hpb : p < s.blocks := by omega
  have hm0 := hr.2.2.1
  have hcur := getD_mem h.ok.dblk (b := p) (by rw [h.ok.dlen]; exact hpb)
  have hreg := h.reg.block (n := s.size) (by omega) h.ok.dblk p (by rw [h.ok.dlen]; exact hpb)
  obtain ⟨cur, hcc⟩ : ∃ cur, cur = s.dur.getD p [] := ⟨_, rfl⟩
  rw [← hcc] at hcur hreg
  obtain ⟨z, hz⟩ : ∃ z, z = s.size := ⟨_, rfl⟩
  have hrot : s.rot (p : Int) (q : Int) mask = { s with dur := s.dur.set p (Crc.flipTo cur q mask 32) } := by
    unfold St.rot
    rw [Int.toNat_natCast, hcc]
    unfold Crc.flip
    rw [if_neg (by omega)]
    rfl
  have HRO := Lib.hid hrot
  have HD := Lib.hid h
  have HR := Lib.hid hreg
  have HC := Lib.hid hcur
  have HOK := Lib.hid hr
  have HT := Lib.hid hT
  have HG := Lib.hid hgb
  have hlen := len32_any (mask : Int) w (by omega) (by omega)
  have HLN := Lib.hid hlen
  have HAT := Lib.hid (at_any g b P s p w h hpb)
  have hmz : ((mask : Int) == 0) = false := beq_eq_false_iff_ne.2 (by omega)
  have hw1 : IntKind.i64.wrap (8 * (s.size : Int) - (q : Int)) = 8 * (s.size : Int) - (q : Int) := by
    have : (q : Int) < 8 * (s.size : Int) := by
      obtain ⟨t, ht⟩ : ∃ t, mask.testBit t = true := ⟨_, ((lowest_of 32 mask hm0 hm).1).1⟩
      have := hr.2.2.2 t ht
      omega
    rw [IntKind.wrap_i64]; omega
  clear h hr hT hgb hreg hcur hlen hrot
  rw [HRO.out]
  go_enter Tryd.func18, Tryd.ntmps18
  go_wp2_with fail
  refine HFI.out.mono ?_
  rintro e w' ⟨rfl, rfl⟩
  go_wp2_with fail
  refine HLN.out.mono ?_
  rintro e w' ⟨n, rfl, hbn, rfl⟩
  have hle : decide (8 * (s.size : Int) - (q : Int) < n) = false := decide_eq_false (by
    have := (rotOk_iff s (p : Int) q mask n hm0 HOK.out.1 hbn).1 HOK.out
    omega)
  clear hbn
  go_wp2_with fail
  refine HAT.out.mono ?_
  rintro e w1 ⟨c', m, rfl, hc1, hc2, rfl⟩
  have HO0 : Hid (Out w (w.drewN m) b (p * s.size) s.size) := Lib.hid ((Out.refl w b (p * s.size) s.size).drewN m)
  go_wp2
  go_loopw [3] (fun sv wr => ∃ r k : Nat, sv = .int .u32 (r : Int) ∧ r < 4294967296 ∧ Hid (Left mask k r) ∧ Hid (Reg wr b (p * s.size) (Crc.flipTo cur q mask k)) ∧ Hid (Out w wr b (p * s.size) s.size)) (fun sv _ => (intOf sv).toNat)
  case atStart => exact ⟨mask, 0, rfl, hm, Left.start mask, HR.out, HO0⟩
  case round =>
    obtain ⟨r, k, rfl, hr32, HLF, HRK, HO⟩ := hrel
    by_cases hr0 : r = 0
    · subst hr0
      have HFI2 : Hid (RotYes g b P { s with dur := s.dur.set p (Crc.flipTo cur q mask 32) } w (.returned (.int .i64 0)) wr) := Lib.hid (by
        refine ⟨rfl, ?_, HO.out.turn⟩
        have hk : Crc.flipTo cur q mask 32 = Crc.flipTo cur q mask k := by
          by_cases hk32 : k ≤ 32
          · exact flipTo_skip cur q mask k 32 hk32 (fun j h1 _ => by
              have := HLF.out j
              rw [Nat.zero_testBit] at this
              simpa [h1] using this.symm)
          · exact (flipTo_skip cur q mask 32 k (by omega) (fun j h1 _ => Nat.testBit_lt_two_pow (Nat.lt_of_lt_of_le hm (show 2 ^ 32 ≤ 2 ^ j from Nat.pow_le_pow_right (by decide) h1)))).symm
        rw [hk]
        exact HD.out.relay p hpb _ (by rw [Crc.flipTo_length]; exact HC.out.1) (Crc.flipTo_isB _ _ _ HC.out.2 _) HRK.out HO.out)
      go_wp2
      go_ret
      exact HFI2.out
    · obtain ⟨hlow, ht32⟩ := lowest_of 32 r hr0 hr32
      obtain ⟨hkt, hst, hno⟩ := HLF.out.low hlow
      have hroom := HOK.out.2.2.2 _ hst
      have HLO := Lib.hid hlow
      have HNX := Lib.hid (HLF.out.next hlow)
      have HST := Lib.hid hst
      have HTZ := Lib.hid (tz32_any r wr hr32 hr0 (HT.out.turn HO.out.turn (fun e => HG.out e.symm)))
      have hsk := flipTo_skip cur q mask k _ hkt hno
      rw [← hsk] at HRK
      have hand : bits BinOp.and IntKind.u32 (r : Int) ((r : Int) - 1) = ((r &&& (r - 1) : Nat) : Int) := by
        rw [show (r : Int) - 1 = ((r - 1 : Nat) : Int) from by omega]
        exact u32_and_nat r (r - 1) hr32 (by omega)
      have HAND := Lib.hid hand
      have hlt := and_pred_lt r hr0
      have hr1 : 1 ≤ (r : Int) := by omega
      have hrne : ((r : Int) != 0) = true := bne_iff_ne.2 (by omega)
      clear hlow hkt hst hno hand hr0 hsk
      generalize Lib.ctz 32 r = t at *
      have hjn : (q + t) / 8 < s.size := by omega
      have hlenF : (Crc.flipTo cur q mask t).length = s.size := by rw [Crc.flipTo_length]; exact HC.out.1
      have hBF := Crc.flipTo_isB cur q mask HC.out.2 t
      have hstep := (flipTo_step cur q mask t HST.out).trans (Crc.inv_set (Crc.flipTo cur q mask t) (q + t) (by omega))
      have hcell := (HRK.out.at_ ((q + t) / 8) (by omega))
      have hx := (isBget hBF ((q + t) / 8))
      have HSET := Lib.hid (fun (W : World) (k : Turn wr W nowhere) (x : Int) => Reg.setCell (HRK.out.turn k id) ((q + t) / 8) x (by omega))
      have e1 : ((q : Int) + (t : Int)) / 8 = (((q + t) / 8 : Nat) : Int) := by omega
      have e2 : ((q : Int) + (t : Int)) % 8 = (((q + t) % 8 : Nat) : Int) := by omega
      have hs8 : (q + t) % 8 < 8 := by omega
      have hwq : IntKind.i64.wrap ((q : Int) + (t : Int)) = (q : Int) + (t : Int) := by rw [IntKind.wrap_i64]; omega
      have HSTP := Lib.hid hstep
      clear hstep hlenF hBF
      generalize (q + t) / 8 = j at *
      generalize (q + t) % 8 = v at *
      generalize (Crc.flipTo cur q mask t).getD j 0 = x at *
      have HX := Lib.hid (xorbit x v hx.1 hx.2 hs8)
      obtain ⟨hcell, hfree⟩ := hcell
      go_wp2_with (first
        | (go_at_call 51; refine HTZ.out.mono ?_; rintro e w' ⟨rfl, rfl⟩)
        | fail)
      have i1 : (0 : Int) ≤ (j : Int) := by omega
      have i2 : (j : Int) < (s.size : Int) := by omega
      have i3 : (0 : Int) ≤ (v : Int) := by omega
      go_region
      all_goals
        go_wp2
        refine ⟨⟨r &&& (r - 1), t + 1, by rw [HAND.out], by omega, HNX, Lib.hid ?_, Lib.hid ?_⟩, by rw [HAND.out]; simp [intOf]; omega⟩
        · rw [HSTP.out, HX.out]
          exact HSET.out wr.drew (Turn.drew _ _) _
        · exact HO.out.trans (((Out.refl wr b (p * s.size) s.size).drewN 1).trans (Out.setCell wr.drew b (p * s.size) s.size (p * s.size + j) _ (by omega) (by omega)))
end Go.Proofs.YtjhcjnalomdbnaaDoor.Dv
