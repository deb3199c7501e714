/-
  The document's Flip, beside the tables.
-/
import Derived.Test.YtlkhlagkfobaoaaBase
import Derived.Test.YtlkhlagkfobaoaaKitPick
import Derived.Test.YtlkhlagkfobaoaaCrcTab
import Derived.Laws.CopyOwn
import Derived.Laws.ShiftsVarLaws
import Derived.Laws.BitsAllLaws
namespace Go.Proofs.Ytlkhlagkfobaoaa.Crc
open Go.RowKit Bs

theorem xor_bit (x : Int) (s : Nat) (h0 : 0 ≤ x) (h1 : x < 256) (hs : s < 8) : bits BinOp.xor IntKind.u8 x (2 ^ s % 256) = ((x.toNat ^^^ 2 ^ s : Nat) : Int) := by
  have h2 : (2 : Nat) ^ s < 2 ^ 8 := Nat.pow_lt_pow_right (by decide) hs
  have e : (2 : Int) ^ s % 256 = ((2 ^ s : Nat) : Int) := by
    have h3 : (2 : Int) ^ s = ((2 ^ s : Nat) : Int) := by rw [Int.natCast_pow]; rfl
    rw [h3]
    generalize 2 ^ s = y at h2
    omega
  rw [e, u8_xor x _ h0 h1 (by omega) (by omega), Int.toNat_natCast]


theorem mask_rem (mask k : Nat) : ((mask : Int) / 2 ^ k).tmod 2 = ((mask / 2 ^ k % 2 : Nat) : Int) := by
  have e : (mask : Int) / 2 ^ k = ((mask / 2 ^ k : Nat) : Int) := by rw [Int.natCast_ediv, Int.natCast_pow]; rfl
  rw [e, Int.tmod_eq_emod_of_nonneg (Int.natCast_nonneg _)]
  rfl

/-- A copy with bits inverted: new memory that reads as l. -/
def NewF (w : World) (n : Nat) (l : List Int) (e : Ending) (w' : World) : Prop :=
  ∃ g c, e = .returned (.slice (some ⟨g, 0, none⟩) n c) ∧ w'.ownsRow w.heap.size 5 1 (.slice (some ⟨g, 0, none⟩) n c) n (l.map (Value.int .u8)) ∧ w.grownBy w' none


set_option maxRecDepth 100000 in
set_option maxHeartbeats 1000000 in
theorem rflip_any (a : Option Addr) (n c : Nat) (l : List Int) (bit m : Int) (mask : Nat) (w : World) (hs : Seg w a n c l) (hb : Bs.IsB l) (hn : n ≤ 140737488355328) (hbit : bit ≤ 9223372036854775807) :
    Calls Try.prog 18 #[.slice a n c, .int .i64 bit, .int .i64 m, .int .u32 mask] w (NewF w n (flip l bit m mask)) := by
  obtain ⟨i0, hi, hz0, hz1, hz2⟩ := info_parts info_u8
  have hmade := World.ownsRow_made (base := w.heap.size) (e := 5) (size := 1) w #[] 0 (Nat.le_refl _) (by unfold maxLen; omega) rfl
  have hga := World.grownBy_alloc w (.cells #[] 5) none
  have HM := Lib.hid hmade
  have HA := Lib.hid hga
  have HS := Lib.hid (hs.grown hga)
  have HB := Lib.hid hb
  have HL := Lib.hid hs.len
  clear hb hs hmade hga
  by_cases hc : m < 0 ∨ 32 < m ∨ bit < 0
  · have HF := Lib.hid (show flip l bit m mask = l from if_pos hc)
    have hc3 : bit < 0 ∨ (0 ≤ bit ∧ m < 0) ∨ (0 ≤ bit ∧ 0 ≤ m ∧ 32 < m) := by omega
    clear hc
    rcases hc3 with hc | ⟨h1, h2⟩ | ⟨h1, h2, h3⟩
    all_goals
      go_enter Try.func18, Try.ntmps18
      go_wp2_with (at_builtin; refine wpList_append_seg rfl (.tmp 11) (.tmp 12) 37 rfl w.heap.size 5 i0 Try.underlying37 hi hz0 hz1 hz2 w.heap.size 0 0 [] rfl HM.out a n c l rfl HS.out (by omega) (by simp) ?_; intro g1 c1 w1 hown1 hgrow1; simp only [Nat.zero_add, List.nil_append] at hown1 ⊢)
      have HO := Lib.hid hown1
      have HG := Lib.hid (grownBy_trans HA.out hgrow1 (fun i e => by cases e; exact Nat.le_refl _))
      clear hown1 hgrow1
      go_ret
      exact ⟨_, _, rfl, by rw [HF.out]; exact HO.out, HG.out⟩
  · obtain ⟨B, rfl⟩ : ∃ B : Nat, bit = (B : Int) := ⟨bit.toNat, by omega⟩
    obtain ⟨M, rfl⟩ : ∃ M : Nat, m = (M : Int) := ⟨m.toNat, by omega⟩
    have hM : M ≤ 32 := by omega
    have HF := Lib.hid (show flip l B M mask = flipTo l B mask M from by unfold flip; rw [if_neg hc]; rfl)
    clear hc
    go_enter Try.func18, Try.ntmps18
    go_wp2_with (at_builtin; refine wpList_append_seg rfl (.tmp 11) (.tmp 12) 37 rfl w.heap.size 5 i0 Try.underlying37 hi hz0 hz1 hz2 w.heap.size 0 0 [] rfl HM.out a n c l rfl HS.out (by omega) (by simp) ?_; intro g1 c1 w1 hown1 hgrow1; simp only [Nat.zero_add, List.nil_append] at hown1 ⊢)
    have HO := Lib.hid hown1
    have HG := Lib.hid (grownBy_trans HA.out hgrow1 (fun i e => by cases e; exact Nat.le_refl _))
    have HG1 := Lib.hid (show w.heap.size ≤ g1 from (hown1.lt _ rfl).1)
    clear hown1 hgrow1
    go_loopw [10] (fun i wr => ∃ k : Nat, k ≤ M ∧ i = .int .i64 k ∧ Hid (wr.ownsRow w.heap.size 5 1 (.slice (some ⟨g1, 0, none⟩) n c1) n ((flipTo l B mask k).map (Value.int .u8))) ∧ Hid (w.grownBy wr none)) (fun i _ => M - (intOf i).toNat)
    case atStart => exact ⟨0, Nat.zero_le _, rfl, HO.out, HG.out⟩
    case round =>
      obtain ⟨k, hk, rfl, HR, HQ⟩ := hrel
      by_cases hlt : k < M
      · by_cases hp : 8 * n ≤ B + k
        · have HP := Lib.hid (flipTo_past l B mask k (by rw [HL.out]; exact hp) (M - k))
          by_cases hq : 8 * n ≤ B
          all_goals
            go_wp2
            go_ret
            exact ⟨_, _, rfl, by rw [HF.out, show M = k + (M - k) from by omega, HP.out]; exact HR.out, HQ.out⟩
        · have HT := Lib.hid (show flipTo l B mask (k + 1) = if mask / 2 ^ k % 2 = 1 then inv (flipTo l B mask k) (B + k) else flipTo l B mask k from rfl)
          have hBk := flipTo_isB l B mask HB.out k
          have hlk : (flipTo l B mask k).length = n := by rw [flipTo_length, HL.out]
          have hem := mask_rem mask k
          have hq1 : (B : Int) < 8 * (n : Int) := by omega
          have hq2 : (k : Int) < 8 * (n : Int) - (B : Int) := by omega
          by_cases h1 : mask / 2 ^ k % 2 = 1
          · have e2 : (((mask / 2 ^ k % 2 : Nat) : Int) == 1) = true := by rw [h1]; rfl
            rw [if_pos h1] at HT
            clear h1
            generalize mask / 2 ^ k % 2 = z at hem e2
            have hcell := HR.out.cellAt ((B + k) / 8) (by omega)
            have hfree := HR.out.frozenAt ((B + k) / 8)
            have HS1 := Lib.hid (HR.out.stored ((B + k) / 8))
            have hx := isB_getD hBk ((B + k) / 8)
            have HE := Lib.hid (inv_set (flipTo l B mask k) (B + k) (by omega))
            have hs8 : (B + k) % 8 < 8 := by omega
            rw [List.getElem?_map, List.getElem?_eq_getElem (by omega)] at hcell
            simp only [Option.map_some] at hcell
            have e3 : (flipTo l B mask k)[(B + k) / 8]'(by omega) = (flipTo l B mask k).getD ((B + k) / 8) 0 := by simp [List.getD, show (B + k) / 8 < (flipTo l B mask k).length by omega]
            rw [e3] at hcell
            have q1 : ((B : Int) + k) / 8 = (((B + k) / 8 : Nat) : Int) := by omega
            have q2 : ((B : Int) + k) % 8 = (((B + k) % 8 : Nat) : Int) := by omega
            have hjn : (B + k) / 8 < n := by omega
            clear e3 hBk hlk
            generalize (flipTo l B mask k).getD ((B + k) / 8) 0 = x at hcell hx HE
            generalize (B + k) / 8 = j at *
            generalize (B + k) % 8 = s at *
            have HX := Lib.hid (xor_bit x s hx.1 hx.2 hs8)
            go_wp2
            go_roundw
            case rel =>
              refine ⟨k + 1, by omega, by go_num, ?_, ?_⟩
              · show _ = _ ∧ _
                rw [HT.out, HE.out, HX.out, List.map_set]
                exact (HS1.out _).1
              · exact grownBy_trans HQ.out (HS1.out _).2 (fun i e => by cases e; exact HG1.out)
            case measure => simp [intOf]; omega
          · rw [if_neg h1] at HT
            generalize mask / 2 ^ k % 2 = z at hem h1
            have e2 : ((z : Int) == 1) = false := by simp; omega
            clear h1 hBk hlk
            go_wp2
            go_roundw
            case rel => exact ⟨k + 1, by omega, by go_num, by rw [HT.out]; exact HR.out, HQ.out⟩
            case measure => simp [intOf]; omega
      · obtain rfl : k = M := by omega
        go_wp2
        go_ret
        exact ⟨_, _, rfl, by rw [HF.out]; exact HR.out, HQ.out⟩

end Go.Proofs.Ytlkhlagkfobaoaa.Crc
