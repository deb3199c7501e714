/-
  May texts be put: canPut, over slices.ContainsFunc and slices.IndexFunc.
-/
import Derived.Test.YtgbpmpeknbaccaaTxNum
namespace Go.Proofs.Ytgbpmpeknbaccaa.Tx
open Go.RowKit
open Ss (IsS)

/-- the place of the first text that is too long, or -1 -/
def longI (l : List (List Int)) : Int := match l.findIdx? (fun s => decide (65536 < s.length)) with
  | some i => (i : Int)
  | none => -1
theorem longI_at (l : List (List Int)) (k : Nat) (hk : k < l.length) (h : ∀ s ∈ l.take k, s.length ≤ 65536) (hl : 65536 < (l.getD k []).length) : longI l = (k : Int) := by
  have : l.findIdx? (fun s => decide (65536 < s.length)) = some k := by
    rw [List.findIdx?_eq_some_iff_getElem]
    refine ⟨hk, ?_, fun j hj => ?_⟩
    · rw [List.getD_eq_getElem?_getD, List.getElem?_eq_getElem hk] at hl
      simpa using hl
    · have := h (l[j]'(by omega)) (List.mem_take_iff_getElem.2 ⟨j, by omega, rfl⟩)
      simpa using this
  rw [longI, this]
theorem longI_no (l : List (List Int)) (h : ∀ s ∈ l, s.length ≤ 65536) : longI l = -1 := by
  have : l.findIdx? (fun s => decide (65536 < s.length)) = none := by
    rw [List.findIdx?_eq_none_iff]
    intro s hs
    have := h s hs
    simpa using this
  rw [longI, this]
theorem longI_iff (l : List (List Int)) : 0 ≤ longI l ↔ ¬ ∀ s ∈ l, s.length ≤ 65536 := by
  unfold longI
  cases hf : l.findIdx? (fun s => decide (65536 < s.length)) with
  | some i =>
    obtain ⟨hk, h1, _⟩ := List.findIdx?_eq_some_iff_getElem.1 hf
    refine ⟨fun _ h => ?_, fun _ => by simp⟩
    have := h _ (List.getElem_mem hk)
    simp at h1
    omega
  | none =>
    refine ⟨fun h => by simp at h, fun h => absurd (fun s hs => ?_) h⟩
    have := List.findIdx?_eq_none_iff.1 hf s hs
    simpa using this
theorem take_snoc_all {l : List (List Int)} {k : Nat} (hk : k < l.length) (h : ∀ s ∈ l.take k, s.length ≤ 65536) (hl : (l.getD k []).length ≤ 65536) : ∀ s ∈ l.take (k + 1), s.length ≤ 65536 := by
  intro s hs
  rw [List.take_succ_eq_append_getElem hk] at hs
  rcases List.mem_append.1 hs with hs | hs
  · exact h s hs
  · rw [List.mem_singleton.1 hs]
    rw [List.getD_eq_getElem?_getD, List.getElem?_eq_getElem hk] at hl
    simpa using hl

theorem isLong_any (x : List Int) (w : World) : Calls Try.prog 51 #[.string (strOfNums x)] w fun e w' => e = .returned (.bool (decide (65536 < (x.length : Int)))) ∧ w = w' := by
  have hs := strOfNums_size x
  obtain ⟨m, hm⟩ : ∃ m, x.length = m := ⟨_, rfl⟩
  rw [hm] at hs ⊢
  clear hm
  go_enter Try.func51, Try.ntmps51
  go_wp2
  go_ret
  exact ⟨rfl, rfl⟩

set_option maxHeartbeats 400000 in
theorem indexLong_any (a : Option Addr) (n c : Nat) (l : List (List Int)) (w : World) (hs : Ss.Seg w a n c l) :
    Calls Try.prog 76 #[.slice a n c, .func (.func 51) #[] #[]] w fun e w' => e = .returned (.int .i64 (longI l)) ∧ ∃ m, w' = w.drewN m := by
  have hm := hs.cap
  have hle := hs.le
  unfold maxLen at hm
  have HL := Lib.hid hs.len
  have HS := Lib.hid hs
  clear hs
  go_enter Try.func76, Try.ntmps76
  go_wp2
  go_loopw [8] (fun si wr => ∃ k m : Nat, k ≤ n ∧ si = .int .i64 k ∧ wr = w.drewN m ∧ Hid (∀ s ∈ l.take k, s.length ≤ 65536)) (fun si _ => n - (intOf si).toNat)
  case atStart => exact ⟨0, 0, Nat.zero_le _, rfl, rfl, Lib.hid fun s hs => by simp at hs⟩
  case round =>
    obtain ⟨k, m, hk, rfl, rfl, HK⟩ := hrel
    by_cases hlt : k < n
    · obtain ⟨g, o, rfl, hc⟩ := HS.out.addr (by omega)
      have q0 := hc k hlt
      obtain ⟨x, hx⟩ : ∃ x, l.getD k [] = x := ⟨_, rfl⟩
      rw [hx] at q0
      have HC := Lib.hid (fun W => isLong_any x W)
      by_cases hlong : 65536 < x.length
      · have HF : Hid (longI l = (k : Int)) := Lib.hid (longI_at l k (by rw [HL.out]; exact hlt) HK.out (by rw [hx]; exact hlong))
        have hd : decide (65536 < (x.length : Int)) = true := decide_eq_true (by omega)
        rw [hd] at HC
        clear hc hx hlong hd
        go_wp2_with (go_at_call 51; refine (HC.out _).mono ?_; rintro e w' ⟨rfl, rfl⟩)
        go_ret
        exact ⟨Bs.ret_int HF.out.symm, m, rfl⟩
      · have HF : Hid (∀ s ∈ l.take (k + 1), s.length ≤ 65536) := Lib.hid (take_snoc_all (by rw [HL.out]; exact hlt) HK.out (by rw [hx]; omega))
        have hd : decide (65536 < (x.length : Int)) = false := decide_eq_false (by omega)
        rw [hd] at HC
        clear hc hx hlong hd
        go_wp2_with (go_at_call 51; refine (HC.out _).mono ?_; rintro e w' ⟨rfl, rfl⟩)
        go_roundw
        case rel => exact ⟨k + 1, m, by omega, by go_num, by simp, HF⟩
        case measure => simp [intOf]; omega
    · obtain rfl : k = n := by omega
      have HF : Hid (longI l = -1) := Lib.hid (longI_no l (by have := HK.out; rwa [List.take_of_length_le (Nat.le_of_eq HL.out)] at this))
      go_wp2
      go_ret
      exact ⟨Bs.ret_int HF.out.symm, m, rfl⟩

set_option maxHeartbeats 400000 in
theorem anyLong_any (a : Option Addr) (n c : Nat) (l : List (List Int)) (w : World) (hs : Ss.Seg w a n c l) :
    Calls Try.prog 50 #[.slice a n c, .func (.func 51) #[] #[]] w fun e w' => e = .returned (.bool (decide (0 ≤ longI l))) ∧ ∃ m, w' = w.drewN m := by
  have HC := Lib.hid (indexLong_any a n c l w hs)
  obtain ⟨x, hx⟩ : ∃ x, longI l = x := ⟨_, rfl⟩
  rw [hx] at HC ⊢
  clear hs hx
  go_enter Try.func50, Try.ntmps50
  go_wp2_with (go_at_call 76; refine HC.out.mono ?_; rintro e w' ⟨rfl, m, rfl⟩)
  go_ret
  exact ⟨rfl, m, rfl⟩

set_option maxHeartbeats 400000 in
theorem canPut_any (a : Option Addr) (n c : Nat) (l : List (List Int)) (w : World) (hs : Ss.Seg w a n c l) :
    Calls Try.prog 26 #[.slice a n c] w fun e w' => e = .returned (.bool (okB l)) ∧ ∃ m, w' = w.drewN m := by
  have HC := Lib.hid (anyLong_any a n c l w hs)
  have HL := Lib.hid hs.len
  by_cases hn : n ≤ 4096
  · have hok : okB l = !decide (0 ≤ longI l) := by
      have h1 := okB_iff l
      have h2 := longI_iff l
      by_cases h : 0 ≤ longI l
      · rw [decide_eq_true h]
        refine Bool.eq_false_iff.2 fun k => h2.1 h (h1.1 k).2
      · rw [decide_eq_false h]
        exact h1.2 ⟨by rw [HL.out]; exact hn, Classical.byContradiction fun k => h (h2.2 k)⟩
    have HO := Lib.hid hok
    clear hok hs
    obtain ⟨y, hy⟩ : ∃ y, decide (0 ≤ longI l) = y := ⟨_, rfl⟩
    rw [hy] at HC HO
    clear hy
    have hn' : (n : Int) ≤ 4096 := by omega
    go_enter Try.func26, Try.ntmps26
    go_wp2_with (go_at_call 50; refine HC.out.mono ?_; rintro e w' ⟨rfl, m, rfl⟩)
    go_ret
    exact ⟨Bs.ret_bool HO.out.symm, m, rfl⟩
  · have hok : okB l = false := Bool.eq_false_iff.2 fun k => hn (by have := ((okB_iff l).1 k).1; rwa [HL.out] at this)
    have HO := Lib.hid hok
    clear hok hs HC
    have hn' : ¬ (n : Int) ≤ 4096 := by omega
    go_enter Try.func26, Try.ntmps26
    go_wp2
    go_ret
    exact ⟨Bs.ret_bool HO.out.symm, 0, rfl⟩
end Go.Proofs.Ytgbpmpeknbaccaa.Tx
