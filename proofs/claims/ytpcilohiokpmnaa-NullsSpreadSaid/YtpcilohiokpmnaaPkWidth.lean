/-
  Width; the document's bits and Width.
-/
import Derived.Test.YtpcilohiokpmnaaPkSmall
namespace Go.Proofs.Ytpcilohiokpmnaa.Pk
open Go.RowKit Bs

theorem wid_bd {l : List Int} (h : IsU l) : 0 ≤ (wid l : Int) ∧ (wid l : Int) ≤ 64 := by have := wid_64 h; omega
theorem maxN_bd {l : List Int} (h : IsU l) : (maxN l : Int) < 18446744073709551616 := by
  have := (maxN_lt l 64).2 (fun x hx => (h.fit x hx).2); omega
theorem take_u {l : List Int} (h : IsU l) (k : Nat) : IsU (l.take k) := fun x hx => h x (List.mem_of_mem_take hx)
theorem take_getD (l : List Int) (k : Nat) (h : k < l.length) : l.take (k + 1) = l.take k ++ [l.getD k 0] := by
  rw [List.take_succ_eq_append_getElem h, List.getD_eq_getElem?_getD, List.getElem?_eq_getElem h]; rfl
theorem getD_u {l : List Int} (h : IsU l) {k : Nat} (hk : k < l.length) : 0 ≤ l.getD k 0 ∧ l.getD k 0 < 18446744073709551616 := by
  rw [List.getD_eq_getElem?_getD, List.getElem?_eq_getElem hk]
  exact h _ (List.getElem_mem hk)
theorem max_step (l : List Int) (k : Nat) (h : k < l.length) (x : Int) (hx : l.getD k 0 = x) (h0 : 0 ≤ x) : (maxN (l.take (k + 1)) : Int) = max (maxN (l.take k) : Int) x := by
  rw [take_getD l k h, maxN_snoc, hx]; omega

set_option maxHeartbeats 400000 in
theorem width_any (a : Option Addr) (n c : Nat) (l : List Int) (w : World) (hs : Us.Seg w a n c l) (hu : IsU l) :
    Calls Try.prog 48 #[.slice a n c] w fun e w' => e = .returned (.int .i64 (wid l : Int)) ∧ w = w' := by
  have hm := hs.cap
  have hle := hs.le
  have HLen := Lib.hid hs.len
  unfold maxLen at hm
  have HU := Lib.hid hu
  have HW : Hid (∀ x, x = (maxN l : Int) → ∀ w, Calls Try.prog 63 #[.int .u64 x] w fun e w' => e = .returned (.int .i64 (wid l : Int)) ∧ w = w') := Lib.hid (fun x hx w => by
    have h := len_bl (maxN l : Int) w (by omega) (maxN_bd hu)
    rw [Int.toNat_natCast] at h
    rw [hx]; exact h)
  by_cases hn : n = 0
  · subst hn
    have hl := List.eq_nil_of_length_eq_zero hs.len
    have HW0 : Hid (∀ w, Calls Try.prog 63 #[.int .u64 0] w fun e w' => e = .returned (.int .i64 (wid l : Int)) ∧ w = w') := Lib.hid (HW.out 0 (by rw [hl]; rfl))
    generalize wid l = W at HW0 ⊢
    clear hs hl HW HU HLen hu
    go_enter Try.func48, Try.ntmps48
    go_wp2
    refine wp_loop_rounds 1 ?_
    rw [rounds_succ]
    go_wp2_with (go_at_call 63; refine (HW0.out _).mono ?_; rintro e w' ⟨rfl, rfl⟩)
    go_ret
    exact ⟨rfl, rfl⟩
  · obtain ⟨g, o, rfl, hc⟩ := hs.addr (by omega)
    have HC := Lib.hid hc
    obtain ⟨W, hW⟩ : ∃ W, wid l = W := ⟨_, rfl⟩
    rw [hW] at HW ⊢
    clear hW hs hc hu
    go_enter Try.func48, Try.ntmps48
    go_wp2
    go_loop [3, 8] (fun gr i => ∃ k m : Nat, k ≤ n ∧ i = .int .i64 k ∧ gr = .int .u64 m ∧ Hid ((maxN (l.take k)) = m)) (fun _ i => n - (intOf i).toNat)
    case atStart => exact ⟨0, 0, Nat.zero_le _, rfl, rfl, rfl⟩
    case round =>
      obtain ⟨k, m, hk, rfl, rfl, HM⟩ := hrel
      by_cases hlt : k < n
      · have q := HC.out k hlt
        have hx := getD_u HU.out (show k < l.length by rw [HLen.out]; exact hlt)
        have HS := Lib.hid (max_step l k (by rw [HLen.out]; exact hlt) _ rfl hx.1)
        have hmb := maxN_bd (take_u HU.out k)
        rw [HM.out] at hmb HS
        generalize l.getD k 0 = x at q hx HS
        by_cases hgt : (m : Int) ≤ x
        · go_wp2
          go_round
          case rel => exact ⟨k + 1, x.toNat, by omega, by go_num, by rw [Int.toNat_of_nonneg hx.1]; first | rfl | (congr 1; omega), Lib.hid (by have := HS.out; omega)⟩
          case measure => simp [intOf]; omega
        · go_wp2
          go_round
          case rel => exact ⟨k + 1, m, by omega, by go_num, by first | rfl | (congr 1; omega), Lib.hid (by have := HS.out; omega)⟩
          case measure => simp [intOf]; omega
      · obtain rfl : k = n := by omega
        have HW2 := Lib.hid (HW.out (m : Int) (by rw [← HM.out, List.take_of_length_le (Nat.le_of_eq HLen.out)]))
        go_wp2_with (go_at_call 63; refine (HW2.out _).mono ?_; rintro e w' ⟨rfl, rfl⟩)
        go_ret
        exact ⟨rfl, rfl⟩

set_option maxHeartbeats 400000 in
theorem bits_any (x : Int) (w : World) (h0 : 0 ≤ x) (h1 : x < 18446744073709551616) :
    Calls Try.prog 67 #[.int .u64 x] w fun e w' => e = .returned (.int .i64 (bl x.toNat : Int)) ∧ w = w' := by
  have hb : bl x.toNat ≤ 64 := (bl_le _ _).2 (by omega)
  obtain ⟨B, hB⟩ : ∃ B, bl x.toNat = B := ⟨_, rfl⟩
  rw [hB] at hb ⊢
  have HB := Lib.hid hB
  clear hB
  go_enter Try.func67, Try.ntmps67
  go_wp2
  go_loop [0, 3] (fun v i => ∃ u k : Nat, v = .int .u64 u ∧ i = .int .i64 k ∧ u < 18446744073709551616 ∧ Hid (bl u + k = B)) (fun v _ => (intOf v).toNat)
  case atStart => exact ⟨x.toNat, 0, by rw [Int.toNat_of_nonneg h0], rfl, by omega, Lib.hid HB.out⟩
  case round =>
    obtain ⟨u, k, rfl, rfl, hu, HK⟩ := hrel
    by_cases hz : u = 0
    · subst hz
      have HE : Hid (k = B) := Lib.hid (by have := HK.out; rw [bl_zero] at this; omega)
      go_wp2
      go_ret
      exact ⟨ret_int (by rw [HE.out]), rfl⟩
    · have hk : k < 64 := by have := HK.out; have := bl_half u hz; omega
      have HK2 : Hid (bl (u / 2) + (k + 1) = B) := Lib.hid (by have := HK.out; have := bl_half u hz; omega)
      have hp : 0 < u := by omega
      clear hz
      go_wp2
      go_round
      case rel => exact ⟨u / 2, k + 1, by first | rfl | (congr 1) | (congr 1; omega), by go_num, by omega, HK2.out⟩
      case measure => simp [intOf]; omega

theorem wid_step (l : List Int) (k : Nat) (h : k < l.length) (x : Int) (hx : l.getD k 0 = x) : (wid (l.take (k + 1)) : Int) = max (wid (l.take k) : Int) (bl x.toNat : Int) := by
  rw [take_getD l k h, wid_snoc, hx]; omega

set_option maxHeartbeats 400000 in
theorem rwidth_any (a : Option Addr) (n c : Nat) (l : List Int) (w : World) (hs : Us.Seg w a n c l) (hu : IsU l) :
    Calls Try.prog 60 #[.slice a n c] w fun e w' => e = .returned (.int .i64 (wid l : Int)) ∧ w = w' := by
  have hm := hs.cap
  have hle := hs.le
  have HLen := Lib.hid hs.len
  unfold maxLen at hm
  have HU := Lib.hid hu
  by_cases hn : n = 0
  · subst hn
    have hl := List.eq_nil_of_length_eq_zero hs.len
    subst hl
    rw [wid_nil]
    clear hs HU HLen hu
    go_enter Try.func60, Try.ntmps60
    go_wp2
    refine wp_loop_rounds 1 ?_
    rw [rounds_succ]
    go_wp2
    go_ret
    exact ⟨rfl, rfl⟩
  · obtain ⟨g, o, rfl, hc⟩ := hs.addr (by omega)
    have HC := Lib.hid hc
    obtain ⟨W, hW⟩ : ∃ W, wid l = W := ⟨_, rfl⟩
    rw [hW]
    have HW := Lib.hid hW
    clear hW hs hc hu
    go_enter Try.func60, Try.ntmps60
    go_wp2
    go_loop [3, 4] (fun gr i => ∃ k m : Nat, k ≤ n ∧ i = .int .i64 k ∧ gr = .int .i64 m ∧ Hid (wid (l.take k) = m)) (fun _ i => n - (intOf i).toNat)
    case atStart => exact ⟨0, 0, Nat.zero_le _, rfl, rfl, rfl⟩
    case round =>
      obtain ⟨k, m, hk, rfl, rfl, HM⟩ := hrel
      by_cases hlt : k < n
      · have q := HC.out k hlt
        have hx := getD_u HU.out (show k < l.length by rw [HLen.out]; exact hlt)
        have HS := Lib.hid (wid_step l k (by rw [HLen.out]; exact hlt) _ rfl)
        have hmb := wid_64 (take_u HU.out k)
        rw [HM.out] at hmb HS
        generalize l.getD k 0 = x at q hx HS
        have HBB := Lib.hid (fun w => bits_any x w hx.1 hx.2)
        generalize bl x.toNat = y at HS HBB
        by_cases hgt : m ≤ y
        · go_wp2_with (go_at_call 67; refine (HBB.out _).mono ?_; rintro e w' ⟨rfl, rfl⟩)
          go_round
          case rel => exact ⟨k + 1, y, by omega, by go_num, by first | rfl | (congr 1; omega), Lib.hid (by have := HS.out; omega)⟩
          case measure => simp [intOf]; omega
        · go_wp2_with (go_at_call 67; refine (HBB.out _).mono ?_; rintro e w' ⟨rfl, rfl⟩)
          go_round
          case rel => exact ⟨k + 1, m, by omega, by go_num, by first | rfl | (congr 1; omega), Lib.hid (by have := HS.out; omega)⟩
          case measure => simp [intOf]; omega
      · obtain rfl : k = n := by omega
        have HE : Hid (W = m) := Lib.hid (by rw [← HM.out, List.take_of_length_le (Nat.le_of_eq HLen.out), HW.out])
        go_wp2
        go_ret
        exact ⟨ret_int (by rw [HE.out]), rfl⟩
end Go.Proofs.Ytpcilohiokpmnaa.Pk
