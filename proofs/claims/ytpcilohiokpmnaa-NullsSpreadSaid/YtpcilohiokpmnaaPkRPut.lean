/-
  The document's Put.
-/
import Derived.Test.YtpcilohiokpmnaaPkForm
namespace Go.Proofs.Ytpcilohiokpmnaa.Pk
open Go.RowKit Bs Dv

theorem getL_0 (S : Nat) : getL 8 0 S = List.replicate S 0 := by
  unfold getL
  apply List.ext_getElem
  · simp
  · intro i h1 h2
    simp
/-- one bit more, above all the others -/
theorem getL_set (M p S : Nat) (hM : M < 2 ^ p) (hp : p / 8 < S) : getL 8 (M + 2 ^ p) S = (getL 8 M S).set (p / 8) ((M / 2 ^ (p / 8 * 8) + 2 ^ (p % 8) : Nat) : Int) := by
  have hpe : 2 ^ p = 2 ^ (p / 8 * 8) * 2 ^ (p % 8) := by rw [← Nat.pow_add]; congr 1; omega
  have hT : M / 2 ^ (p / 8 * 8) < 2 ^ (p % 8) := Nat.div_lt_of_lt_mul (by rw [← hpe]; exact hM)
  have h7 : 2 ^ (p % 8) ≤ 2 ^ 7 := Nat.pow_le_pow_right (by decide) (by omega)
  apply List.ext_getElem?
  intro j
  rw [List.getElem?_set]
  by_cases hj : j < S
  · rw [getL_at? 8 _ S j hj]
    by_cases he : p / 8 = j
    · rw [if_pos he, if_pos (by rw [getL_length]; omega), ← he]
      congr 2
      rw [hpe, Nat.add_mul_div_left _ _ (two_pos _)]
      exact Nat.mod_eq_of_lt (by omega)
    · rw [if_neg he, getL_at? 8 _ S j hj]
      congr 2
      by_cases hlt : j < p / 8
      · have e2 : 2 ^ p = 2 ^ (j * 8) * (2 ^ 8 * 2 ^ (p - j * 8 - 8)) := by rw [← Nat.pow_add, ← Nat.pow_add]; congr 1; omega
        rw [e2, Nat.add_mul_div_left _ _ (two_pos _), Nat.add_mul_mod_self_left]
      · have h3 : 2 ^ (p + 1) ≤ 2 ^ (j * 8) := Nat.pow_le_pow_right (by decide) (by omega)
        rw [Nat.pow_succ] at h3
        rw [Nat.div_eq_of_lt (show M + 2 ^ p < 2 ^ (j * 8) by omega), Nat.div_eq_of_lt (show M < 2 ^ (j * 8) by omega)]
  · rw [List.getElem?_eq_none (by rw [getL_length]; omega), if_neg (by omega), List.getElem?_eq_none (by rw [getL_length]; omega)]
theorem or_bit (T r : Nat) (hT : T < 2 ^ r) (hr : r < 8) : bits .or .u8 (T : Int) (2 ^ r % 256) = ((T + 2 ^ r : Nat) : Int) := by
  have h7 : 2 ^ r ≤ 2 ^ 7 := Nat.pow_le_pow_right (by decide) (by omega)
  have e : (2 : Int) ^ r % 256 = ((2 ^ r : Nat) : Int) := by
    rw [show (2 : Int) ^ r = ((2 ^ r : Nat) : Int) from by rw [Int.natCast_pow]; rfl]; omega
  rw [e, u8_or_nat T _ (by omega) (by omega)]
  have := or_add T 1 r hT
  rw [Nat.one_mul] at this
  rw [this]
theorem rem2 (x k : Nat) : ((x : Int) / 2 ^ k).tmod 2 = ((x / 2 ^ k % 2 : Nat) : Int) := by
  have e : (x : Int) / 2 ^ k = ((x / 2 ^ k : Nat) : Int) := by rw [Int.natCast_ediv, Int.natCast_pow]; rfl
  rw [e, Int.tmod_eq_emod_of_nonneg (Int.natCast_nonneg _)]
  omega
theorem bit_acc (x k : Nat) : x % 2 ^ (k + 1) = x % 2 ^ k + x / 2 ^ k % 2 * 2 ^ k := by rw [← acc_at, Nat.pow_one]

theorem make_full (S : Nat) (hS : S ≤ 100000000) (W : World) : (Instr.makeSlice 23 (.int .i64 (S : Int)) (.int .i64 (S : Int))).run Try.prog W = .ok (.slice (some ⟨W.heap.size, 0, none⟩) S S) (W.alloc (.cells (room S) 5)) := by
  obtain ⟨i0, hi, hz0, hz1, hz2⟩ := info_parts info_u8
  have h := run_make (P := Try.prog) W 23 5 i0 (.int .u8 0) Try.underlying23 hi hz0 .i64 .i64 (S : Int) (S : Int) (by omega) (by omega) (by rw [hz2]; omega) (by omega)
  rw [hz1, Int.toNat_natCast, Nat.mul_one] at h
  exact h
theorem full_own (W : World) (S : Nat) (hS : S ≤ 100000000) : (W.alloc (.cells (room S) 5)).ownsRow W.heap.size 5 1 (.slice (some ⟨W.heap.size, 0, none⟩) S S) S ((getL 8 0 S).map (Value.int .u8)) :=
  ⟨by simp [getL_length], .inr ⟨W.heap.size, S, room S, rfl, Nat.le_refl _, heap_alloc_new W _, Nat.le_refl _, by unfold maxLen; omega, by rw [room_size, Nat.mul_one], by
    rw [getL_0, List.map_replicate, show (room S).toList = List.replicate S (.int .u8 0) from toList_madeCells_one _ _]; exact List.take_of_length_le (by simp)⟩⟩

set_option maxHeartbeats 1000000 in
theorem rput_no_any (a : Option Addr) (n c : Nat) (l : List Int) (v : Int) (w : World) (hs : Us.Seg w a n c l) (hu : IsU l) (hno : ¬ (putR l v).1 = 0) :
    Calls Try.prog 35 #[.slice a n c, .int .i64 v] w (PutX w (putR l v)) := by
  have hlen := hs.len
  cases hc : canB l.length v with
  | false =>
    have HP := Lib.hid (put_err (putR l v) 2 w (putR_can hc) (by decide))
    have HB : Hid (∀ w, Calls Try.prog 59 #[.int .i64 n, .int .i64 v] w fun e w' => e = .returned (.bool false) ∧ w = w') := Lib.hid (fun w => by have := may_any n v w; rwa [← hlen, hc, hlen] at this)
    generalize putR l v = R at HP ⊢
    clear hc hno hs hlen
    go_enter Try.func35, Try.ntmps35
    go_wp2_with (go_at_call 59; refine (HB.out _).mono ?_; rintro e w' ⟨rfl, rfl⟩)
    go_ret2
    exact HP.out
  | true =>
    have hw : ¬ (wid l : Int) ≤ v := fun h => hno ((put_ok l v).2 ⟨hc, h⟩)
    have HP := Lib.hid (put_err (putR l v) 3 w (putR_wid hc hw) (by decide))
    have HB : Hid (∀ w, Calls Try.prog 59 #[.int .i64 n, .int .i64 v] w fun e w' => e = .returned (.bool true) ∧ w = w') := Lib.hid (fun w => by have := may_any n v w; rwa [← hlen, hc, hlen] at this)
    have HW := Lib.hid (rwidth_any a n c l w hs hu)
    have hgt : v < (wid l : Int) := by omega
    have hb := wid_bd hu
    generalize putR l v = R at HP ⊢
    generalize wid l = W at HW hgt hb
    clear hc hno hs hlen hw
    go_enter Try.func35, Try.ntmps35
    go_wp2_with (first
      | (go_at_call 59; refine (HB.out _).mono ?_; rintro e w' ⟨rfl, rfl⟩)
      | (go_at_call 60; refine HW.out.mono ?_; rintro e w' ⟨rfl, rfl⟩))
    go_ret2
    exact HP.out

theorem putX_own {w w' : World} {g S N : Nat} (h : w'.ownsRow w.heap.size 5 1 (.slice (some ⟨g, 0, none⟩) S S) S ((getL 8 N S).map (Value.int .u8))) (hg : w.grownBy w' none) : PutX w ((0 : Int), getL 8 N S) (.returned (.tuple #[.slice (some ⟨g, 0, none⟩) S S, .int .i64 0])) w' := by
  have e : (((0 : Int), getL 8 N S) : Int × List Int).2.length = S := getL_length 8 N S
  refine ⟨some ⟨g, 0, none⟩, S, by rw [e], ?_, hg, fun _ => ⟨g, rfl, ?_⟩⟩
  · rw [e]; exact Seg.own h
  · rw [e]; exact h

set_option maxHeartbeats 2000000 in
theorem rput_yes_any (a : Option Addr) (n c : Nat) (l : List Int) (v : Nat) (w : World) (hs : Us.Seg w a n c l) (hu : IsU l) (hok : (putR l v).1 = 0) :
    Calls Try.prog 35 #[.slice a n c, .int .i64 (v : Int)] w (PutX w (putR l v)) := by
  have hlen := hs.len
  obtain ⟨hc, hw⟩ := (put_ok l v).1 hok
  have hc' := (canB_iff _ _).1 hc
  rw [putR_yes hc hw]
  have hf : Fit v l := (wid_le l v hu.nonneg).1 (by omega)
  have HF := Lib.hid hf
  have HB : Hid (∀ w, Calls Try.prog 59 #[.int .i64 n, .int .i64 (v : Int)] w fun e w' => e = .returned (.bool true) ∧ w = w') := Lib.hid (fun w => by have := may_any n v w; rwa [← hlen, hc, hlen] at this)
  have HW := Lib.hid (rwidth_any a n c l w hs hu)
  rw [hlen] at hc hc' ⊢
  have HS : Hid (∀ w, Calls Try.prog 41 #[.int .i64 n, .int .i64 (v : Int)] w fun e w' => e = .returned (.int .i64 (sizeN n v : Int)) ∧ w = w') := Lib.hid (fun w => by have := rsize_any n v w; rwa [sizeF_N hc] at this)
  have h8 := size8 n v
  have hszb := sizeF_bd n v
  rw [sizeF_N hc] at hszb
  obtain ⟨S, hS⟩ : ∃ S, sizeN n v = S := ⟨_, rfl⟩
  rw [hS] at HS h8 hszb ⊢
  have H8 := Lib.hid h8
  have hv64 : v ≤ 64 := by omega
  have hnle : n ≤ 65536 := by omega
  have hwb := wid_bd hu
  have HLen := Lib.hid hlen
  have HIU := Lib.hid hu
  have HSg := Lib.hid hs
  obtain ⟨R, hR⟩ : ∃ R, ((0 : Int), getL 8 (packN v l) S) = R := ⟨_, rfl⟩
  rw [hR]
  have HR := Lib.hid hR
  have hwv : (wid l : Int) ≤ (v : Int) := hw
  generalize wid l = W at HW hwv hwb
  have hmk := make_full S (by omega)
  have HO := Lib.hid (full_own w S (by omega))
  have HT0 := Lib.hid (Turn.alloc w (.cells (room S) 5) nowhere)
  have hcap := hs.cap
  have hle := hs.le
  unfold maxLen at hcap
  obtain ⟨gA, o, hform, hcell⟩ := seg_form hs
  have HCell := Lib.hid hcell
  have HForm := Lib.hid hform
  have hSb : S ≤ 524288 := by omega
  clear hcell hform hR hu hs hlen hS hok hc hc' hw hf hszb h8
  go_enter Try.func35, Try.ntmps35
  go_wp2_with (first
    | (go_at_call 59; refine (HB.out _).mono ?_; rintro e w' ⟨rfl, rfl⟩)
    | (go_at_call 60; refine HW.out.mono ?_; rintro e w' ⟨rfl, rfl⟩)
    | (go_at_call 41; refine (HS.out _).mono ?_; rintro e w' ⟨rfl, rfl⟩))
  clear hmk
  generalize w.alloc (.cells (room S) 5) = W0 at HO HT0 ⊢
  obtain ⟨g, hg⟩ : ∃ g, w.heap.size = g := ⟨_, rfl⟩
  have HG : Hid (w.heap.size = g) := Lib.hid hg
  rw [hg] at HO ⊢
  clear hg
  go_loopw [7] (fun si wr => ∃ i : Nat, i ≤ n ∧ si = .int .i64 i ∧ Hid (wr.ownsRow g 5 1 (.slice (some ⟨g, 0, none⟩) S S) S ((getL 8 (packN v (l.take i)) S).map (Value.int .u8))) ∧ Hid (Turn w wr nowhere)) (fun si _ => n - (intOf si).toNat)
  case atStart => exact ⟨0, Nat.zero_le _, rfl, HO, HT0⟩
  case round =>
    obtain ⟨i, hi, rfl, HRow, HT⟩ := hrel
    by_cases hlt : i < n
    · rcases HForm.out with rfl | hn0
      · have q0 := HCell.out i hlt
        have HQ := Lib.hid q0
        have hx := getD_u HIU.out (show i < l.length by rw [HLen.out]; exact hlt)
        have hfit : (l.getD i 0).toNat < 2 ^ v := by
          rw [List.getD_eq_getElem?_getD, List.getElem?_eq_getElem (show i < l.length by rw [HLen.out]; exact hlt)]
          exact (HF.out _ (List.getElem_mem _)).2
        have htk := take_getD l i (by rw [HLen.out]; exact hlt)
        have hX : packN v (l.take i) < 2 ^ (i * v) := by
          have h := packN_lt v (l.take i) (fun y hy => HF.out y (List.mem_of_mem_take hy))
          rwa [List.length_take, HLen.out, Nat.min_eq_left hi] at h
        have hNX : packN v (l.take (i + 1)) = packN v (l.take i) + (l.getD i 0).toNat * 2 ^ (i * v) := by
          rw [htk, packN_snoc, List.length_take, HLen.out, Nat.min_eq_left hi]
        obtain ⟨x, hx'⟩ := Int.eq_ofNat_of_zero_le hx.1
        rw [hx'] at HQ hfit hNX hx
        rw [Int.toNat_natCast] at hfit hNX
        have hbs : i * v + v ≤ S * 8 := by
          have h1 : (i + 1) * v ≤ n * v := Nat.mul_le_mul_right _ hlt
          rw [Nat.add_mul, Nat.one_mul] at h1
          have := H8.out.1
          omega
        have hiv : (i : Int) * (v : Int) = ((i * v : Nat) : Int) := by rw [Int.natCast_mul]
        have HNX := Lib.hid hNX
        have HXl := Lib.hid hX
        have HFx := Lib.hid hfit
        generalize packN v (l.take i) = M at HRow HNX HXl
        generalize i * v = iv at hbs hiv HNX HXl
        have hxb : x < 18446744073709551616 := by omega
        clear hx' hfit htk hX hNX hx q0
        go_wp2
        go_loopw [8] (fun sk wk => ∃ k : Nat, k ≤ v ∧ sk = .int .i64 k ∧ Hid (wk.ownsRow g 5 1 (.slice (some ⟨g, 0, none⟩) S S) S ((getL 8 (M + x % 2 ^ k * 2 ^ iv) S).map (Value.int .u8))) ∧ Hid (Turn w wk nowhere)) (fun sk _ => v - (intOf sk).toNat)
        case atStart => exact ⟨0, Nat.zero_le _, rfl, Lib.hid (by rw [Nat.pow_zero, Nat.mod_one, Nat.zero_mul, Nat.add_zero]; exact HRow.out), HT⟩
        case round =>
          obtain ⟨k, hk, rfl, HRk, HTk⟩ := hrel
          by_cases hkl : k < v
          · have q1 := HTk.out.cell HQ.out id
            obtain ⟨b, hbb⟩ : ∃ b, x / 2 ^ k % 2 = b := ⟨_, rfl⟩
            have hem := rem2 x k
            rw [hbb] at hem
            obtain ⟨N, hN⟩ : ∃ N, M + x % 2 ^ k * 2 ^ iv = N := ⟨_, rfl⟩
            have hNl : N < 2 ^ (iv + k) := by
              rw [← hN]
              have h1 := Nat.mod_lt x (two_pos k)
              have h2 : (x % 2 ^ k + 1) * 2 ^ iv ≤ 2 ^ k * 2 ^ iv := Nat.mul_le_mul_right _ h1
              rw [Nat.add_mul, ← Nat.pow_add, Nat.one_mul, Nat.add_comm k iv] at h2
              have := HXl.out
              omega
            have hnew : M + x % 2 ^ (k + 1) * 2 ^ iv = N + b * 2 ^ (iv + k) := by
              rw [← hN, bit_acc, hbb, Nat.add_mul, Nat.mul_assoc, ← Nat.pow_add, Nat.add_comm k iv, Nat.add_assoc]
            rw [hN] at HRk
            obtain ⟨p, hp⟩ : ∃ p, iv + k = p := ⟨_, rfl⟩
            rw [hp] at hNl hnew
            have hps : p < S * 8 := by omega
            have e1 : (iv : Int) + (k : Int) = (p : Int) := by omega
            clear hN hbb hp
            by_cases hb1 : b = 1
            · subst hb1
              rw [Nat.one_mul] at hnew
              have HSet := Lib.hid (getL_set N p S hNl (by omega))
              have hcell := HRk.out.cellAt (p / 8) (by omega)
              rw [List.getElem?_map, getL_at? 8 N S (p / 8) (by omega)] at hcell
              simp only [Option.map_some] at hcell
              have hfree := HRk.out.frozenAt (p / 8)
              have hst := HRk.out.stored (p / 8)
              have hpe : 2 ^ p = 2 ^ (p / 8 * 8) * 2 ^ (p % 8) := by rw [← Nat.pow_add]; congr 1; omega
              have hT : N / 2 ^ (p / 8 * 8) < 2 ^ (p % 8) := Nat.div_lt_of_lt_mul (by rw [← hpe]; exact hNl)
              have h7 : 2 ^ (p % 8) ≤ 2 ^ 8 := Nat.pow_le_pow_right (by decide) (by omega)
              rw [Nat.mod_eq_of_lt (show N / 2 ^ (p / 8 * 8) < 2 ^ 8 by omega)] at hcell
              obtain ⟨q, hq⟩ : ∃ q, p / 8 = q := ⟨_, rfl⟩
              obtain ⟨r, hr⟩ : ∃ r, p % 8 = r := ⟨_, rfl⟩
              rw [hq] at hcell hfree hst HSet hT
              rw [hr] at hT HSet
              obtain ⟨T, hTT⟩ : ∃ T, N / 2 ^ (q * 8) = T := ⟨_, rfl⟩
              rw [hTT] at hcell hT HSet
              have HOR := Lib.hid (or_bit T r hT (by omega))
              have HST := Lib.hid hst
              have HNEW := Lib.hid hnew
              have e2 : (p : Int) / 8 = (q : Int) := by omega
              have e3 : (p : Int) % 8 = (r : Int) := by omega
              have hr8 : r < 8 := by omega
              have hqS : q < S := by omega
              clear hq hr hTT hT hst hnew hpe h7 hNl
              have hem1 : (((1 : Nat) : Int) == 1) = true := rfl
              go_wp2
              go_roundw
              case rel =>
                refine ⟨k + 1, by omega, by go_num, Lib.hid ?_, Lib.hid ?_⟩
                · rw [HNEW.out, HSet.out, HOR.out, List.map_set]
                  exact (HST.out _).1
                · exact Turn.trans HTk.out (Turn.of_grown (S := fun i => i = g) (HST.out _).2 (fun i e _ => by cases e; rfl)) (fun i hi e => by have := HG.out; omega)
              case measure => simp [intOf]; omega
            · have hb0 : b = 0 := by
                have h1 : b = x / 2 ^ k % 2 := by
                  have h2 := rem2 x k
                  rw [hem] at h2
                  omega
                omega
              subst hb0
              rw [Nat.zero_mul, Nat.add_zero] at hnew
              have HNEW := Lib.hid hnew
              clear hnew hb1 hNl
              have hem1 : (((0 : Nat) : Int) == 1) = false := rfl
              go_wp2
              go_roundw
              case rel => exact ⟨k + 1, by omega, by go_num, Lib.hid (by rw [HNEW.out]; exact HRk.out), HTk⟩
              case measure => simp [intOf]; omega
          · obtain rfl : k = v := by omega
            go_wp2
            go_roundw
            case rel => exact ⟨i + 1, by omega, by go_num, Lib.hid (by rw [HNX.out]; have h := HRk.out; rw [Nat.mod_eq_of_lt HFx.out] at h; exact h), HTk⟩
            case measure => simp [intOf]; omega
      · exfalso; omega
    · obtain rfl : i = n := by omega
      have htk : l.take i = l := List.take_of_length_le (Nat.le_of_eq HLen.out)
      rw [htk] at HRow
      clear htk
      go_wp2
      go_ret2
      rw [← HR.out]
      exact putX_own (by rw [HG.out]; exact HRow.out) HT.out.grown

/-- The document's Put, whatever it is asked. -/
theorem rput_any (a : Option Addr) (n c : Nat) (l : List Int) (v : Int) (w : World) (hs : Us.Seg w a n c l) (hu : IsU l) :
    Calls Try.prog 35 #[.slice a n c, .int .i64 v] w (PutX w (putR l v)) := by
  by_cases h : (putR l v).1 = 0
  · have hc := (canB_iff _ _).1 ((put_ok l v).1 h).1
    obtain ⟨v', rfl⟩ := Int.eq_ofNat_of_zero_le hc.2.2.1
    exact rput_yes_any a n c l v' w hs hu h
  · exact rput_no_any a n c l v w hs hu h
end Go.Proofs.Ytpcilohiokpmnaa.Pk
