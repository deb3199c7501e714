/-
  The document's Get.
-/
import Derived.Test.YtpcilohiokpmnaaPkRPut
namespace Go.Proofs.Ytpcilohiokpmnaa.Pk
open Go.RowKit Bs Dv

theorem bseg_form {w : World} {a : Option Addr} {n c : Nat} {l : List Int} (h : Seg w a n c l) : ∃ g o, (a = some ⟨g, o, none⟩ ∨ n = 0) ∧ ∀ j, j < n → w.cell? ⟨g, o + j, none⟩ = some (.int .u8 (l.getD j 0)) := by
  by_cases hn : n = 0
  · exact ⟨0, 0, .inr hn, fun j hj => by omega⟩
  · obtain ⟨g, o, e, hc⟩ := h.addr (by omega)
    exact ⟨g, o, .inl e, hc⟩
theorem bit_at (l : List Int) (hb : Fit 8 l) (p : Nat) (hj : p / 8 < l.length) : (l.getD (p / 8) 0).toNat / 2 ^ (p % 8) % 2 = packN 8 l / 2 ^ p % 2 := by
  have h := part_at l hb p 1 (by omega) hj
  rwa [Nat.pow_one] at h
theorem get_err4 (w : World) (r : Int × List Int) (E : Int) (q : World) (hr : r = (E, [])) (hT : Turn w q nowhere) : GetX w r (.returned (.tuple #[.slice none 0 0, .int .i64 E])) q := by
  subst hr
  exact ⟨none, 0, rfl, Us.Seg.nil _, hT.grown⟩

set_option maxHeartbeats 1000000 in
theorem rget_early_any (a : Option Addr) (len c : Nat) (l : List Int) (n v : Int) (w : World) (hs : Seg w a len c l) (hno : canB n v = false ∨ (canB n v = true ∧ ¬ (len : Int) = sizeF n v)) :
    Calls Try.prog 42 #[.slice a len c, .int .i64 n, .int .i64 v] w (GetX w (getR l n v)) := by
  have hlen := hs.len
  have hcap := hs.cap
  have hle := hs.le
  unfold maxLen at hcap
  rcases hno with hc | ⟨hc, hl⟩
  · have HP := Lib.hid (get_err4 w (getR l n v) 2 w (get_no_can hc) (Turn.refl _ _))
    have HB : Hid (∀ w, Calls Try.prog 59 #[.int .i64 n, .int .i64 v] w fun e w' => e = .returned (.bool false) ∧ w = w') := Lib.hid (fun w => by have := may_any n v w; rwa [hc] at this)
    generalize getR l n v = R at HP ⊢
    clear hc hs hlen
    go_enter Try.func42, Try.ntmps42
    go_wp2_with (go_at_call 59; refine (HB.out _).mono ?_; rintro e w' ⟨rfl, rfl⟩)
    go_ret2
    exact HP.out
  · have hc' := (canB_iff n v).1 hc
    have HP := Lib.hid (get_err4 w (getR l n v) 4 w (by
      obtain ⟨n, rfl⟩ := Int.eq_ofNat_of_zero_le hc'.1
      obtain ⟨v, rfl⟩ := Int.eq_ofNat_of_zero_le hc'.2.2.1
      exact get_no_len hc (fun h => hl (by rw [sizeF_N hc, ← h, hlen]))) (Turn.refl _ _))
    have HB : Hid (∀ w, Calls Try.prog 59 #[.int .i64 n, .int .i64 v] w fun e w' => e = .returned (.bool true) ∧ w = w') := Lib.hid (fun w => by have := may_any n v w; rwa [hc] at this)
    have HS := Lib.hid (fun W => rsize_any n v W)
    have e0 : ((len : Int) == sizeF n v) = false := beq_eq_false_iff_ne.2 hl
    have e1 : ((len : Int) != sizeF n v) = true := bne_iff_ne.2 hl
    generalize getR l n v = R at HP ⊢
    generalize sizeF n v = S at HS e0 e1
    clear hc hs hlen hl hc'
    go_enter Try.func42, Try.ntmps42
    go_wp2_with (first
      | (go_at_call 59; refine (HB.out _).mono ?_; rintro e w' ⟨rfl, rfl⟩)
      | (go_at_call 41; refine (HS.out _).mono ?_; rintro e w' ⟨rfl, rfl⟩))
    go_ret2
    exact HP.out

theorem rgetX_own {w w' : World} {V : Value} {v N n : Nat} (h : w'.ownsRow w.heap.size 46 1 V n ((getL v N n).map (Value.int .u64))) (hT : Turn w w' nowhere) : GetX w ((0 : Int), getL v N n) (.returned (.tuple #[V, .int .i64 0])) w' := by
  have e : (((0 : Int), getL v N n) : Int × List Int).2.length = n := getL_length v N n
  have h2 := h
  rcases h.2 with ⟨rfl, rfl⟩ | ⟨g, cap, cur, rfl, _⟩
  · refine ⟨none, 0, rfl, Us.Seg.nil _, hT.grown⟩
  · refine ⟨some ⟨g, 0, none⟩, cap, by rw [e], ?_, hT.grown⟩
    rw [e]
    exact Us.Seg.own h2

theorem or_one (z b k : Nat) (hz : z < 2 ^ k) (hb : b < 2) (hk : k ≤ 63) : bits .or .u64 (z : Int) (IntKind.u64.wrap ((b : Int) * 2 ^ k)) = ((z + b * 2 ^ k : Nat) : Int) := by
  have h1 := shl_lt b k 1 64 (by omega) (by omega)
  have h2 : z < 2 ^ 64 := Nat.lt_of_lt_of_le hz (Nat.pow_le_pow_right (by decide) (by omega))
  rw [mul_cast, u64w _ h1, u64_or_nat z _ h2 h1, or_add z b k hz]

theorem cell_one_new (w : World) (v : Value) (t : TypeId) : ∀ j u, [v][j]? = some u → (w.alloc (.cells #[v] t)).cell? ((⟨w.heap.size, 0, none⟩ : Addr).add j) = some u := by
  intro j u hu
  cases j with
  | zero => simp at hu; subst hu; exact cell_new w v t
  | succ j => simp at hu

set_option maxHeartbeats 2000000 in
theorem rget_late_any (a : Option Addr) (len c : Nat) (l : List Int) (n v : Nat) (w : World) (hs : Seg w a len c l) (hb : Fit 8 l) (hc : canB n v = true) (hl : len = sizeN n v) :
    Calls Try.prog 42 #[.slice a len c, .int .i64 (n : Int), .int .i64 (v : Int)] w (GetX w (getR l n v)) := by
  obtain ⟨j0, hj, hy0, hy1, hy2⟩ := info_parts Us.info_u64
  have hlen := hs.len
  have hc' := (canB_iff _ _).1 hc
  have h8 := size8 n v
  have hszb := sizeF_bd n v
  rw [sizeF_N hc] at hszb
  rw [← hl] at h8 hszb
  have hv64 : v ≤ 64 := by omega
  have hnle : n ≤ 65536 := by omega
  have HB : Hid (∀ w, Calls Try.prog 59 #[.int .i64 n, .int .i64 (v : Int)] w fun e w' => e = .returned (.bool true) ∧ w = w') := Lib.hid (fun w => by have := may_any n v w; rwa [hc] at this)
  have HS : Hid (∀ w, Calls Try.prog 41 #[.int .i64 n, .int .i64 (v : Int)] w fun e w' => e = .returned (.int .i64 (len : Int)) ∧ w = w') := Lib.hid (fun w => by have := rsize_any n v w; rwa [sizeF_N hc, ← hl] at this)
  have HNl := packN_lt 8 l hb
  rw [hlen] at HNl
  have HBit := Lib.hid (fun p h => bit_at l hb p h)
  have HYes := Lib.hid (fun h => get_yes (b := l) (n := n) (w := v) hc (by rw [hlen]; exact hl) h)
  have HNo := Lib.hid (fun h => get_no_bits (b := l) (n := n) (w := v) hc h)
  have HFb := Lib.hid hb.isB
  obtain ⟨N, hN⟩ : ∃ N, packN 8 l = N := ⟨_, rfl⟩
  rw [hN] at HNl HBit HYes HNo
  have HNlt := Lib.hid HNl
  clear HNl hN
  obtain ⟨nv, hnv⟩ : ∃ m, n * v = m := ⟨_, rfl⟩
  rw [hnv] at h8 HYes HNo
  have hnvi : (n : Int) * (v : Int) = (nv : Int) := by rw [← hnv, Int.natCast_mul]
  have HNV := Lib.hid hnv
  have HLen := Lib.hid hlen
  generalize getR l n v = R at HYes HNo ⊢
  obtain ⟨gA, o, hform, hcell⟩ := bseg_form hs
  have HCell := Lib.hid hcell
  have HForm := Lib.hid hform
  have hcap := hs.cap
  have hle := hs.le
  unfold maxLen at hcap
  have hlb : len ≤ 524288 := by omega
  have hn8 : nv ≤ 8 * len := by omega
  clear hcell hform hs hb hc hl hlen hc' hszb h8 hnv
  go_enter Try.func42, Try.ntmps42
  go_wp2_with (first
    | (go_at_call 59; refine (HB.out _).mono ?_; rintro e w' ⟨rfl, rfl⟩)
    | (go_at_call 41; refine (HS.out _).mono ?_; rintro e w' ⟨rfl, rfl⟩))
  go_loop [8] (fun sp => ∃ p : Nat, nv ≤ p ∧ p ≤ 8 * len ∧ sp = .int .i64 p ∧ Hid (N / 2 ^ nv % 2 ^ (p - nv) = 0)) (fun sp => 8 * len - (intOf sp).toNat)
  case atStart => exact ⟨nv, Nat.le_refl _, hn8, rfl, Lib.hid (by rw [Nat.sub_self, Nat.pow_zero, Nat.mod_one])⟩
  case round =>
    obtain ⟨p, hp1, hp2, rfl, HZ⟩ := hrel
    by_cases hlt : p < 8 * len
    · rcases HForm.out with rfl | hn0
      · obtain ⟨q, hq⟩ : ∃ q, p / 8 = q := ⟨_, rfl⟩
        obtain ⟨r, hr⟩ : ∃ r, p % 8 = r := ⟨_, rfl⟩
        have hqn : q < len := by omega
        have q0 := HCell.out q hqn
        have hx : 0 ≤ l.getD q 0 ∧ l.getD q 0 < 256 := by
          rw [List.getD_eq_getElem?_getD, List.getElem?_eq_getElem (by rw [HLen.out]; exact hqn)]
          exact HFb.out _ (List.getElem_mem _)
        have hbt := HBit.out p (by rw [HLen.out]; omega)
        rw [hq, hr] at hbt
        obtain ⟨x, hx'⟩ := Int.eq_ofNat_of_zero_le hx.1
        rw [hx'] at q0 hx hbt
        rw [Int.toNat_natCast] at hbt
        have hem := rem2 x r
        rw [hbt] at hem
        have e2 : (p : Int) / 8 = (q : Int) := by omega
        have e3 : (p : Int) % 8 = (r : Int) := by omega
        have hr8 : r < 8 := by omega
        have hxb : x < 256 := by omega
        have hpl : (p : Int) < 8 * (len : Int) := by omega
        clear hq hr hx hx'
        by_cases hb1 : N / 2 ^ p % 2 = 1
        · rw [hb1] at hem hbt
          have hz : ¬ N / 2 ^ nv = 0 := by
            intro h
            rcases Nat.div_eq_zero_iff.1 h with h | h
            · have := two_pos nv; omega
            · have h2 : 2 ^ nv ≤ 2 ^ p := Nat.pow_le_pow_right (by decide) hp1
              rw [Nat.div_eq_of_lt (show N < 2 ^ p by omega)] at hb1
              simp at hb1
          have HP := Lib.hid (get_err4 w R 4 w (HNo.out hz) (Turn.refl _ _))
          have hem1 : (((1 : Nat) : Int) == 1) = true := rfl
          clear hz hb1 hbt
          go_wp2
          go_ret2
          exact HP.out
        · have hb0 : N / 2 ^ p % 2 = 0 := by omega
          rw [hb0] at hem
          have HZ2 : Hid (N / 2 ^ nv % 2 ^ (p + 1 - nv) = 0) := Lib.hid (by
            rw [show p + 1 - nv = (p - nv) + 1 from by omega, bit_acc, HZ.out, Nat.div_div_eq_div_mul, ← Nat.pow_add, show nv + (p - nv) = p from by omega, hb0, Nat.zero_mul])
          have hem1 : (((0 : Nat) : Int) == 1) = false := rfl
          clear hb1 hb0 hbt
          go_wp2
          go_round
          case rel => exact ⟨p + 1, by omega, by omega, by go_num, HZ2⟩
          case measure => simp [intOf]; omega
      · exfalso; omega
    · obtain rfl : p = 8 * len := by omega
      have hz : N / 2 ^ nv = 0 := by
        have h := HZ.out
        have h2 : N / 2 ^ nv < 2 ^ (8 * len - nv) := Nat.div_lt_of_lt_mul (by rw [← Nat.pow_add, show nv + (8 * len - nv) = len * 8 by omega]; exact HNlt.out)
        rwa [Nat.mod_eq_of_lt h2] at h
      have HRY := Lib.hid (HYes.out hz)
      clear hz
      go_wp2
      go_loopw [9, 10] (fun sv si wr => ∃ i : Nat, i ≤ n ∧ si = .int .i64 i ∧ Hid (wr.ownsRow w.heap.size 46 1 sv i ((getL v N i).map (Value.int .u64))) ∧ Hid (Turn w wr nowhere)) (fun _ si _ => n - (intOf si).toNat)
      case atStart => exact ⟨0, Nat.zero_le _, rfl, Lib.hid (World.ownsRow_nil w _ _ _), Lib.hid (Turn.refl _ _)⟩
      case round =>
        obtain ⟨i, hi, rfl, HRow, HT⟩ := hrel
        by_cases hil : i < n
        · have hivb : i * v + v ≤ nv := by
            have h1 : (i + 1) * v ≤ n * v := Nat.mul_le_mul_right _ hil
            rw [Nat.add_mul, Nat.one_mul, HNV.out] at h1
            exact h1
          have hiv : (i : Int) * (v : Int) = ((i * v : Nat) : Int) := by rw [Int.natCast_mul]
          have HSN := Lib.hid (getL_snoc v N i)
          obtain ⟨iv, hive⟩ : ∃ iv, i * v = iv := ⟨_, rfl⟩
          rw [hive] at hivb hiv HSN
          clear hive
          go_wp2
          go_loop [11, 12] (fun sz sk => ∃ k z : Nat, k ≤ v ∧ sk = .int .i64 k ∧ sz = .int .u64 z ∧ Hid (z = N / 2 ^ iv % 2 ^ k)) (fun _ sk => v - (intOf sk).toNat)
          case atStart => exact ⟨0, 0, Nat.zero_le _, rfl, rfl, Lib.hid (by rw [Nat.pow_zero, Nat.mod_one])⟩
          case round =>
            obtain ⟨k, z, hk, rfl, rfl, HZk⟩ := hrel
            by_cases hkl : k < v
            · rcases HForm.out with rfl | hn0
              · obtain ⟨p, hp⟩ : ∃ p, iv + k = p := ⟨_, rfl⟩
                obtain ⟨q, hq⟩ : ∃ q, p / 8 = q := ⟨_, rfl⟩
                obtain ⟨r, hr⟩ : ∃ r, p % 8 = r := ⟨_, rfl⟩
                have hqn : q < len := by omega
                have q0 := HT.out.cell (HCell.out q hqn) id
                have hx : 0 ≤ l.getD q 0 ∧ l.getD q 0 < 256 := by
                  rw [List.getD_eq_getElem?_getD, List.getElem?_eq_getElem (by rw [HLen.out]; exact hqn)]
                  exact HFb.out _ (List.getElem_mem _)
                have hbt := HBit.out p (by rw [HLen.out]; omega)
                rw [hq, hr] at hbt
                obtain ⟨x, hx'⟩ := Int.eq_ofNat_of_zero_le hx.1
                rw [hx'] at q0 hx hbt
                rw [Int.toNat_natCast] at hbt
                have hem := rem2 x r
                rw [hbt] at hem
                have e1 : (iv : Int) + (k : Int) = (p : Int) := by omega
                have e2 : (p : Int) / 8 = (q : Int) := by omega
                have e3 : (p : Int) % 8 = (r : Int) := by omega
                have hr8 : r < 8 := by omega
                have hxb : x < 256 := by omega
                have hpb : p ≤ 4194304 := by omega
                have HNZ : Hid (z + N / 2 ^ p % 2 * 2 ^ k = N / 2 ^ iv % 2 ^ (k + 1)) := Lib.hid (by
                  rw [bit_acc, ← HZk.out, Nat.div_div_eq_div_mul, ← Nat.pow_add, hp])
                have hzl : z < 2 ^ k := by rw [HZk.out]; exact Nat.mod_lt _ (two_pos k)
                have hb2 : N / 2 ^ p % 2 < 2 := Nat.mod_lt _ (by decide)
                generalize N / 2 ^ p % 2 = b at hem HNZ hb2
                have HOR := Lib.hid (or_one z b k hzl hb2 (by omega))
                have hbw : IntKind.u64.wrap (b : Int) = (b : Int) := u64w b (by omega)
                clear hq hr hx hx' hp hbt hzl
                go_wp2
                go_round
                case rel => exact ⟨k + 1, z + b * 2 ^ k, by omega, by go_num, by rw [HOR.out], HNZ⟩
                case measure => simp [intOf]; omega
              · exfalso; omega
            · obtain rfl : k = v := by omega
              have hz := HZk.out
              have HSN2 : Hid (getL k N (i + 1) = getL k N i ++ [(z : Int)]) := Lib.hid (by rw [HSN.out, hz])
              clear hz
              have HRa := Lib.hid (HRow.out.alloc (.cells #[.int .u64 (z : Int)] 46))
              have hzz := HT.out.size
              have HCl := Lib.hid (cell_one_new wr (.int .u64 (z : Int)) 46)
              go_wp2_with (at_builtin; refine wpList_append_own _ rfl (.tmp 76) (.tmp 78) 48 rfl w.heap.size 46 j0 (.int .u64 0) 1 8 Try.underlying48 hj hy0 hy1 hy2 rfl (by decide) _ i _ rfl HRa.out ⟨wr.heap.size, 0, none⟩ 1 1 [.int .u64 (z : Int)] rfl rfl HCl.out (by simp [Value.oneCell']) (by unfold maxLen; omega) (by omega) (by simp; omega) ?_; intro V' w2 hown2 hgrow2 hnil2; have HO2 := Lib.hid hown2; have HG2 := Lib.hid hgrow2; clear hown2 hgrow2 hnil2)
              go_roundw
              case rel => exact ⟨i + 1, by omega, by go_num, Lib.hid (by rw [HSN2.out, List.map_append]; exact HO2.out), Lib.hid (Turn.trans (Turn.then HT.out (Turn.alloc wr _ nowhere)) (Turn.of_grown (S := fun j => w.heap.size ≤ j) HG2.out (fun j e _ => (HRow.out.lt j e).1)) (fun j hj h => by omega))⟩
              case measure => simp [intOf]; omega
        · obtain rfl : i = n := by omega
          go_wp2
          go_ret2
          rw [HRY.out]
          exact rgetX_own HRow.out HT.out

/-- The document's Get, whatever it is asked. -/
theorem rget_any (a : Option Addr) (len c : Nat) (l : List Int) (n v : Int) (w : World) (hs : Seg w a len c l) (hb : Fit 8 l) :
    Calls Try.prog 42 #[.slice a len c, .int .i64 n, .int .i64 v] w (GetX w (getR l n v)) := by
  cases hc : canB n v with
  | false => exact rget_early_any a len c l n v w hs (.inl hc)
  | true =>
    by_cases hl : (len : Int) = sizeF n v
    · have hc' := (canB_iff n v).1 hc
      obtain ⟨v', rfl⟩ := Int.eq_ofNat_of_zero_le hc'.2.2.1
      obtain ⟨n', rfl⟩ := Int.eq_ofNat_of_zero_le hc'.1
      rw [sizeF_N hc] at hl
      exact rget_late_any a len c l n' v' w hs hb hc (by omega)
    · exact rget_early_any a len c l n v w hs (.inr ⟨hc, hl⟩)
end Go.Proofs.Ytpcilohiokpmnaa.Pk
