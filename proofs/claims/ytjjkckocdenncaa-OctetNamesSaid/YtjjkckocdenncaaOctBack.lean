/-
  OctetBack: what is put is read again; what is read of any length is put the same.
-/
import Derived.Test.YtjjkckocdenncaaOctOwn
import Derived.Deep.RegionHeld3
namespace Go.Proofs.Ytjjkckocdenncaa.Oct
open Go.RowKit

def enc (l : List Int) : List Int := l.flatMap fun v => varB 9 v ++ putB 8 v
theorem enc_take (l : List Int) (k : Nat) (hk : k < l.length) : enc (l.take (k + 1)) = (enc (l.take k) ++ varB 9 (l.getD k 0)) ++ putB 8 (l.getD k 0) := by
  have e : l.getD k 0 = l[k] := by simp [List.getD, hk]
  rw [List.take_succ_eq_append_getElem hk, e]
  simp only [enc, List.flatMap_append, List.flatMap_cons, List.flatMap_nil, List.append_nil, List.append_assoc]
theorem enc_drop (l : List Int) (k : Nat) (hk : k < l.length) : enc (l.drop k) = varB 9 (l.getD k 0) ++ (putB 8 (l.getD k 0) ++ enc (l.drop (k + 1))) := by
  have e : l.getD k 0 = l[k] := by simp [List.getD, hk]
  rw [List.drop_eq_getElem_cons hk, e]
  simp only [enc, List.flatMap_cons, List.append_assoc]
theorem enc_isB (l : List Int) (h : ∀ v ∈ l, 0 ≤ v ∧ v < 18446744073709551616) : IsB (enc l) := by
  intro x hx
  simp only [enc, List.mem_flatMap, List.mem_append] at hx
  obtain ⟨v, hv, hx | hx⟩ := hx
  · have hb := h v hv
    exact varB_isB 9 v hb.1 (by have : (256 : Int) * 128 ^ 9 = 2361183241434822606848 := by decide
                                omega) x hx
  · exact putB_isB 8 v x hx

theorem IsB.app {l r : List Int} (h : IsB l) (k : IsB r) : IsB (l ++ r) := fun x hx => by
  rcases List.mem_append.1 hx with h1 | h1
  · exact h x h1
  · exact k x h1

/-- Var at a varint. -/
theorem var_at (b g : Nat) (v : Int) (r : List Int) (w : World) (h : Rd w b g (varB 9 v ++ r)) (h0 : 0 ≤ v) (h1 : v < 18446744073709551616) (hr : IsB r) :
    Calls Try.prog 9 #[.pointer (some ⟨b, 0, none⟩)] w (ReadN b g w v r) := by
  have hb : IsB (varB 9 v ++ r) := (varB_isB 9 v h0 (by have : (256 : Int) * 128 ^ 9 = 2361183241434822606848 := by decide
                                                        omega)).app hr
  refine (var_any b g _ w h hb).mono fun e w' ⟨he, hg, hrd⟩ => ?_
  have hv := readV_varB 9 0 0 v r rfl h0 (by have : (2 : Int) * 128 ^ 9 = 18446744073709551616 := by decide
                                             omega) (fun h => absurd h (by decide))
  rw [hv] at he hrd
  simp only [Nat.zero_add, Nat.mul_zero, Int.pow_zero, Int.mul_one, Int.zero_add, List.drop_left] at he hrd
  exact ⟨he, hg, hrd⟩

/-- Number at a number of eight bytes. -/
theorem number_at (b g : Nat) (v : Int) (r : List Int) (w : World) (h : Rd w b g (putB 8 v ++ r)) (h0 : 0 ≤ v) (h1 : v < 18446744073709551616) (hr : IsB r) :
    Calls Try.prog 10 #[.pointer (some ⟨b, 0, none⟩), .int .i64 8] w (ReadN b g w v r) := by
  have hl := putB_length 8 v
  have h2 := number_yes b g _ 8 w h ((putB_isB 8 v).app hr) (by decide) (by decide) (by rw [List.length_append, hl]; omega)
  rw [List.take_left' hl, List.drop_left' hl, ofB_putB 8 v h0 (by have : (256 : Int) ^ 8 = 18446744073709551616 := by decide
                                                                  omega)] at h2
  exact h2

/-- A row of numbers that came in. -/
def Nums (w : World) (a : Option Addr) (n : Nat) (z : List Int) : Prop :=
  z.length = n ∧ (∀ v ∈ z, 0 ≤ v ∧ v < 18446744073709551616) ∧ (0 < n → ∃ g o, a = some ⟨g, o, none⟩ ∧ ∀ j, j < n → w.cell? ⟨g, o + j, none⟩ = some (.int .u64 (z.getD j 0)))

theorem nums_row {w : World} {x : Addr} {n c : Nat} {zs : List Int} (hl : n ≤ c) (hz : zs.length = c) (hcell : ∀ i, i < zs.length → w.cell? (x.add i) = some (.int .u64 (zs.getD i 0))) (hwf : ∀ v ∈ zs, (Lit.int .u64 v).wf = true) :
    Nums w (some x) n (zs.take n) := by
  refine ⟨by rw [List.length_take]; omega, fun v hv => ?_, fun hn => ?_⟩
  · have := hwf v (List.mem_of_mem_take hv)
    have : 0 ≤ v ∧ v ≤ 18446744073709551615 := by simpa [Lit.wf, IntKind.min, IntKind.max, IntKind.signed, IntKind.bits] using this
    omega
  · obtain ⟨g, o, spot⟩ := x
    have h0 := hcell 0 (by omega)
    have hspot : spot = none := by simpa [Addr.add] using World.cell?_spot h0
    subst hspot
    refine ⟨g, o, rfl, fun j hj => ?_⟩
    have h1 := hcell j (by omega)
    rw [Addr.add_lit] at h1
    rw [h1]
    simp [List.getD, hj]

theorem Seg.drew {w : World} {a : Option Addr} {n c : Nat} {l : List Int} (h : Seg w a n c l) : Seg w.drew a n c l := ⟨h.len, h.le, h.cap, h.nil_, h.at_⟩

/-- What the first loop has gathered behind k numbers. -/
def Inv1 (w : World) (z : List Int) (k : Nat) (a : Option Addr) (n c : Nat) (wr : World) : Prop := Seg wr a n c (enc (z.take k)) ∧ n ≤ 18 * k ∧ w.grownBy wr none

theorem grownBy_drew {w w' : World} {r : Option Nat} (h : w.drew.grownBy w' r) : w.grownBy w' r := ⟨h.os, h.tape, h.output, h.size, h.block⟩
/-- What the second loop has left behind j numbers. -/
def Inv2 (w : World) (z : List Int) (j b g : Nat) (wr : World) : Prop := Rd wr b g (enc (z.drop j)) ∧ w.grownBy wr none

theorem Rd.kept_nil {w w' : World} {b g : Nat} (h : Rd w b g []) {row : Option Nat} (hg : w.grownBy w' row) (h1 : row ≠ some b) : Rd w' b g [] := by
  obtain ⟨o, c, h0, hle, hc, hj⟩ := h.cells
  have lt := World.block_lt_of_cell? w _ h0
  refine ⟨h.ne, ⟨o, c, hg.cell h0 (fun e => h1 e.symm), hle, hc, fun j hjl => absurd hjl (by simp)⟩, hg.cell h.self (fun e => h1 e.symm), ?_⟩
  rw [World.frozen?_of_block (hg.block b lt (fun e => h1 e.symm))]
  exact h.free
theorem Rd.drewN {w : World} {b g : Nat} {l : List Int} (h : Rd w b g l) (m : Nat) : Rd (w.drewN m) b g l := ⟨h.ne, h.cells, h.self, h.free⟩
theorem left_of (b g : Nat) (l : List Int) (n : Int) (w : World) (h : Rd w b g l) (hn : n = l.length) : Calls Try.prog 13 #[.pointer (some ⟨b, 0, none⟩)] w fun e w' => e = .returned (.int .i64 n) ∧ w = w' := by
  rw [hn]; exact left_yes b g l w h

/-- What Var tells of bytes that came in. -/
theorem read_cases (l : List Int) (hb : IsB l) : (∃ x m, readV 0 0 l = (x, 0, m) ∧ 0 ≤ x ∧ x < 18446744073709551616 ∧ 1 ≤ m ∧ m ≤ l.length ∧ varB 9 x = l.take m) ∨ (∃ er, readV 0 0 l = (0, er, 0) ∧ (er = 4 ∨ er = 7)) := by
  obtain ⟨x, er, m, hR⟩ : ∃ x er m, readV 0 0 l = (x, er, m) := ⟨_, _, _, rfl⟩
  by_cases he : er = 0
  · subst he
    obtain ⟨v, v0, v1, hx, _, hm1, hm2, hvb⟩ := varB_readV l 9 0 0 x m hb rfl hR
    have e : (2 : Int) * 128 ^ 9 = 18446744073709551616 := by decide
    simp at hx
    subst hx
    exact .inl ⟨x, m, hR, v0, by omega, by omega, by omega, by simpa using hvb⟩
  · obtain ⟨rfl, rfl, h4⟩ := readV_err l 0 0 x er m hR he
    exact .inr ⟨er, hR, h4⟩

set_option maxRecDepth 100000 in
set_option maxHeartbeats 4000000 in
theorem back_law (a0 : Option Addr) (n0 c0 : Nat) (z : List Int) (a1 : Option Addr) (n1 c1 : Nat) (l : List Int) (w : World) (h0 : Nums w a0 n0 z) (h1 : Seg w a1 n1 c1 l) (hb : IsB l) :
    Calls Try.prog 4 #[.slice a0 n0 c0, .slice a1 n1 c1] w fun e w' => e = .returned (.bool true) ∧ Below w.heap.size w w' := by
  by_cases hn : 60 < n0
  · go_enter Try.func4, Try.ntmps4
    go_wp2_with fail
    refine (lives_any w).mono ?_
    rintro e w1 ⟨rfl, hg1⟩
    go_wp2
    go_ret
    exact ⟨rfl, (Below.refl _ _).grown hg1 (Nat.le_refl _) (fun k h => by cases h)⟩
  · by_cases hn1 : 200 < n1
    · go_enter Try.func4, Try.ntmps4
      go_wp2_with fail
      refine (lives_any w).mono ?_
      rintro e w1 ⟨rfl, hg1⟩
      go_wp2
      go_ret
      exact ⟨rfl, (Below.refl _ _).grown hg1 (Nat.le_refl _) (fun k h => by cases h)⟩
    · have H1 := Lib.hid (fun w1 (h : w.grownBy w1 none) => h1.kept h (fun _ _ e => by cases e))
      have hd0 : decide ((60 : Int) < (n0 : Int)) = false := by simp; omega
      have hd1 : decide ((200 : Int) < (n1 : Int)) = false := by simp; omega
      have HZ := Lib.hid h0.1
      have HB := Lib.hid h0.2.1
      have HC := Lib.hid h0.2.2
      clear h0 h1
      go_enter Try.func4, Try.ntmps4
      go_wp2_with fail
      refine (lives_any w).mono ?_
      rintro e w1 ⟨rfl, hg1⟩
      go_wp2_with fail
      go_loopw [5, 6] (fun so si wr => ∃ (k : Nat) (a : Option Addr) (n c : Nat), k ≤ n0 ∧ si = .int .i64 k ∧ so = .slice a n c ∧ Hid (Inv1 w z k a n c wr)) (fun _ si _ => n0 - (intOf si).toNat)
      case atStart => exact ⟨0, none, 0, 0, Nat.zero_le _, rfl, rfl, Lib.hid ⟨Seg.nil w1, Nat.zero_le _, hg1⟩⟩
      case round =>
        obtain ⟨k, a, n, c, hk, rfl, rfl, HI⟩ := hrel
        by_cases hlt : k < n0
        · obtain ⟨xg, xo, rfl, hcell⟩ := HC.out (by omega)
          have hv := HB.out (z.getD k 0) (by have := HZ.out; simp [List.getD, show k < z.length by omega])
          have hck := HI.out.2.2.cell (hcell k hlt) (by simp)
          have HT := Lib.hid (enc_take z k (by have := HZ.out; omega))
          obtain ⟨v, hvv⟩ : ∃ v, v = z.getD k 0 := ⟨_, rfl⟩
          rw [← hvv] at hv hck HT
          obtain ⟨v0, v1⟩ := hv
          clear hvv hcell
          have hS := HI.out.1
          have hN := HI.out.2.1
          go_wp2_with fail
          go_region_held3 (fun w' => w'.cell? ⟨xg, xo + k, none⟩ = some (.int .u64 v)) (go_keep)
            (first
              | (go_at_call 17; refine (putVar_any a n c _ v _ (by first | exact hS | exact hS.drew) v0 v1 (by omega)).mono ?_; rintro e w2 hn2; obtain ⟨g2, q2, rfl, hn2⟩ := hn2.value; have hS2 := hn2.is.2.2.cell hck (by simp); have hq2 : q2 ≤ 1100 := (by rw [hn2.is.1, List.length_append, hS.len]; have := varB_le 9 v; omega))
              | (go_at_call 14; refine (put_yes _ _ _ _ v 8 _ (Seg.own hn2.is.2.1) v0 v1 (by omega) (by omega) (by omega)).mono ?_; rintro e w3 hn3; obtain ⟨g3, q3, rfl, hn3⟩ := hn3.value; have hS3 := hn3.is.2.2.cell hS2 (by simp)))
          have hg3 := grownBy_trans (grownBy_trans HI.out.2.2 (grownBy_drew hn2.is.2.2) (fun _ e => by cases e)) hn3.is.2.2 (fun _ e => by cases e)
          have hq3 : q3 ≤ 18 * (k + 1) := by
            rw [hn3.is.1, List.length_append, List.length_append, hS.len, putB_length]
            have := varB_le 9 v
            omega
          have HF : Hid (Inv1 w z (k + 1) (some ⟨g3, 0, none⟩) q3 q3 w3) := Lib.hid ⟨by rw [HT.out]; exact Seg.own hn3.is.2.1, hq3, hg3⟩
          clear hn2 hn3 hS2 hS3 hS hN hck hg3 hq3 hq2
          go_wp2
          go_roundw
          case rel => exact ⟨k + 1, some ⟨g3, 0, none⟩, q3, q3, by omega, by go_num, rfl, HF⟩
          case measure => simp [intOf]; omega
        · obtain rfl : k = n0 := by omega
          have hS : Seg wr a n c (enc z) := by
            have h := HI.out.1
            rw [List.take_of_length_le (Nat.le_of_eq HZ.out)] at h
            exact h
          have hN := HI.out.2.1
          have HG := Lib.hid HI.out.2.2
          go_wp2_with fail
          refine (new_any a n c (enc z) wr hS (by omega)).mono ?_
          rintro e w2 ⟨b2, g2, rfl, hb2, hg2, hr2, hgr2⟩
          have HR := Lib.hid hr2
          have HG2 := Lib.hid (grownBy_trans HG.out hgr2 (fun _ e => by cases e))
          have HB2 := Lib.hid (Nat.le_trans HG.out.size hb2)
          clear hb2 hg2 hr2 hgr2 hS hN
          go_wp2_with fail
          go_loopw [8] (fun si wr => ∃ (j : Nat), j ≤ k ∧ si = .int .i64 j ∧ Hid (Inv2 w z j b2 g2 wr)) (fun si _ => k - (intOf si).toNat)
          case atStart => exact ⟨0, Nat.zero_le _, rfl, Lib.hid ⟨HR.out, HG2.out⟩⟩
          case round =>
            obtain ⟨j, hj, rfl, HJ⟩ := hrel
            by_cases hlt2 : j < k
            · obtain ⟨xg, xo, rfl, hcell⟩ := HC.out (by omega)
              have hv := HB.out (z.getD j 0) (by have := HZ.out; simp [List.getD, show j < z.length by omega])
              obtain ⟨v, hvv⟩ : ∃ v, v = z.getD j 0 := ⟨_, rfl⟩
              have hcw := hcell j hlt2
              have hxb : xg < w.heap.size := World.block_lt_of_cell? w _ hcw
              have hck := HJ.out.2.cell hcw (by simp)
              have hrd := HJ.out.1
              rw [enc_drop z j (by have := HZ.out; omega), ← hvv] at hrd
              rw [← hvv] at hv hck
              obtain ⟨v0, v1⟩ := hv
              have hrest : IsB (enc (z.drop (j + 1))) := enc_isB _ fun x hx => HB.out x (List.mem_of_mem_drop hx)
              obtain ⟨rest, hre⟩ : ∃ rest, rest = enc (z.drop (j + 1)) := ⟨_, rfl⟩
              rw [← hre] at hrd hrest
              have HRE := Lib.hid hre
              have HZZ : Hid (∀ w, Calls Try.prog 18 #[.int .i64 (zag v)] w fun e w' => e = .returned (.int .u64 v) ∧ w = w') := Lib.hid (fun w => by
                have hb := zag_bound v v0 v1
                have := zig_any (zag v) w hb.1 hb.2
                rwa [zig_zag v v0] at this)
              have HVar := Lib.hid (var_at b2 g2 v _ wr hrd v0 v1 ((putB_isB 8 v).app hrest))
              have HNum := Lib.hid (fun w3 (h : Rd w3 b2 g2 (putB 8 v ++ rest)) => number_at b2 g2 v rest w3 h v0 v1 hrest)
              have hxb2 : some xg ≠ some b2 := fun e => by have := Option.some.inj e; have := HB2.out; omega
              have HX := Lib.hid hxb2
              clear hvv hcell hcw hre hrest hrd hxb2
              go_wp2_with fail
              refine HVar.out.mono ?_
              rintro e w3 ⟨rfl, hg3, hrd3⟩
              have hck3 := hg3.cell hck (HX.out)
              have HN3 := Lib.hid (HNum.out w3 hrd3)
              have HG3 := Lib.hid hg3
              clear hg3 hrd3
              go_wp2_with fail
              refine HN3.out.mono ?_
              rintro e w4 ⟨rfl, hg4, hrd4⟩
              have hck4 := hg4.cell hck3 (HX.out)
              have HF : Hid (Inv2 w z (j + 1) b2 g2 w4) := Lib.hid ⟨by rw [← HRE.out]; exact hrd4, grownBy_trans (grownBy_trans HJ.out.2 HG3.out (fun i e => by cases e; exact HB2.out)) hg4 (fun i e => by cases e; exact HB2.out)⟩
              clear hg4 hrd4 hck hck3
              go_wp2_with (first
                | (go_at_call 16; refine (zag_any v _ v0 v1).mono ?_; rintro e w' ⟨rfl, rfl⟩)
                | (go_at_call 18; refine (HZZ.out _).mono ?_; rintro e w' ⟨rfl, rfl⟩)
                | fail)
              go_roundw
              case rel => exact ⟨j + 1, by omega, by go_num, HF⟩
              case measure => simp [intOf]; omega
            · obtain rfl : j = k := by omega
              have hrd := HJ.out.1
              rw [List.drop_of_length_le (Nat.le_of_eq HZ.out)] at hrd
              have hrdn : Rd wr b2 g2 [] := hrd
              have HG3 := Lib.hid HJ.out.2
              have hs := H1.out wr HG3.out
              have hlen := hs.len
              go_wp2_with fail
              refine (new_any a1 n1 c1 l wr hs (by omega)).mono ?_
              rintro e w3 ⟨b3, g3, rfl, hb3, hg3, hr3, hgr3⟩
              have hrd3 := hrdn.kept_nil hgr3 (by simp)
              obtain ⟨o2, c2, hc2, _⟩ := hrdn.cells
              have hb2 : b2 < wr.heap.size := World.block_lt_of_cell? wr _ hc2
              have hne : some b3 ≠ some b2 := fun e => by have := Option.some.inj e; omega
              have hgw3 := grownBy_trans HG3.out hgr3 (fun _ e => by cases e)
              have hb3w : w.heap.size ≤ b3 := Nat.le_trans HG3.out.size hb3
              have HLen := Lib.hid hlen
              have hvar := var_any b3 g3 l w3 hr3 hb
              rcases read_cases l hb with ⟨x, m, hR, x0, x1, m1, m2, hvb⟩ | ⟨er, hR, her⟩
              · have HV : Hid (Calls Try.prog 9 #[.pointer (some ⟨b3, 0, none⟩)] w3 fun e w4 => e = .returned (.tuple #[.int .u64 x, .int .i64 0]) ∧ w3.grownBy w4 (some b3) ∧ Rd w4 b3 g3 (l.drop m)) := Lib.hid (hvar.mono fun e w4 ⟨he, hg4, hr4⟩ => by
                  rw [hR] at he hr4
                  exact ⟨he, hg4, hr4⟩)
                have HRd := Lib.hid hrd3
                have HNe := Lib.hid hne
                have HGw := Lib.hid hgw3
                have HB3 := Lib.hid hb3w
                have HVB := Lib.hid hvb
                have HM2 : Hid (m ≤ l.length) := Lib.hid m2
                have m2' : m ≤ n1 := by omega
                clear hvar hR hrd3 hne hgw3 hb3w hvb hrd hrdn hc2 hb2 hb3 hg3 hgr3 hr3 hs hlen m2
                go_wp2_with fail
                refine HV.out.mono ?_
                rintro e w4 ⟨rfl, hg4, hr4⟩
                have HR4 := Lib.hid hr4
                have HRd4 := Lib.hid (HRd.out.kept_nil hg4 HNe.out)
                have HG4 := Lib.hid (grownBy_trans HGw.out hg4 (fun i e => by cases e; exact HB3.out))
                clear hg4 hr4
                go_wp2_with fail
                refine (putVar_any none 0 0 [] x w4 (Seg.nil _) x0 x1 (by omega)).mono ?_
                rintro e w5 hn5
                obtain ⟨g5, q5, rfl, hn5⟩ := hn5.value
                have h5 := hn5.is
                rw [List.nil_append, HVB.out] at h5
                have hq5 : q5 = m := by rw [h5.1, List.length_take]; have := HM2.out; omega
                subst hq5
                have hr5 := HR4.out.kept h5.2.2 (by simp) (by simp)
                have HL5 := Lib.hid (fun w' (h : Rd w' b3 g3 (l.drop q5)) => left_of b3 g3 _ ((n1 : Int) - (q5 : Int)) w' h (by rw [List.length_drop]; have := HLen.out; omega))
                have HL5' := Lib.hid (HL5.out w5 hr5)
                have HRd5 := Lib.hid (HRd4.out.kept_nil h5.2.2 (by simp))
                have HG5 := Lib.hid (grownBy_trans HG4.out h5.2.2 (fun i e => by cases e))
                have HP5 := Lib.hid (Seg.own h5.2.1)
                have hs5 := H1.out w5 HG5.out
                obtain ⟨xg, xo, rfl, hx⟩ := hs5.addr (by omega)
                have HQ5 : Hid (Seg w5 (some ⟨xg, xo, none⟩) q5 c1 (l.take q5)) := Lib.hid (hs5.take m2')
                have hcap := hs5.cap
                have hle := hs5.le
                unfold maxLen at hcap
                have hd5 : decide ((n1 : Int) < (q5 : Int)) = false := by simp; omega
                have hd6 : ((q5 : Int) != (n1 : Int) - ((n1 : Int) - (q5 : Int))) = false := by simp; omega
                clear hn5 h5 hr5 hs5 hx
                go_wp2_with fail
                refine HL5'.out.mono ?_
                rintro e w' ⟨rfl, rfl⟩
                go_wp2_with fail
                refine (same_yes _ _ q5 q5 c1 _ w5 HP5.out HQ5.out).mono ?_
                rintro e w6 ⟨rfl, mm, rfl⟩
                have HRd6 := Lib.hid (HRd5.out.drewN mm)
                have HF6 := Lib.hid (below_drewN mm ((Below.refl w.heap.size w).grown HG5.out (Nat.le_refl _) (fun k h => by cases h)))
                go_wp2_with fail
                refine (left_of b2 g2 [] 0 _ HRd6.out rfl).mono ?_
                rintro e w' ⟨rfl, rfl⟩
                go_wp2
                go_ret
                exact ⟨rfl, HF6.out⟩
              · have HV : Hid (Calls Try.prog 9 #[.pointer (some ⟨b3, 0, none⟩)] w3 fun e w4 => e = .returned (.tuple #[.int .u64 0, .int .i64 er]) ∧ w3.grownBy w4 (some b3) ∧ Rd w4 b3 g3 l) := Lib.hid (hvar.mono fun e w4 ⟨he, hg4, hr4⟩ => by
                  rw [hR] at he hr4
                  exact ⟨he, hg4, hr4⟩)
                have HRd := Lib.hid hrd3
                have HNe := Lib.hid hne
                have HGw := Lib.hid hgw3
                have HB3 := Lib.hid hb3w
                have her2 : (er == 0) = false := by simp; omega
                clear hvar hR hrd3 hne hgw3 hb3w hrd hrdn hc2 hb2 hb3 hg3 hgr3 hr3 hs hlen her
                go_wp2_with fail
                refine HV.out.mono ?_
                rintro e w4 ⟨rfl, hg4, hr4⟩
                have HRd4 := Lib.hid (HRd.out.kept_nil hg4 HNe.out)
                have HG4 := Lib.hid (grownBy_trans HGw.out hg4 (fun i e => by cases e; exact HB3.out))
                have HL4 := Lib.hid (left_of b3 g3 l (n1 : Int) w4 hr4 (by have := HLen.out; omega))
                clear hg4 hr4
                go_wp2_with fail
                refine HL4.out.mono ?_
                rintro e w' ⟨rfl, rfl⟩
                have HF6 := Lib.hid ((Below.refl w.heap.size w).grown HG4.out (Nat.le_refl _) (fun k h => by cases h))
                go_wp2_with fail
                refine (left_of b2 g2 [] 0 _ HRd4.out rfl).mono ?_
                rintro e w' ⟨rfl, rfl⟩
                go_wp2
                go_ret
                exact ⟨rfl, HF6.out⟩
end Go.Proofs.Ytjjkckocdenncaa.Oct
