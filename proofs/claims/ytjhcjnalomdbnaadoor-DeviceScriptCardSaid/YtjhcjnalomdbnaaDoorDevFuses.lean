/-
  The device's laws: DeviceFuses.
-/
import Derived.Test.YtjhcjnalomdbnaaDoorDevActs
namespace Go.Proofs.YtjhcjnalomdbnaaDoor.Dv
open Go.RowKit Bs

/-- One call of the law's. -/
def fStep (s : St) (x : AAct) : Int × St := if x.kind.tmod 3 = 0 then s.flush else s.write ((x.at s.blocks : Nat) : Int) (x.bytes s.size)

theorem write_yes {s : St} (h : s.Ok) (x : AAct) (hf : s.fuse ≠ 0) : s.write ((x.at s.blocks : Nat) : Int) (x.bytes s.size) = (0, { s.burn with pend := s.pend ++ [(x.at s.blocks, x.bytes s.size)] }) := by
  have := x.at_lt s.blocks (by have := h.blo; omega)
  unfold St.write
  rw [if_neg (by simp [St.hasB, AAct.bytes_len]; omega), if_neg hf, Int.toNat_natCast]
theorem write_burnt {s : St} (h : s.Ok) (x : AAct) (hf : s.fuse = 0) : s.write ((x.at s.blocks : Nat) : Int) (x.bytes s.size) = (8, s) := by
  have := x.at_lt s.blocks (by have := h.blo; omega)
  unfold St.write
  rw [if_neg (by simp [St.hasB, AAct.bytes_len]; omega), if_pos hf]

structure FInv (size blocks F k : Nat) (s : St) : Prop where
  size : s.size = size
  blocks : s.blocks = blocks
  ops : s.ops = min k F
  fuse : s.fuse = (F : Int) - (min k F : Nat)
  pend : s.pend.length ≤ k

theorem f_yes {size blocks F k : Nat} {s : St} (h : s.Ok) (i : FInv size blocks F k s) (x : AAct) (hk : k < F) : (fStep s x).1 = 0 ∧ FInv size blocks F (k + 1) (fStep s x).2 ∧ (fStep s x).2.ops = s.ops + 1 := by
  have hf : s.fuse ≠ 0 := by rw [i.fuse]; omega
  have hb : s.burn.fuse = (F : Int) - (min (k + 1) F : Nat) := by
    show (if s.fuse = -1 then -1 else s.fuse - 1) = _
    rw [if_neg (by rw [i.fuse]; omega), i.fuse]
    omega
  have ho : s.burn.ops = min (k + 1) F := by show s.ops + 1 = _; rw [i.ops]; omega
  unfold fStep
  split
  · unfold St.flush
    rw [if_neg hf]
    exact ⟨rfl, ⟨i.size, i.blocks, ho, hb, Nat.zero_le _⟩, rfl⟩
  · rw [write_yes h x hf]
    exact ⟨rfl, ⟨i.size, i.blocks, ho, hb, by show (s.pend ++ _).length ≤ _; have := i.pend; simp; omega⟩, rfl⟩
theorem f_no {size blocks F k : Nat} {s : St} (h : s.Ok) (i : FInv size blocks F k s) (x : AAct) (hk : ¬ k < F) : fStep s x = (8, s) ∧ FInv size blocks F (k + 1) s := by
  have hf : s.fuse = 0 := by rw [i.fuse]; omega
  refine ⟨?_, ⟨i.size, i.blocks, by rw [i.ops]; omega, by rw [i.fuse]; omega, by have := i.pend; omega⟩⟩
  unfold fStep
  split
  · unfold St.flush
    rw [if_pos hf]
  · exact write_burnt h x hf

set_option maxRecDepth 100000 in
set_option maxHeartbeats 4000000 in
theorem fuses_any (size blocks : Int) (a : Option Addr) (n c : Nat) (l : List AAct) (F0 : Int) (w : World) (hA : ASeg w a n c l) (hT : T64 w) :
    Calls Tryd.prog 8 #[.agg #[.int .i64 size, .int .i64 blocks], .slice a n c, .int .i64 F0] w fun e w' => e = .returned (.bool true) ∧ Turn w w' nowhere := by
  have t1 : Turn w (w.alloc (.cells #[.int .i64 size, .int .i64 blocks] 28)) nowhere := Turn.alloc _ _ _
  have g0 : (w.alloc (.cells #[.int .i64 size, .int .i64 blocks] 28)).cell? ⟨w.heap.size, 0, none⟩ = some (.int .i64 size) := by simp [go_sem]
  have g1 : (w.alloc (.cells #[.int .i64 size, .int .i64 blocks] 28)).cell? ⟨w.heap.size, 1, none⟩ = some (.int .i64 blocks) := by simp [go_sem]
  have HL := Lib.hid (lives_any _ (hT.turn t1 id))
  have hncap := Nat.le_trans hA.le hA.cap
  unfold maxLen at hncap
  go_enter Tryd.func8, Tryd.ntmps8
  go_wp2_with fail
  generalize w.alloc (.cells #[.int .i64 size, .int .i64 blocks] 28) = w1 at *
  refine HL.out.mono ?_
  rintro e w2 ⟨rfl, t2⟩
  have g0a := t2.cell g0 id
  have g1a := t2.cell g1 id
  go_wp2_with fail
  cases hg : geoB size blocks with
  | false =>
    refine (new_no size blocks w2 hg).mono ?_
    rintro e w3 ⟨rfl, t3⟩
    have g0b := t3.cell g0a id
    have g1b := t3.cell g1a id
    have HF := Lib.hid (fun W (k : Turn w3 W nowhere) => ((t1.trans t2 (fun _ _ h => h)).trans t3 (fun _ _ h => h)).trans k (fun _ _ h => h))
    go_wp2_with fail
    refine (light_any size blocks w3).mono ?_
    rintro e w4 ⟨rfl, t4⟩
    have HF4 := Lib.hid (HF.out w4 t4)
    cases hl : LightS size blocks with
    | false =>
      go_wp2
      go_ret
      exact ⟨rfl, HF4.out⟩
    | true =>
      by_cases h40 : n ≤ 40
      · have h40' : decide ((40 : Int) < (n : Int)) = false := decide_eq_false (by omega)
        go_wp2
        go_ret
        exact ⟨rfl, HF4.out⟩
      · have h40' : decide ((40 : Int) < (n : Int)) = true := decide_eq_true (by omega)
        go_wp2
        go_ret
        exact ⟨rfl, HF4.out⟩
  | true =>
    have hgo := of_decide_eq_true hg
    obtain ⟨S, rfl⟩ : ∃ S : Nat, size = (S : Int) := ⟨size.toNat, by omega⟩
    obtain ⟨K, rfl⟩ : ∃ K : Nat, blocks = (K : Int) := ⟨blocks.toNat, by omega⟩
    refine (new_yes S K w2 hg).mono ?_
    intro e w3 hx
    obtain ⟨g, b, rfl, hd3, t3⟩ := held_new t2 hx
    have g0b := t3.cell g0a id
    have g1b := t3.cell g1a id
    dsimp only
    go_wp2_with fail
    refine (light_any S K w3).mono ?_
    rintro e w4 ⟨rfl, t4⟩
    have hd4 := hd3.go t4
    have HF := Lib.hid (fun W (k : Turn w1 W nowhere) => t1.trans k (fun _ _ h => h))
    have HD4 := Lib.hid hd4
    by_cases hlt : LightS (S : Int) (K : Int) = true ∧ n ≤ 40
    · obtain ⟨hl, h40⟩ := hlt
      rw [hl]
      have h40' : decide ((40 : Int) < (n : Int)) = false := decide_eq_false (by omega)
      have HP := Lib.hid (fun w => pick_any F0 45 w (by omega) (by omega))
      have hpr := pick_range F0 45 (by omega)
      obtain ⟨F, hF⟩ : ∃ F : Nat, pick F0 45 = (F : Int) := ⟨(pick F0 45).toNat, by omega⟩
      rw [hF] at HP hpr
      have HA := Lib.hid (hA.old t1)
      have HG0 := Lib.hid g0
      have HG1 := Lib.hid g1
      clear hA hd3 hd4 hx g0 g1 g0a g1a g0b g1b
      dsimp only
      go_wp2_with fail
      refine (HP.out _).mono ?_
      rintro e w5 ⟨rfl, rfl⟩
      go_wp2_with fail
      refine (fuse_any g b _ _ (F : Int) w4 HD4.out.dev (by omega)).mono ?_
      intro e w5 hx5
      obtain ⟨rfl, hd5, _⟩ := HD4.out.fused hx5
      clear hx5
      dsimp only
      have HD5 := Lib.hid hd5
      have HI0 : Hid (FInv S K F 0 ((St.fresh S K (zeros S K)).setFuse (F : Int))) := Lib.hid ⟨rfl, rfl, by simp [St.setFuse, St.fresh], by simp [St.setFuse]; omega, by simp [St.setFuse, St.fresh]⟩
      clear hd5
      go_wp2
      go_loopw [9] (fun sv wr => ∃ (k : Nat) (P : Value) (s : St), k ≤ n ∧ sv = .int .i64 (k : Int) ∧ Hid (Held w1 wr g b P s) ∧ Hid (FInv S K F k s)) (fun sv _ => n - (intOf sv).toNat)
      case atStart => exact ⟨0, _, _, Nat.zero_le _, rfl, HD5, HI0⟩
      case round =>
        obtain ⟨k, P, s, hk, rfl, HD, HI⟩ := hrel
        by_cases hkn : k < n
        · have hf := HA.out.form (by omega)
          obtain ⟨B, O, rfl, hat⟩ := hf
          obtain ⟨hax, hok⟩ := hat k hkn
          clear hat
          obtain ⟨x, hx⟩ : ∃ x, x = l.getD k default := ⟨_, rfl⟩
          rw [← hx] at hax hok
          have HAX := Lib.hid hax
          have HOX := Lib.hid hok
          have hss := HI.out.size
          have hsb := HI.out.blocks
          have hsp := HI.out.pend
          have hso : s.ops < 1000000 := by rw [HI.out.ops]; omega
          have p0 : (0 : Int) ≤ (k : Int) := by omega
          have p1 : (k : Int) < (n : Int) := by omega
          clear hax hok hx
          go_wp2_with fail
          refine (ops_any g b P s wr HD.out.dev).mono ?_
          rintro e w6 ⟨rfl, rfl⟩
          go_wp2_with fail
          refine (pending_any g b P s wr HD.out.dev).mono ?_
          rintro e w6 ⟨wa, wc, rfl, _, hwc, t6⟩
          have HD6 := Lib.hid (HD.out.go t6)
          clear hwc t6 HD
          go_wp2_with fail
          refine (image_any g b P s w6 HD6.out.dev).mono ?_
          rintro e w7 ⟨rfl, rfl⟩
          have a0 := (HAX.out.old HD6.out.turn).c0
          cases hk3 : (x.kind.tmod 3 == 0) with
          | true =>
            have hfs : fStep s x = s.flush := by unfold fStep; rw [if_pos (beq_iff_eq.1 hk3)]
            go_wp2_with fail
            refine (flush_any g b P s w6 HD6.out.dev hso).mono ?_
            intro e w8 hx8
            obtain ⟨P8, rfl, hd8, _, _⟩ := HD6.out.wrote hx8
            rw [← hfs] at hd8
            rw [← hfs]
            clear hx8 hfs
            have hd8k := hd8
            by_cases hkF : k < F
            · obtain ⟨y1, y2, y3⟩ := f_yes HD6.out.dev.ok HI.out x hkF
              have hko : ((fStep s x).2.ops : Int) = (s.ops : Int) + 1 := by omega
              have hso2 : (s.ops : Int) ≤ 1000000 := by omega
              rw [y1]
              have HI8 := Lib.hid y2
              have HD8 := Lib.hid hd8
              have HOP := Lib.hid (ops_any g b P8 _ w8 hd8.dev)
              rw [hko] at HOP
              clear y1 y2 y3 hd8
              dsimp only
              go_wp2_with fail
              refine HOP.out.mono ?_
              rintro e w9 ⟨rfl, rfl⟩
              go_wp2
              go_roundw
              case rel => exact ⟨k + 1, P8, _, by omega, by go_num, HD8, HI8⟩
              case measure => simp [intOf]; omega
            · obtain ⟨y1, y2⟩ := f_no HD6.out.dev.ok HI.out x hkF
              rw [y1] at hd8
              rw [y1]
              have HI8 := Lib.hid y2
              have HD8 := Lib.hid hd8
              have HOP := Lib.hid (ops_any g b P8 s w8 hd8.dev)
              have HPE := Lib.hid (pending_any g b P8 s w8 hd8.dev)
              clear y1 y2 hd8
              dsimp only
              go_wp2_with fail
              refine HOP.out.mono ?_
              rintro e w9 ⟨rfl, rfl⟩
              go_wp2_with fail
              refine HPE.out.mono ?_
              rintro e w9 ⟨wa', wc', rfl, _, hwc', t9⟩
              have HD9 := Lib.hid (HD8.out.go t9)
              clear hwc' t9 HD8
              go_wp2_with fail
              refine (image_any g b P8 s w9 HD9.out.dev).mono ?_
              rintro e w10 ⟨rfl, rfl⟩
              go_wp2
              go_roundw
              case rel => exact ⟨k + 1, P8, s, by omega, by go_num, HD9, HI8⟩
              case measure => simp [intOf]; omega
          | false =>
            have hfs : fStep s x = s.write ((x.at K : Nat) : Int) (x.bytes S) := by unfold fStep; rw [if_neg (beq_eq_false_iff_ne.1 hk3), hss, hsb]
            have A := HAX.out.old HD6.out.turn
            obtain ⟨_, a1, a2, a3, a4, a5⟩ := A
            have g0r := HD6.out.turn.cell HG0.out id
            have g1r := HD6.out.turn.cell HG1.out id
            have HPK := Lib.hid (fun w => at_pick x K w (by omega) (by omega))
            have HBY := Lib.hid (fun w => abytes_any x S w (by omega))
            have HWR : Hid (∀ W, Turn w6 W nowhere → Calls Tryd.prog 13 #[.pointer (some ⟨g, 0, none⟩), .int .i64 ((x.at K : Nat) : Int), .string (strOfNums (x.bytes S))] W (Wrote g b P (fStep s x) W)) := Lib.hid (fun W kk => by
              rw [hfs]
              exact write_any g b P s _ _ W (HD6.out.go kk).dev (AAct.bytes_isB HOX.out S) (by rw [AAct.bytes_len]; omega) (by omega) hso)
            obtain ⟨q, hq⟩ : ∃ q, q = x.at K := ⟨_, rfl⟩
            obtain ⟨U, hU⟩ : ∃ U, U = strOfNums (x.bytes S) := ⟨_, rfl⟩
            rw [← hq] at HPK HWR
            rw [← hU] at HBY HWR
            clear hq hU hfs
            go_wp2_with fail
            go_region_held3 (fun w' => w'.cell? ⟨B, O + k * 6, none⟩ = some (.int .i64 x.kind) ∧ w'.cell? ⟨B, O + k * 6 + 1, none⟩ = some (.int .i64 x.block) ∧ w'.cell? ⟨B, O + k * 6 + 2, none⟩ = some (.int .u8 x.b) ∧ w'.cell? ⟨B, O + k * 6 + 3, none⟩ = some (.int .i64 x.n) ∧ w'.cell? ⟨B, O + k * 6 + 4, none⟩ = some (.int .u32 (x.mask : Int)) ∧ w'.cell? ⟨B, O + k * 6 + 5, none⟩ = some (.slice x.pa x.pn x.pc) ∧ w'.cell? ⟨w.heap.size, 0, none⟩ = some (.int .i64 (S : Int)) ∧ w'.cell? ⟨w.heap.size, 1, none⟩ = some (.int .i64 (K : Int))) (go_keep)
              (first
                | (go_at_call 26
                   refine (HPK.out _).mono ?_
                   rintro e w7 ⟨rfl, rfl⟩)
                | (go_at_call 27
                   refine (HBY.out _).mono ?_
                   rintro e w7 ⟨rfl, t7⟩
                   have e0 := t7.cell (p := ⟨B, O + k * 6, none⟩) (by exact a0) id
                   have e1 := t7.cell (p := ⟨B, O + k * 6 + 1, none⟩) (by exact a1) id
                   have e2 := t7.cell (p := ⟨B, O + k * 6 + 2, none⟩) (by exact a2) id
                   have e3 := t7.cell (p := ⟨B, O + k * 6 + 3, none⟩) (by exact a3) id
                   have e4 := t7.cell (p := ⟨B, O + k * 6 + 4, none⟩) (by exact a4) id
                   have e5 := t7.cell (p := ⟨B, O + k * 6 + 5, none⟩) (by exact a5) id
                   have e6 := t7.cell (p := ⟨w.heap.size, 0, none⟩) (by exact g0r) id
                   have e7 := t7.cell (p := ⟨w.heap.size, 1, none⟩) (by exact g1r) id
                   have T7 : Hid (Turn w6 w7 nowhere) := Lib.hid ((Turn.drew w6 nowhere).trans t7 (fun _ _ h => h)))
                | (go_at_call 13
                   refine (HWR.out _ T7.out).mono ?_
                   intro e w8 hx8
                   obtain ⟨P8, rfl, hd8, _, _⟩ := (HD6.out.go T7.out).wrote hx8
                   have f0 := hd8.turn.cell HAX.out.c0 id
                   have f1 := hd8.turn.cell HAX.out.c1 id
                   have f2 := hd8.turn.cell HAX.out.c2 id
                   have f3 := hd8.turn.cell HAX.out.c3 id
                   have f4 := hd8.turn.cell HAX.out.c4 id
                   have f5 := hd8.turn.cell HAX.out.c5 id
                   have f6 := hd8.turn.cell HG0.out id
                   have f7 := hd8.turn.cell HG1.out id
                   clear hx8 T7
                   dsimp only)
                | fail)
            clear a0 a1 a2 a3 a4 a5 g0r g1r HPK HBY HWR e0 e1 e2 e3 e4 e5 e6 e7 f0 f1 f2 f3 f4 f5 f6 f7
            have hd8k := hd8
            by_cases hkF : k < F
            · obtain ⟨y1, y2, y3⟩ := f_yes HD6.out.dev.ok HI.out x hkF
              have hko : ((fStep s x).2.ops : Int) = (s.ops : Int) + 1 := by omega
              have hso2 : (s.ops : Int) ≤ 1000000 := by omega
              rw [y1]
              have HI8 := Lib.hid y2
              have HD8 := Lib.hid hd8
              have HOP := Lib.hid (ops_any g b P8 _ w8 hd8.dev)
              rw [hko] at HOP
              clear y1 y2 y3 hd8
              try dsimp only
              go_wp2_with fail
              refine HOP.out.mono ?_
              rintro e w9 ⟨rfl, rfl⟩
              go_wp2
              go_roundw
              case rel => exact ⟨k + 1, P8, _, by omega, by go_num, HD8, HI8⟩
              case measure => simp [intOf]; omega
            · obtain ⟨y1, y2⟩ := f_no HD6.out.dev.ok HI.out x hkF
              rw [y1] at hd8
              rw [y1]
              have HI8 := Lib.hid y2
              have HD8 := Lib.hid hd8
              have HOP := Lib.hid (ops_any g b P8 s w8 hd8.dev)
              have HPE := Lib.hid (pending_any g b P8 s w8 hd8.dev)
              clear y1 y2 hd8
              try dsimp only
              go_wp2_with fail
              refine HOP.out.mono ?_
              rintro e w9 ⟨rfl, rfl⟩
              go_wp2_with fail
              refine HPE.out.mono ?_
              rintro e w9 ⟨wa', wc', rfl, _, hwc', t9⟩
              have HD9 := Lib.hid (HD8.out.go t9)
              clear hwc' t9 HD8
              go_wp2_with fail
              refine (image_any g b P8 s w9 HD9.out.dev).mono ?_
              rintro e w10 ⟨rfl, rfl⟩
              go_wp2
              go_roundw
              case rel => exact ⟨k + 1, P8, s, by omega, by go_num, HD9, HI8⟩
              case measure => simp [intOf]; omega
        · obtain rfl : k = n := by omega
          have hso : (s.setFuse (-1)).ops < 1000000 := by show s.ops < _; rw [HI.out.ops]; omega
          have hfl : (s.setFuse (-1)).flush = (0, { (s.setFuse (-1)).burn with dur := laid s.dur s.pend, pend := [] }) := by
            unfold St.flush
            rw [if_neg (by simp [St.setFuse])]
            rfl
          go_wp2_with fail
          refine (fuse_any g b P s (-1) wr HD.out.dev (by omega)).mono ?_
          intro e w6 hx6
          obtain ⟨rfl, hd6, _⟩ := HD.out.fused hx6
          try dsimp only
          go_wp2_with fail
          refine (flush_any g b P _ w6 hd6.dev hso).mono ?_
          intro e w7 hx7
          obtain ⟨P7, rfl, hd7, _, _⟩ := hd6.wrote hx7
          rw [hfl] at hd7
          rw [hfl]
          have hoo : ((({ (s.setFuse (-1)).burn with dur := laid s.dur s.pend, pend := [] } : St)).ops : Int) = min (F : Int) (k : Int) + 1 := by
            show ((s.ops + 1 : Nat) : Int) = _
            rw [HI.out.ops]
            omega
          have HOP := Lib.hid (ops_any g b P7 _ w7 hd7.dev)
          rw [hoo] at HOP
          have HFF := Lib.hid (HF.out w7 hd7.turn)
          clear hx6 hx7 hd6 hd7 hfl hso hoo
          dsimp only
          go_wp2_with fail
          refine HOP.out.mono ?_
          rintro e w9 ⟨rfl, rfl⟩
          go_wp2
          all_goals
            go_ret
            refine ⟨?_, HFF.out⟩
            simp
            try omega
    · have HF4 := Lib.hid (HF.out w4 HD4.out.turn)
      cases hl : LightS (S : Int) (K : Int) with
      | false =>
        go_wp2
        go_ret
        exact ⟨rfl, HF4.out⟩
      | true =>
        have h40' : decide ((40 : Int) < (n : Int)) = true := decide_eq_true (by
          have h41 : ¬ n ≤ 40 := fun h => hlt ⟨hl, h⟩
          omega)
        go_wp2
        go_ret
        exact ⟨rfl, HF4.out⟩
end Go.Proofs.YtjhcjnalomdbnaaDoor.Dv
