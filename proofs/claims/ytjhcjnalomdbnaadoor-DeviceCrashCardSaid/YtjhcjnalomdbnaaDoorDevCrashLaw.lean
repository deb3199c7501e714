/-
  The device's laws: DeviceCrash.
-/
import Derived.Test.YtjhcjnalomdbnaaDoorDevCrashNum
import Derived.Test.YtjhcjnalomdbnaaDoorDevLast
import Derived.Test.YtjhcjnalomdbnaaDoorDevRotLaw
namespace Go.Proofs.YtjhcjnalomdbnaaDoor.Dv
open Go.RowKit Bs

structure CInv (S K k : Nat) (s : St) : Prop where
  size : s.size = S
  blocks : s.blocks = K
  fuse : s.fuse = -1
  ops : s.ops ≤ 2 * k
  pend : s.pend.length ≤ k

theorem cinv_write {S K k : Nat} {s : St} (i : CInv S K k s) (q : Nat × List Int) : CInv S K (k + 1) { s.burn with pend := s.pend ++ [q] } ∧ s.ops + 1 ≤ 2 * k + 1 :=
  ⟨⟨i.size, i.blocks, by show (if s.fuse = -1 then -1 else s.fuse - 1) = -1; rw [if_pos i.fuse], by show s.ops + 1 ≤ _; have := i.ops; omega, by show (s.pend ++ [q]).length ≤ _; have := i.pend; simp; omega⟩, by have := i.ops; omega⟩
theorem cinv_flush {S K k : Nat} {s : St} (i : CInv S K k s) (ho : s.ops ≤ 2 * k - 1) (hk : 1 ≤ k) : CInv S K k s.flush.2 := by
  have hf : s.fuse ≠ 0 := by rw [i.fuse]; omega
  have e : s.flush.2 = { s.burn with dur := laid s.dur s.pend, pend := [] } := by unfold St.flush; rw [if_neg hf]
  refine ⟨by rw [e]; exact i.size, by rw [e]; exact i.blocks, ?_, ?_, by rw [e]; exact Nat.zero_le _⟩
  · rw [e]; show (if s.fuse = -1 then -1 else s.fuse - 1) = -1; rw [if_pos i.fuse]
  · rw [e]; show s.ops + 1 ≤ _; omega

theorem WSeg.form {w : World} {pa : Option Addr} {n c : Nat} {l : List (Nat × List Int)} (h : WSeg w pa n c l) (hn : n ≠ 0) : ∃ B O, pa = some ⟨B, O, none⟩ ∧ ∀ k, k < n → w.cell? ⟨B, O + k * 2, none⟩ = some (.int .i64 ((l.getD k (0, [])).1 : Int)) ∧ w.cell? ⟨B, O + k * 2 + 1, none⟩ = some (.string (strOfNums (l.getD k (0, [])).2)) := by
  cases pa with
  | none => exact absurd (h.nil_ rfl).1 hn
  | some ad =>
    have hl := h.len
    have h0 := spot_none (h.at_ ad rfl 0 _ (wrow_at l 0 (by omega)).1)
    obtain ⟨B, O, sp⟩ := ad
    have : sp = none := h0
    subst this
    refine ⟨B, O, rfl, fun k hk => ?_⟩
    have h1 := wrow_at l k (by omega)
    have h2 := h.at_ _ rfl _ _ h1.1
    have h3 := h.at_ _ rfl _ _ h1.2
    rw [Addr.add_lit, Nat.mul_comm] at h2
    rw [Addr.add_lit, Nat.mul_comm, ← Nat.add_assoc] at h3
    exact ⟨h2, h3⟩

def anyTo (f : Nat → Bool) (i : Nat) : Bool := (List.range i).any f
theorem anyTo_succ (f : Nat → Bool) (i : Nat) : anyTo f (i + 1) = (anyTo f i || f i) := by simp [anyTo, List.range_succ]
theorem anyTo_true {f : Nat → Bool} {n i : Nat} (hi : i < n) (h : f i = true) : anyTo f n = true := by
  unfold anyTo
  rw [List.any_eq_true]
  exact ⟨i, List.mem_range.2 hi, h⟩

def pw (s : St) (pl : List (Int × Nat)) (i : Nat) : Nat × List Int := s.pend.getD (pl.getD i (0, 0)).1.toNat (0, [])
/-- Pick i has this sector as it is. -/
def covB (s : St) (pl : List (Int × Nat)) (S m : Nat) (sec : ByteArray) (i : Nat) : Bool :=
  decide ((pw s pl i).1 * S ≤ m ∧ m < (pw s pl i).1 * S + S ∧ (pl.getD i (0, 0)).2.testBit ((m - (pw s pl i).1 * S) / 64) = true ∧ (strOfNums (pw s pl i).2).extract (m - (pw s pl i).1 * S) (m - (pw s pl i).1 * S + 64) = sec)

theorem cov_any (s : St) (h : s.Ok) (pl : List (Int × Nat)) (hl : picksOk s pl) (t : Nat)
    (hne : ¬ (strOfNums (s.crash pl).dur.flatten).extract (64 * t) (64 * t + 64) = (strOfNums s.dur.flatten).extract (64 * t) (64 * t + 64)) :
    anyTo (covB s pl s.size (64 * t) ((strOfNums (s.crash pl).dur.flatten).extract (64 * t) (64 * t + 64))) pl.length = true := by
  have h1 := crash_sec s h pl hl t pl.length (Nat.le_refl _)
  rw [List.take_length] at h1
  rcases h1 with h1 | ⟨i, hi, hc⟩
  · exact absurd h1.ext hne
  · exact anyTo_true hi (decide_eq_true ⟨hc.lo, hc.hi, hc.bit, hc.eq.ext.symm⟩)

theorem shr_bit (p z : Nat) : ((p : Int) / 2 ^ z).tmod 2 = ((p / 2 ^ z % 2 : Nat) : Int) := Crc.mask_rem p z

set_option maxRecDepth 100000 in
set_option maxHeartbeats 8000000 in
theorem crashlaw_any (size blocks : Int) (a : Option Addr) (n c : Nat) (l : List AAct) (pa : Option Addr) (pn pc : Nat) (pl : List (Int × Nat)) (w : World) (hA : ASeg w a n c l) (hP : PSeg w pa pn pc pl) (hT : T64 w) :
    Calls Tryd.prog 6 #[.agg #[.int .i64 size, .int .i64 blocks], .slice a n c, .slice pa pn pc] w fun e w' => e = .returned (.bool true) ∧ Turn w w' nowhere := by
  have t1 : Turn w (w.alloc (.cells #[.int .i64 size, .int .i64 blocks] 28)) nowhere := Turn.alloc _ _ _
  have g0 : (w.alloc (.cells #[.int .i64 size, .int .i64 blocks] 28)).cell? ⟨w.heap.size, 0, none⟩ = some (.int .i64 size) := by simp [go_sem]
  have g1 : (w.alloc (.cells #[.int .i64 size, .int .i64 blocks] 28)).cell? ⟨w.heap.size, 1, none⟩ = some (.int .i64 blocks) := by simp [go_sem]
  have HL := Lib.hid (lives_any _ (hT.turn t1 id))
  have HT1 := Lib.hid (hT.turn t1 id)
  have hpcap := Nat.le_trans hP.le hP.cap
  unfold maxLen at hpcap
  clear hT
  have hncap := Nat.le_trans hA.le hA.cap
  unfold maxLen at hncap
  go_enter Tryd.func6, Tryd.ntmps6
  go_wp2_with fail
  generalize w.alloc (.cells #[.int .i64 size, .int .i64 blocks] 28) = w1 at *
  refine HL.out.mono ?_
  rintro e w2 ⟨rfl, t2⟩
  have g0a := t2.cell g0 id
  have g1a := t2.cell g1 id
  go_wp2_with fail
  cases hg : geoB size blocks with
  | false =>
    refine (new_no size blocks w2 hg).mono ?_
    rintro e w3 ⟨rfl, t3⟩
    have g0b := t3.cell g0a id
    have g1b := t3.cell g1a id
    have HF := Lib.hid (fun W (k : Turn w3 W nowhere) => ((t1.trans t2 (fun _ _ h => h)).trans t3 (fun _ _ h => h)).trans k (fun _ _ h => h))
    go_wp2_with fail
    refine (light_any size blocks w3).mono ?_
    rintro e w4 ⟨rfl, t4⟩
    have HF4 := Lib.hid (HF.out w4 t4)
    cases hl : LightS size blocks with
    | false =>
      go_wp2
      go_ret
      exact ⟨rfl, HF4.out⟩
    | true =>
      by_cases h40 : n ≤ 40
      · have h40' : decide ((40 : Int) < (n : Int)) = false := decide_eq_false (by omega)
        by_cases h41 : pn ≤ 40
        · have h41' : decide ((40 : Int) < (pn : Int)) = false := decide_eq_false (by omega)
          go_wp2
          go_ret
          exact ⟨rfl, HF4.out⟩
        · have h41' : decide ((40 : Int) < (pn : Int)) = true := decide_eq_true (by omega)
          go_wp2
          go_ret
          exact ⟨rfl, HF4.out⟩
      · have h40' : decide ((40 : Int) < (n : Int)) = true := decide_eq_true (by omega)
        go_wp2
        go_ret
        exact ⟨rfl, HF4.out⟩
  | true =>
    have hgo := of_decide_eq_true hg
    obtain ⟨S, rfl⟩ : ∃ S : Nat, size = (S : Int) := ⟨size.toNat, by omega⟩
    obtain ⟨K, rfl⟩ : ∃ K : Nat, blocks = (K : Int) := ⟨blocks.toNat, by omega⟩
    refine (new_yes S K w2 hg).mono ?_
    intro e w3 hx
    obtain ⟨g, b, rfl, hd3, t3⟩ := held_new t2 hx
    have g0b := t3.cell g0a id
    have g1b := t3.cell g1a id
    dsimp only
    go_wp2_with fail
    refine (light_any S K w3).mono ?_
    rintro e w4 ⟨rfl, t4⟩
    have hd4 := hd3.go t4
    have HF := Lib.hid (fun W (k : Turn w1 W nowhere) => t1.trans k (fun _ _ h => h))
    have HD4 := Lib.hid hd4
    by_cases hlt : LightS (S : Int) (K : Int) = true ∧ n ≤ 40 ∧ pn ≤ 40
    · obtain ⟨hl, h40, h41⟩ := hlt
      have hsk := light_small' hl hg
      rw [hl]
      have h40' : decide ((40 : Int) < (n : Int)) = false := decide_eq_false (by omega)
      have h41' : decide ((40 : Int) < (pn : Int)) = false := decide_eq_false (by omega)
      have HA := Lib.hid (hA.old t1)
      have HP := Lib.hid (hP.old t1)
      have HG0 := Lib.hid g0
      have HG1 := Lib.hid g1
      have HC0 : Hid (CInv S K 0 (St.fresh S K (zeros S K))) := Lib.hid ⟨rfl, rfl, rfl, Nat.le_refl _, Nat.le_refl _⟩
      clear hA hP hd3 hd4 hx g0 g1 g0a g1a g0b g1b t2 t3 t4
      dsimp only
      go_wp2
      go_loopw [9] (fun sv wr => ∃ (k : Nat) (P : Value) (s : St), k ≤ n ∧ sv = .int .i64 (k : Int) ∧ Hid (Held w1 wr g b P s) ∧ Hid (CInv S K k s)) (fun sv _ => n - (intOf sv).toNat)
      case atStart => exact ⟨0, _, _, Nat.zero_le _, rfl, HD4, HC0⟩
      case round =>
        clear HC0 HD4
        obtain ⟨k, P, s, hk, rfl, HD, HI⟩ := hrel
        by_cases hkn : k < n
        · have hf := HA.out.form (by omega)
          obtain ⟨B, O, rfl, hat⟩ := hf
          obtain ⟨hax, hok⟩ := hat k hkn
          clear hat
          obtain ⟨x, hx⟩ : ∃ x, x = l.getD k default := ⟨_, rfl⟩
          rw [← hx] at hax hok
          have HAX := Lib.hid hax
          have HOX := Lib.hid hok
          have hss := HI.out.size
          have hsb := HI.out.blocks
          have hsp := HI.out.pend
          have hso := HI.out.ops
          have p0 : (0 : Int) ≤ (k : Int) := by omega
          have p1 : (k : Int) < (n : Int) := by omega
          have A := HAX.out.old HD.out.turn
          obtain ⟨a0, a1, a2, a3, a4, a5⟩ := A
          have g0r := HD.out.turn.cell HG0.out id
          have g1r := HD.out.turn.cell HG1.out id
          have HPK := Lib.hid (fun w => at_pick x K w (by omega) (by omega))
          have HBY := Lib.hid (fun w => abytes_any x S w (by omega))
          have hwy := write_yes HD.out.dev.ok x (by rw [HI.out.fuse]; omega)
          rw [hss, hsb] at hwy
          have HWR : Hid (∀ W, Turn wr W nowhere → Calls Tryd.prog 13 #[.pointer (some ⟨g, 0, none⟩), .int .i64 ((x.at K : Nat) : Int), .string (strOfNums (x.bytes S))] W (Wrote g b P (0, { s.burn with pend := s.pend ++ [(x.at K, x.bytes S)] }) W)) := Lib.hid (fun W kk => by
            rw [← hwy]
            exact write_any g b P s _ _ W (HD.out.go kk).dev (AAct.bytes_isB HOX.out S) (by rw [AAct.bytes_len]; omega) (by omega) (by omega))
          obtain ⟨h1, h2⟩ := cinv_write HI.out (x.at K, x.bytes S)
          have HI2 := Lib.hid h1
          have HO2 := Lib.hid h2
          obtain ⟨nl, hnl⟩ : ∃ nl, nl = x.bytes S := ⟨_, rfl⟩
          obtain ⟨q, hq⟩ : ∃ q, q = x.at K := ⟨_, rfl⟩
          rw [← hq, ← hnl] at HWR HI2
          rw [← hq] at HPK
          rw [← hnl] at HBY
          obtain ⟨U, hU⟩ : ∃ U, U = strOfNums nl := ⟨_, rfl⟩
          rw [← hU] at HBY HWR
          clear hq hU hnl hwy hax hok hx h1 h2
          go_wp2_with fail
          go_region_held3 (fun w' => w'.cell? ⟨B, O + k * 6, none⟩ = some (.int .i64 x.kind) ∧ w'.cell? ⟨B, O + k * 6 + 1, none⟩ = some (.int .i64 x.block) ∧ w'.cell? ⟨B, O + k * 6 + 2, none⟩ = some (.int .u8 x.b) ∧ w'.cell? ⟨B, O + k * 6 + 3, none⟩ = some (.int .i64 x.n) ∧ w'.cell? ⟨B, O + k * 6 + 4, none⟩ = some (.int .u32 (x.mask : Int)) ∧ w'.cell? ⟨B, O + k * 6 + 5, none⟩ = some (.slice x.pa x.pn x.pc) ∧ w'.cell? ⟨w.heap.size, 0, none⟩ = some (.int .i64 (S : Int)) ∧ w'.cell? ⟨w.heap.size, 1, none⟩ = some (.int .i64 (K : Int))) (go_keep)
            (first
              | (go_at_call 26
                 refine (HPK.out _).mono ?_
                 rintro e w7 ⟨rfl, rfl⟩)
              | (go_at_call 27
                 refine (HBY.out _).mono ?_
                 rintro e w7 ⟨rfl, t7⟩
                 have e0 := t7.cell (p := ⟨B, O + k * 6, none⟩) (by exact a0) id
                 have e1 := t7.cell (p := ⟨B, O + k * 6 + 1, none⟩) (by exact a1) id
                 have e2 := t7.cell (p := ⟨B, O + k * 6 + 2, none⟩) (by exact a2) id
                 have e3 := t7.cell (p := ⟨B, O + k * 6 + 3, none⟩) (by exact a3) id
                 have e4 := t7.cell (p := ⟨B, O + k * 6 + 4, none⟩) (by exact a4) id
                 have e5 := t7.cell (p := ⟨B, O + k * 6 + 5, none⟩) (by exact a5) id
                 have e6 := t7.cell (p := ⟨w.heap.size, 0, none⟩) (by exact g0r) id
                 have e7 := t7.cell (p := ⟨w.heap.size, 1, none⟩) (by exact g1r) id
                 have T7 : Hid (Turn wr w7 nowhere) := Lib.hid ((Turn.drew wr nowhere).trans t7 (fun _ _ h => h)))
              | (go_at_call 13
                 refine (HWR.out _ T7.out).mono ?_
                 intro e w8 hx8
                 obtain ⟨P8, rfl, hd8, _, _⟩ := (HD.out.go T7.out).wrote hx8
                 have f0 := hd8.turn.cell HAX.out.c0 id
                 have f1 := hd8.turn.cell HAX.out.c1 id
                 have f2 := hd8.turn.cell HAX.out.c2 id
                 have f3 := hd8.turn.cell HAX.out.c3 id
                 have f4 := hd8.turn.cell HAX.out.c4 id
                 have f5 := hd8.turn.cell HAX.out.c5 id
                 have f6 := hd8.turn.cell HG0.out id
                 have f7 := hd8.turn.cell HG1.out id
                 clear hx8 T7
                 dsimp only)
              | fail)
          clear a0 a1 a2 a3 a4 a5 g0r g1r HPK HBY HWR e0 e1 e2 e3 e4 e5 e6 e7 f0 f1 f2 f3 f4 f5 f6 f7
          have HD8 := Lib.hid hd8
          clear hd8
          have EH := Lib.hid (show (n : Int) / 2 = ((n / 2 : Nat) : Int) by omega)
          cases hkh : ((k : Int) == (n : Int) / 2) with
          | false =>
            go_wp2
            go_roundw
            case rel => exact ⟨k + 1, P8, _, by omega, by go_num, HD8, HI2⟩
            case measure => simp [intOf]; omega
          | true =>
            have HI3 := Lib.hid (cinv_flush HI2.out (by have := HO2.out; show s.ops + 1 ≤ _; omega) (by omega))
            go_wp2_with fail
            refine (flush_any g b P8 _ w8 HD8.out.dev (by show s.ops + 1 < _; omega)).mono ?_
            intro e w10 hx10
            obtain ⟨P10, rfl, hd10, _, _⟩ := HD8.out.wrote hx10
            have HD10 := Lib.hid hd10
            clear hx10 hd10
            dsimp only
            go_wp2
            go_roundw
            case rel => exact ⟨k + 1, P10, _, by omega, by go_num, HD10, HI3⟩
            case measure => simp [intOf]; omega
        · obtain rfl : k = n := by omega
          clear hkn
          have hss := HI.out.size
          have hsb := HI.out.blocks
          have hsp := HI.out.pend
          obtain ⟨N, hN⟩ : ∃ N, N = s.pend.length := ⟨_, rfl⟩
          have HN := Lib.hid hN
          rw [← hN] at hsp
          have HPE := Lib.hid (by have := pending_any g b P s wr HD.out.dev; rwa [← hN] at this : Calls Tryd.prog 21 #[.pointer (some ⟨g, 0, none⟩)] wr (NewW wr N s.pend))
          clear hN
          go_wp2_with fail
          refine HPE.out.mono ?_
          rintro e wp ⟨wa, wc, rfl, hws, _, tp⟩
          have HDP := Lib.hid (HD.out.go tp)
          have HWS := Lib.hid hws
          obtain ⟨WT, hWT⟩ : ∃ WT, WT = strOfNums s.dur.flatten := ⟨_, rfl⟩
          have HIM := Lib.hid (fun W (t : Turn wp W nowhere) => (by have := image_any g b P s W (HDP.out.go t).dev; rwa [← hWT] at this : Calls Tryd.prog 34 #[.pointer (some ⟨g, 0, none⟩)] W fun e w' => e = .returned (.string WT) ∧ W = w'))
          have HWT := Lib.hid hWT
          have hPP := HP.out.old HDP.out.turn
          clear hws tp hWT HPE HD
          go_wp2_with fail
          refine (HIM.out _ (Turn.refl _ _)).mono ?_
          rintro e w10 ⟨rfl, rfl⟩
          by_cases hpo : picksOk s pl
          · have HPO := Lib.hid hpo
            have HCR := Lib.hid (crash_yes g b P s pa pn pc pl wp HDP.out.dev hPP hpo (HT1.out.held HDP.out))
            clear hPP hpo
            go_wp2_with fail
            refine HCR.out.mono ?_
            intro e w11 hx
            obtain ⟨g', b', rfl, hc11, _, t11⟩ := held_crash HDP.out.turn hx
            obtain ⟨cs, hcs⟩ : ∃ cs, cs = s.crash pl := ⟨_, rfl⟩
            rw [← hcs] at hc11
            have HTW : Hid (Two w1 w11 g b P s g' b' (.slice none 0 0) cs) := Lib.hid (Two.start HDP.out t11 hc11)
            have HCS := Lib.hid hcs
            have HT11 := Lib.hid t11
            obtain ⟨NT, hNT⟩ : ∃ NT, NT = strOfNums cs.dur.flatten := ⟨_, rfl⟩
            have HIC := Lib.hid (by have := image_any g' b' _ cs w11 hc11.dev; rwa [← hNT] at this : Calls Tryd.prog 34 #[.pointer (some ⟨g', 0, none⟩)] w11 fun e w' => e = .returned (.string NT) ∧ w11 = w')
            have HPC := Lib.hid (pending_any g' b' _ cs w11 hc11.dev)
            have hcp : cs.pend.length = 0 := by rw [hcs]; rfl
            rw [hcp] at HPC
            have hnz : NT.size = S * K := by rw [hNT, strOfNums_size, hc11.dev.ok.len, hcs]; show s.size * s.blocks = _; rw [hss, hsb]
            have hwz : WT.size = S * K := by rw [HWT.out, strOfNums_size, HDP.out.dev.ok.len, hss, hsb]
            have e1 : (S : Int) * (K : Int) = ((S * K : Nat) : Int) := by rw [Int.natCast_mul]
            have hNK : S * K ≤ 20480 := Nat.le_trans (Nat.mul_le_mul hsk.1 hsk.2) (by decide)
            have e2 : IntKind.i64.wrap ((S : Int) * (K : Int)) = (S : Int) * (K : Int) := by rw [e1, IntKind.wrap_i64]; omega
            have n1 : ((NT.size : Int) != (S : Int) * (K : Int)) = false := by rw [e1, hnz]; simp
            have n2 : ((NT.size : Int) != (WT.size : Int)) = false := by rw [hnz, hwz]; simp
            have g0r := HTW.out.d.turn.cell HG0.out id
            have g1r := HTW.out.d.turn.cell HG1.out id
            have HNT := Lib.hid hNT
            have HNZ := Lib.hid hnz
            have HWZ := Lib.hid hwz
            clear hx hc11 t11 hcs hNT hcp HCR hnz hwz e1
            dsimp only
            go_wp2_with fail
            refine HIC.out.mono ?_
            rintro e w12 ⟨rfl, rfl⟩
            go_wp2_with fail
            refine (HIM.out _ HT11.out).mono ?_
            rintro e w12 ⟨rfl, rfl⟩
            go_wp2_with fail
            refine HPC.out.mono ?_
            rintro e w12 ⟨wa2, wc2, rfl, _, _, t12⟩
            have HTW12 := Lib.hid (HTW.out.go t12)
            have HT12 : Hid (Turn wp w12 nowhere) := Lib.hid (HT11.out.trans t12 (fun _ _ h => h))
            clear t12 HTW HT11 HIC HPC HIM g0r g1r n1 n2 e2
            try dsimp only
            go_wp2
            go_loopw [15] (fun iv wq => ∃ t : Nat, 64 * t ≤ S * K ∧ iv = .int .i64 ((64 * t : Nat) : Int) ∧ Hid (Turn wp wq nowhere) ∧ Hid (Two w1 wq g b P s g' b' (.slice none 0 0) cs)) (fun iv _ => S * K - (intOf iv).toNat)
            case atStart => exact ⟨0, Nat.zero_le _, rfl, HT12, HTW12⟩
            case round =>
              clear HT12 HTW12
              obtain ⟨t, ht, rfl, HT, HTW⟩ := hrel
              obtain ⟨m, hmm⟩ : ∃ m, m = 64 * t := ⟨_, rfl⟩
              have HMT := Lib.hid hmm
              rw [← hmm] at ht ⊢
              clear hmm
              have hNK : S * K ≤ 20480 := Nat.le_trans (Nat.mul_le_mul hsk.1 hsk.2) (by decide)
              have hnz := HNZ.out
              have hwz := HWZ.out
              by_cases hmS : m < S * K
              · have hm64 : m + 64 ≤ S * K := by
                  have h1 := HMT.out
                  have h2 : S % 64 = 0 := by omega
                  obtain ⟨z, rfl⟩ : ∃ z, S = 64 * z := ⟨S / 64, by omega⟩
                  rw [Nat.mul_assoc] at hmS ⊢
                  omega
                have i1 : 0 ≤ (m : Int) := by omega
                have i2 : (m : Int) < (NT.size : Int) := by omega
                have i3 : (m : Int) + 64 ≤ (NT.size : Int) := by omega
                have i4 : (m : Int) + 64 ≤ (WT.size : Int) := by omega
                have i5 : 0 ≤ (m : Int) + 64 := by omega
                have i6 : (m : Int) ≤ (m : Int) + 64 := by omega
                have i7 : ((m : Int) + 64).toNat = m + 64 := by omega
                have i8 : IntKind.i64.wrap ((m : Int) + 64) = (m : Int) + 64 := by rw [IntKind.wrap_i64]; omega
                by_cases hE : NT.extract m (m + 64) = WT.extract m (m + 64)
                · have hEl : (NT.extract m (m + 64)).toList = (WT.extract m (m + 64)).toList := by rw [hE]
                  clear hE hnz hwz
                  go_wp2
                  go_roundw
                  case rel => exact ⟨t + 1, by have := HMT.out; omega, by have := HMT.out; rw [show ((64 * (t + 1) : Nat) : Int) = (m : Int) + 64 by omega], HT, HTW⟩
                  case measure => simp [intOf]; omega
                · have hEl : ((NT.extract m (m + 64)).toList == (WT.extract m (m + 64)).toList) = false := beq_eq_false_iff_ne.2 (ne_list hE)
                  have hany := cov_any s HDP.out.dev.ok pl HPO.out t (by rw [← HMT.out, ← HCS.out, ← HNT.out, ← HWT.out]; exact hE)
                  rw [← HMT.out, ← HCS.out, ← HNT.out, hss] at hany
                  have HANY := Lib.hid hany
                  clear hE hnz hwz hany
                  go_wp2
                  obtain ⟨ns, hns⟩ : ∃ ns, ns = NT.extract m (m + 64) := ⟨_, rfl⟩
                  rw [← hns] at HANY ⊢
                  have HA0 : Hid (anyTo (covB s pl S m ns) 0 = false) := Lib.hid rfl
                  clear hns
                  clear hEl
                  go_loopw [17, 18] (fun ov iv wq => ∃ i : Nat, i ≤ pn ∧ iv = .int .i64 (i : Int) ∧ ov = .bool (anyTo (covB s pl S m ns) i) ∧ Hid (Turn wp wq nowhere) ∧ Hid (Two w1 wq g b P s g' b' (.slice none 0 0) cs)) (fun _ iv _ => pn - (intOf iv).toNat)
                  case atStart => exact ⟨0, Nat.zero_le _, rfl, by rw [HA0.out], HT, HTW⟩
                  case round =>
                    clear HT HTW
                    obtain ⟨i, hi, rfl, hov, HT, HTW⟩ := hrel
                    subst hov
                    by_cases hip : i < pn
                    · have hPQ := (HP.out.old HTW.out.d.turn).form (by omega)
                      obtain ⟨B, O, rfl, hat0⟩ := hPQ
                      have hat := hat0 i hip
                      clear hat0
                      have hil : i < pl.length := by rw [HP.out.len]; exact hip
                      have hok := HPO.out i hil
                      have hsmp := HP.out.small (pl.getD i (0, 0)) (by simp [List.getD, hil])
                      obtain ⟨⟨p1, p2⟩, hpq⟩ : ∃ q : Int × Nat, pl.getD i (0, 0) = q := ⟨_, rfl⟩
                      rw [hpq] at hat hok hsmp
                      obtain ⟨ho1, ho2, ho3, _⟩ := hok
                      obtain ⟨j, rfl⟩ : ∃ j : Nat, p1 = (j : Int) := ⟨p1.toNat, by have : 0 ≤ p1 := ho1; omega⟩
                      have hj : j < s.pend.length := by have : (j : Int) < s.pend.length := ho2; omega
                      have hjN : j < N := by rw [HN.out]; exact hj
                      obtain ⟨⟨x1, x2⟩, hxq⟩ : ∃ q : Nat × List Int, s.pend.getD j (0, []) = q := ⟨_, rfl⟩
                      have hpb := HDP.out.dev.ok.pblk _ (List.getElem_mem hj)
                      have hpe : s.pend.getD j (0, []) = s.pend[j] := by simp [List.getD, hj]
                      rw [← hpe, hxq] at hpb
                      obtain ⟨b1, b2, b3⟩ := hpb
                      have hWQ := (HWS.out.turn HT.out (fun _ _ => id)).form (by omega)
                      obtain ⟨WB, WO, rfl, hwat0⟩ := hWQ
                      have hwat := hwat0 j hjN
                      clear hwat0
                      rw [hxq] at hwat
                      have c0 : wr.cell? ⟨B, O + i * 2, none⟩ = some (.int .i64 (j : Int)) := hat.1
                      have c1 : wr.cell? ⟨B, O + i * 2 + 1, none⟩ = some (.int .u64 (p2 : Int)) := hat.2
                      have y0 : wr.cell? ⟨WB, WO + j * 2, none⟩ = some (.int .i64 (x1 : Int)) := hwat.1
                      obtain ⟨X, hX⟩ : ∃ X, X = strOfNums x2 := ⟨_, rfl⟩
                      have y1 : wr.cell? ⟨WB, WO + j * 2 + 1, none⟩ = some (.string X) := by rw [hX]; exact hwat.2
                      have hXs : X.size = S := by rw [hX, strOfNums_size]; exact b2.trans hss
                      have n1 : ((X.size : Int) != (S : Int)) = false := by rw [hXs]; simp
                      have g0q := HTW.out.d.turn.cell HG0.out id
                      have c1a : ∀ Ob : Obj, (wr.alloc Ob).cell? ⟨B, O + i * 2 + 1, none⟩ = some (.int .u64 (p2 : Int)) := fun Ob => (Turn.alloc wr Ob nowhere).cell c1 id
                      have g0a : ∀ Ob : Obj, (wr.alloc Ob).cell? ⟨w.heap.size, 0, none⟩ = some (.int .i64 (S : Int)) := fun Ob => (Turn.alloc wr Ob nowhere).cell g0q id
                      have q0 : (0 : Int) ≤ (i : Int) := by omega
                      have q1 : (i : Int) < (pn : Int) := by omega
                      have q2 : (0 : Int) ≤ (j : Int) := by omega
                      have q3 : (j : Int) < (N : Int) := by omega
                      have d1 : decide ((j : Int) < 0) = false := decide_eq_false (by omega)
                      have d2 : decide ((N : Int) ≤ (j : Int)) = false := decide_eq_false (by omega)
                      have hcv : covB s pl S m ns i = decide (x1 * S ≤ m ∧ m < x1 * S + S ∧ p2.testBit ((m - x1 * S) / 64) = true ∧ X.extract (m - x1 * S) (m - x1 * S + 64) = ns) := by
                        unfold covB pw
                        rw [hpq, show (((j : Int), p2) : Int × Nat).1.toNat = j from Int.toNat_natCast j, hxq, hX]
                      obtain ⟨y, hy⟩ : ∃ y, y = x1 * S := ⟨_, rfl⟩
                      rw [← hy] at hcv
                      have hyK : y ≤ 20480 := by
                        have h1 : x1 ≤ K := by have : x1 < s.blocks := b1; omega
                        have h2 : x1 * S ≤ K * S := Nat.mul_le_mul_right _ h1
                        rw [Nat.mul_comm K S] at h2
                        omega
                      have w1' : IntKind.i64.wrap ((x1 : Int) * (S : Int)) = (y : Int) := by rw [hy, Int.natCast_mul, IntKind.wrap_i64]; rw [← Int.natCast_mul, ← hy]; omega
                      have w2' : IntKind.i64.wrap ((m : Int) - (y : Int)) = (m : Int) - (y : Int) := by rw [IntKind.wrap_i64]; omega
                      have hp2 : p2 < 18446744073709551616 := hsmp.2.2
                      have HX2 := Lib.hid hXs
                      have HY64 : Hid (y % 64 = 0) := Lib.hid (by
                        have h2 : S % 64 = 0 := by omega
                        rw [hy, Nat.mul_mod, h2, Nat.mul_zero])
                      clear hat hil hpq hsmp ho1 ho2 ho3 hj hxq hpe b1 b2 b3 hwat hX hy hXs hi
                      cases hav : anyTo (covB s pl S m ns) i with
                      | true =>
                        have HFB : Hid (anyTo (covB s pl S m ns) i = true) := Lib.hid hav
                        go_wp2
                        go_quiet (fail)
                        have r0 : (wr.drewN nq).cell? ⟨B, O + i * 2, none⟩ = some (.int .i64 (j : Int)) := c0
                        have r1 : ∀ Ob : Obj, ((wr.drewN nq).alloc Ob).cell? ⟨B, O + i * 2 + 1, none⟩ = some (.int .u64 (p2 : Int)) := fun Ob => (Turn.alloc (wr.drewN nq) Ob nowhere).cell (Turn.cell (Turn.drewN wr nq nowhere) c1 id) id
                        have r2 : (wr.drewN nq).cell? ⟨WB, WO + j * 2, none⟩ = some (.int .i64 (x1 : Int)) := y0
                        have r3 : (wr.drewN nq).cell? ⟨WB, WO + j * 2 + 1, none⟩ = some (.string X) := y1
                        have r4 : ∀ Ob : Obj, ((wr.drewN nq).alloc Ob).cell? ⟨w.heap.size, 0, none⟩ = some (.int .i64 (S : Int)) := fun Ob => (Turn.alloc (wr.drewN nq) Ob nowhere).cell (Turn.cell (Turn.drewN wr nq nowhere) g0q id) id
                        have HT4 : Hid (Turn wp (wr.drewN nq) nowhere) := Lib.hid (HT.out.trans (Turn.drewN wr nq nowhere) (fun _ _ h => h))
                        have HTW4 := Lib.hid (HTW.out.go (Turn.drewN wr nq nowhere))
                        clear c0 y0 y1 c1a g0a g0q c1 HT HTW
                        generalize wr.drewN nq = wz at *
                        go_wp2
                        have HT5 : Hid (Turn wp (wz.alloc (.cells #[.int .i64 (x1 : Int), .string X] 66)) nowhere) := Lib.hid (HT4.out.trans (Turn.alloc _ _ _) (fun _ _ h => h))
                        have HTW5 := Lib.hid (HTW4.out.go (Turn.alloc wz (.cells #[.int .i64 (x1 : Int), .string X] 66) nowhere))
                        go_roundw
                        case rel => exact ⟨i + 1, by omega, by go_num, by rw [anyTo_succ, HFB.out]; first | rfl | simp [hav], HT5, HTW5⟩
                        case measure => simp [intOf]; omega
                      | false =>
                        have HFB : Hid (anyTo (covB s pl S m ns) i = false) := Lib.hid hav
                        go_wp2
                        go_quiet (fail)
                        have r0 : (wr.drewN nq).cell? ⟨B, O + i * 2, none⟩ = some (.int .i64 (j : Int)) := c0
                        have r1 : ∀ Ob : Obj, ((wr.drewN nq).alloc Ob).cell? ⟨B, O + i * 2 + 1, none⟩ = some (.int .u64 (p2 : Int)) := fun Ob => (Turn.alloc (wr.drewN nq) Ob nowhere).cell (Turn.cell (Turn.drewN wr nq nowhere) c1 id) id
                        have r2 : (wr.drewN nq).cell? ⟨WB, WO + j * 2, none⟩ = some (.int .i64 (x1 : Int)) := y0
                        have r3 : (wr.drewN nq).cell? ⟨WB, WO + j * 2 + 1, none⟩ = some (.string X) := y1
                        have r4 : ∀ Ob : Obj, ((wr.drewN nq).alloc Ob).cell? ⟨w.heap.size, 0, none⟩ = some (.int .i64 (S : Int)) := fun Ob => (Turn.alloc (wr.drewN nq) Ob nowhere).cell (Turn.cell (Turn.drewN wr nq nowhere) g0q id) id
                        have HT4 : Hid (Turn wp (wr.drewN nq) nowhere) := Lib.hid (HT.out.trans (Turn.drewN wr nq nowhere) (fun _ _ h => h))
                        have HTW4 := Lib.hid (HTW.out.go (Turn.drewN wr nq nowhere))
                        clear c0 y0 y1 c1a g0a g0q c1 HT HTW
                        generalize wr.drewN nq = wz at *
                        by_cases hA1 : y ≤ m
                        · obtain ⟨off, hoff⟩ : ∃ off, off = m - y := ⟨_, rfl⟩
                          have eoff : (m : Int) - (y : Int) = (off : Int) := by omega
                          rw [eoff] at w2'
                          rw [← hoff] at hcv
                          have d3 : decide ((0 : Int) ≤ (off : Int)) = true := decide_eq_true (by omega)
                          by_cases hB1 : off < S
                          · have d4 : decide ((off : Int) < (S : Int)) = true := decide_eq_true (by omega)
                            have hoff64 : off + 64 ≤ S := by
                              have h1 := HMT.out
                              have h2 := HY64.out
                              have h3 : S % 64 = 0 := by omega
                              omega
                            have i1 : 0 ≤ (off : Int) := by omega
                            have hx2 := HX2.out
                            have i3 : (off : Int) + 64 ≤ (X.size : Int) := by omega
                            have i5 : 0 ≤ (off : Int) + 64 := by omega
                            have i6 : (off : Int) ≤ (off : Int) + 64 := by omega
                            have i7 : ((off : Int) + 64).toNat = off + 64 := by omega
                            have i8 : IntKind.i64.wrap ((off : Int) + 64) = (off : Int) + 64 := by rw [IntKind.wrap_i64]; omega
                            clear hx2
                            have hbv : p2.testBit (off / 64) = decide (p2 / 2 ^ (off / 64) % 2 = 1) := Nat.testBit_eq_decide_div_mod_eq
                            by_cases hC1 : p2 / 2 ^ (off / 64) % 2 = 1
                            · have hb1 : ((p2 : Int) / 2 ^ (off / 64)).tmod 2 = 1 := by rw [shr_bit, hC1]; rfl
                              by_cases hD1 : X.extract off (off + 64) = ns
                              · have hDl : ((X.extract off (off + 64)).toList == ns.toList) = true := by rw [hD1]; exact beq_self_eq_true _
                                have HFC : Hid (covB s pl S m ns i = true) := Lib.hid (by rw [hcv, hbv]; exact decide_eq_true ⟨hA1, by omega, decide_eq_true hC1, hD1⟩)
                                clear hcv hbv hC1 hD1 hoff hA1 hoff64 d3 d4
                                go_wp2
                                have HT5 : Hid (Turn wp (wz.alloc (.cells #[.int .i64 (x1 : Int), .string X] 66)) nowhere) := Lib.hid (HT4.out.trans (Turn.alloc _ _ _) (fun _ _ h => h))
                                have HTW5 := Lib.hid (HTW4.out.go (Turn.alloc wz (.cells #[.int .i64 (x1 : Int), .string X] 66) nowhere))
                                go_roundw
                                case rel => exact ⟨i + 1, by omega, by go_num, by rw [anyTo_succ, HFB.out, HFC.out]; rfl, HT5, HTW5⟩
                                case measure => simp [intOf]; omega
                              · have hDl : ((X.extract off (off + 64)).toList == ns.toList) = false := beq_eq_false_iff_ne.2 (ne_list hD1)
                                have HFC : Hid (covB s pl S m ns i = false) := Lib.hid (by rw [hcv]; exact decide_eq_false (fun h => hD1 h.2.2.2))
                                clear hcv hbv hC1 hD1 hoff hA1 hoff64 d3 d4
                                go_wp2
                                have HT5 : Hid (Turn wp (wz.alloc (.cells #[.int .i64 (x1 : Int), .string X] 66)) nowhere) := Lib.hid (HT4.out.trans (Turn.alloc _ _ _) (fun _ _ h => h))
                                have HTW5 := Lib.hid (HTW4.out.go (Turn.alloc wz (.cells #[.int .i64 (x1 : Int), .string X] 66) nowhere))
                                go_roundw
                                case rel => exact ⟨i + 1, by omega, by go_num, by rw [anyTo_succ, HFB.out, HFC.out]; rfl, HT5, HTW5⟩
                                case measure => simp [intOf]; omega
                            · have hb1 : ¬ ((p2 : Int) / 2 ^ (off / 64)).tmod 2 = 1 := by rw [shr_bit]; omega
                              have HFC : Hid (covB s pl S m ns i = false) := Lib.hid (by rw [hcv, hbv]; exact decide_eq_false (fun h => hC1 (of_decide_eq_true h.2.2.1)))
                              clear hcv hbv hC1 hoff hA1 hoff64 d3 d4
                              go_wp2
                              have HT5 : Hid (Turn wp (wz.alloc (.cells #[.int .i64 (x1 : Int), .string X] 66)) nowhere) := Lib.hid (HT4.out.trans (Turn.alloc _ _ _) (fun _ _ h => h))
                              have HTW5 := Lib.hid (HTW4.out.go (Turn.alloc wz (.cells #[.int .i64 (x1 : Int), .string X] 66) nowhere))
                              go_roundw
                              case rel => exact ⟨i + 1, by omega, by go_num, by rw [anyTo_succ, HFB.out, HFC.out]; rfl, HT5, HTW5⟩
                              case measure => simp [intOf]; omega
                          · have d4 : decide ((off : Int) < (S : Int)) = false := decide_eq_false (by omega)
                            have HFC : Hid (covB s pl S m ns i = false) := Lib.hid (by rw [hcv]; exact decide_eq_false (fun h => hB1 (by have := h.2.1; omega)))
                            clear hcv hoff hA1 d3 d4
                            go_wp2
                            have HT5 : Hid (Turn wp (wz.alloc (.cells #[.int .i64 (x1 : Int), .string X] 66)) nowhere) := Lib.hid (HT4.out.trans (Turn.alloc _ _ _) (fun _ _ h => h))
                            have HTW5 := Lib.hid (HTW4.out.go (Turn.alloc wz (.cells #[.int .i64 (x1 : Int), .string X] 66) nowhere))
                            go_roundw
                            case rel => exact ⟨i + 1, by omega, by go_num, by rw [anyTo_succ, HFB.out, HFC.out]; rfl, HT5, HTW5⟩
                            case measure => simp [intOf]; omega
                        · have d3 : decide ((0 : Int) ≤ (m : Int) - (y : Int)) = false := decide_eq_false (by omega)
                          have HFC : Hid (covB s pl S m ns i = false) := Lib.hid (by rw [hcv]; exact decide_eq_false (fun h => hA1 h.1))
                          clear hcv d3
                          go_wp2
                          have HT5 : Hid (Turn wp (wz.alloc (.cells #[.int .i64 (x1 : Int), .string X] 66)) nowhere) := Lib.hid (HT4.out.trans (Turn.alloc _ _ _) (fun _ _ h => h))
                          have HTW5 := Lib.hid (HTW4.out.go (Turn.alloc wz (.cells #[.int .i64 (x1 : Int), .string X] 66) nowhere))
                          go_roundw
                          case rel => exact ⟨i + 1, by omega, by go_num, by rw [anyTo_succ, HFB.out, HFC.out]; rfl, HT5, HTW5⟩
                          case measure => simp [intOf]; omega
                    · have hie : i = pn := by omega
                      have hb : anyTo (covB s pl S m ns) i = true := by rw [hie, ← HP.out.len]; exact HANY.out
                      rw [hb]
                      clear hb
                      go_wp2
                      go_roundw
                      case rel => exact ⟨t + 1, by have := HMT.out; omega, by have := HMT.out; rw [show ((64 * (t + 1) : Nat) : Int) = (m : Int) + 64 by omega], HT, HTW⟩
                      case measure => simp [intOf]; omega
              · go_wp2
                go_ret
                exact ⟨rfl, HF.out _ HTW.out.d.turn⟩
          · have HCN := Lib.hid (crash_no g b P s pa pn pc pl wp HDP.out.dev hPP hpo)
            clear hPP hpo
            go_wp2_with fail
            refine HCN.out.mono ?_
            rintro e w11 ⟨rfl, t11⟩
            have HT11 := Lib.hid t11
            have HFF := Lib.hid (HF.out w11 (HDP.out.go t11).turn)
            clear t11 HCN
            dsimp only
            go_wp2_with fail
            refine (HIM.out _ HT11.out).mono ?_
            rintro e w12 ⟨rfl, rfl⟩
            go_wp2
            go_ret
            exact ⟨by simp, HFF.out⟩
    · have HF4 := Lib.hid (HF.out w4 HD4.out.turn)
      cases hl : LightS (S : Int) (K : Int) with
      | false =>
        go_wp2
        go_ret
        exact ⟨rfl, HF4.out⟩
      | true =>
        by_cases h40 : n ≤ 40
        · have h40' : decide ((40 : Int) < (n : Int)) = false := decide_eq_false (by omega)
          have h41 : ¬ pn ≤ 40 := fun h => hlt ⟨hl, h40, h⟩
          have h41' : decide ((40 : Int) < (pn : Int)) = true := decide_eq_true (by omega)
          go_wp2
          go_ret
          exact ⟨rfl, HF4.out⟩
        · have h40' : decide ((40 : Int) < (n : Int)) = true := decide_eq_true (by omega)
          go_wp2
          go_ret
          exact ⟨rfl, HF4.out⟩
end Go.Proofs.YtjhcjnalomdbnaaDoor.Dv
