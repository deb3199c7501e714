/-
  The device: Crash.
-/
import Derived.Test.YtjhcjnalomdbnaaDoorDevCan
namespace Go.Proofs.YtjhcjnalomdbnaaDoor.Dv
open Go.RowKit Bs

theorem crash_nil (pa : Option Addr) (n c : Nat) (w : World) : Calls Tryd.prog 15 #[.pointer none, .slice pa n c] w fun e w' => e = .returned (.tuple #[.pointer none, .int .i64 1]) ∧ w = w' := by
  go_enter Tryd.func15, Tryd.ntmps15
  go_wp2_with (go_at_call 44; refine (valid_nil _).mono ?_; rintro e w' ⟨rfl, rfl⟩)
  go_ret2
  exact ⟨rfl, rfl⟩

def CrashNo (w : World) (e : Ending) (w' : World) : Prop := e = .returned (.tuple #[.pointer none, .int .i64 2]) ∧ Turn w w' nowhere
def CrashYes (s : St) (l : List (Int × Nat)) (w : World) (e : Ending) (w' : World) : Prop :=
  ∃ g b, e = .returned (.tuple #[.pointer (some ⟨g, 0, none⟩), .int .i64 0]) ∧ Dev w' g b (.slice none 0 0) (s.crash l) ∧ w.heap.size ≤ g ∧ w.heap.size ≤ b ∧ Turn w w' nowhere

set_option maxRecDepth 100000 in
set_option maxHeartbeats 1000000 in
theorem crash_no (g b : Nat) (P : Value) (s : St) (pa : Option Addr) (n c : Nat) (l : List (Int × Nat)) (w : World) (h : Dev w g b P s) (hp : PSeg w pa n c l) (hn : ¬ picksOk s l) :
    Calls Tryd.prog 15 #[.pointer (some ⟨g, 0, none⟩), .slice pa n c] w (CrashNo w) := by
  obtain ⟨c', _, _, q0, q1, q2, q3, q4, q5, q6⟩ := h.cells
  have HV := Lib.hid (valid_yes g w q6)
  have HC := Lib.hid (can_any g b P s pa n c l w h hp)
  have HN := Lib.hid hn
  clear h hp hn
  go_enter Tryd.func15, Tryd.ntmps15
  go_wp2_with fail
  refine HV.out.mono ?_
  rintro e w' ⟨rfl, rfl⟩
  go_wp2_with fail
  refine HC.out.mono ?_
  rintro e w1 ⟨ok, rfl, hok, ht⟩
  obtain rfl : ok = false := Bool.eq_false_iff.2 (fun e => HN.out (hok.1 e))
  have HT := Lib.hid ht
  clear hok ht
  go_wp2
  go_ret2
  exact ⟨rfl, HT.out⟩

/-- The crash's first k picks are laid. -/
def St.part (s : St) (l : List (Int × Nat)) (k : Nat) : St := St.fresh s.size s.blocks (puts s (l.take k))
theorem part_zero (s : St) (l : List (Int × Nat)) : s.part l 0 = St.fresh s.size s.blocks s.dur := by simp [St.part, puts]
theorem part_all (s : St) (l : List (Int × Nat)) : s.part l l.length = s.crash l := by simp [St.part, St.crash]
theorem part_succ (s : St) (l : List (Int × Nat)) (k : Nat) (hk : k < l.length) (p1 : Int) (p2 x1 : Nat) (x2 : List Int) (hp : l.getD k (0, 0) = (p1, p2)) (hx : s.pend.getD p1.toNat (0, []) = (x1, x2)) :
    s.part l (k + 1) = { s.part l k with dur := (s.part l k).dur.set x1 (mix p2 ((s.part l k).dur.getD x1 []) x2) } := by
  unfold St.part
  rw [puts_take l k hk, hp]
  unfold put
  rw [hx]
  rfl

set_option maxRecDepth 100000 in
set_option maxHeartbeats 4000000 in
theorem crash_yes (g b : Nat) (P : Value) (s : St) (pa : Option Addr) (n c : Nat) (l : List (Int × Nat)) (w : World) (h : Dev w g b P s) (hp : PSeg w pa n c l) (hpo : picksOk s l) (hT : T64 w) :
    Calls Tryd.prog 15 #[.pointer (some ⟨g, 0, none⟩), .slice pa n c] w (CrashYes s l w) := by
  obtain ⟨c', hc1, hc2, q0, q1, q2, q3, q4, q5, q6⟩ := h.cells
  have HV := Lib.hid (valid_yes g w q6)
  have HC := Lib.hid (can_any g b P s pa n c l w h hp)
  have HOK := Lib.hid hpo
  have HD := Lib.hid h
  have HP := Lib.hid hp
  have HT := Lib.hid hT
  have hlb := h.lt b (.inr (.inl rfl))
  have hlg := h.lt g (.inl rfl)
  have hncap := Nat.le_trans hp.le hp.cap
  unfold maxLen at hncap
  have HNL := Lib.hid hp.len
  have HFO := Lib.hid hp.form
  clear h hp hpo hT
  go_enter Tryd.func15, Tryd.ntmps15
  go_wp2_with fail
  refine HV.out.mono ?_
  rintro e w' ⟨rfl, rfl⟩
  go_wp2_with fail
  refine HC.out.mono ?_
  rintro e w1 ⟨ok, rfl, hok, ht⟩
  obtain rfl : ok = true := hok.2 HOK.out
  have r0 := ht.cell q0 id
  have r1 := ht.cell q1 id
  have r2 := ht.cell q2 id
  have HT1 := Lib.hid ht
  have HRG : Hid (∀ W, Turn w1 W nowhere → Reg W b 0 s.dur.flatten) := Lib.hid (fun W k => HD.out.reg.turn (ht.trans k (fun _ _ h => h)) id)
  clear hok ht
  have HLN := Lib.hid HD.out.ok.len
  have HOK0 : Hid (St.fresh s.size s.blocks s.dur).Ok := Lib.hid (fresh_ok HD.out.ok.lo HD.out.ok.hi HD.out.ok.by64 HD.out.ok.blo HD.out.ok.bhi HD.out.ok.dblk HD.out.ok.dlen)
  have hsm : s.size * s.blocks ≤ 4096 * 4096 := Nat.mul_le_mul HD.out.ok.hi HD.out.ok.bhi
  go_wp2_with fail
  go_region_held3 (fun w' => w'.cell? ⟨g, 0, none⟩ = some (.int .i64 (s.size : Int)) ∧ w'.cell? ⟨g, 1, none⟩ = some (.int .i64 (s.blocks : Int)) ∧ w'.cell? ⟨g, 2, none⟩ = some (.slice (some ⟨b, 0, none⟩) (s.size * s.blocks) c')) (go_keep)
    (first
      | (go_at_call 46
         (with_reducible refine (bclone_any b (s.size * s.blocks) c' s.dur.flatten _ ?hs ?hn).mono ?_)
         case hs => rw [← HLN.out]; exact (HRG.out _ (Turn.drew _ _)).seg (by rw [HLN.out]; exact hc1) hc2
         case hn => omega
         rintro e w2 ⟨b', cb, rfl, hr2, hb2, hc3, hc4, ht2⟩
         have r0b := ht2.cell (p := ⟨g, 0, none⟩) (by exact r0) id
         have r1b := ht2.cell (p := ⟨g, 1, none⟩) (by exact r1) id
         have r2b := ht2.cell (p := ⟨g, 2, none⟩) (by exact r2) id)
      | (go_at_call 39
         (with_reducible refine (with_any s.size s.blocks b' cb s.dur _ ?hr hc3 hc4 HOK0.out).mono ?_)
         case hr => exact hr2
         rintro e w3 ⟨g', rfl, hd3, hg3, ht3⟩
         have r0c := ht3.cell (p := ⟨g, 0, none⟩) (by exact r0b) id
         have r1c := ht3.cell (p := ⟨g, 1, none⟩) (by exact r1b) id
         have r2c := ht3.cell (p := ⟨g, 2, none⟩) (by exact r2b) id)
      | fail)
  have hsz1 := HT1.out.size
  have HD3 : Hid (Dev w3 g' b' (.slice none 0 0) (s.part l 0)) := Lib.hid (by rw [part_zero]; exact hd3)
  have HT3 : Hid (Turn w w3 nowhere) := Lib.hid (((HT1.out.trans (Turn.drew _ nowhere) (fun _ _ h => h)).trans ht2 (fun _ _ h => h)).trans ht3 (fun _ _ h => h))
  have hgw : w.heap.size ≤ g' := Nat.le_trans (Nat.le_trans hsz1 ht2.size) hg3
  have hbw : w.heap.size ≤ b' := Nat.le_trans hsz1 hb2
  clear hd3 ht2 ht3 hr2 r0b r1b r2b r0c r1c r2c hb2 hg3 hsz1
  go_wp2
  go_loopw [31] (fun sv wr => ∃ k : Nat, k ≤ n ∧ sv = .int .i64 (k : Int) ∧ Hid (Dev wr g' b' (.slice none 0 0) (s.part l k)) ∧ Hid (Turn w wr nowhere)) (fun sv _ => n - (intOf sv).toNat)
  case atStart => exact ⟨0, Nat.zero_le _, rfl, HD3, HT3⟩
  case round =>
    obtain ⟨k, hk, rfl, HDK, HTK⟩ := hrel
    by_cases hkn : k < n
    · obtain ⟨B, O, rfl, hat⟩ := HFO.out (by omega)
      have hat := hat k hkn
      have hkl : k < l.length := by rw [HNL.out]; exact hkn
      have hok := HOK.out k hkl
      obtain ⟨⟨p1, p2⟩, hpq⟩ : ∃ q : Int × Nat, l.getD k (0, 0) = q := ⟨_, rfl⟩
      rw [hpq] at hat hok
      obtain ⟨ho1, ho2, ho3, _⟩ := hok
      obtain ⟨j, rfl⟩ : ∃ j : Nat, p1 = (j : Int) := ⟨p1.toNat, by have : 0 ≤ p1 := ho1; omega⟩
      have hj : j < s.pend.length := by have : (j : Int) < s.pend.length := ho2; omega
      obtain ⟨⟨x1, x2⟩, hxq⟩ : ∃ q : Nat × List Int, s.pend.getD j (0, []) = q := ⟨_, rfl⟩
      have hst := part_succ s l k hkl (j : Int) p2 x1 x2 hpq (by rw [Int.toNat_natCast]; exact hxq)
      have hpb := HD.out.ok.pblk _ (List.getElem_mem hj)
      have hpe : s.pend.getD j (0, []) = s.pend[j] := by simp [List.getD, hj]
      rw [← hpe, hxq] at hpb
      obtain ⟨b1, b2, b3⟩ := hpb
      obtain ⟨pp, pc, rfl, hpc1, hpc2, hpcell, _⟩ := own_open HD.out.row (by omega)
      have hwat := wrow_at s.pend j hj
      rw [hxq, Nat.mul_comm] at hwat
      have c0 : wr.cell? ⟨B, O + k * 2, none⟩ = some (.int .i64 (j : Int)) := HTK.out.cell hat.1 id
      have c1 : wr.cell? ⟨B, O + k * 2 + 1, none⟩ = some (.int .u64 (p2 : Int)) := HTK.out.cell hat.2 id
      have y0 : ∀ O : Obj, (wr.alloc O).cell? ⟨pp, j * 2, none⟩ = some (.int .i64 (x1 : Int)) := fun O => (HTK.out.trans (Turn.alloc wr O nowhere) (fun _ _ h => h)).cell (hpcell _ _ hwat.1) id
      obtain ⟨T, hTT⟩ : ∃ T, T = strOfNums x2 := ⟨_, rfl⟩
      have y1 : ∀ O : Obj, (wr.alloc O).cell? ⟨pp, j * 2 + 1, none⟩ = some (.string T) := fun O => by rw [hTT]; exact (HTK.out.trans (Turn.alloc wr O nowhere) (fun _ _ h => h)).cell (hpcell _ _ hwat.2) id
      have HTT := Lib.hid hTT
      have HST := Lib.hid hst
      have HB1 := Lib.hid b1
      have HB2 := Lib.hid b2
      have HB3 := Lib.hid b3
      have HO3 := Lib.hid ho3
      have q3a : ∀ O : Obj, (wr.alloc O).cell? ⟨g, 3, none⟩ = some (.slice (some ⟨pp, 0, none⟩) s.pend.length pc) := fun O => (HTK.out.trans (Turn.alloc wr O nowhere) (fun _ _ h => h)).cell q3 id
      have p0 : (0 : Int) ≤ (k : Int) := by omega
      have p1' : (k : Int) < (n : Int) := by omega
      have p2' : (0 : Int) ≤ (j : Int) := by omega
      have p3' : (j : Int) < (s.pend.length : Int) := by omega
      clear hat hkl hpq hst hpe hwat hTT hxq b1 b2 b3 ho1 ho2 ho3 hpc1 hpc2 hpcell
      go_wp2
      have k0 : (wr.alloc (.cells #[.int .i64 (j : Int), .int .u64 (p2 : Int)] 36)).cell? ⟨wr.heap.size, 0, none⟩ = some (.int .i64 (j : Int)) := by simp [go_sem]
      have k1 : (wr.alloc (.cells #[.int .i64 (j : Int), .int .u64 (p2 : Int)] 36)).cell? ⟨wr.heap.size, 1, none⟩ = some (.int .u64 (p2 : Int)) := by simp [go_sem]
      have q3b := q3a (.cells #[.int .i64 (j : Int), .int .u64 (p2 : Int)] 36)
      have y0b := y0 (.cells #[.int .i64 (j : Int), .int .u64 (p2 : Int)] 36)
      have y1b := y1 (.cells #[.int .i64 (j : Int), .int .u64 (p2 : Int)] 36)
      go_region_held3 (fun w' => w'.cell? ⟨g, 3, none⟩ = some (.slice (some ⟨pp, 0, none⟩) s.pend.length pc) ∧ w'.cell? ⟨wr.heap.size, 0, none⟩ = some (.int .i64 (j : Int)) ∧ w'.cell? ⟨pp, j * 2, none⟩ = some (.int .i64 (x1 : Int)) ∧ w'.cell? ⟨pp, j * 2 + 1, none⟩ = some (.string T)) (go_keep)
        (fail)
      have t0 : ((wr.alloc (.cells #[.int .i64 (j : Int), .int .u64 (p2 : Int)] 36)).alloc (.cells #[.int .i64 (x1 : Int), .string T] 66)).drew.cell? ⟨wr.heap.size + 1, 0, none⟩ = some (.int .i64 (x1 : Int)) := by simp [go_sem]
      have t1 : ((wr.alloc (.cells #[.int .i64 (j : Int), .int .u64 (p2 : Int)] 36)).alloc (.cells #[.int .i64 (x1 : Int), .string T] 66)).drew.cell? ⟨wr.heap.size + 1, 1, none⟩ = some (.string T) := by simp [go_sem]
      have t2 : ((wr.alloc (.cells #[.int .i64 (j : Int), .int .u64 (p2 : Int)] 36)).alloc (.cells #[.int .i64 (x1 : Int), .string T] 66)).drew.cell? ⟨wr.heap.size, 1, none⟩ = some (.int .u64 (p2 : Int)) := by simp [go_sem]
      have tx : Turn wr ((wr.alloc (.cells #[.int .i64 (j : Int), .int .u64 (p2 : Int)] 36)).alloc (.cells #[.int .i64 (x1 : Int), .string T] 66)).drew nowhere := ((Turn.alloc _ _ nowhere).trans (Turn.alloc _ _ nowhere) (fun _ _ h => h)).trans (Turn.drew _ nowhere) (fun _ _ h => h)
      clear k0 k1 q3b y0b y1b q3a y0 y1 c0 c1
      generalize ((wr.alloc (.cells #[.int .i64 (j : Int), .int .u64 (p2 : Int)] 36)).alloc (.cells #[.int .i64 (x1 : Int), .string T] 66)).drew = X at *
      have HTX := Lib.hid tx
      have HDX : Hid (∀ W, Turn X W nowhere → Dev W g' b' (.slice none 0 0) (s.part l k)) := Lib.hid (fun W k => HDK.out.turn (tx.trans k (fun _ _ h => h)) (fun _ _ => id))
      obtain ⟨cur, hcur⟩ : ∃ cur, cur = (s.part l k).dur.getD x1 [] := ⟨_, rfl⟩
      have hcl := getD_mem HDK.out.ok.dblk (b := x1) (by rw [HDK.out.ok.dlen]; exact HB1.out)
      rw [← hcur] at hcl
      have HCL : Hid (cur.length = s.size ∧ IsB cur) := Lib.hid hcl
      have HRX : Hid (∀ W, Turn X W nowhere → Reg W b' (x1 * s.size) cur) := Lib.hid (fun W k => by
        have := (HDX.out W k).reg.block (n := s.size) (by have := HD.out.ok.lo; omega) HDK.out.ok.dblk x1 (by rw [HDK.out.ok.dlen]; exact HB1.out)
        rw [← hcur] at this
        exact this)
      have hbt : b' ≠ 1 := fun e => by
        have := World.block_lt_of_cell? w _ (HT.out 0 (by decide))
        have : 1 < w.heap.size := this
        omega
      have HPS : Hid (∀ W cc, Turn X W nowhere → (s.part l k).size ≤ cc → Calls Tryd.prog 47 #[.slice (some ⟨b', x1 * (s.part l k).size, none⟩) (s.part l k).size cc, .string T, .int .u64 (p2 : Int)] W (Mixed b' (x1 * s.size) s.size (mix p2 cur x2) W)) := Lib.hid (fun W cc k hcc => by
        rw [HTT.out]
        show Calls Tryd.prog 47 #[.slice (some ⟨b', x1 * s.size, none⟩) s.size cc, .string (strOfNums x2), .int .u64 (p2 : Int)] W _
        exact putsec_any b' (x1 * s.size) s.size cc p2 cur x2 W (HRX.out W k) HCL.out.1 HB2.out HB3.out hcc HD.out.ok.hi HD.out.ok.by64 HO3.out (((HT.out.turn HTK.out id).turn tx id).turn k id) hbt)
      have HST2 : Hid (s.part l (k + 1) = { s.part l k with dur := (s.part l k).dur.set x1 (mix p2 cur x2) }) := Lib.hid (by rw [hcur]; exact HST.out)
      have hlx : wr.heap.size + 1 ≠ b' := fun e => by have := HDK.out.lt b' (.inr (.inl rfl)); omega
      have hlx' : wr.heap.size ≠ b' := fun e => by have := HDK.out.lt b' (.inr (.inl rfl)); omega
      clear hcur hcl hbt tx hlb hlg
      go_wp2
      go_region_held3 (fun w' => w'.cell? ⟨wr.heap.size + 1, 0, none⟩ = some (.int .i64 (x1 : Int)) ∧ w'.cell? ⟨wr.heap.size + 1, 1, none⟩ = some (.string T) ∧ w'.cell? ⟨wr.heap.size, 1, none⟩ = some (.int .u64 (p2 : Int))) (go_keep)
        (first
          | (go_at_call 48
             (with_reducible refine (at_any g' b' (.slice none 0 0) (s.part l k) x1 _ ?hd ?hb).mono ?_)
             case hd => exact HDX.out _ (Turn.drew _ _)
             case hb => exact HB1.out
             rintro e w4 ⟨cc, m, rfl, hcc1, hcc2, rfl⟩)
          | (go_at_call 47
             (with_reducible refine (HPS.out _ cc ?hk hcc1).mono ?_)
             case hk => exact Turn.drewN X (1 + m) nowhere
             rintro e w5 ⟨rfl, hr5, ho5⟩
             have t0c := ho5.turn.cell (p := ⟨wr.heap.size + 1, 0, none⟩) (by exact t0) hlx
             have t1c := ho5.turn.cell (p := ⟨wr.heap.size + 1, 1, none⟩) (by exact t1) hlx
             have t2c := ho5.turn.cell (p := ⟨wr.heap.size, 1, none⟩) (by exact t2) hlx'
             have HD5 : Hid (Dev w5 g' b' (.slice none 0 0) (s.part l (k + 1))) := Lib.hid (by
               rw [HST2.out]
               exact (HDX.out (X.drewN (1 + m)) (Turn.drewN X (1 + m) nowhere)).relay x1 HB1.out _ (by rw [mix_len]; exact HCL.out.1) (mix_isB _ HCL.out.2 HB3.out (by rw [HB2.out, HCL.out.1])) hr5 ho5)
             have HT5 : Hid (Turn w w5 nowhere) := Lib.hid (((HTK.out.trans HTX.out (fun _ _ h => h)).trans (Turn.drewN X (1 + m) nowhere) (fun _ _ h => h)).trans ho5.turn (fun i hi e => by omega))
             clear hr5 ho5)
          | fail)
      go_wp2
      go_roundw
      case rel => exact ⟨k + 1, by omega, by go_num, HD5, HT5⟩
      case measure => simp [intOf]; omega
    · obtain rfl : k = n := by omega
      have HF : Hid (CrashYes s l w (.returned (.tuple #[.pointer (some ⟨g', 0, none⟩), .int .i64 0])) wr) := Lib.hid ⟨g', b', rfl, by rw [← part_all, HNL.out]; exact HDK.out, hgw, hbw, HTK.out⟩
      go_wp2
      go_ret2
      exact HF.out
end Go.Proofs.YtjhcjnalomdbnaaDoor.Dv
