/-
  SuperBack: what was put is got; what is got is put the same; it has as many pages as it needs.
-/
import Derived.Test.YtfojkglindpjjaaDoorSuLaw
namespace Go.Proofs.YtfojkglindpjjaaDoor.Su
open Go.RowKit Bs Dv Gr
open Fr (getF kindF none3 strE)

set_option maxRecDepth 100000 in
set_option maxHeartbeats 8000000 in
theorem back_any (s : Sup) (a : Option Addr) (n c : Nat) (l : List Int) (w : World) (hs : Ws.Seg w a n c s.pages) (ho : SupOk s) (hl : Bs.IsB l) (hT : T4 w) :
    Calls Tryd.prog 6 #[.agg #[.int .u64 s.gen, .int .i64 s.size, .int .i64 s.blocks, .int .u32 s.root, .slice a n c], .string (strOfNums l)] w fun e w' => e = .returned (.bool true) ∧ w.grownBy w' none := by
  have HB0 := Lib.hid (SB.new w s a n c)
  have HG0 := Lib.hid (grown_alloc w (.cells #[.int .u64 s.gen, .int .i64 s.size, .int .i64 s.blocks, .int .u32 s.root, .slice a n c] 29))
  obtain ⟨W0, hW0⟩ : ∃ X, w.alloc (.cells #[.int .u64 s.gen, .int .i64 s.size, .int .i64 s.blocks, .int .u32 s.root, .slice a n c] 29) = X := ⟨_, rfl⟩
  rw [hW0] at HB0 HG0
  have HT := Lib.hid hT
  have HLV := Lib.hid (lives_any W0 (hT.grown HG0.out))
  have hsz : (strOfNums l).size = l.length := strOfNums_size l
  obtain ⟨⟨u, E2⟩, hr⟩ : ∃ r, getS l = r := ⟨_, rfl⟩
  have HGB0 := fun (h : l.length ≤ 600) W (hT : T4 W) => get_any l W hl (Nat.le_trans h (by decide)) hT
  rw [hr] at HGB0
  have HNO : Hid (E2 ≠ 0 → u.pages = []) := Lib.hid (fun h => by have := get_none (b := l) (by rw [hr]; exact h); rw [hr] at this; exact congrArg Sup.pages this)
  have HOK : Hid (E2 = 0 → putS u = (l, 0) ∧ SupOk u ∧ GeoOk u.size u.blocks ∧ (u.pages.length : Int) = pagesF u.size u.blocks) := Lib.hid (fun h => by
    have h1 := get_some (b := l) (by rw [hr]; exact h)
    have h2 := get_sup hl
    rw [hr] at h1 h2
    have h3 := (sup_ok (s := u) (by rw [← put_e, h1])).1
    exact ⟨h1, h2, h3.1, h3.2.2.2.1⟩)
  obtain ⟨T, hTT⟩ : ∃ T, strOfNums l = T := ⟨_, rfl⟩
  rw [hTT] at hsz HGB0 ⊢
  obtain ⟨L, hL⟩ : ∃ L, l.length = L := ⟨_, rfl⟩
  rw [hL] at hsz HGB0
  have HPU0 := Lib.hid (fun W (k : w.grownBy W none) => put_sup s a n c W (hs.grown k) ho (hT.grown k))
  have HE := Lib.hid (put_e s)
  have HYES : Hid (supE s = 0 → getS (putS s).1 = (s, 0) ∧ ((putS s).1.length : Int) = s.size) := Lib.hid (fun h => ⟨get_put h ho, put_size h⟩)
  have HGP := Lib.hid (fun W (hT : T4 W) => get_any (putS s).1 W put_isB (Nat.le_trans (put_short _) (by decide)) hT)
  have HPSZ : Hid ((strOfNums (putS s).1).size = (putS s).1.length) := Lib.hid (strOfNums_size _)
  obtain ⟨⟨PB, E⟩, hp⟩ : ∃ r, putS s = r := ⟨_, rfl⟩
  rw [hp] at HPU0 HE HYES HGP HPSZ
  unfold strE at HPU0
  dsimp only at HPU0 HE HYES HGP HPSZ
  obtain ⟨PT, hPT⟩ : ∃ S, strOfNums PB = S := ⟨_, rfl⟩
  rw [hPT] at HPU0 HGP HPSZ
  have HHS := Lib.hid hs
  have hle := hs.le
  have hcap := hs.cap
  unfold maxLen at hcap
  have HGBL := Lib.hid HGB0
  clear HGB0 hr hL hp hPT hT hl ho hs
  have hTH := Lib.hid hTT
  clear hTT
  go_enter Tryd.func6, Tryd.ntmps6
  go_wp2_with fail
  refine HLV.out.mono ?_
  rintro e w1 ⟨rfl, hg⟩
  have G1 := Lib.hid (grown_then HG0.out hg)
  have HB1 := Lib.hid (HB0.out.old hg)
  clear hg HLV HB0 HG0 hW0
  dsimp only
  obtain ⟨a0, a1, a2, a3, a4⟩ := HB1.out.cells
  by_cases h1 : 40 < n
  · have q1 : decide ((40 : Int) < (n : Int)) = true := decide_eq_true (by omega)
    clear h1
    go_wp2
    go_ret
    exact ⟨rfl, G1.out⟩
  by_cases h2 : 600 < L
  · have q1 : decide ((40 : Int) < (n : Int)) = false := decide_eq_false (by omega)
    have q2 : decide ((600 : Int) < (L : Int)) = true := decide_eq_true (by omega)
    clear h1 h2
    go_wp2
    go_ret
    exact ⟨rfl, G1.out⟩
  have q1 : decide ((40 : Int) < (n : Int)) = false := decide_eq_false (by omega)
  have q2 : decide ((600 : Int) < (L : Int)) = false := decide_eq_false (by omega)
  have HGB := Lib.hid (HGBL.out (by omega))
  clear h1 h2 HGBL
  go_wp2_with fail
  refine (HPU0.out _ G1.out).mono ?_
  rintro e w2 ⟨rfl, hg⟩
  have G2 := Lib.hid (grown_then G1.out hg)
  have HB2 := Lib.hid (HB1.out.old hg)
  clear hg HPU0 G1 HB1 a0 a1 a2 a3 a4 q1 q2
  have hTT := hTH.out
  clear hTH
  dsimp only
  by_cases hE : E = 0
  · obtain ⟨hgp, hps⟩ := HYES.out (by rw [← HE.out]; exact hE)
    rw [hgp] at HGP
    subst hE
    clear HYES HE hgp
    go_wp2_with fail
    refine (HGP.out _ (HT.out.grown G2.out)).mono ?_
    rintro e w3 ⟨hg, p3, m3, q3, rfl, hseg, -⟩
    have hg2 := grown_then hg (grown_alloc w3 (.cells #[.int .u64 s.gen, .int .i64 s.size, .int .i64 s.blocks, .int .u32 s.root, .slice p3 m3 q3] 29))
    have G3 := Lib.hid (grown_then G2.out hg2)
    have HB3 := Lib.hid (HB2.out.old hg2)
    have HD3 := Lib.hid (SB.new w3 s p3 m3 q3)
    have HS3 := Lib.hid (hseg.grown (grown_alloc w3 (.cells #[.int .u64 s.gen, .int .i64 s.size, .int .i64 s.blocks, .int .u32 s.root, .slice p3 m3 q3] 29)))
    clear hg hg2 hseg HGP G2 HB2
    dsimp only
    go_upto_region 8 with (fail)
    obtain ⟨W3, hW3⟩ : ∃ X, w3.alloc (.cells #[.int .u64 s.gen, .int .i64 s.size, .int .i64 s.blocks, .int .u32 s.root, .slice p3 m3 q3] 29) = X := ⟨_, rfl⟩
    rw [hW3] at G3 HB3 HD3 HS3 ⊢
    clear hW3
    have HSM := Lib.hid (same_yes s a p3 n c m3 q3 W3 (HHS.out.grown G3.out) HS3.out)
    obtain ⟨a0, a1, a2, a3, a4⟩ := HB3.out.cells
    obtain ⟨b0, b1, b2, b3, b4⟩ := HD3.out.cells
    go_wp2_with fail
    refine HSM.out.mono ?_
    rintro e w4 ⟨rfl, hg⟩
    have GA := Lib.hid (grown_then G3.out hg)
    have HB4 := Lib.hid (HB3.out.old hg)
    clear hg HSM G3 HB3 HD3 HS3 a0 a1 a2 a3 a4 b0 b1 b2 b3 b4
    dsimp only
    obtain ⟨a0, a1, a2, a3, a4⟩ := HB4.out.cells
    have e0 : ((PT.size : Int) != s.size) = false := by rw [HPSZ.out, hps]; simp
    clear hps HPSZ
    go_wp2_with fail
    clear e0 a0 a1 a2 a3 a4 HB4
    refine (HGB.out _ (HT.out.grown GA.out)).mono ?_
    rintro e w5 ⟨hg, p, m, q, rfl, hseg, -⟩
    have hg2 := grown_then hg (grown_alloc w5 (.cells #[.int .u64 u.gen, .int .i64 u.size, .int .i64 u.blocks, .int .u32 u.root, .slice p m q] 29))
    have G5 := Lib.hid (grown_then GA.out hg2)
    have HB5 := Lib.hid (SB.new w5 u p m q)
    have HS5 := Lib.hid (hseg.grown (grown_alloc w5 (.cells #[.int .u64 u.gen, .int .i64 u.size, .int .i64 u.blocks, .int .u32 u.root, .slice p m q] 29)))
    clear hg hg2 hseg GA HGB
    dsimp only
    go_upto_region 11 with (fail)
    obtain ⟨W5, hW5⟩ : ∃ X, w5.alloc (.cells #[.int .u64 u.gen, .int .i64 u.size, .int .i64 u.blocks, .int .u32 u.root, .slice p m q] 29) = X := ⟨_, rfl⟩
    rw [hW5] at G5 HB5 HS5 ⊢
    clear hW5
    obtain ⟨b0, b1, b2, b3, b4⟩ := HB5.out.cells
    by_cases h0 : E2 = 0
    · obtain ⟨hpu, hso, hgeo, hpl⟩ := HOK.out h0
      have hme : (m : Int) = pagesF u.size u.blocks := by rw [← HS5.out.len]; exact hpl
      have hbd := pages_bounds hgeo
      have hgr := geo_room hgeo
      have HPU := Lib.hid (fun W (k : W5.grownBy W none) (hT : T4 W) => put_sup u p m q W (HS5.out.grown k) hso hT)
      rw [hpu] at HPU
      unfold strE at HPU
      dsimp only at HPU
      have HRM := Lib.hid (fun W => Fr.rroom_any u.size W)
      have HPG := Lib.hid (fun W => pages_any u.size u.blocks W)
      rw [← hme] at hbd HPG
      unfold GeoOk at hgeo
      obtain ⟨r, hr⟩ : ∃ r, Fr.room u.size = r := ⟨_, rfl⟩
      rw [hr] at HRM hgr hbd
      have hm : m ≤ 74 := by omega
      have hr1 : 0 ≤ r ∧ r ≤ 4080 := by omega
      have hm1 : ((m : Int) - 1) = ((m - 1 : Nat) : Int) := by omega
      rw [hm1] at hbd
      have hp1 : (m : Int) * r ≤ 74 * 4080 := Int.mul_le_mul (by omega) hr1.2 hr1.1 (by omega)
      have hp2 : ((m - 1 : Nat) : Int) * r ≤ 74 * 4080 := Int.mul_le_mul (by omega) hr1.2 hr1.1 (by omega)
      have hp3 : 0 ≤ (m : Int) * r := Int.mul_nonneg (by omega) hr1.1
      have hp4 : 0 ≤ ((m - 1 : Nat) : Int) * r := Int.mul_nonneg (by omega) hr1.1
      obtain ⟨y, hy⟩ : ∃ y, (m : Int) * r = y := ⟨_, rfl⟩
      obtain ⟨z, hz⟩ : ∃ z, ((m - 1 : Nat) : Int) * r = z := ⟨_, rfl⟩
      obtain ⟨m1, hmm⟩ : ∃ k : Nat, m - 1 = k := ⟨_, rfl⟩
      rw [hy] at hbd hp1 hp3
      rw [hz] at hbd hp2 hp4
      rw [hmm] at hz hm1
      have e1 : IntKind.i64.wrap y = y := IntWalk.i64_in _ (by omega)
      have e2 : IntKind.i64.wrap z = z := IntWalk.i64_in _ (by omega)
      have e3 : IntKind.i64.wrap (2 * u.blocks) = 2 * u.blocks := IntWalk.i64_in _ (by omega)
      have e4 : IntKind.i64.wrap (m1 : Int) = (m1 : Int) := IntWalk.i64_in _ (by omega)
      have e5 : decide (2 * u.blocks ≤ y) = true := decide_eq_true hbd.2.2.1
      have e6 : decide (z < 2 * u.blocks) = true := decide_eq_true hbd.2.2.2
      have e7 : (T.toList == T.toList) = true := beq_self_eq_true _
      have e8 : ((m : Int) == (m : Int)) = true := beq_self_eq_true _
      subst h0
      clear hpu hso hgeo hpl hme hbd hgr hr hm hr1 hp1 hp2 hp3 hp4 hmm
      go_wp2_with fail
      refine (HPU.out _ (grown_refl _) (HT.out.grown G5.out)).mono ?_
      rintro e w6 ⟨rfl, hg⟩
      have G6 := Lib.hid (grown_then G5.out hg)
      have HB6 := Lib.hid (HB5.out.old hg)
      clear hg HPU G5 HB5 HS5 b0 b1 b2 b3 b4
      dsimp only
      rw [hTT]
      obtain ⟨c0, c1, c2, c3, c4⟩ := HB6.out.gw
      go_upto_region 14 with (fail)
      refine wp_region_grow (by kernel_rfl) ?_
      repeat (go_big_quiet_step (first | (go_at_call 26; with_reducible exact Calls.grow_of (HRM.out _)) | fail))
      refine wpQuiet_nil ?_
      rintro _ ⟨w7, rfl⟩
      have G7 := Lib.hid (grown_then G6.out w7.grown)
      have HB7 := Lib.hid (HB6.out.old w7.grown)
      obtain ⟨d0, d1, d2, d3, d4⟩ := HB7.out.cells
      clear c0 c1 c2 c3 c4 G6 HB6
      go_wp2_with fail
      refine (HPG.out _).mono ?_
      rintro e w8 ⟨rfl, hg⟩
      have G8 := Lib.hid (grown_then G7.out hg)
      have HB8 := Lib.hid (HB7.out.old hg)
      clear d0 d1 d2 d3 d4 hg
      obtain ⟨d0, d1, d2, d3, d4⟩ := HB8.out.cells
      clear G7 HB7 HPG HRM
      dsimp only
      go_wp2
      go_ret
      exact ⟨rfl, G8.out⟩
    · have q0 : (E2 != 0) = true := bne_iff_ne.2 h0
      have hm0 : m = 0 := by
        have h1 := HS5.out.len
        rw [HNO.out h0] at h1
        exact h1.symm
      subst hm0
      clear h0 HOK HNO
      go_wp2
      go_ret
      exact ⟨rfl, G5.out⟩
  · have e0 : (E == 0) = false := beq_eq_false_iff_ne.2 hE
    have GA := G2
    clear hE HYES HE HGP G2 HB2 HPSZ
    go_wp2_with fail
    refine (HGB.out _ (HT.out.grown GA.out)).mono ?_
    rintro e w5 ⟨hg, p, m, q, rfl, hseg, -⟩
    have hg2 := grown_then hg (grown_alloc w5 (.cells #[.int .u64 u.gen, .int .i64 u.size, .int .i64 u.blocks, .int .u32 u.root, .slice p m q] 29))
    have G5 := Lib.hid (grown_then GA.out hg2)
    have HB5 := Lib.hid (SB.new w5 u p m q)
    have HS5 := Lib.hid (hseg.grown (grown_alloc w5 (.cells #[.int .u64 u.gen, .int .i64 u.size, .int .i64 u.blocks, .int .u32 u.root, .slice p m q] 29)))
    clear hg hg2 hseg GA HGB
    dsimp only
    go_upto_region 11 with (fail)
    obtain ⟨W5, hW5⟩ : ∃ X, w5.alloc (.cells #[.int .u64 u.gen, .int .i64 u.size, .int .i64 u.blocks, .int .u32 u.root, .slice p m q] 29) = X := ⟨_, rfl⟩
    rw [hW5] at G5 HB5 HS5 ⊢
    clear hW5
    obtain ⟨b0, b1, b2, b3, b4⟩ := HB5.out.cells
    by_cases h0 : E2 = 0
    · obtain ⟨hpu, hso, hgeo, hpl⟩ := HOK.out h0
      have hme : (m : Int) = pagesF u.size u.blocks := by rw [← HS5.out.len]; exact hpl
      have hbd := pages_bounds hgeo
      have hgr := geo_room hgeo
      have HPU := Lib.hid (fun W (k : W5.grownBy W none) (hT : T4 W) => put_sup u p m q W (HS5.out.grown k) hso hT)
      rw [hpu] at HPU
      unfold strE at HPU
      dsimp only at HPU
      have HRM := Lib.hid (fun W => Fr.rroom_any u.size W)
      have HPG := Lib.hid (fun W => pages_any u.size u.blocks W)
      rw [← hme] at hbd HPG
      unfold GeoOk at hgeo
      obtain ⟨r, hr⟩ : ∃ r, Fr.room u.size = r := ⟨_, rfl⟩
      rw [hr] at HRM hgr hbd
      have hm : m ≤ 74 := by omega
      have hr1 : 0 ≤ r ∧ r ≤ 4080 := by omega
      have hm1 : ((m : Int) - 1) = ((m - 1 : Nat) : Int) := by omega
      rw [hm1] at hbd
      have hp1 : (m : Int) * r ≤ 74 * 4080 := Int.mul_le_mul (by omega) hr1.2 hr1.1 (by omega)
      have hp2 : ((m - 1 : Nat) : Int) * r ≤ 74 * 4080 := Int.mul_le_mul (by omega) hr1.2 hr1.1 (by omega)
      have hp3 : 0 ≤ (m : Int) * r := Int.mul_nonneg (by omega) hr1.1
      have hp4 : 0 ≤ ((m - 1 : Nat) : Int) * r := Int.mul_nonneg (by omega) hr1.1
      obtain ⟨y, hy⟩ : ∃ y, (m : Int) * r = y := ⟨_, rfl⟩
      obtain ⟨z, hz⟩ : ∃ z, ((m - 1 : Nat) : Int) * r = z := ⟨_, rfl⟩
      obtain ⟨m1, hmm⟩ : ∃ k : Nat, m - 1 = k := ⟨_, rfl⟩
      rw [hy] at hbd hp1 hp3
      rw [hz] at hbd hp2 hp4
      rw [hmm] at hz hm1
      have e1 : IntKind.i64.wrap y = y := IntWalk.i64_in _ (by omega)
      have e2 : IntKind.i64.wrap z = z := IntWalk.i64_in _ (by omega)
      have e3 : IntKind.i64.wrap (2 * u.blocks) = 2 * u.blocks := IntWalk.i64_in _ (by omega)
      have e4 : IntKind.i64.wrap (m1 : Int) = (m1 : Int) := IntWalk.i64_in _ (by omega)
      have e5 : decide (2 * u.blocks ≤ y) = true := decide_eq_true hbd.2.2.1
      have e6 : decide (z < 2 * u.blocks) = true := decide_eq_true hbd.2.2.2
      have e7 : (T.toList == T.toList) = true := beq_self_eq_true _
      have e8 : ((m : Int) == (m : Int)) = true := beq_self_eq_true _
      subst h0
      clear hpu hso hgeo hpl hme hbd hgr hr hm hr1 hp1 hp2 hp3 hp4 hmm
      go_wp2_with fail
      refine (HPU.out _ (grown_refl _) (HT.out.grown G5.out)).mono ?_
      rintro e w6 ⟨rfl, hg⟩
      have G6 := Lib.hid (grown_then G5.out hg)
      have HB6 := Lib.hid (HB5.out.old hg)
      clear hg HPU G5 HB5 HS5 b0 b1 b2 b3 b4
      dsimp only
      rw [hTT]
      obtain ⟨c0, c1, c2, c3, c4⟩ := HB6.out.gw
      go_upto_region 14 with (fail)
      refine wp_region_grow (by kernel_rfl) ?_
      repeat (go_big_quiet_step (first | (go_at_call 26; with_reducible exact Calls.grow_of (HRM.out _)) | fail))
      refine wpQuiet_nil ?_
      rintro _ ⟨w7, rfl⟩
      have G7 := Lib.hid (grown_then G6.out w7.grown)
      have HB7 := Lib.hid (HB6.out.old w7.grown)
      obtain ⟨d0, d1, d2, d3, d4⟩ := HB7.out.cells
      clear c0 c1 c2 c3 c4 G6 HB6
      go_wp2_with fail
      refine (HPG.out _).mono ?_
      rintro e w8 ⟨rfl, hg⟩
      have G8 := Lib.hid (grown_then G7.out hg)
      have HB8 := Lib.hid (HB7.out.old hg)
      clear d0 d1 d2 d3 d4 hg
      obtain ⟨d0, d1, d2, d3, d4⟩ := HB8.out.cells
      clear G7 HB7 HPG HRM
      dsimp only
      go_wp2
      go_ret
      exact ⟨rfl, G8.out⟩
    · have q0 : (E2 != 0) = true := bne_iff_ne.2 h0
      have hm0 : m = 0 := by
        have h1 := HS5.out.len
        rw [HNO.out h0] at h1
        exact h1.symm
      subst hm0
      clear h0 HOK HNO
      go_wp2
      go_ret
      exact ⟨rfl, G5.out⟩
end Go.Proofs.YtfojkglindpjjaaDoor.Su
