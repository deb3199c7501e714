/-
  CountsLoads, walked.
-/
import Derived.Test.YtkinmcnmdfpjbaaCnRefM
import Derived.Test.YtkinmcnmdfpjbaaJSame
namespace Go.Proofs.Ytkinmcnmdfpjbaa.Cn
open Go.RowKit Bs Dv Gr
open Su (GeoOk pagesF)

set_option maxHeartbeats 1000000 in
theorem lightTexts_any (a : Option Addr) (n c : Nat) (l : List (List Int)) (w : World) (hs : Ss.Seg w a n c l) (hS : Ss.IsS l) :
    Calls Try.prog 33 #[.slice a n c, .int .i64 20, .int .i64 6000] w fun e w' => (∃ b, e = .returned (.bool b)) ∧ w = w' := by
  have hm := hs.cap
  have hle := hs.le
  unfold maxLen at hm
  have HSeg := Lib.hid hs
  have HS := Lib.hid hS
  clear hs hS
  by_cases hn : 20 < n
  · have hn' : (20 : Int) < (n : Int) := by omega
    clear hn
    go_enter Try.func33, Try.ntmps33
    go_wp2
    go_ret
    exact ⟨⟨_, rfl⟩, rfl⟩
  · have hn' : ¬ (20 : Int) < (n : Int) := by omega
    go_enter Try.func33, Try.ntmps33
    go_wp2
    go_loopw [7, 8] (fun so si wr => ∃ k t : Nat, k ≤ n ∧ si = .int .i64 k ∧ so = .int .i64 t ∧ w = wr ∧ t ≤ 6000) (fun _ si _ => n - (intOf si).toNat)
    case atStart => exact ⟨0, 0, Nat.zero_le _, rfl, rfl, rfl, by decide⟩
    case round =>
      obtain ⟨k, t, hk, rfl, rfl, rfl, ht⟩ := hrel
      by_cases hlt : k < n
      · obtain ⟨g, o, rfl, hc⟩ := HSeg.out.addr (by omega)
        have g1 := hc k hlt
        have hxl := (HS.out.at k).2
        obtain ⟨x, hx⟩ : ∃ x, l.getD k [] = x := ⟨_, rfl⟩
        rw [hx] at g1 hxl
        have hss := strOfNums_size x
        obtain ⟨q, hq⟩ : ∃ q, x.length = q := ⟨_, rfl⟩
        rw [hq] at hss hxl
        have hw : wrap64 ((t : Int) + (q : Int)) = (t : Int) + (q : Int) := by rw [← IntWalk.i64_left, IntKind.wrap_i64]; omega
        clear hc hx hq hn
        by_cases hov : 6000 < t + q
        · have hov' : (6000 : Int) < (t : Int) + (q : Int) := by omega
          clear hov
          go_wp2
          go_ret
          exact ⟨⟨_, rfl⟩, rfl⟩
        · have hov' : ¬ (6000 : Int) < (t : Int) + (q : Int) := by omega
          have HZ6 : Hid (t + q ≤ 6000) := Lib.hid (by omega)
          clear hov
          go_wp2
          go_roundw
          case rel => exact ⟨k + 1, t + q, by omega, by go_num, by go_num, trivial, HZ6.out⟩
          case measure => simp [intOf]; omega
      · obtain rfl : k = n := by omega
        go_wp2
        go_ret
        exact ⟨⟨_, rfl⟩, rfl⟩

theorem rc_seg {w : World} {g h cap : Nat} {size : Int} {N : List Int} (hc : RC w g h cap size N) (hm : cap ≤ maxLen) : Js.Seg w (some ⟨h, 0, none⟩) N.length cap N := by
  refine ⟨rfl, hc.le, hm, (fun e => by cases e), fun ad had j u hu => ?_⟩
  cases had
  rw [List.getElem?_map] at hu
  cases hq : N[j]? with
  | none => rw [hq] at hu; cases hu
  | some x =>
    rw [hq] at hu
    have h2 := (hc.row j (List.getElem?_eq_some_iff.1 hq).1).1
    rw [List.getD_eq_getElem?_getD, hq] at h2
    rw [Addr.add_lit, Nat.zero_add, ← Option.some.inj hu]
    exact h2

set_option maxRecDepth 100000 in
set_option maxHeartbeats 8000000 in
theorem loads_any (size blocks : Int) (a1 : Option Addr) (len1 cap1 : Nat) (l1 : List (List Int)) (w : World) (hs : Ss.Seg w a1 len1 cap1 l1) (hb : Ss.IsS l1) :
    Calls Try.prog 5 #[.agg #[.int .i64 size, .int .i64 blocks], .slice a1 len1 cap1] w fun e w' => e = .returned (.bool true) ∧ Below w.heap.size w w' := by
  have B0 := heap_alloc_new w (.cells #[.int .i64 size, .int .i64 blocks] 28)
  have G0 := grown_alloc w (.cells #[.int .i64 size, .int .i64 blocks] 28)
  obtain ⟨W0, hW0⟩ : ∃ X, w.alloc (.cells #[.int .i64 size, .int .i64 blocks] 28) = X := ⟨_, rfl⟩
  rw [hW0] at B0 G0
  have HB0 := Lib.hid B0
  have HG0 := Lib.hid G0
  have HW0 := Lib.hid hW0
  have HLV := Lib.hid (lives_any W0)
  have HLG := Lib.hid (fun W => lightgeo_any size blocks W)
  have HS0 := Lib.hid (hs.grown G0)
  have HLT := Lib.hid (fun W (s : Ss.Seg W a1 len1 cap1 l1) => lightTexts_any a1 len1 cap1 l1 W s hb)
  have HLD := Lib.hid (fun W (s : Ss.Seg W a1 len1 cap1 l1) => load_any size blocks a1 len1 cap1 l1 W s hb)
  have HRD := Lib.hid (fun W (s : Ss.Seg W a1 len1 cap1 l1) => rload_any size blocks a1 len1 cap1 l1 W s hb)
  have HEND : Hid (∀ W, W0.grownBy W none → Below w.heap.size w W) := Lib.hid (fun W k => grown_below (grown_then G0 k))
  have HCL : Hid (∀ W, W0.grownBy W none → W.cell? ⟨w.heap.size, 0, none⟩ = some (.int .i64 size) ∧ W.cell? ⟨w.heap.size, 1, none⟩ = some (.int .i64 blocks)) := Lib.hid (fun W k => by
    constructor <;> rw [cell_of_row _ _ _ _ _ _ (block_old B0 k)] <;> rfl)
  have HB := Lib.hid hb
  have HLN := Lib.hid hs.len
  obtain ⟨lb, hlb⟩ : ∃ b, LightS size blocks = b := ⟨_, rfl⟩
  rw [hlb] at HLG
  clear B0 G0 hW0 hs hb hlb
  go_enter Try.func5, Try.ntmps5
  go_upto_region 1 with (fail)
  rw [HW0.out]
  go_wp2_with fail
  refine HLV.out.mono ?_
  rintro e w1 ⟨rfl, hg⟩
  have HG1 := Lib.hid hg
  obtain ⟨c0, c1⟩ := HCL.out w1 hg
  clear hg HLV
  dsimp only
  go_wp2_with fail
  refine (HLG.out _).mono ?_
  rintro e w2 ⟨rfl, hg⟩
  have HG2 := Lib.hid (grown_then HG1.out hg)
  clear hg c0 c1 HG1 HLG
  dsimp only
  cases lb
  case false =>
    have HE := Lib.hid (HEND.out _ HG2.out)
    go_wp2
    go_ret
    exact ⟨rfl, HE.out⟩
  go_wp2_with fail
  refine (HLT.out _ (HS0.out.grown HG2.out)).mono ?_
  rintro e w' ⟨⟨b, rfl⟩, rfl⟩
  dsimp only
  cases b
  case false =>
    have HE := Lib.hid (HEND.out _ HG2.out)
    go_wp2
    go_ret
    exact ⟨rfl, HE.out⟩
  obtain ⟨c0, c1⟩ := HCL.out w2 HG2.out
  go_wp2_with fail
  refine (HLD.out _ (HS0.out.grown HG2.out)).mono ?_
  rintro e w3 ⟨hg, hx⟩
  have HG3 := Lib.hid (grown_then HG2.out hg)
  have HSZ3 := Lib.hid hg.size
  have HX3 := Lib.hid hx
  obtain ⟨d0, d1⟩ := HCL.out w3 HG3.out
  clear hg hx c0 c1
  have HRD3 := Lib.hid (HRD.out w3 (HS0.out.grown HG3.out))
  rcases HX3.out with ⟨hno, rfl⟩ | ⟨n, hbn, hok, ⟨h4, rfl⟩ | ⟨h0, g, h, cap, rfl, hcc, hl1, hl2⟩⟩
  · -- the geometry may not be
    have HNO := Lib.hid hno
    clear hno
    dsimp only
    go_wp2_with fail
    refine HRD3.out.mono ?_
    rintro e w4 ⟨hg, ⟨-, rfl⟩ | ⟨n, hbn, hok, -⟩⟩
    · have HE := Lib.hid (HEND.out _ (grown_then HG3.out hg))
      clear hg
      dsimp only
      go_wp2
      go_quiet (fail)
      go_wp2
      go_ret
      exact ⟨rfl, HE.out.os, HE.out.tape, HE.out.output, HE.out.size, HE.out.block⟩
    · exact absurd (hbn ▸ hok) HNO.out
  · -- it does not load
    have HH := Lib.hid (⟨hbn, hok, h4⟩ : blocks = n ∧ GeoOk size n ∧ (loadC size n l1).2 = 4)
    clear hbn hok h4
    dsimp only
    go_wp2_with fail
    refine HRD3.out.mono ?_
    rintro e w4 ⟨hg, ⟨hno, -⟩ | ⟨n', hbn, hok, ⟨h4, rfl⟩ | ⟨h0, -⟩⟩⟩
    · exact absurd (HH.out.1 ▸ HH.out.2.1) hno
    · have HE := Lib.hid (HEND.out _ (grown_then HG3.out hg))
      clear hg hbn hok h4
      dsimp only
      go_wp2
      go_quiet (fail)
      go_wp2
      go_ret
      exact ⟨rfl, HE.out.os, HE.out.tape, HE.out.output, HE.out.size, HE.out.block⟩
    · obtain rfl : n = n' := by have := HH.out.1; omega
      rw [HH.out.2.2] at h0
      cases h0
  · -- it loads
    have HH := Lib.hid (⟨hbn, hok, h0⟩ : blocks = n ∧ GeoOk size n ∧ (loadC size n l1).2 = 0)
    have HC3 := Lib.hid hcc
    clear hbn hok h0 hcc
    dsimp only
    go_wp2_with fail
    refine HRD3.out.mono ?_
    rintro e w4 ⟨hg, ⟨hno, -⟩ | ⟨n', hbn, hok, ⟨h4, -⟩ | ⟨h0, ro, rh, rcap, rfl, hrc, -, -, hrm⟩⟩⟩
    · exact absurd (HH.out.1 ▸ HH.out.2.1) hno
    · obtain rfl : n = n' := by have := HH.out.1; omega
      rw [HH.out.2.2] at h4
      cases h4
    obtain rfl : n = n' := by have := HH.out.1; omega
    obtain ⟨hgeo, hplen, heq, hMl, hMc, hMp, hM0, hM1⟩ := load_ok (fun p hp => (HB.out p hp).1) h0
    have HC4 := Lib.hid (HC3.out.old hg)
    have HR4 := Lib.hid hrc
    have HG4 := Lib.hid (grown_then HG3.out hg)
    rw [heq] at HC4 HR4
    obtain ⟨M, hM⟩ : ∃ M, cntsB n l1.flatten = M := ⟨_, rfl⟩
    rw [hM] at HC4 HR4 hMl hMc hMp hM0 hM1
    have HOKM : Hid (CnOk size n M) := Lib.hid ⟨hgeo, hMl, hMc, hM0, hM1⟩
    have HRM := Lib.hid hrm
    clear hbn hok h0 hrc heq hM hgeo hMc hM0 hM1 hrm hg HC3 HX3
    dsimp only
    have HAL : Hid (∀ W, w4.grownBy W none → Calls Try.prog 28 #[.pointer (some ⟨g, 0, none⟩)] W fun e w' => ∃ a, e = .returned (.slice (some ⟨a, 0, none⟩) n n) ∧ JR w' a M ∧ W.grownBy w' none) := Lib.hid (fun W k => by
      have h := all_any g h cap size M W (HC4.out.old k) HOKM.out.cnt
      refine h.mono ?_
      rintro e w' ⟨h1, a, h2, h3, _⟩
      rw [hMl] at h2
      exact ⟨a, h2, h3, h1⟩)
    have HPA : Hid (∀ W, w4.grownBy W none → Calls Try.prog 16 #[.pointer (some ⟨g, 0, none⟩)] W fun e w' => W.grownBy w' none ∧ ∃ a c, e = .returned (.slice (some ⟨a, 0, none⟩) len1 c) ∧ Ss.Seg w' (some ⟨a, 0, none⟩) len1 c l1) := Lib.hid (fun W k => by
      have h := pages_any g h cap size n M W (HC4.out.old k) HOKM.out
      rw [hMp] at h
      refine h.mono ?_
      rintro e w' ⟨h1, a, c, h2, h3, _⟩
      rw [HLN.out] at h2 h3
      exact ⟨h1, a, c, h2, h3⟩)
    have HPG : Hid (∀ W, Calls Try.prog 35 #[.agg #[.int .i64 size, .int .i64 blocks]] W fun e w' => e = .returned (.int .i64 (len1 : Int)) ∧ W.grownBy w' none) := Lib.hid (fun W => by
      have h := rpg_any size blocks W
      rw [HH.out.1, ← hplen, HLN.out] at h
      rw [HH.out.1]
      exact h)
    have HSI : Hid (∀ W a, w4.grownBy W none → JR W a M → Calls Try.prog 27 #[.slice (some ⟨a, 0, none⟩) n n, .slice (some ⟨rh, 0, none⟩) n rcap] W fun e w' => e = .returned (.bool true) ∧ W.grownBy w' none) := Lib.hid (fun W a k j => by
      have h0 := j.seg (by rw [hMl]; have := HOKM.out.geo; unfold GeoOk at this; omega)
      have h1 := rc_seg (HR4.out.turn (grown_turn k) id id) HRM.out
      rw [hMl] at h0 h1
      refine (Js.same_any _ _ n n n rcap M M W h0 h1).mono ?_
      rintro e w' ⟨he, m, rfl⟩
      exact ⟨by rw [he]; unfold Js.sameB; simp, ⟨rfl, rfl, rfl, Nat.le_refl _, fun _ _ _ => rfl⟩⟩)
    have HSS : Hid (∀ W a c, w4.grownBy W none → Ss.Seg W (some ⟨a, 0, none⟩) len1 c l1 → Calls Try.prog 31 #[.slice (some ⟨a, 0, none⟩) len1 c, .slice a1 len1 cap1] W fun e w' => e = .returned (.bool true) ∧ W.grownBy w' none) := Lib.hid (fun W a c k j => by
      refine (Ss.same_any _ _ len1 len1 c cap1 l1 l1 W j (HS0.out.grown (grown_then HG4.out k)) HB.out HB.out).mono ?_
      rintro e w' ⟨he, m, rfl⟩
      exact ⟨by rw [he]; unfold Ss.sameB; simp, ⟨rfl, rfl, rfl, Nat.le_refl _, fun _ _ _ => rfl⟩⟩)
    obtain ⟨d0', d1'⟩ := HCL.out w4 HG4.out
    have r2 : w4.cell? ⟨ro, 2, none⟩ = some (.slice (some ⟨rh, 0, none⟩) n rcap) := by rw [cell_of_row _ _ _ _ _ _ HR4.out.box, ← hMl]; rfl
    have kl : ((len1 : Int) == (len1 : Int)) = true := beq_self_eq_true _
    clear hplen hMl hMp d0 d1 HC4 HR4 HOKM HRM
    have HD4 := Lib.hid (grown_drew w4)
    go_wp2
    go_region_held3 (fun w' => w'.cell? ⟨w.heap.size, 0, none⟩ = some (.int .i64 size) ∧ w'.cell? ⟨w.heap.size, 1, none⟩ = some (.int .i64 blocks) ∧ w'.cell? ⟨ro, 2, none⟩ = some (.slice (some ⟨rh, 0, none⟩) n rcap)) (go_keep)
      (first
        | (go_at_call 28
           (with_reducible refine (HAL.out _ HD4.out).mono ?_)
           rintro e w5 ⟨ba, rfl, hj, hg⟩
           have HG5 := Lib.hid (grown_then HD4.out hg)
           have HJ5 := Lib.hid hj
           have k0 := (grown_turn HG5.out).cell d0' id
           have k1 := (grown_turn HG5.out).cell d1' id
           have k2 := (grown_turn HG5.out).cell r2 id
           clear hj hg)
        | (go_at_call 27
           (with_reducible refine (HSI.out _ _ HG5.out HJ5.out).mono ?_)
           rintro e w6 ⟨rfl, hg⟩
           have HG6 := Lib.hid (grown_then HG5.out hg)
           have k0 := (grown_turn HG6.out).cell d0' id
           have k1 := (grown_turn HG6.out).cell d1' id
           have k2 := (grown_turn HG6.out).cell r2 id
           clear hg)
        | (go_at_call 16
           (with_reducible refine (HPA.out _ HG6.out).mono ?_)
           rintro e w7 ⟨hg, bp, cp, rfl, hj⟩
           have HG7 := Lib.hid (grown_then HG6.out hg)
           have HJ7 := Lib.hid hj
           have k0 := (grown_turn HG7.out).cell d0' id
           have k1 := (grown_turn HG7.out).cell d1' id
           have k2 := (grown_turn HG7.out).cell r2 id
           clear hj hg)
        | (go_at_call 31
           (with_reducible refine (HSS.out _ _ _ HG7.out HJ7.out).mono ?_)
           rintro e w8 ⟨rfl, hg⟩
           have HG8 := Lib.hid (grown_then HG7.out hg)
           have k0 := (grown_turn HG8.out).cell d0' id
           have k1 := (grown_turn HG8.out).cell d1' id
           have k2 := (grown_turn HG8.out).cell r2 id
           clear hg)
        | (go_at_call 35
           (with_reducible refine (HPG.out _).mono ?_)
           rintro e w9 ⟨rfl, hg⟩
           have HG9 := Lib.hid (grown_then HG8.out hg)
           have HE9 := Lib.hid (HEND.out _ (grown_then HG4.out HG9.out))
           have k0 := (grown_turn HG9.out).cell d0' id
           have k1 := (grown_turn HG9.out).cell d1' id
           have k2 := (grown_turn HG9.out).cell r2 id
           clear hg)
        | fail)
    go_wp2
    go_ret
    exact ⟨rfl, HE9.out⟩
end Go.Proofs.Ytkinmcnmdfpjbaa.Cn
