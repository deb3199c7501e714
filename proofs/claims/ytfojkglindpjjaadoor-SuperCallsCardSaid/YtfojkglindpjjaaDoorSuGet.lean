/-
  The program's Get.
-/
import Derived.Test.YtfojkglindpjjaaDoorSuRead
namespace Go.Proofs.YtfojkglindpjjaaDoor.Su
open Go.RowKit Bs Dv Gr
open Fr (block_turn kindF FmOk fmE fmV Fm)

/-- A super and an error are handed back; its pages in new memory. -/
def GotX (w : World) (r : Sup × Int) (e : Ending) (w' : World) : Prop :=
  w.grownBy w' none ∧ ∃ (a : Option Addr) (n c : Nat), e = .returned (.tuple #[.agg #[.int .u64 r.1.gen, .int .i64 r.1.size, .int .i64 r.1.blocks, .int .u32 r.1.root, .slice a n c], .int .i64 r.2]) ∧ Ws.Seg w' a n c r.1.pages ∧ ∀ ad, a = some ad → w.heap.size ≤ ad.block
theorem GotX.no {w w' : World} {E : Int} (hg : w.grownBy w' none) : GotX w (zeroS, E) (.returned (.tuple #[.agg #[.int .u64 0, .int .i64 0, .int .i64 0, .int .u32 0, .slice none 0 0], .int .i64 E])) w' :=
  ⟨hg, none, 0, 0, rfl, Ws.Seg.nil w', fun _ h => by cases h⟩

set_option maxRecDepth 100000 in
set_option maxHeartbeats 4000000 in
theorem get_any (B : List Int) (w : World) (hB : Bs.IsB B) (hlen : B.length ≤ 1000000) (hT : T4 w) :
    Calls Tryd.prog 9 #[.string (strOfNums B)] w (GotX w (getS B)) := by
  have S0 := SB.new w zeroS none 0 0
  have G0 := grown_alloc w (.cells #[.int .u64 0, .int .i64 0, .int .i64 0, .int .u32 0, .slice none 0 0] 29)
  have S0 : SB (w.alloc (.cells #[.int .u64 0, .int .i64 0, .int .i64 0, .int .u32 0, .slice none 0 0] 29)) w.heap.size zeroS none 0 0 := S0
  obtain ⟨W0, hW0⟩ : ∃ X, w.alloc (.cells #[.int .u64 0, .int .i64 0, .int .i64 0, .int .u32 0, .slice none 0 0] 29) = X := ⟨_, rfl⟩
  rw [hW0] at S0 G0
  have HS0 := Lib.hid S0
  have HG0 := Lib.hid G0
  have HK := Lib.hid (Fr.kind_any B 1 W0 hB hlen)
  have HP : Hid (getS B = getP B) := Lib.hid (get_is hB)
  have hko : (kindF B 1).2 = 0 → FmOk (1, (kindF B 1).1.2.1, (kindF B 1).1.2.2) ∧ (kindF B 1).1.2.2.length ≤ 4096 := fun h => ⟨kind_ok hB h, by
    have h1 := kind_len hB h
    have h2 := (kind_fits h).2.1
    omega⟩
  have hL : (strOfNums B).size = B.length := strOfNums_size B
  have HT := Lib.hid hT
  unfold getP at HP
  obtain ⟨⟨⟨t, g, d⟩, E⟩, hk⟩ : ∃ r, kindF B 1 = r := ⟨_, rfl⟩
  rw [hk] at HK HP hko
  dsimp only at HP hko
  have HKO := Lib.hid hko
  obtain ⟨S, hS⟩ : ∃ S, strOfNums B = S := ⟨_, rfl⟩
  rw [hS] at HK hL ⊢
  obtain ⟨R, hR⟩ : ∃ R, getS B = R := ⟨_, rfl⟩
  rw [hR] at HP ⊢
  obtain ⟨m, hm⟩ : ∃ m, B.length = m := ⟨_, rfl⟩
  rw [hm] at HP hL
  clear hB hlen hT S0 G0 hko hk hS hR hm
  go_enter Tryd.func9, Tryd.ntmps9
  go_wp2_with fail
  refine HK.out.mono ?_
  rintro e w1 ⟨rfl, hg⟩
  have HG1 := Lib.hid (grown_then HG0.out (grown_then hg (grown_alloc w1 (.cells #[.int .u8 t, .int .u64 g, .string (strOfNums d)] 41))))
  have HS1 := Lib.hid (HS0.out.old (grown_then hg (grown_alloc w1 (.cells #[.int .u8 t, .int .u64 g, .string (strOfNums d)] 41))))
  have HF1 := Lib.hid (heap_alloc_new w1 (.cells #[.int .u8 t, .int .u64 g, .string (strOfNums d)] 41))
  have hw1 : w.heap.size < W0.heap.size := by rw [← hW0]; simp
  have hw2 : W0.heap.size ≤ w1.heap.size := hg.size
  obtain ⟨W1, hW1⟩ : ∃ X, w1.alloc (.cells #[.int .u8 t, .int .u64 g, .string (strOfNums d)] 41) = X := ⟨_, rfl⟩
  rw [hW1] at HG1 HS1 HF1
  clear hg HG0 HS0 HK hW0
  simp only [fmE, fmV]
  by_cases h0 : E = 0
  · obtain ⟨hfm, hdl⟩ := HKO.out h0
    have HRD := Lib.hid (read_any t g d W1 hfm.2.2 hdl (HT.out.grown HG1.out))
    have HRO := Lib.hid (read_ok hfm)
    rw [if_neg (fun h => h h0)] at HP
    subst h0
    obtain ⟨D, hD⟩ : ∃ D, strOfNums d = D := ⟨_, rfl⟩
    rw [hD] at HRD HF1 hW1 ⊢
    have f0 : W1.cell? ⟨w1.heap.size, 0, none⟩ = some (.int .u8 t) := by rw [cell_of_row _ _ _ _ _ _ HF1.out]; rfl
    have f1 : W1.cell? ⟨w1.heap.size, 1, none⟩ = some (.int .u64 g) := by rw [cell_of_row _ _ _ _ _ _ HF1.out]; rfl
    have f2 : W1.cell? ⟨w1.heap.size, 2, none⟩ = some (.string D) := by rw [cell_of_row _ _ _ _ _ _ HF1.out]; rfl
    clear hfm hdl hD
    go_wp2_with fail
    refine HRD.out.mono ?_
    rintro e w2 ⟨hg2, s, a, n, c, rfl, hx⟩
    have hg3 := grown_then hg2 (grown_alloc w2 (.cells #[.int .u64 s.gen, .int .i64 s.size, .int .i64 s.blocks, .int .u32 s.root, .slice a n c] 29))
    have HG3 := Lib.hid (grown_then HG1.out hg3)
    have HS3 := Lib.hid (HS1.out.old hg3)
    have HB3 := Lib.hid (SB.new w2 s a n c)
    have hsz := HG1.out.size
    have hsz2 := hg2.size
    have hgl : w.heap.size < w2.heap.size := by
      have h1 : w1.heap.size < W1.heap.size := block_lt HF1.out
      omega
    obtain ⟨W3, hW3⟩ : ∃ X, w2.alloc (.cells #[.int .u64 s.gen, .int .i64 s.size, .int .i64 s.blocks, .int .u32 s.root, .slice a n c] 29) = X := ⟨_, rfl⟩
    have HXA : Hid (OkD g d → s = readS g d ∧ Ws.Seg W3 a n c s.pages ∧ ∀ ad, a = some ad → w.heap.size < ad.block) := Lib.hid (fun h => by
      have h4 : w1.heap.size < W1.heap.size := block_lt HF1.out
      obtain ⟨h1, h2, h3⟩ := hx h
      refine ⟨h1, h2.grown (by rw [← hW3]; exact grown_alloc _ _), fun ad had => ?_⟩
      have := h3 ad had
      omega)
    rw [hW3] at HG3 HS3 HB3
    have HW3 := Lib.hid hW3
    clear hg2 hg3 hx hsz hsz2 hW1 f0 f1 f2 HG1 HS1 HF1 HRD hW3
    dsimp only
    go_upto_region 5 with (fail)
    rw [HW3.out]
    have hpt : SB W3 w2.heap.size s a n c := HB3.out
    obtain ⟨b0, b1, b2, b3, b4⟩ := HB3.out.cells
    obtain ⟨r, hr⟩ : ∃ r, decide (OkD g d) = r := ⟨_, rfl⟩
    rw [hr]
    clear HW3 hpt
    cases r with
    | false =>
      have hR : R = (zeroS, 4) := by rw [HP.out, if_pos (of_decide_eq_false hr)]
      subst hR
      clear hr HXA HP
      go_wp2_with (first
        | (with_reducible refine wpList_store_super rfl (.tmp 2) (.tmp 37) rfl w.heap.size rfl zeroS none 0 0 rfl zeroS none 0 0 HS3.out ?_; intro w6 hq6 ht6)
        | fail)
      refine bodyPost_ret (run_results_super rfl _ _ _ _ _ _ _ rfl hq6 (.int .i64 4) rfl) rfl (GotX.no (grown_put HG3.out ht6 (Nat.le_refl _)))
    | true =>
      have hod : OkD g d := of_decide_eq_true hr
      obtain ⟨hs, hseg, hnew⟩ := HXA.out hod
      have HP2 : Hid (R = if s.size ≠ (m : Int) then (zeroS, 4) else if supE s ≠ 0 then (zeroS, 4) else (s, 0)) := Lib.hid (by rw [HP.out, if_neg (fun h => h hod), hs])
      have HSO : Hid (SupOk s) := Lib.hid (by rw [hs]; exact HRO.out)
      have HCK := Lib.hid (check_sup s a n c W3 hseg HSO.out)
      have HSG := Lib.hid hseg
      have HNW := Lib.hid hnew
      clear hr HXA HP hod hs hseg hnew HRO HKO
      by_cases h1 : s.size = (m : Int)
      · have q1 : (s.size != (m : Int)) = false := by rw [h1]; simp
        have HP3 : Hid (R = if supE s ≠ 0 then (zeroS, 4) else (s, 0)) := Lib.hid (by rw [HP2.out, if_neg (fun h => h h1)])
        obtain ⟨E2, hE2⟩ : ∃ E2, supE s = E2 := ⟨_, rfl⟩
        rw [hE2] at HP3 HCK
        clear h1 HP2 hE2
        by_cases h2 : E2 = 0
        · have hR : R = (s, 0) := by rw [HP3.out, if_neg (fun h => h h2)]
          subst hR h2
          clear HP3
          go_wp2_with fail
          refine HCK.out.mono ?_
          rintro e w4 ⟨rfl, hg4⟩
          have HG4 := Lib.hid (grown_then HG3.out hg4)
          have HS4 := Lib.hid (HS3.out.old hg4)
          have HB4 := Lib.hid (HB3.out.old hg4)
          have HSG4 := Lib.hid (HSG.out.grown hg4)
          obtain ⟨p0, p1, p2, p3, p4⟩ := HB4.out.cells
          clear hg4 b0 b1 b2 b3 b4 HCK HG3 HS3 HB3 HSG
          dsimp only
          go_wp2_with (first
            | (with_reducible refine wpList_store_super rfl (.tmp 2) (.tmp 38) rfl w.heap.size rfl s a n c rfl zeroS none 0 0 HS4.out ?_; intro w6 hq6 ht6)
            | fail)
          refine bodyPost_ret (run_results_super rfl _ _ _ _ _ _ _ rfl hq6 (.int .i64 0) rfl) rfl ⟨grown_put HG4.out ht6 (Nat.le_refl _), a, n, c, rfl, HSG4.out.kept (grown_some ht6) (fun ad had e => by
            have h1 := HNW.out ad had
            have h2 := Option.some.inj e
            omega), fun ad had => Nat.le_of_lt (HNW.out ad had)⟩
        · have hR : R = (zeroS, 4) := by rw [HP3.out, if_pos h2]
          subst hR
          have q2 : (E2 != 0) = true := bne_iff_ne.2 h2
          clear HP3 h2
          go_wp2_with fail
          refine HCK.out.mono ?_
          rintro e w4 ⟨rfl, hg4⟩
          have HG4 := Lib.hid (grown_then HG3.out hg4)
          have HS4 := Lib.hid (HS3.out.old hg4)
          clear hg4 b0 b1 b2 b3 b4 HCK HG3 HS3 HB3 HSG
          dsimp only
          go_wp2_with (first
            | (with_reducible refine wpList_store_super rfl (.tmp 2) (.tmp 37) rfl w.heap.size rfl zeroS none 0 0 rfl zeroS none 0 0 HS4.out ?_; intro w6 hq6 ht6)
            | fail)
          refine bodyPost_ret (run_results_super rfl _ _ _ _ _ _ _ rfl hq6 (.int .i64 4) rfl) rfl (GotX.no (grown_put HG4.out ht6 (Nat.le_refl _)))
      · have q1 : (s.size != (m : Int)) = true := bne_iff_ne.2 h1
        have hR : R = (zeroS, 4) := by rw [HP2.out, if_pos h1]
        subst hR
        clear h1 HP2 HCK
        go_wp2_with (first
          | (with_reducible refine wpList_store_super rfl (.tmp 2) (.tmp 37) rfl w.heap.size rfl zeroS none 0 0 rfl zeroS none 0 0 HS3.out ?_; intro w6 hq6 ht6)
          | fail)
        refine bodyPost_ret (run_results_super rfl _ _ _ _ _ _ _ rfl hq6 (.int .i64 4) rfl) rfl (GotX.no (grown_put HG3.out ht6 (Nat.le_refl _)))
  · have hR : R = (zeroS, E) := by rw [HP.out, if_pos h0]
    subst hR
    have q0 : (E != 0) = true := bne_iff_ne.2 h0
    clear h0 HP HKO
    have f0 : W1.cell? ⟨w1.heap.size, 0, none⟩ = some (.int .u8 t) := by rw [cell_of_row _ _ _ _ _ _ HF1.out]; rfl
    go_wp2_with (first
      | (with_reducible refine wpList_store_super rfl (.tmp 2) (.tmp 15) rfl w.heap.size rfl zeroS none 0 0 rfl zeroS none 0 0 HS1.out ?_; intro w6 hq6 ht6)
      | fail)
    refine bodyPost_ret (run_results_super rfl _ _ _ _ _ _ _ rfl hq6 (.int .i64 E) rfl) rfl (GotX.no (grown_put HG1.out ht6 (Nat.le_refl _)))
end Go.Proofs.YtfojkglindpjjaaDoor.Su
