/-
  IntsOrder: the same numbers in another order are packed in as many bytes; plain, too; with a number more no form is shorter.
-/
import Derived.Test.YteolpjlpjjjchaaInBack
import Derived.Test.YteolpjlpjjjchaaInMono
import Derived.Test.YteolpjlpjjjchaaKitPick
import Derived.Laws.OwnMore
import Derived.BigRegion
namespace Go.Proofs.Yteolpjlpjjjchaa.In
open Go.RowKit Go.Joins
open Is (IsI)
open Pk (PutF Turn.then below_of)
open Dv (Turn nowhere)

set_option maxRecDepth 100000 in
set_option maxHeartbeats 1000000 in
theorem order_any (a0 : Option Addr) (n0 c0 : Nat) (l0 : List Int) (a b v : Int) (w : World) (s0 : Is.Seg w a0 n0 c0 l0) (u0 : IsI l0) (gv : -9223372036854775808 ≤ v ∧ v ≤ 9223372036854775807) :
    Calls Try.prog 7 #[.slice a0 n0 c0, .int .i64 a, .int .i64 b, .int .i64 v] w fun e w' => e = .returned (.bool true) ∧ Below w.heap.size w w' := by
  obtain ⟨i0, hi, hz0, hz1, hz2⟩ := info_parts Is.info_i64
  have L0 := s0.len
  have S0 := Lib.hid s0
  by_cases hg : 199 < n0 ∨ n0 = 0
  · have hg2 : (199 : Int) < n0 ∨ n0 = 0 := by omega
    clear hg L0 s0 u0 gv
    rcases hg2 with h1 | rfl
    all_goals
      go_enter Try.func7, Try.ntmps7
      go_wp2_with fail
      refine (lives_any _).mono ?_
      rintro e w1 ⟨rfl, hg1⟩
      have T1 := Lib.hid hg1
      clear hg1
      dsimp only
      go_wp2
      go_ret
      exact ⟨rfl, below_of T1.out⟩
  · have hn0 : n0 ≤ 199 := by omega
    have hn1 : 1 ≤ n0 := by omega
    have hra := Bs.pick_range a n0 (by omega)
    have hrb := Bs.pick_range b n0 (by omega)
    have HPa := Lib.hid (fun W => Bs.pick_any a n0 W (by omega) (by omega))
    have HPb := Lib.hid (fun W => Bs.pick_any b n0 W (by omega) (by omega))
    obtain ⟨A, hA⟩ : ∃ A : Nat, Bs.pick a n0 = (A : Int) := ⟨(Bs.pick a n0).toNat, by omega⟩
    obtain ⟨B, hB⟩ : ∃ B : Nat, Bs.pick b n0 = (B : Int) := ⟨(Bs.pick b n0).toNat, by omega⟩
    rw [hA] at HPa hra
    rw [hB] at HPb hrb
    have hAn : A < n0 := by omega
    have hBn : B < n0 := by omega
    have hneb : ((n0 : Int) == 0) = false := by simp; omega
    have HU := Lib.hid u0
    have HL0 := Lib.hid L0
    have HOwn := Lib.hid (fun W (h : Is.Seg W a0 n0 c0 l0) => Is.own_any a0 n0 c0 l0 W h (by omega))
    clear s0 u0 hg L0 hA hB hra hrb
    go_enter Try.func7, Try.ntmps7
    go_wp2_with fail
    refine (lives_any _).mono ?_
    rintro e w1 ⟨rfl, hT⟩
    have T1 := Lib.hid hT
    have HO1 := Lib.hid (HOwn.out w1 (iseg_stay S0.out hT))
    clear hT
    dsimp only
    go_wp2_with fail
    refine HO1.out.mono ?_
    rintro e w2 ⟨G, cG, rfl, hown2, hg2⟩
    have T2 := Lib.hid (Turn.then T1.out (Pk.turn_of hg2))
    have O2 := Lib.hid hown2
    have T1s : Hid (w.heap.size ≤ w1.heap.size) := Lib.hid T1.out.size
    clear hown2 hg2 HO1 T1
    dsimp only
    go_wp2_with fail
    refine (HPa.out _).mono ?_
    rintro e w' ⟨rfl, rfl⟩
    dsimp only
    go_wp2_with fail
    refine (HPb.out _).mono ?_
    rintro e w' ⟨rfl, rfl⟩
    dsimp only
    obtain ⟨ya, hya⟩ : ∃ y, l0.getD A 0 = y := ⟨_, rfl⟩
    obtain ⟨yb, hyb⟩ : ∃ y, l0.getD B 0 = y := ⟨_, rfl⟩
    have ca := own_cell O2.out A (by rw [HL0.out]; exact hAn)
    have cb := own_cell O2.out B (by rw [HL0.out]; exact hBn)
    rw [hya] at ca
    rw [hyb] at cb
    have fa := O2.out.frozenAt A
    have fb := O2.out.frozenAt B
    have HYa := Lib.hid hya
    have HYb := Lib.hid hyb
    have h3 := O2.out.stored A (.int .i64 yb)
    have hl3 : (l0.map (Value.int .i64)).set A (.int .i64 yb) = (l0.set A yb).map (Value.int .i64) := (List.map_set ..).symm
    rw [hl3] at h3
    have cb3 := own_cell h3.1 B (by rw [List.length_set, HL0.out]; exact hBn)
    have h4 := h3.1.stored B (.int .i64 ya)
    have hl4 : ((l0.set A yb).map (Value.int .i64)).set B (.int .i64 ya) = ((l0.set A yb).set B ya).map (Value.int .i64) := (List.map_set ..).symm
    rw [hl4] at h4
    have O4 := Lib.hid h4.1
    have T4 : Hid (Below w.heap.size w ((w2.setCell ⟨G, A, none⟩ (.int .i64 yb)).setCell ⟨G, B, none⟩ (.int .i64 ya))) := Lib.hid (by
      have hGb : w.heap.size ≤ G := by
        exact Nat.le_trans T1s.out (O2.out.lt G rfl).1
      exact ((below_of T2.out).grown h3.2 (below_of T2.out).size (fun j e => by cases e; exact hGb)).grown h4.2 (Nat.le_trans (below_of T2.out).size h3.2.size) (fun j e => by cases e; exact hGb))
    clear hya hyb h3 h4 hl3 hl4
    go_wp2_with fail
    go_region
    have T5 : Hid (Below w.heap.size w ((w2.setCell ⟨G, A, none⟩ (.int .i64 yb)).setCell ⟨G, B, none⟩ (.int .i64 ya)).drew) := Lib.hid T4.out.drew
    have O5 : Hid (((w2.setCell ⟨G, A, none⟩ (.int .i64 yb)).setCell ⟨G, B, none⟩ (.int .i64 ya)).drew.ownsRow w1.heap.size 2 1 (.slice (some ⟨G, 0, none⟩) n0 cG) n0 (((l0.set A yb).set B ya).map (Value.int .i64))) := Lib.hid O4.out
    clear O4 T4 ca cb fa fb cb3 T2 O2
    generalize ((w2.setCell ⟨G, A, none⟩ (.int .i64 yb)).setCell ⟨G, B, none⟩ (.int .i64 ya)).drew = W5 at *
    obtain ⟨m0, hm0⟩ : ∃ m0, (l0.set A yb).set B ya = m0 := ⟨_, rfl⟩
    rw [hm0] at O5
    have hmem : ∀ x, x ∈ m0 ↔ x ∈ l0 := fun x => by
      rw [← hm0, ← HYa.out, ← HYb.out]
      exact swap_mem l0 A B (by rw [HL0.out]; exact hAn) (by rw [HL0.out]; exact hBn) x
    have hmlen : m0.length = l0.length := by rw [← hm0, List.length_set, List.length_set]
    have hne : l0 ≠ [] := fun e => by have := HL0.out; rw [e] at this; simp at this; omega
    have hIm : IsI m0 := fun x hx => HU.out x ((hmem x).1 hx)
    have hIn : IsI (l0 ++ [v]) := isI_app HU.out fun x hx => by rw [List.mem_singleton.1 hx]; exact gv
    obtain ⟨p, hp⟩ : ∃ p, (encB 3 l0).length = p := ⟨_, rfl⟩
    obtain ⟨q, hq⟩ : ∃ p, (encB 3 m0).length = p := ⟨_, rfl⟩
    obtain ⟨r, hr⟩ : ∃ p, (encB 3 (l0 ++ [v])).length = p := ⟨_, rfl⟩
    obtain ⟨s, hs⟩ : ∃ p, (encB 1 l0).length = p := ⟨_, rfl⟩
    obtain ⟨t, ht⟩ : ∃ p, (encB 1 m0).length = p := ⟨_, rfl⟩
    obtain ⟨uu, hu⟩ : ∃ p, (encB 1 (l0 ++ [v])).length = p := ⟨_, rfl⟩
    obtain ⟨x, hx⟩ : ∃ p, (encB 2 l0).length = p := ⟨_, rfl⟩
    obtain ⟨y, hy⟩ : ∃ p, (encB 2 (l0 ++ [v])).length = p := ⟨_, rfl⟩
    have hl4 : l0.length ≤ 4096 := by rw [HL0.out]; omega
    have e1 : q = p := by rw [← hp, ← hq]; exact packed_same (by omega) hmlen hmem
    have e2 : t = s := by rw [← hs, ← ht, plain_len, plain_len, hmlen]
    have e3 : s + 8 ≤ uu := by rw [← hs, ← hu]; exact plain_more l0 v
    have e4 : p ≤ r := by rw [← hp, ← hr]; exact packed_more l0 v hIn hne (by omega)
    have e5 := runs_more l0 v hne
    rw [hx, hy] at e5
    have hsmall : p ≤ 2000000 ∧ s ≤ 2000000 ∧ uu ≤ 2000000 ∧ r ≤ 2000000 ∧ x ≤ 2000000 ∧ y ≤ 2000000 := by
      have hl5 : (l0 ++ [v]).length ≤ 4096 := by rw [List.length_append, HL0.out]; simp; omega
      refine ⟨?_, ?_, ?_, ?_, ?_, ?_⟩
      · rw [← hp]; exact (encB_len 3 l0 hl4).2
      · rw [← hs]; exact (encB_len 1 l0 hl4).2
      · rw [← hu]; exact (encB_len 1 _ hl5).2
      · rw [← hr]; exact (encB_len 3 _ hl5).2
      · rw [← hx]; exact (encB_len 2 l0 hl4).2
      · rw [← hy]; exact (encB_len 2 _ hl5).2
    have hl5 : (l0 ++ [v]).length ≤ 4096 := by rw [List.length_append, HL0.out]; simp; omega
    have hlm : m0.length ≤ 4096 := by omega
    subst e1 e2
    have HP := Lib.hid (fun a n c W h => packed_form (few_of hl4) hp HU.out a n c W h)
    have HQ := Lib.hid (fun a n c W h => packed_form (few_of hlm) hq hIm a n c W h)
    have HR := Lib.hid (fun a n c W h => packed_form (few_of hl5) hr hIn a n c W h)
    have HS := Lib.hid (fun a n c W h => plain_form (few_of hl4) hs HU.out a n c W h)
    have HT := Lib.hid (fun a n c W h => plain_form (few_of hlm) ht hIm a n c W h)
    have HV := Lib.hid (fun a n c W h => plain_form (few_of hl5) hu hIn a n c W h)
    have HX := Lib.hid (fun a n c W h => runs_form (few_of hl4) hx HU.out a n c W h)
    have HY := Lib.hid (fun a n c W h => runs_form (few_of hl5) hy hIn a n c W h)
    have H3 := Lib.hid e3
    have H4 := Lib.hid e4
    have H5 := Lib.hid e5
    have HSm := Lib.hid hsmall
    have hlastl : l0.getLast? = some (l0.getD (n0 - 1) 0) := last_at l0 (n0 - 1) (by rw [HL0.out]; omega)
    obtain ⟨z, hz⟩ : ∃ z, l0.getD (n0 - 1) 0 = z := ⟨_, rfl⟩
    rw [hz] at hlastl
    have HLast := Lib.hid hlastl
    have HZ := Lib.hid hz
    clear hm0 hmem hmlen hIm hIn hp hq hr hs ht hu hx hy e3 e4 e5 hsmall hl4 hl5 hlm hlastl hz hne HYa HYb hneb
    have HO6 := Lib.hid (HOwn.out W5 (S0.out.grown (Bs.grown_of T5.out)))
    clear HOwn
    go_wp2_with fail
    refine HO6.out.mono ?_
    rintro e w6 ⟨G6, cG6, rfl, hown6, hg6⟩
    have T6 : Hid (Below w.heap.size w w6) := Lib.hid (T5.out.trans (below_grown hg6 T5.out.size))
    have M6 := Lib.hid ((Is.Seg.own O5.out).grown hg6)
    have O6a := Lib.hid (hown6.alloc (.cells #[.int .i64 v] 2))
    have T6a : Hid (Below w.heap.size w (w6.alloc (.cells #[.int .i64 v] 2))) := Lib.hid (T6.out.alloc T6.out.size _)
    have H6s : Hid (W5.heap.size ≤ (w6.alloc (.cells #[.int .i64 v] 2)).heap.size ∧ w.heap.size ≤ W5.heap.size ∧ W5.heap.size ≤ w6.heap.size) := Lib.hid ⟨by have := hg6.size; simp; omega, T5.out.size, hg6.size⟩
    have HW5 : Hid (∀ j, some j = Value.ownBlock (.slice (some ⟨G6, 0, none⟩) n0 cG6) → W5.heap.size ≤ j) := Lib.hid (fun j e => by cases e; exact (hown6.lt G6 rfl).1)
    clear hown6 hg6 HO6
    dsimp only
    go_wp2_with (at_builtin; refine wpList_append_own _ rfl (.tmp 62) (.tmp 64) 27 rfl W5.heap.size 2 i0 (.int .i64 0) 1 8 Try.underlying27 hi hz0 hz1 hz2 rfl (by decide) _ n0 _ rfl O6a.out ⟨w6.heap.size, 0, none⟩ 1 1 [.int .i64 v] rfl rfl (by intro t u ht; match t, ht with | 0, ht => simp at ht; subst ht; exact Pk.cell_new w6 _ _) (by intro u hu; simp at hu; subst hu; rfl) (by unfold maxLen; omega) (by omega) H6s.out.1 ?_; intro v7 w7 hown7 hgrow7 _)
    obtain ⟨g7, c7, rfl⟩ := ownsRow_form hown7 (by omega)
    rw [show l0.map (Value.int .i64) ++ [Value.int .i64 v] = (l0 ++ [v]).map (Value.int .i64) from by simp] at hown7
    have N7 := Lib.hid (Is.Seg.own hown7)
    have T7 : Hid (Below w.heap.size w w7) := Lib.hid (T6a.out.grown hgrow7 T6a.out.size (fun j e => Nat.le_trans H6s.out.2.1 (HW5.out j e.symm)))
    have M7 : Hid (Is.Seg w7 (some ⟨G, 0, none⟩) n0 cG m0) := Lib.hid ((M6.out.grown (World.grownBy_alloc w6 _ none)).kept hgrow7 (fun ad e h => by
      cases e
      have h1 := HW5.out G h.symm
      have h2 := (O5.out.lt G rfl).2
      omega))
    have L7 := Lib.hid (S0.out.grown (Bs.grown_of T7.out))
    clear hown7 hgrow7 T6 T6a M6 O6a H6s HW5 O5 T5
    have HC7 := Lib.hid (HP.out a0 n0 c0 w7 L7.out)
    go_wp2_with fail
    refine HC7.out.mono ?_
    rintro e w8 ⟨x8, q8, rfl, -, hT⟩
    have L8 := Lib.hid (iseg_stay L7.out hT)
    have M8 := Lib.hid (iseg_stay M7.out hT)
    have N8 := Lib.hid (iseg_stay N7.out hT)
    have T8 : Hid (Below w.heap.size w w8) := Lib.hid (T7.out.trans (below_mono (below_of hT) T7.out.size))
    clear hT HC7 L7 M7 N7 T7 HP
    dsimp only
    have HC8 := Lib.hid (HQ.out _ _ _ w8 M8.out)
    go_wp2_with fail
    refine HC8.out.mono ?_
    rintro e w9 ⟨x9, q9, rfl, -, hT⟩
    have L9 := Lib.hid (iseg_stay L8.out hT)
    have M9 := Lib.hid (iseg_stay M8.out hT)
    have N9 := Lib.hid (iseg_stay N8.out hT)
    have T9 : Hid (Below w.heap.size w w9) := Lib.hid (T8.out.trans (below_mono (below_of hT) T8.out.size))
    clear hT HC8 L8 M8 N8 T8 HQ
    dsimp only
    have HC9 := Lib.hid (HR.out _ _ _ w9 N9.out)
    go_wp2_with fail
    refine HC9.out.mono ?_
    rintro e w10 ⟨x10, q10, rfl, -, hT⟩
    have L10 := Lib.hid (iseg_stay L9.out hT)
    have M10 := Lib.hid (iseg_stay M9.out hT)
    have N10 := Lib.hid (iseg_stay N9.out hT)
    have T10 : Hid (Below w.heap.size w w10) := Lib.hid (T9.out.trans (below_mono (below_of hT) T9.out.size))
    clear hT HC9 L9 M9 N9 T9 HR
    dsimp only
    have HC10 := Lib.hid (HS.out a0 n0 c0 w10 L10.out)
    go_wp2_with fail
    refine HC10.out.mono ?_
    rintro e w11 ⟨x11, q11, rfl, -, hT⟩
    have L11 := Lib.hid (iseg_stay L10.out hT)
    have M11 := Lib.hid (iseg_stay M10.out hT)
    have N11 := Lib.hid (iseg_stay N10.out hT)
    have T11 : Hid (Below w.heap.size w w11) := Lib.hid (T10.out.trans (below_mono (below_of hT) T10.out.size))
    clear hT HC10 L10 M10 N10 T10 HS
    dsimp only
    have HC11 := Lib.hid (HT.out _ _ _ w11 M11.out)
    go_wp2_with fail
    refine HC11.out.mono ?_
    rintro e w12 ⟨x12, q12, rfl, -, hT⟩
    have L12 := Lib.hid (iseg_stay L11.out hT)
    have M12 := Lib.hid (iseg_stay M11.out hT)
    have N12 := Lib.hid (iseg_stay N11.out hT)
    have T12 : Hid (Below w.heap.size w w12) := Lib.hid (T11.out.trans (below_mono (below_of hT) T11.out.size))
    clear hT HC11 L11 M11 N11 T11 HT
    dsimp only
    have HC12 := Lib.hid (HV.out _ _ _ w12 N12.out)
    go_wp2_with fail
    refine HC12.out.mono ?_
    rintro e w13 ⟨x13, q13, rfl, -, hT⟩
    have L13 := Lib.hid (iseg_stay L12.out hT)
    have M13 := Lib.hid (iseg_stay M12.out hT)
    have N13 := Lib.hid (iseg_stay N12.out hT)
    have T13 : Hid (Below w.heap.size w w13) := Lib.hid (T12.out.trans (below_mono (below_of hT) T12.out.size))
    clear hT HC12 L12 M12 N12 T12 HV
    dsimp only
    have HC13 := Lib.hid (HX.out a0 n0 c0 w13 L13.out)
    go_wp2_with fail
    refine HC13.out.mono ?_
    rintro e w14 ⟨x14, q14, rfl, -, hT⟩
    have L14 := Lib.hid (iseg_stay L13.out hT)
    have M14 := Lib.hid (iseg_stay M13.out hT)
    have N14 := Lib.hid (iseg_stay N13.out hT)
    have T14 : Hid (Below w.heap.size w w14) := Lib.hid (T13.out.trans (below_mono (below_of hT) T13.out.size))
    clear hT HC13 L13 M13 N13 T13 HX
    dsimp only
    have HC14 := Lib.hid (HY.out _ _ _ w14 N14.out)
    go_wp2_with fail
    refine HC14.out.mono ?_
    rintro e w15 ⟨x15, q15, rfl, -, hT⟩
    have L15 := Lib.hid (iseg_stay L14.out hT)
    have M15 := Lib.hid (iseg_stay M14.out hT)
    have N15 := Lib.hid (iseg_stay N14.out hT)
    have T15 : Hid (Below w.heap.size w w15) := Lib.hid (T14.out.trans (below_mono (below_of hT) T14.out.size))
    clear hT HC14 L14 M14 N14 T14 HY
    dsimp only
    obtain ⟨gl, ol, rfl, hcl⟩ := L15.out.addr (by omega)
    have hcz := hcl (n0 - 1) (by omega)
    rw [HZ.out] at hcz
    obtain ⟨j, hj⟩ : ∃ j, n0 - 1 = j := ⟨_, rfl⟩
    rw [hj] at hcz
    have hj1 : (n0 : Int) - 1 = (j : Int) := by omega
    have hj2 : j < n0 := by omega
    have hj3 : IntKind.i64.wrap (j : Int) = (j : Int) := by rw [IntKind.wrap_i64]; first | omega | (split <;> omega)
    have h3 := H3.out
    have h4 := H4.out
    have h5 := H5.out
    obtain ⟨m1, m2, m3, m4, m5, m6⟩ := HSm.out
    have h51 := h5.1
    by_cases hvz : v = z
    · subst hvz
      have h52 := h5.2 HLast.out
      clear hcl hj h5 L15 M15 N15
      go_wp2
      go_ret
      exact ⟨Bs.ret_bool (decide_eq_true (by omega)), T15.out⟩
    · clear hcl hj h5 L15 M15 N15
      go_wp2
      go_ret
      exact ⟨rfl, T15.out⟩
end Go.Proofs.Yteolpjlpjjjchaa.In
