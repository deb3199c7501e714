/-
  TextsWords: words rise, each is a text, each text is one; they are the same in whatever order, however often texts come.
-/
import Derived.Test.YtgbpmpeknbaccaaTxLaw
import Derived.Test.YtgbpmpeknbaccaaKitPick
import Derived.Laws.OwnMore
import Derived.Laws.Cover1
import Derived.BigRegion
import Derived.Sort.Walk0
namespace Go.Proofs.Ytgbpmpeknbaccaa.Tx
open Go.RowKit Go.Joins
open Ss (IsS encW info_str)
open Pk (PutF Turn.then below_of turn_of)
open In (turn_below)
open Dv (Turn nowhere)

theorem less_byt (a b : List Int) : Op.bytesLess (strOfNums a).toList (strOfNums b).toList = decide (byt a < byt b) := by
  rw [Go.Proofs.bytesLess_eq, Go.ByteArray.toList_eq, Go.ByteArray.toList_eq, byt_data, byt_data]
theorem Up.step {l : List (List Int)} (h : Up l) (j : Nat) (hj : j + 1 < l.length) : byt (l.getD j []) < byt (l.getD (j + 1) []) := by
  have := List.pairwise_iff_getElem.1 h j (j + 1) (by omega) hj (by omega)
  rw [List.getD_eq_getElem?_getD, List.getD_eq_getElem?_getD, List.getElem?_eq_getElem (by omega), List.getElem?_eq_getElem hj]
  exact this
theorem swapS_mem (l : List (List Int)) (a b : Nat) (ha : a < l.length) (hb : b < l.length) (x : List Int) : x ∈ (l.set a (l.getD b [])).set b (l.getD a []) ↔ x ∈ l := by
  have ea : l.getD a [] = l[a] := by simp [List.getD, ha]
  have eb : l.getD b [] = l[b] := by simp [List.getD, hb]
  rw [ea, eb]
  constructor
  · intro h
    rcases List.mem_or_eq_of_mem_set h with h | h
    · rcases List.mem_or_eq_of_mem_set h with h | h
      · exact h
      · rw [h]; exact List.getElem_mem _
    · rw [h]; exact List.getElem_mem _
  · intro h
    obtain ⟨i, hi, rfl⟩ := List.mem_iff_getElem.1 h
    rw [List.mem_iff_getElem]
    by_cases h1 : i = a
    · subst h1
      exact ⟨b, by simpa using hb, by simp⟩
    · by_cases h2 : i = b
      · subst h2
        exact ⟨a, by simpa using ha, by rw [List.getElem_set_ne (by omega)]; simp⟩
      · exact ⟨i, by simpa using hi, by rw [List.getElem_set_ne (by omega), List.getElem_set_ne (by omega)]⟩
theorem ownS_cell {w : World} {base n c g : Nat} {l : List (List Int)} (h : w.ownsRow base 9 1 (.slice (some ⟨g, 0, none⟩) n c) n (l.map encW)) (k : Nat) (hk : k < l.length) : w.cell? ⟨g, k, none⟩ = some (.string (strOfNums (l.getD k []))) := by
  have h2 := h.cells (g := g) rfl k (encW (l.getD k [])) (by simp [List.getD, hk])
  rwa [Addr.add_lit, Nat.zero_add] at h2
theorem sseg_heap {w W : World} {a : Option Addr} {n c : Nat} {l : List (List Int)} (h : Ss.Seg w a n c l) (hh : W.heap = w.heap) : Ss.Seg W a n c l :=
  ⟨h.len, h.le, h.cap, h.nil_, fun ad had j u hu => by
    have e : W.cell? (ad.add j) = w.cell? (ad.add j) := by unfold World.cell?; rw [hh]
    rw [e]; exact h.at_ ad had j u hu⟩

set_option maxRecDepth 100000 in
set_option maxHeartbeats 4000000 in
theorem wordsL_no (a0 : Option Addr) (n0 c0 : Nat) (l0 : List (List Int)) (a b : Int) (w : World) (s0 : Ss.Seg w a0 n0 c0 l0) (u0 : IsS l0) (hg : lightB l0 = false ∨ (lightB l0 = true ∧ n0 = 0)) :
    Calls Try.prog 6 #[.slice a0 n0 c0, .int .i64 a, .int .i64 b] w fun e w' => e = .returned (.bool true) ∧ Below w.heap.size w w' := by
  have S0 := Lib.hid s0
  have HLi := Lib.hid (fun W h => light_any a0 n0 c0 l0 W h u0)
  rcases hg with h | ⟨h, rfl⟩
  all_goals
    rw [h] at HLi
    clear s0 u0 h
    go_enter Try.func6, Try.ntmps6
    go_wp2_with fail
    refine (lives_any _).mono ?_
    rintro e w1 ⟨rfl, hT⟩
    have T1 := Lib.hid hT
    have HL1 := Lib.hid (HLi.out w1 (sseg_stay S0.out hT))
    clear hT
    dsimp only
    go_wp2_with fail
    refine HL1.out.mono ?_
    rintro e w2 ⟨rfl, rfl⟩
    dsimp only
    go_wp2
    go_ret
    exact ⟨rfl, below_of T1.out⟩

set_option maxRecDepth 100000 in
set_option maxHeartbeats 4000000 in
theorem wordsL_yes (a0 : Option Addr) (n0 c0 : Nat) (l0 : List (List Int)) (a b : Int) (w : World) (s0 : Ss.Seg w a0 n0 c0 l0) (u0 : IsS l0) (hli : lightB l0 = true) (h1 : 1 ≤ n0) :
    Calls Try.prog 6 #[.slice a0 n0 c0, .int .i64 a, .int .i64 b] w fun e w' => e = .returned (.bool true) ∧ Below w.heap.size w w' := by
  obtain ⟨i0, hi, hz0, hz1, hz2⟩ := info_parts info_str
  obtain ⟨q1, q2⟩ := (light_iff l0).1 hli
  have hn6 : n0 ≤ 60 := by rw [← s0.len]; exact q1
  have hB := allB_of u0
  have hra := Bs.pick_range a n0 (by omega)
  have hrb := Bs.pick_range b n0 (by omega)
  have HPa := Lib.hid (fun W => Bs.pick_any a n0 W (by omega) (by omega))
  have HPb := Lib.hid (fun W => Bs.pick_any b n0 W (by omega) (by omega))
  obtain ⟨A, hA⟩ : ∃ A : Nat, Bs.pick a n0 = (A : Int) := ⟨(Bs.pick a n0).toNat, by omega⟩
  obtain ⟨B, hBk⟩ : ∃ B : Nat, Bs.pick b n0 = (B : Int) := ⟨(Bs.pick b n0).toNat, by omega⟩
  rw [hA] at HPa hra
  rw [hBk] at HPb hrb
  have hAn : A < n0 := by omega
  have hBn : B < n0 := by omega
  have hneb : ((n0 : Int) == 0) = false := by simp; omega
  have S0 := Lib.hid s0
  have U0 := Lib.hid u0
  have HL0 := Lib.hid s0.len
  have HLi := Lib.hid (fun W h => light_any a0 n0 c0 l0 W h u0)
  rw [hli] at HLi
  obtain ⟨ws, hws⟩ : ∃ ws, wordsF l0 = ws := ⟨_, rfl⟩
  obtain ⟨m, hm⟩ : ∃ m, ws.length = m := ⟨_, rfl⟩
  have hm6 : m ≤ 60 := by have := words_len l0; rw [hws, hm] at this; omega
  have HW := Lib.hid (fun W h => words_form (l := l0) hws hm u0 (by omega) a0 n0 c0 W h)
  have hWS : IsS ws := hws ▸ words_isS u0
  have HWS := Lib.hid hWS
  have HUp : Hid (Up ws) := Lib.hid (hws ▸ up_words l0 hB)
  have HM := Lib.hid hm
  have HIn : Hid (∀ x, x ∈ ws ↔ x ∈ l0) := Lib.hid fun x => hws ▸ mem_words x l0
  have HWe := Lib.hid hws
  have HOwn := Lib.hid (fun W (h : Ss.Seg W a0 n0 c0 l0) => Ss.own_any a0 n0 c0 l0 W h (by omega))
  have HWW := Lib.hid (fun a c W h => words_form (l := ws) (L := ws) (by rw [← hws]; exact words_words hB) hm hWS (by omega) a m c W h)
  have HSm : Hid (∀ a b c d W, Ss.Seg W a m c ws → Ss.Seg W b m d ws → Calls Try.prog 14 #[.slice a m c, .slice b m d] W fun e w' => e = .returned (.bool true) ∧ Turn W w' nowhere) :=
    Lib.hid fun a b c d W h1 h2 => ssame_form a b m m c d _ _ W h1 h2 hWS hWS true (Ss.sameB_yes rfl)
  clear s0 u0 hli q1 q2 hB hA hBk hra hrb hws hm hWS
  go_enter Try.func6, Try.ntmps6
  go_wp2_with fail
  refine (lives_any _).mono ?_
  rintro e w1 ⟨rfl, hT⟩
  have T1 := Lib.hid hT
  have HL1 := Lib.hid (HLi.out w1 (sseg_stay S0.out hT))
  have HW1 := Lib.hid (HW.out w1 (sseg_stay S0.out hT))
  clear hT HLi
  dsimp only
  go_wp2_with fail
  refine HL1.out.mono ?_
  rintro e w' ⟨rfl, rfl⟩
  dsimp only
  go_wp2_with fail
  refine HW1.out.mono ?_
  rintro e w2 ⟨aw, kw, rfl, hsw, hT⟩
  have T2 := Lib.hid (Turn.then T1.out hT)
  have SW := Lib.hid hsw
  have S2 := Lib.hid (sseg_stay S0.out T2.out)
  have HH : Hid (∀ (x : List Int) (W : World), W.heap = w2.heap → x ∈ l0 → Bs.IsB x → Calls Try.prog 23 #[.slice a0 n0 c0, .string (strOfNums x)] W fun e w' => e = .returned (.bool true) ∧ w' = W) :=
    Lib.hid fun x W hh hx hb => (has_any a0 n0 c0 l0 x W (sseg_heap S2.out hh) U0.out hb).mono fun e w' ⟨he, hw⟩ => ⟨by rw [he, decide_eq_true hx], hw.symm⟩
  have HH2 : Hid (∀ (x : List Int) (W : World), W.heap = w2.heap → x ∈ ws → Bs.IsB x → Calls Try.prog 23 #[.slice aw m kw, .string (strOfNums x)] W fun e w' => e = .returned (.bool true) ∧ w' = W) :=
    Lib.hid fun x W hh hx hb => (has_any aw m kw ws x W (sseg_heap SW.out hh) HWS.out hb).mono fun e w' ⟨he, hw⟩ => ⟨by rw [he, decide_eq_true hx], hw.symm⟩
  clear hsw hT HW1 HW
  dsimp only
  go_wp2
  go_loopw [8] (fun si wr => ∃ k : Nat, k ≤ m ∧ si = .int .i64 k ∧ Hid (wr.heap = w2.heap) ∧ Hid (Turn w2 wr nowhere)) (fun si _ => m - (intOf si).toNat)
  case atStart => exact ⟨0, Nat.zero_le _, rfl, Lib.hid rfl, Lib.hid (Turn.refl _ _)⟩
  case round =>
    obtain ⟨k, hk, rfl, HHp, HTr⟩ := hrel
    by_cases hlt : k < m
    · obtain ⟨gW, oW, hae, hc⟩ := (sseg_heap SW.out HHp.out).addr (by omega)
      have hkl : k < ws.length := by rw [HM.out]; exact hlt
      have hxm := (HIn.out _).1 (take_at hkl)
      have hxb := (HWS.out.at k).1
      have HHx := Lib.hid (fun n => HH.out (ws.getD k []) (wr.drewN n) HHp.out hxm hxb)
      by_cases hk0 : k = 0
      · subst hae
        have g1 := hc k hlt
        have hi0 : decide (0 < k) = false := decide_eq_false (by omega)
        obtain ⟨x, hx⟩ : ∃ x, ws.getD k [] = x := ⟨_, rfl⟩
        rw [hx] at g1 HHx
        clear hc hx hxm hxb hkl hk0
        go_wp2
        go_quiet ((go_at_call 23; exact Calls.quiet_of_same (HHx.out _)))
        go_wp2
        go_roundw
        case rel => exact ⟨k + 1, by omega, by go_num, Lib.hid HHp.out, Lib.hid (Turn.then HTr.out (Turn.drewN wr _ nowhere))⟩
        case measure => simp [intOf]; omega
      · obtain ⟨j, rfl⟩ : ∃ j, k = j + 1 := ⟨k - 1, by omega⟩
        have hup := HUp.out.step j hkl
        subst hae
        have g1 := hc (j + 1) hlt
        have g2 := hc j (by omega)
        have hyb := (HWS.out.at j).1
        have hls := less_byt (ws.getD (j + 1) []) (ws.getD j [])
        rw [decide_eq_false (fun h => List.lt_irrefl _ (List.lt_trans h hup))] at hls
        have hne := Ss.ne_strs hxb hyb (fun e => by rw [e] at hup; exact List.lt_irrefl _ hup)
        obtain ⟨x, hx⟩ : ∃ x, ws.getD (j + 1) [] = x := ⟨_, rfl⟩
        obtain ⟨y, hy⟩ : ∃ x, ws.getD j [] = x := ⟨_, rfl⟩
        rw [hx] at g1 HHx hls hne
        rw [hy] at g2 hls hne
        obtain ⟨i, hij⟩ : ∃ i : Nat, j + 1 = i := ⟨_, rfl⟩
        rw [hij] at g1 hlt hk
        have hi0 : decide (0 < i) = true := decide_eq_true (by omega)
        have him : ((i : Int) - 1) = (j : Int) := by omega
        have hiw : wrap64 (j : Int) = (j : Int) := by rw [← IntWalk.i64_left, IntKind.wrap_i64]; omega
        have hjm : j < m := by omega
        have HIJ := Lib.hid hij
        clear hc hx hxm hxb hkl hy hyb hup hij hk0
        rw [HIJ.out]
        go_wp2
        go_quiet ((go_at_call 23; exact Calls.quiet_of_same (HHx.out _)))
        go_wp2
        go_roundw
        case rel => exact ⟨i + 1, by omega, by go_num, Lib.hid HHp.out, Lib.hid (Turn.then HTr.out (Turn.drewN wr _ nowhere))⟩
        case measure => simp [intOf]; omega
    · obtain rfl : k = m := by omega
      rename World => W3
      have T3 := Lib.hid (Turn.then T2.out HTr.out)
      have S3 := Lib.hid (sseg_heap S2.out HHp.out)
      have SW3 := Lib.hid (sseg_heap SW.out HHp.out)
      go_wp2
      go_loopw [9] (fun si wq => ∃ j : Nat, j ≤ n0 ∧ si = .int .i64 j ∧ W3 = wq) (fun si _ => n0 - (intOf si).toNat)
      case atStart => exact ⟨0, Nat.zero_le _, rfl, rfl⟩
      case round =>
        obtain ⟨j, hj, rfl, rfl⟩ := hrel
        by_cases hlt : j < n0
        · obtain ⟨gW, oW, rfl, hc⟩ := S3.out.addr (by omega)
          have hkl : j < l0.length := by rw [HL0.out]; exact hlt
          have hxm := (HIn.out _).2 (take_at hkl)
          have hxb := (U0.out.at j).1
          have HHx := Lib.hid (HH2.out (l0.getD j []) W3 HHp.out hxm hxb)
          have g1 := hc j hlt
          obtain ⟨x, hx⟩ : ∃ x, l0.getD j [] = x := ⟨_, rfl⟩
          rw [hx] at g1 HHx
          clear hc hx hxm hxb hkl
          go_wp2_with (first
            | (go_at_call 23; refine HHx.out.mono ?_; rintro e w' ⟨rfl, rfl⟩)
            | fail)
          go_roundw
          case rel => exact ⟨j + 1, by omega, by go_num, trivial⟩
          case measure => simp [intOf]; omega
        · obtain rfl : j = n0 := by omega
          obtain ⟨gW, oW, hae, hc⟩ := S3.out.addr (by omega)
          have HO1 := Lib.hid (HOwn.out W3 S3.out)
          have gA := hc A hAn
          obtain ⟨x, hx⟩ : ∃ x, l0.getD A [] = x := ⟨_, rfl⟩
          have hxm : x ∈ l0 := hx ▸ take_at (by rw [HL0.out]; exact hAn)
          have HXm := Lib.hid hxm
          rw [hx] at gA
          have HGA := Lib.hid gA
          subst hae
          clear hc hx hxm gA HH HH2
          go_wp2_with fail
          refine HO1.out.mono ?_
          rintro e w4 ⟨G4, c4, rfl, hown4, hg4⟩
          have T4 := Lib.hid (Turn.then T3.out (turn_of hg4))
          have O4 := Lib.hid hown4
          have HS4 : Hid (W3.heap.size ≤ w4.heap.size) := Lib.hid hg4.size
          have HB4 : Hid (Below W3.heap.size W3 w4) := Lib.hid (In.below_grown hg4 (Nat.le_refl _))
          have g4 := (turn_of hg4).cell HGA.out id
          clear hown4 hg4 HO1
          dsimp only
          go_wp2_with fail
          refine (HPa.out _).mono ?_
          rintro e w' ⟨rfl, rfl⟩
          dsimp only
          go_wp2_with (first
            | (at_builtin; refine wpList_append_own _ rfl (.tmp 67) (.tmp 75) 27 rfl W3.heap.size 9 i0 (.string ⟨#[]⟩) 1 16 Try.underlying27 hi hz0 hz1 hz2 rfl (by decide) _ j _ rfl (O4.out.alloc _) ⟨w4.heap.size, 0, none⟩ 1 1 [.string (strOfNums x)] rfl rfl (by intro t u ht; match t, ht with | 0, ht => simp at ht; subst ht; exact Pk.cell_new w4 _ _) (by intro u hu; simp at hu; subst hu; rfl) (by unfold maxLen; omega) (by omega) (by have := HS4.out; simp; omega) ?_; intro v5 w5 hown5 hg5 hnil5; obtain ⟨G, cG, rfl⟩ := ownsRow_form hown5 (by omega); have O5 : Hid (w5.ownsRow W3.heap.size 9 1 (.slice (some ⟨G, 0, none⟩) (j + 1) cG) (j + 1) ((l0 ++ [x]).map encW)) := Lib.hid (by rw [List.map_append]; exact hown5); have HB5 : Hid (Below W3.heap.size W3 w5) := Lib.hid ((HB4.out.alloc HB4.out.size _).grown hg5 (by have := HS4.out; simp; omega) (fun i e => (O4.out.lt i e).1)); clear hown5 hg5 hnil5)
            | fail)
          refine (HPb.out _).mono ?_
          rintro e w' ⟨rfl, rfl⟩
          dsimp only
          clear g4 O4
          obtain ⟨L, hL⟩ : ∃ L, l0 ++ [x] = L := ⟨_, rfl⟩
          rw [hL] at O5
          have hLl : L.length = j + 1 := by rw [← hL, List.length_append, HL0.out]; rfl
          have HLl := Lib.hid hLl
          have HLm : Hid (∀ z, z ∈ L ↔ z ∈ l0) := Lib.hid fun z => by
            rw [← hL, List.mem_append, List.mem_singleton]
            exact ⟨fun h => h.elim id fun e => e ▸ HXm.out, .inl⟩
          obtain ⟨ya, hya⟩ : ∃ y, L.getD B [] = y := ⟨_, rfl⟩
          obtain ⟨yb, hyb⟩ : ∃ y, L.getD j [] = y := ⟨_, rfl⟩
          have ca := ownS_cell O5.out B (by omega)
          have cb := ownS_cell O5.out j (by omega)
          rw [hya] at ca
          rw [hyb] at cb
          have fa := O5.out.frozenAt B
          have fb := O5.out.frozenAt j
          have HYa := Lib.hid hya
          have HYb := Lib.hid hyb
          have h3 := O5.out.stored B (.string (strOfNums yb))
          have hl3 : (L.map encW).set B (.string (strOfNums yb)) = (L.set B yb).map encW := (List.map_set (f := encW) (a := yb) ..).symm
          rw [hl3] at h3
          have cb3 := ownS_cell h3.1 j (by rw [List.length_set]; omega)
          have h4 := h3.1.stored j (.string (strOfNums ya))
          have hl4 : ((L.set B yb).map encW).set j (.string (strOfNums ya)) = ((L.set B yb).set j ya).map encW := (List.map_set (f := encW) (a := ya) ..).symm
          rw [hl4] at h4
          have O6 := Lib.hid h4.1
          have HT36 : Hid (Turn W3 ((w5.setCell ⟨G, B, none⟩ (.string (strOfNums yb))).setCell ⟨G, j, none⟩ (.string (strOfNums ya))) nowhere) := Lib.hid (by
            have hG := (O5.out.lt G rfl).1
            exact turn_below ((HB5.out.grown h3.2 HB5.out.size (fun i e => by cases e; exact hG)).grown h4.2 (Nat.le_trans HB5.out.size h3.2.size) (fun i e => by cases e; exact hG)))
          clear hya hyb h3 h4 hl3 hl4 hL hLl
          go_wp2_with fail
          go_region
          have T7 : Hid (Turn w ((w5.setCell ⟨G, B, none⟩ (.string (strOfNums yb))).setCell ⟨G, j, none⟩ (.string (strOfNums ya))).drew nowhere) := Lib.hid (Turn.then (Turn.then T3.out HT36.out) (Turn.drew _ nowhere))
          have O7 : Hid (((w5.setCell ⟨G, B, none⟩ (.string (strOfNums yb))).setCell ⟨G, j, none⟩ (.string (strOfNums ya))).drew.ownsRow W3.heap.size 9 1 (.slice (some ⟨G, 0, none⟩) (j + 1) cG) (j + 1) (((L.set B yb).set j ya).map encW)) := Lib.hid O6.out
          have W7 : Hid (Ss.Seg ((w5.setCell ⟨G, B, none⟩ (.string (strOfNums yb))).setCell ⟨G, j, none⟩ (.string (strOfNums ya))).drew aw k kw ws) := Lib.hid (sseg_heap (sseg_stay SW3.out HT36.out) rfl)
          clear O6 HT36 ca cb fa fb cb3 O5
          generalize ((w5.setCell ⟨G, B, none⟩ (.string (strOfNums yb))).setCell ⟨G, j, none⟩ (.string (strOfNums ya))).drew = w7 at *
          obtain ⟨m0, hm0⟩ : ∃ m0, (L.set B yb).set j ya = m0 := ⟨_, rfl⟩
          rw [hm0] at O7
          have hmem : ∀ z, z ∈ m0 ↔ z ∈ l0 := fun z => by
            rw [← hm0, ← HYa.out, ← HYb.out]
            exact (swapS_mem L B j (by have := HLl.out; omega) (by have := HLl.out; omega) z).trans (HLm.out z)
          have hmlen : m0.length = j + 1 := by rw [← hm0, List.length_set, List.length_set, HLl.out]
          have hmS : IsS m0 := fun z hz => U0.out z ((hmem z).1 hz)
          have HWm := Lib.hid (words_form (l := m0) (L := ws) (by rw [← HWe.out]; exact words_same (allB_of U0.out) hmem) HM.out hmS (by omega) _ _ _ w7 (Ss.Seg.own O7.out))
          clear hmem hmlen hmS hm0 O7
          go_wp2_with fail
          refine HWm.out.mono ?_
          rintro e w8 ⟨a8, k8, rfl, hs8, hT⟩
          have T8 := Lib.hid (Turn.then T7.out hT)
          have W8 := Lib.hid (sseg_stay W7.out hT)
          have HS8 := Lib.hid (HSm.out _ _ _ _ w8 hs8 W8.out)
          clear hT hs8 HWm
          dsimp only
          go_wp2_with fail
          refine HS8.out.mono ?_
          rintro e w9 ⟨rfl, hT⟩
          have T9 := Lib.hid (Turn.then T8.out hT)
          have W9 := Lib.hid (sseg_stay W8.out hT)
          have HW9 := Lib.hid (HWW.out _ _ w9 W9.out)
          clear hT HS8
          dsimp only
          go_wp2_with fail
          refine HW9.out.mono ?_
          rintro e w10 ⟨a10, k10, rfl, hs10, hT⟩
          have T10 := Lib.hid (Turn.then T9.out hT)
          have W10 := Lib.hid (sseg_stay W9.out hT)
          have HS10 := Lib.hid (HSm.out _ _ _ _ w10 hs10 W10.out)
          clear hT hs10 HW9
          dsimp only
          go_wp2_with fail
          refine HS10.out.mono ?_
          rintro e w11 ⟨rfl, hT⟩
          have T11 := Lib.hid (Turn.then T10.out hT)
          clear hT HS10
          dsimp only
          go_wp2
          go_ret
          exact ⟨rfl, below_of T11.out⟩

theorem wordsL_any (a0 : Option Addr) (n0 c0 : Nat) (l0 : List (List Int)) (a b : Int) (w : World) (s0 : Ss.Seg w a0 n0 c0 l0) (u0 : IsS l0) :
    Calls Try.prog 6 #[.slice a0 n0 c0, .int .i64 a, .int .i64 b] w fun e w' => e = .returned (.bool true) ∧ Below w.heap.size w w' := by
  cases hli : lightB l0 with
  | false => exact wordsL_no a0 n0 c0 l0 a b w s0 u0 (.inl hli)
  | true =>
    by_cases h1 : n0 = 0
    · exact wordsL_no a0 n0 c0 l0 a b w s0 u0 (.inr ⟨hli, h1⟩)
    · exact wordsL_yes a0 n0 c0 l0 a b w s0 u0 hli (by omega)
end Go.Proofs.Ytgbpmpeknbaccaa.Tx
