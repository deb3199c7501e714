/-
  Texts read again: getDict.
-/
import Derived.Test.YtgbpmpeknbaccaaTxGetD
namespace Go.Proofs.Ytgbpmpeknbaccaa.Tx
open Go.RowKit Go.Joins
open Ss (IsS encW info_str)
open Oct (Rd ReadN ReadV readV ofB)
open In (At turn_read turn_row turn_more own_at turn_below below_mono isB_drop isB_take)
open Dv (Turn nowhere)
open Pk (wid getR IsU)

theorem sseg_turn {w w' : World} {a : Option Addr} {n c : Nat} {l : List (List Int)} {S : Nat → Prop} (h : Ss.Seg w a n c l) (k : Turn w w' S) (hS : ∀ ad, a = some ad → ¬ S ad.block) : Ss.Seg w' a n c l := by
  refine ⟨h.len, h.le, h.cap, h.nil_, fun ad had j u hu => ?_⟩
  have e : (ad.add j).block = ad.block := by unfold Addr.add; split <;> rfl
  exact k.cell (h.at_ ad had j u hu) (by rw [e]; exact hS ad had)
theorem getIx_some {n : Nat} {b : List Int} (hb : Oct.IsB b) {ix : List Int} (h : getIx n b = some ix) : ix.length = n ∧ IsU ix := by
  match b, hb, h with
  | w :: r, hb, h =>
    rw [getIx] at h
    split at h
    · cases h
    · rename_i hg
      have g1 : (getR r n w).1 = 0 := Classical.byContradiction fun k => hg (.inl k)
      obtain ⟨-, p2, -, p4⟩ := Pk.put_get r n w (Pk.fit_isB fun x hx => hb x (by simp [hx])) g1
      simp only [Option.some.injEq] at h
      subst h
      exact ⟨by omega, p4⟩
theorem dictL_no {ws : List (List Int)} {ix : List Int} {k : Nat} (hk : k < ix.length) (h : (ws.length : Int) ≤ ix.getD k 0) : dictL ws ix = none := by
  unfold dictL
  rw [if_neg]
  intro ha
  have := of_decide_eq_true (List.all_eq_true.1 ha (ix[k]) (List.getElem_mem hk))
  rw [List.getD_eq_getElem?_getD, List.getElem?_eq_getElem hk] at h
  simp at h
  omega
def getsL (ws : List (List Int)) (ix : List Int) : List (List Int) := ix.map fun i => ws.getD i.toNat []
theorem dictL_yes {ws : List (List Int)} {ix : List Int} (h : ∀ i ∈ ix, i < (ws.length : Int)) : dictL ws ix = some (getsL ws ix) := by
  unfold dictL
  rw [if_pos (List.all_eq_true.2 fun i hi => decide_eq_true (h i hi))]
  rfl
theorem gets_take (ws : List (List Int)) (ix : List Int) (k j : Nat) (x : List Int) (hk : k < ix.length) (hj : ix.getD k 0 = (j : Int)) (hx : ws.getD j [] = x) : getsL ws (ix.take (k + 1)) = getsL ws (ix.take k) ++ [x] := by
  have e : ix[k] = (j : Int) := by rw [← hj]; simp [List.getD, hk]
  rw [List.take_succ_eq_append_getElem hk, e]
  unfold getsL
  rw [List.map_append, List.map_singleton, Int.toNat_natCast, hx]
theorem lt_take {ws : List (List Int)} {ix : List Int} {k j : Nat} (hk : k < ix.length) (hj : ix.getD k 0 = (j : Int)) (hw : j < ws.length) (h : ∀ i ∈ ix.take k, i < (ws.length : Int)) : ∀ i ∈ ix.take (k + 1), i < (ws.length : Int) := by
  have e : ix[k] = (j : Int) := by rw [← hj]; simp [List.getD, hk]
  intro i hi
  rw [List.take_succ_eq_append_getElem hk, e] at hi
  rcases List.mem_append.1 hi with hi | hi
  · exact h i hi
  · rw [List.mem_singleton.1 hi]; omega

/-- texts, nothing left; or an error -/
def GotX (b g : Nat) (w : World) (r : Option (List (List Int))) (e : Ending) (w' : World) : Prop :=
  Turn w w' (At b) ∧ match r with
    | some l => ∃ a c, e = .returned (.tuple #[.slice a l.length c, .int .i64 0]) ∧ Ss.Seg w' a l.length c l ∧ Rd w' b g []
    | none => ∃ E : Int, E ≠ 0 ∧ e = .returned (.tuple #[.slice none 0 0, .int .i64 E])

/-- behind the indexes -/
def finL (ws : List (List Int)) (ix : List Int) : Option (List (List Int)) := match dictL ws ix with
  | none => none
  | some l => if wordsF l = ws then some l else none

set_option maxRecDepth 100000 in
set_option maxHeartbeats 2000000 in
theorem getDict_none1 (b g : Nat) (bs : List Int) (w : World) (h : Rd w b g bs) (hb : Oct.IsB bs) (hc : readC bs = none) :
    Calls Try.prog 35 #[.pointer (some ⟨b, 0, none⟩)] w (GotX b g w none) := by
  have HC := Lib.hid (getCount_any b g bs w h hb)
  rw [hc] at HC
  clear h hb hc
  go_enter Try.func35, Try.ntmps35
  go_wp2_with fail
  refine HC.out.mono ?_
  rintro e w1 ⟨ht, -, rfl⟩
  have HF : Hid (GotX b g w none (.returned (.tuple #[.slice none 0 0, .int .i64 4])) w1) := Lib.hid ⟨ht, 4, by decide, rfl⟩
  clear ht
  dsimp only
  go_wp2
  go_ret2
  exact HF.out

set_option maxRecDepth 100000 in
set_option maxHeartbeats 2000000 in
theorem getDict_none2 (b g n : Nat) (bs r : List Int) (w : World) (h : Rd w b g bs) (hg : g < w.heap.size) (hb : Oct.IsB bs) (hl : bs.length ≤ 100000000) (hc : readC bs = some (n, r)) (hp : getPl r = none) :
    Calls Try.prog 35 #[.pointer (some ⟨b, 0, none⟩)] w (GotX b g w none) := by
  have HC := Lib.hid (getCount_any b g bs w h hb)
  have hlt := readC_lt hc
  have hbr := readC_le hb hc
  rw [hc] at HC
  have HG := Lib.hid (fun W (hr : Rd W b g r) (hgl : g < W.heap.size) => getPlain_any b g r W hr hgl hbr.2 (by omega))
  rw [hp] at HG
  have HGL := Lib.hid hg
  clear h hb hc hlt hbr hl hg
  go_enter Try.func35, Try.ntmps35
  go_wp2_with fail
  refine HC.out.mono ?_
  rintro e w1 ⟨ht, hsz, rfl, hr⟩
  have HG1 := Lib.hid (HG.out w1 hr (Nat.lt_of_lt_of_le HGL.out hsz))
  have HT := Lib.hid ht
  clear ht hsz hr
  dsimp only
  go_wp2_with fail
  refine HG1.out.mono ?_
  rintro e w2 ⟨ht2, E, hE, rfl⟩
  have HF : Hid (GotX b g w none (.returned (.tuple #[.slice none 0 0, .int .i64 E])) w2) := Lib.hid ⟨turn_more HT.out ht2 (fun i e => .inl e), E, hE, rfl⟩
  clear ht2
  dsimp only
  go_wp2
  go_ret2
  exact HF.out

set_option maxRecDepth 100000 in
set_option maxHeartbeats 2000000 in
theorem getDict_none3 (b g n : Nat) (bs r r2 : List Int) (ws : List (List Int)) (w : World) (h : Rd w b g bs) (hg : g < w.heap.size) (hb : Oct.IsB bs) (hl : bs.length ≤ 100000000) (hc : readC bs = some (n, r)) (hp : getPl r = some (ws, r2)) (hr2 : Oct.IsB r2 ∧ r2.length ≤ 100000000) (hi : getIx n r2 = none) :
    Calls Try.prog 35 #[.pointer (some ⟨b, 0, none⟩)] w (GotX b g w none) := by
  have HC := Lib.hid (getCount_any b g bs w h hb)
  have hlt := readC_lt hc
  have hbr := readC_le hb hc
  rw [hc] at HC
  have HG := Lib.hid (fun W (hr : Rd W b g r) (hgl : g < W.heap.size) => getPlain_any b g r W hr hgl hbr.2 (by omega))
  rw [hp] at HG
  have HI := Lib.hid (fun W (hr : Rd W b g r2) => getIndexes_any b g n r2 W hr hr2.1 hr2.2)
  rw [hi] at HI
  have HGL := Lib.hid hg
  obtain ⟨m, hm⟩ : ∃ m, ws.length = m := ⟨_, rfl⟩
  unfold GetsX at HG
  dsimp only at HG
  rw [hm] at HG
  clear h hb hc hlt hbr hl hg hi hp hr2 hm
  go_enter Try.func35, Try.ntmps35
  go_wp2_with fail
  refine HC.out.mono ?_
  rintro e w1 ⟨ht, hsz, rfl, hr⟩
  have HG1 := Lib.hid (HG.out w1 hr (Nat.lt_of_lt_of_le HGL.out hsz))
  have HT := Lib.hid ht
  clear ht hsz hr
  dsimp only
  go_wp2_with fail
  refine HG1.out.mono ?_
  rintro e w2 ⟨ht2, aw, cw, rfl, hsw, hrd2, hnew⟩
  have HT2 : Hid (Turn w w2 (At b)) := Lib.hid (turn_more HT.out ht2 (fun i e => .inl e))
  have HI1 := Lib.hid (HI.out w2 hrd2)
  clear ht2 hsw hrd2 hnew
  dsimp only
  go_wp2_with fail
  refine HI1.out.mono ?_
  rintro e w3 ⟨ht3, -, E, hE, rfl⟩
  have HF : Hid (GotX b g w none (.returned (.tuple #[.slice none 0 0, .int .i64 E])) w3) := Lib.hid ⟨turn_more HT2.out ht3 (fun i e => .inl e), E, hE, rfl⟩
  clear ht3
  dsimp only
  go_wp2
  go_ret2
  exact HF.out

set_option maxRecDepth 100000 in
set_option maxHeartbeats 2000000 in
theorem getDict_yes (b g n : Nat) (bs r r2 ix : List Int) (ws : List (List Int)) (w : World) (h : Rd w b g bs) (hg : g < w.heap.size) (hb : Oct.IsB bs) (hl : bs.length ≤ 100000000) (hc : readC bs = some (n, r)) (hp : getPl r = some (ws, r2)) (hr2 : Oct.IsB r2 ∧ r2.length ≤ 100000000)
    (hi : getIx n r2 = some ix) (hix : ix.length = n ∧ IsU ix) (hws : IsS ws) (hwl : ws.length ≤ 4096) :
    Calls Try.prog 35 #[.pointer (some ⟨b, 0, none⟩)] w (GotX b g w (finL ws ix)) := by
  obtain ⟨i0, hii, hz0, hz1, hz2⟩ := info_parts info_str
  have HC := Lib.hid (getCount_any b g bs w h hb)
  have hlt := readC_lt hc
  have hbr := readC_le hb hc
  rw [hc] at HC
  have HG := Lib.hid (fun W (hr : Rd W b g r) (hgl : g < W.heap.size) => getPlain_any b g r W hr hgl hbr.2 (by omega))
  rw [hp] at HG
  have HI := Lib.hid (fun W (hr : Rd W b g r2) => getIndexes_any b g n r2 W hr hr2.1 hr2.2)
  rw [hi] at HI
  have HGL := Lib.hid hg
  have hbl : b < w.heap.size := World.block_lt_of_cell? w _ h.self
  have HBL := Lib.hid hbl
  obtain ⟨m, hm⟩ : ∃ m, ws.length = m := ⟨_, rfl⟩
  have hn4 := hlt.1
  unfold GetsX at HG
  unfold IxX at HI
  dsimp only at HG HI
  rw [hm] at HG hwl
  rw [hix.1] at HI
  have HM := Lib.hid hm
  have HIx := Lib.hid hix
  have HWS := Lib.hid hws
  have hmk := make_roomS n (by omega)
  have hwm := wrap_u64 (n := m) (by omega)
  obtain ⟨X, hX⟩ : ∃ X, finL ws ix = X := ⟨_, rfl⟩
  rw [hX]
  have HX := Lib.hid hX
  clear h hb hc hlt hbr hl hg hi hp hr2 hm hbl hix hws hX
  go_enter Try.func35, Try.ntmps35
  go_wp2_with fail
  refine HC.out.mono ?_
  rintro e w1 ⟨ht, hsz, rfl, hr⟩
  have HG1 := Lib.hid (HG.out w1 hr (Nat.lt_of_lt_of_le HGL.out hsz))
  have HT := Lib.hid ht
  have HS1 := Lib.hid hsz
  clear ht hsz hr
  dsimp only
  go_wp2_with fail
  refine HG1.out.mono ?_
  rintro e w2 ⟨ht2, aw, cw, rfl, hsw, hrd2, hnew⟩
  have HT2 : Hid (Turn w w2 (At b)) := Lib.hid (turn_more HT.out ht2 (fun i e => .inl e))
  have HI1 := Lib.hid (HI.out w2 hrd2)
  have HSW := Lib.hid hsw
  have HNew : Hid (∀ ad, aw = some ad → ¬ At b ad.block) := Lib.hid fun ad e => by have := hnew ad e; have := HS1.out; have := HBL.out; unfold At; omega
  clear ht2 hsw hrd2 hnew
  dsimp only
  go_wp2_with fail
  refine HI1.out.mono ?_
  rintro e w3 ⟨ht3, hsz3, ai, ci, rfl, hsi, hrd3⟩
  have HT3 : Hid (Turn w w3 (At b)) := Lib.hid (turn_more HT2.out ht3 (fun i e => .inl e))
  have HSW3 := Lib.hid (sseg_turn HSW.out ht3 HNew.out)
  have HSI := Lib.hid hsi
  have HR3 := Lib.hid hrd3
  have hcapw := HSW.out.cap
  have hcapi := hsi.cap
  have hlew := HSW.out.le
  have hlei := hsi.le
  unfold maxLen at hcapw hcapi
  have h0 := World.ownsRow_made (base := w3.heap.size) (e := 9) (size := 1) w3 (roomS n) n (Nat.le_refl _) (by unfold maxLen; omega) (by rw [roomS_size, Nat.mul_one])
  have HO0 := Lib.hid h0
  have HBl0 : Hid (Below w3.heap.size w3 (w3.alloc (.cells (roomS n) 9))) := Lib.hid ((Below.refl _ _).alloc (Nat.le_refl _) _)
  clear ht3 hsz3 hsi hrd3 h0
  dsimp only
  go_wp2
  go_loopw [8, 40] (fun so si wr => ∃ k : Nat, k ≤ n ∧ si = .int .i64 k ∧ so = .slice (some ⟨w3.heap.size, 0, none⟩) k n ∧ Hid (wr.ownsRow w3.heap.size 9 1 (.slice (some ⟨w3.heap.size, 0, none⟩) k n) k ((getsL ws (ix.take k)).map encW)) ∧
      Hid (∀ i ∈ ix.take k, i < (ws.length : Int)) ∧ Hid (Below w3.heap.size w3 wr) ∧ Hid (w3.heap.size < wr.heap.size))
    (fun _ si _ => n - (intOf si).toNat)
  case atStart => exact ⟨0, Nat.zero_le _, rfl, rfl, HO0, Lib.hid (fun i hi => by simp at hi), HBl0, Lib.hid (by simp)⟩
  case round =>
    obtain ⟨k, hk, rfl, rfl, HO, HLt, HB, HSz⟩ := hrel
    by_cases hlt : k < n
    · have husg := HSI.out.grown (Bs.grown_of HB.out)
      obtain ⟨gI, oI, rfl, hci⟩ := husg.addr (by omega)
      have g1 := hci k hlt
      have hu := HIx.out.2 (ix.getD k 0) (by rw [List.getD_eq_getElem?_getD, List.getElem?_eq_getElem (by rw [HIx.out.1]; exact hlt)]; exact List.getElem_mem _)
      obtain ⟨j, hj⟩ := Int.eq_ofNat_of_zero_le hu.1
      rw [hj] at g1
      by_cases hjm : j < m
      · have hssg := HSW3.out.grown (Bs.grown_of HB.out)
        obtain ⟨gW, oW, rfl, hcw⟩ := hssg.addr (by omega)
        have g2 := hcw j hjm
        obtain ⟨x, hx⟩ : ∃ x, ws.getD j [] = x := ⟨_, rfl⟩
        rw [hx] at g2
        have HP := Lib.hid (gets_take ws ix k j x (by rw [HIx.out.1]; exact hlt) hj hx)
        have HLt2 := Lib.hid (lt_take (by rw [HIx.out.1]; exact hlt) hj (by rw [HM.out]; exact hjm) HLt.out)
        have hjm' : ¬ (m : Int) ≤ (j : Int) := by omega
        have hjm2 : (j : Int) < (m : Int) := by omega
        clear hci hcw hj hx hu husg hssg
        go_wp2_with (first
          | (at_builtin; refine wpList_append_fits _ rfl (.tmp 49) (.tmp 54) 27 rfl w3.heap.size 9 i0 1 Try.underlying27 hii hz1 w3.heap.size k n _ rfl (HO.out.alloc _) ⟨wr.heap.size, 0, none⟩ 1 1 [.string (strOfNums x)] rfl rfl (by intro t u ht; match t, ht with | 0, ht => simp at ht; subst ht; exact Pk.cell_new wr _ _) (by intro u hu; simp at hu; subst hu; rfl) (by omega) ?_; intro w5 hown5 hgrow5)
          | fail)
        go_roundw
        case rel =>
          refine ⟨k + 1, by omega, by go_num, rfl, Lib.hid ?_, HLt2, Lib.hid ((HB.out.alloc HB.out.size _).grown hgrow5 (by have := HB.out.size; simp; omega) (fun j e => by cases e; exact Nat.le_refl _)), Lib.hid (by have := hgrow5.size; have := HSz.out; simp at *; omega)⟩
          rw [HP.out, List.map_append]
          exact hown5
        case measure => simp [intOf]; omega
      · have HF : Hid (GotX b g w X (.returned (.tuple #[.slice none 0 0, .int .i64 4])) wr) := Lib.hid (by
          have e : finL ws ix = none := by
            unfold finL
            rw [dictL_no (k := k) (by rw [HIx.out.1]; exact hlt) (by rw [HM.out, hj]; omega)]
          rw [← HX.out, e]
          exact ⟨turn_more HT3.out (turn_below (S := nowhere) HB.out) (fun i e => e.elim), 4, by decide, rfl⟩)
        have hjm' : (m : Int) ≤ (j : Int) := by omega
        clear hci hj hu husg hjm
        go_wp2
        go_ret2
        exact HF.out
    · obtain rfl : k = n := by omega
      have hik : ix.take k = ix := List.take_of_length_le (Nat.le_of_eq HIx.out.1)
      have hO := HO.out
      have hLt := HLt.out
      rw [hik] at hO hLt
      obtain ⟨l, hle⟩ : ∃ l, getsL ws ix = l := ⟨_, rfl⟩
      have hdl := dictL_yes hLt
      rw [hle] at hO hdl
      have hlS : IsS l := fun s hs => by
        rw [← hle] at hs
        obtain ⟨i, hi, rfl⟩ := List.mem_map.1 hs
        exact HWS.out.at i.toNat
      have hll : l.length = k := by rw [← hle]; unfold getsL; rw [List.length_map]; exact HIx.out.1
      have HSeg := Lib.hid (Ss.Seg.own hO)
      have HWd := Lib.hid (words_any (some ⟨w3.heap.size, 0, none⟩) k k l wr (Ss.Seg.own hO) hlS (by omega))
      obtain ⟨ul, hul⟩ : ∃ u, (wordsF l).length = u := ⟨_, rfl⟩
      unfold TextsX at HWd
      rw [hul] at HWd
      have HEq : Hid (∀ W a1 c1, Ss.Seg W a1 ul c1 (wordsF l) → Ss.Seg W aw m cw ws → Calls Try.prog 66 #[.slice a1 ul c1, .slice aw m cw] W fun e w' => e = .returned (.bool (Ss.sameB (wordsF l) ws)) ∧ ∃ m, w' = W.drewN m) :=
        Lib.hid fun W a1 c1 s1 s2 => equal_any a1 aw ul m c1 cw (wordsF l) ws W s1 s2 (words_isS hlS) HWS.out
      have HB2 := Lib.hid HB.out
      have HLl := Lib.hid hll
      have HDl := Lib.hid hdl
      clear hO hLt hdl hlS hle hik HO HLt hll hul
      by_cases hsame : wordsF l = ws
      · have hsb := Ss.sameB_yes hsame
        rw [hsb] at HEq
        have HXs : Hid (X = some l) := Lib.hid (by rw [← HX.out]; unfold finL; rw [HDl.out]; exact if_pos hsame)
        clear hsb hsame
        go_wp2_with fail
        refine HWd.out.mono ?_
        rintro e w5 ⟨a5, c5, rfl, hs5, hb5⟩
        have HB5 : Hid (Below w3.heap.size w3 w5) := Lib.hid (HB2.out.trans (below_mono hb5 HB2.out.size))
        have HE5 := Lib.hid (HEq.out w5 a5 c5 hs5 (HSW3.out.grown (Bs.grown_of HB5.out)))
        have HSeg5 := Lib.hid (HSeg.out.grown (Bs.grown_of hb5))
        clear hs5 hb5
        dsimp only
        go_wp2_with fail
        refine HE5.out.mono ?_
        rintro e w6 ⟨rfl, q, hw6⟩
        have HB6 : Hid (Below w3.heap.size w3 w6) := Lib.hid (by subst hw6; exact Bs.below_drewN q HB5.out)
        have HF : Hid (GotX b g w X (.returned (.tuple #[.slice (some ⟨w3.heap.size, 0, none⟩) k k, .int .i64 0])) w6) := Lib.hid (by
          rw [HXs.out]
          refine ⟨turn_more HT3.out (turn_below (S := nowhere) HB6.out) (fun i e => e.elim), _, k, by rw [HLl.out], ?_, In.Turn.rd (turn_below (S := nowhere) HB6.out) HR3.out id id⟩
          rw [HLl.out]
          subst hw6
          exact HSeg5.out.grown (Bs.grown_of (Bs.below_drewN q (Below.refl _ _))))
        clear hw6
        dsimp only
        go_wp2
        go_ret2
        exact HF.out
      · have hsb := Ss.sameB_no hsame
        rw [hsb] at HEq
        have HXs : Hid (X = none) := Lib.hid (by rw [← HX.out]; unfold finL; rw [HDl.out]; exact if_neg hsame)
        clear hsb hsame
        go_wp2_with fail
        refine HWd.out.mono ?_
        rintro e w5 ⟨a5, c5, rfl, hs5, hb5⟩
        have HB5 : Hid (Below w3.heap.size w3 w5) := Lib.hid (HB2.out.trans (below_mono hb5 HB2.out.size))
        have HE5 := Lib.hid (HEq.out w5 a5 c5 hs5 (HSW3.out.grown (Bs.grown_of HB5.out)))
        clear hs5 hb5
        dsimp only
        go_wp2_with fail
        refine HE5.out.mono ?_
        rintro e w6 ⟨rfl, q, hw6⟩
        have HB6 : Hid (Below w3.heap.size w3 w6) := Lib.hid (by subst hw6; exact Bs.below_drewN q HB5.out)
        have HF : Hid (GotX b g w X (.returned (.tuple #[.slice none 0 0, .int .i64 4])) w6) := Lib.hid (by
          rw [HXs.out]
          exact ⟨turn_more HT3.out (turn_below (S := nowhere) HB6.out) (fun i e => e.elim), 4, by decide, rfl⟩)
        clear hw6
        dsimp only
        go_wp2
        go_ret2
        exact HF.out

theorem getPl_some {b : List Int} (hb : Oct.IsB b) {l : List (List Int)} {r : List Int} (h : getPl b = some (l, r)) : l.length ≤ 4096 ∧ IsS l ∧ (Oct.IsB r ∧ r.length ≤ b.length) := by
  unfold getPl at h
  cases hc : readC b with
  | none => rw [hc] at h; cases h
  | some p =>
    obtain ⟨n, r1⟩ := p
    rw [hc] at h
    obtain ⟨h1, h2⟩ := readC_some hb hc
    have hb1 : Oct.IsB r1 := isB_right (h2 ▸ hb)
    obtain ⟨e1, e2, e3, e4⟩ := readSs_some n r1 hb1 l r h
    refine ⟨by omega, fun s hs => ⟨e3 s hs, Nat.le_trans (e2 s hs) (by omega)⟩, isB_right (e4 ▸ hb1), ?_⟩
    rw [h2, e4, List.length_append, List.length_append]
    omega

theorem getDict_any (b g : Nat) (bs : List Int) (w : World) (h : Rd w b g bs) (hg : g < w.heap.size) (hb : Oct.IsB bs) (hl : bs.length ≤ 100000000) :
    Calls Try.prog 35 #[.pointer (some ⟨b, 0, none⟩)] w (GotX b g w (getDt bs)) := by
  unfold getDt
  cases hc : readC bs with
  | none => exact getDict_none1 b g bs w h hb hc
  | some p =>
    obtain ⟨n, r⟩ := p
    have hbr := readC_le hb hc
    have hlr := readC_lt hc
    dsimp only
    cases hp : getPl r with
    | none => exact getDict_none2 b g n bs r w h hg hb hl hc hp
    | some q =>
      obtain ⟨ws, r2⟩ := q
      obtain ⟨p1, p2, p3⟩ := getPl_some hbr.2 hp
      dsimp only
      cases hi : getIx n r2 with
      | none => exact getDict_none3 b g n bs r r2 ws w h hg hb hl hc hp ⟨p3.1, by omega⟩ hi
      | some ix => exact getDict_yes b g n bs r r2 ix ws w h hg hb hl hc hp ⟨p3.1, by omega⟩ hi (getIx_some p3.1 hi) p2 p1
end Go.Proofs.Ytgbpmpeknbaccaa.Tx
