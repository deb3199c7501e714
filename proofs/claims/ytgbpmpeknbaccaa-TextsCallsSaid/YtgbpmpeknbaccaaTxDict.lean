/-
  Dict: texts by their words; Put: the shorter form.
-/
import Derived.Test.YtgbpmpeknbaccaaTxFind
namespace Go.Proofs.Ytgbpmpeknbaccaa.Tx
open Go.RowKit Go.Joins
open Ss (IsS)
open Bs (info_u8)
open Oct (varB)
open Ref1 (GrowB)
open In (below_grown below_mono own_grown oseg turn_below)
open Pk (PutF wid putR IsU)
open Dv (Turn nowhere)

theorem below_turn {w w' : World} (h : Turn w w' nowhere) (B : Nat) (hB : B ≤ w.heap.size) : Below B w w' := below_mono (Pk.below_of h) hB
theorem dict_parts (l : List (List Int)) : dictT l = (([2] ++ varB 9 (l.length : Int)) ++ varB 9 ((wordsF l).length : Int) ++ strsB (wordsF l)) ++ [(wid (ixT l) : Int)] ++ (putR (ixT l) (wid (ixT l))).2 := by
  unfold dictT tailT
  simp only [List.append_assoc, List.cons_append, List.nil_append]

set_option maxRecDepth 100000 in
set_option maxHeartbeats 2000000 in
theorem dict_any (a : Option Addr) (n c : Nat) (l : List (List Int)) (w : World) (hs : Ss.Seg w a n c l) (hb : AllB l) :
    Calls Try.prog 10 #[.slice a n c] w (PutT w (formR (dictT l) l)) := by
  obtain ⟨i0, hi, hz0, hz1, hz2⟩ := info_parts info_u8
  have HC := Lib.hid (can_below a n c l w hs)
  cases hok : okB l with
  | false =>
    rw [hok] at HC
    rw [form_no hok]
    clear hs hb hok
    go_enter Try.func10, Try.ntmps10
    go_wp2_with fail
    refine HC.out.mono ?_
    rintro e w1 ⟨rfl, hb1⟩
    have HF := Lib.hid (putT_no hb1)
    clear hb1
    dsimp only
    go_wp2
    go_ret2
    exact HF.out
  | true =>
    have hO := (okB_iff l).1 hok
    rw [hok] at HC
    rw [form_yes hok]
    have HOk := Lib.hid hO
    have hn : n ≤ 4096 := by rw [← hs.len]; exact hO.1
    have HLen := Lib.hid hs.len
    have HSeg := Lib.hid hs
    have HBB := Lib.hid hb
    have hS : IsS l := fun s h => ⟨hb s h, Nat.le_trans (hO.2 s h) (by omega)⟩
    have HS := Lib.hid hS
    have hwu := wrap_u64 (n := n) (by omega)
    obtain ⟨ws, hws⟩ : ∃ ws, wordsF l = ws := ⟨_, rfl⟩
    obtain ⟨ix, hix⟩ : ∃ ix, ixT l = ix := ⟨_, rfl⟩
    have hwl := words_len l
    obtain ⟨m, hm⟩ : ∃ m, ws.length = m := ⟨_, rfl⟩
    have HIn : Hid (∀ x ∈ l, x ∈ ws) := Lib.hid fun x hx => hws ▸ (mem_words x l).2 hx
    have HWS : Hid (IsS ws) := Lib.hid (hws ▸ words_isS hS)
    have HND : Hid ws.Nodup := Lib.hid (hws ▸ (up_words l hb).nodup)
    have HWl : Hid (∀ s ∈ ws, s.length ≤ 65536) := Lib.hid fun s h => hO.2 s ((mem_words s l).1 (hws ▸ h))
    have HU : Hid (IsU ix) := Lib.hid (hix ▸ ix_isU (by have := hO.1; omega))
    have hpix := put_ix (l := l) (by have := hO.1; omega)
    have HParts := Lib.hid (dict_parts l)
    rw [hws, hix] at HParts
    have hixw : idxsF ws l = ix := by rw [← hws]; exact hix
    rw [hix] at hpix
    rw [hws] at hwl
    have hm4 : m ≤ 4096 := by have := hO.1; omega
    have hwm := wrap_u64 (n := m) (by omega)
    have HWords := Lib.hid (fun W (h : Ss.Seg W a n c l) => words_any a n c l W h HS.out (by omega))
    rw [hws] at HWords
    obtain ⟨v, hv⟩ : ∃ v, wid ix = v := ⟨_, rfl⟩
    have hv64 : v ≤ 64 := hv ▸ Pk.wid_64 HU.out
    rw [hv] at hpix HParts
    obtain ⟨P, hP⟩ : ∃ P, (putR ix v).2 = P := ⟨_, rfl⟩
    rw [hP] at HParts
    have hR : putR ix v = (0, P) := by rw [← hpix, ← hP]
    have hPl : P.length ≤ 524288 := hP ▸ Pk.put_len ix v
    obtain ⟨pl, hpl⟩ : ∃ x, P.length = x := ⟨_, rfl⟩
    rw [hpl] at hPl
    have hilen : ix.length = n := by rw [← hixw, idxs_len]; exact HLen.out
    have HIl := Lib.hid hilen
    have HIW := Lib.hid hixw
    have HR := Lib.hid hR
    have HPL := Lib.hid hpl
    have HM := Lib.hid hm
    have HV := Lib.hid hv
    have HWLen : Hid ((strsB ws).length ≤ m * 65546) := Lib.hid (by have := strsB_len ws HWl.out; rwa [hm] at this)
    have hvw : IntKind.u8.wrap (v : Int) = (v : Int) := by rw [IntKind.wrap_u8]; omega
    clear hs hb hok hO hS hws hix hwl hpix hixw hP hR hilen hpl hm hv
    go_enter Try.func10, Try.ntmps10
    go_wp2_with fail
    refine HC.out.mono ?_
    rintro e w1 ⟨rfl, hb1⟩
    have HB1 := Lib.hid hb1
    have HW1 := Lib.hid (HWords.out w1 (sseg_below HSeg.out hb1 rfl))
    unfold TextsX at HW1
    rw [HM.out] at HW1
    clear hb1
    dsimp only
    go_wp2_with fail
    refine HW1.out.mono ?_
    rintro e w2 ⟨aw, cw, rfl, hsw, hb2⟩
    have HB2 := Lib.hid (HB1.out.trans (below_mono hb2 HB1.out.size))
    have HSW := Lib.hid hsw
    have HFind := Lib.hid (find_any aw a m cw n c ws l w2 hsw (sseg_below HSeg.out HB2.out rfl) HWS.out HS.out HND.out HIn.out (by omega) (by omega))
    unfold NumsX at HFind
    rw [HIW.out, HIl.out] at HFind
    clear hsw hb2
    dsimp only
    go_wp2_with fail
    refine HFind.out.mono ?_
    rintro e w3 ⟨ai, ci, rfl, hsi, hb3⟩
    have HB3 : Hid (Below w2.heap.size w2 w3) := Lib.hid hb3
    have HWid := Lib.hid (Pk.width_any ai n ci ix w3 hsi HU.out)
    rw [HV.out] at HWid
    have HPut := Lib.hid (Pk.put_form (v := (v : Int)) HR.out HPL.out HU.out ai n ci w3 hsi)
    clear hsi hb3
    dsimp only
    go_wp2_with (first
      | (go_at_call 28; refine HWid.out.mono ?_; rintro e w' ⟨rfl, rfl⟩)
      | fail)
    refine HPut.out.mono ?_
    rintro e w4 ⟨ap, cp, rfl, hsp, ht4⟩
    have HB4 : Hid (Below w2.heap.size w2 w4) := Lib.hid (HB3.out.trans (below_turn ht4 _ HB3.out.size))
    have HV1 := Lib.hid (Oct.putVar_any _ 1 1 [2] (n : Int) (w4.alloc (.cells #[.int .u8 2] 5)) (oseg (Bs.lit_seg w4 [2] (by decide))) (by omega) (by omega) (by decide))
    have HB4a : Hid (Below w2.heap.size w2 (w4.alloc (.cells #[.int .u8 2] 5))) := Lib.hid (HB4.out.alloc HB4.out.size _)
    have HB4b : Hid (Below w4.heap.size w4 (w4.alloc (.cells #[.int .u8 2] 5))) := Lib.hid ((Below.refl _ w4).alloc (Nat.le_refl _) _)
    have HSP := Lib.hid hsp
    clear hsp ht4
    dsimp only
    go_wp2_with fail
    refine HV1.out.mono ?_
    rintro e w5 hnew
    obtain ⟨g5, p5, rfl, hf⟩ := hnew.value
    obtain ⟨hp5, hown5, hg5⟩ := hf.is
    have hvl := Oct.varB_le 9 (n : Int)
    have hp5b : p5 ≤ 11 := by rw [hp5]; simp; omega
    have HB5 : Hid (Below w2.heap.size w2 w5) := Lib.hid (HB4a.out.trans (below_grown hg5 HB4a.out.size))
    have HB5b : Hid (Below w4.heap.size w4 w5) := Lib.hid (HB4b.out.trans (below_grown hg5 HB4b.out.size))
    have HV2 := Lib.hid (Oct.putVar_any _ p5 p5 ([2] ++ varB 9 (n : Int)) (m : Int) w5 (Oct.Seg.own hown5) (by omega) (by omega) (by omega))
    have HP5 := Lib.hid hp5
    clear hnew hf hown5 hg5 hp5 hvl
    dsimp only
    go_wp2_with fail
    refine HV2.out.mono ?_
    rintro e w6 hnew
    obtain ⟨g6, p6, rfl, hf⟩ := hnew.value
    obtain ⟨hp6, hown6, hg6⟩ := hf.is
    have hvl := Oct.varB_le 9 (m : Int)
    have hp6b : p6 ≤ 21 := by rw [hp6, List.length_append, ← HP5.out]; omega
    have hp60 : 0 < p6 := by rw [hp6]; simp
    have HB6 : Hid (Below w2.heap.size w2 w6) := Lib.hid (HB5.out.trans (below_grown hg6 HB5.out.size))
    have HB6b : Hid (Below w4.heap.size w4 w6) := Lib.hid (HB5b.out.trans (below_grown hg6 HB5b.out.size))
    have HStr := Lib.hid (putStrings_any w4.heap.size _ p6 (([2] ++ varB 9 (n : Int)) ++ varB 9 (m : Int)) aw m cw ws w6 (sseg_below HSW.out HB6.out rfl) (fun h ad had => Nat.lt_of_lt_of_le (sseg_lt HSW.out h ad had) HB4.out.size) HB6b.out.size (Oct.ownsRow_mono hown6 HB5b.out.size) hp60 (by omega) (allB_of HWS.out) HWl.out (by omega))
    obtain ⟨q, hq⟩ : ∃ q, (strsB ws).length = q := ⟨_, rfl⟩
    rw [hq] at HStr
    have hqb : q ≤ m * 65546 := hq ▸ HWLen.out
    have HQ := Lib.hid hq
    have HP6 := Lib.hid hp6
    clear hnew hf hown6 hg6 hp6 hvl hp60 hq
    dsimp only
    go_wp2_with fail
    refine HStr.out.mono ?_
    rintro e w7 ⟨g7, c7, rfl, hown7, hb7⟩
    have HO7 := Lib.hid hown7
    have HB7 : Hid (Below w4.heap.size w4 w7) := Lib.hid (HB6b.out.trans hb7)
    have HSP7 : Hid (Bs.Seg w7 ap pl cp P) := Lib.hid (HSP.out.grown (Bs.grown_of HB7.out))
    have HS7 : Hid (w4.heap.size ≤ w7.heap.size) := Lib.hid HB7.out.size
    have HW24 : Hid (Below w.heap.size w w4) := Lib.hid (HB2.out.trans (below_mono HB4.out HB2.out.size))
    have HL4 : Hid (w.heap.size ≤ w4.heap.size) := Lib.hid HW24.out.size
    have HPos : Hid (0 < p6 + q) := Lib.hid (by have := HP6.out; simp at this; omega)
    clear hown7 hb7
    dsimp only
    go_wp2_with (first
      | (at_builtin; refine wpList_append_own _ rfl (.tmp 38) (.tmp 41) 23 rfl w4.heap.size 5 i0 (.int .u8 0) 1 1 Try.underlying23 hi hz0 hz1 hz2 rfl (by decide) _ (p6 + q) _ rfl (HO7.out.alloc _) ⟨w7.heap.size, 0, none⟩ 1 1 [.int .u8 (v : Int)] rfl rfl (by intro t u ht; match t, ht with | 0, ht => simp at ht; subst ht; exact Pk.cell_new w7 _ _) (by intro u hu; simp at hu; subst hu; rfl) (by unfold maxLen; omega) (by omega) (by have := HS7.out; simp; omega) ?_; intro v8 w8 hown8 hg8 hnil8; obtain ⟨g8, c8, rfl⟩ := ownsRow_form hown8 (by omega); have HO8 := Lib.hid hown8; have HB8 : Hid (Below w4.heap.size w4 w8) := Lib.hid ((HB7.out.alloc HS7.out _).grown hg8 (by have := HS7.out; simp; omega) (fun j e => (HO7.out.lt j e).1)); have HSP8 : Hid (Bs.Seg w8 ap pl cp P) := Lib.hid (HSP.out.grown (Bs.grown_of HB8.out)); have HS8 : Hid (w4.heap.size ≤ w8.heap.size) := Lib.hid HB8.out.size; clear hown8 hg8 hnil8)
      | (at_builtin; refine Bs.wpList_append_seg rfl (.tmp 42) (.tmp 43) 23 rfl w4.heap.size 5 i0 Try.underlying23 hi hz0 hz1 hz2 g8 (p6 + q + 1) c8 _ rfl HO8.out ap pl cp P rfl HSP8.out (by omega) HS8.out ?_; intro g9 c9 w9 hown9 hg9)
      | fail)
    have HF : Hid (PutT w (0, dictT l) (.returned (.tuple #[.slice (some ⟨g9, 0, none⟩) (p6 + q + 1 + pl) c9, .int .i64 0])) w9) := by
      have e1 : ([2] ++ varB 9 (n : Int)) ++ varB 9 (m : Int) ++ strsB ws ++ [(v : Int)] ++ P = dictT l := by rw [HParts.out, HLen.out, HM.out]
      have hlen : (dictT l).length = p6 + q + 1 + pl := by
        rw [← e1, List.length_append, List.length_append, List.length_append, ← HP6.out, HQ.out, HPL.out]
        simp
      refine Lib.hid ⟨_, c9, by rw [hlen], ?_, HW24.out.trans (below_mono (HB8.out.grown hg9 HS8.out (fun j e => (HO8.out.lt j e).1)) HL4.out)⟩
      rw [hlen, ← e1]
      refine Bs.Seg.own (base := w4.heap.size) (e := 5) ?_
      dsimp only
      rw [List.map_append, List.map_append]
      exact hown9
    clear hown9 hg9
    go_ret2
    exact HF.out

set_option maxRecDepth 100000 in
set_option maxHeartbeats 1000000 in
theorem put_any (a : Option Addr) (n c : Nat) (l : List (List Int)) (w : World) (hs : Ss.Seg w a n c l) (hb : AllB l) :
    Calls Try.prog 9 #[.slice a n c] w (PutT w (formR (bestT l) l)) := by
  have HP := Lib.hid (plain_any a n c l w hs hb)
  have HD := Lib.hid (fun W (k : Below w.heap.size w W) => dict_any a n c l W (sseg_below hs k rfl) hb)
  obtain ⟨E, hE⟩ : ∃ E : Int, (if okB l = true then (0 : Int) else 3) = E := ⟨_, rfl⟩
  obtain ⟨P, hP⟩ : ∃ P, (formR (plainT l) l).2 = P := ⟨_, rfl⟩
  obtain ⟨D, hD⟩ : ∃ D, (formR (dictT l) l).2 = D := ⟨_, rfl⟩
  have e1 : formR (plainT l) l = (E, P) := by rw [← hP, ← hE]; unfold formR; split <;> rfl
  have e2 : formR (dictT l) l = (E, D) := by rw [← hD, ← hE]; unfold formR; split <;> rfl
  have e3 : formR (bestT l) l = (E, if D.length < P.length then D else P) := by
    rw [← hP, ← hD, ← hE]
    unfold formR bestT
    split
    · simp
    · simp
  rw [e1] at HP
  rw [e2] at HD
  rw [e3]
  obtain ⟨R, hR⟩ : ∃ R, (if D.length < P.length then D else P) = R := ⟨_, rfl⟩
  rw [hR]
  have HRe := Lib.hid hR
  clear hR
  obtain ⟨pl, hpl⟩ : ∃ x, P.length = x := ⟨_, rfl⟩
  obtain ⟨dl, hdl⟩ : ∃ x, D.length = x := ⟨_, rfl⟩
  unfold PutT at HP HD
  dsimp only at HP HD
  rw [hpl] at HP
  rw [hdl] at HD
  have HPl := Lib.hid hpl
  have HDl := Lib.hid hdl
  clear hs hb hE hP hD e1 e2 e3 hpl hdl
  go_enter Try.func9, Try.ntmps9
  go_wp2_with fail
  refine HP.out.mono ?_
  rintro e w1 ⟨ap, cp, rfl, hsp, hb1⟩
  have HB1 := Lib.hid hb1
  have HSP := Lib.hid hsp
  have HD1 := Lib.hid (HD.out w1 hb1)
  clear hsp hb1
  dsimp only
  go_wp2_with fail
  refine HD1.out.mono ?_
  rintro e w2 ⟨ad, cd, rfl, hsd, hb2⟩
  have HB2 := Lib.hid (HB1.out.trans (below_mono hb2 HB1.out.size))
  have HSP2 : Hid (Bs.Seg w2 ap pl cp P) := Lib.hid (HSP.out.grown (Bs.grown_of hb2))
  have HSD := Lib.hid hsd
  clear hsd hb2
  dsimp only
  by_cases hlt : dl < pl
  · have HF : Hid (PutT w (E, R) (.returned (.tuple #[.slice ad dl cd, .int .i64 E])) w2) := Lib.hid (by
      rw [← HRe.out, if_pos (by rw [HPl.out, HDl.out]; exact hlt)]
      exact ⟨ad, cd, by rw [HDl.out], by rw [HDl.out]; exact HSD.out, HB2.out⟩)
    have hlt' : (dl : Int) < (pl : Int) := by omega
    clear hlt
    go_wp2
    go_ret2
    exact HF.out
  · have HF : Hid (PutT w (E, R) (.returned (.tuple #[.slice ap pl cp, .int .i64 E])) w2) := Lib.hid (by
      rw [← HRe.out, if_neg (by rw [HPl.out, HDl.out]; exact hlt)]
      exact ⟨ap, cp, by rw [HPl.out], by rw [HPl.out]; exact HSP2.out, HB2.out⟩)
    have hlt' : ¬ (dl : Int) < (pl : Int) := by omega
    clear hlt
    go_wp2
    go_ret2
    exact HF.out
end Go.Proofs.Ytgbpmpeknbaccaa.Tx
