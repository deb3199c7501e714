/-
  Texts read again: getPlain, getIndexes, getDict.
-/
import Derived.Test.YtgbpmpeknbaccaaTxGetS
import Derived.Test.YtgbpmpeknbaccaaTxEqual
namespace Go.Proofs.Ytgbpmpeknbaccaa.Tx
open Go.RowKit Go.Joins
open Ss (IsS encW info_str)
open Oct (Rd ReadN ReadV readV ofB)
open In (At turn_read turn_row turn_more own_at turn_below below_mono isB_drop isB_take)
open Dv (Turn nowhere)
open Pk (wid getR IsU)

theorem readC_lt {b : List Int} {n : Nat} {r : List Int} (h : readC b = some (n, r)) : n ≤ 4096 ∧ r.length ≤ b.length := by
  unfold readC at h
  split at h
  · cases h
  · rename_i hc
    simp only [Option.some.injEq, Prod.mk.injEq] at h
    obtain ⟨rfl, rfl⟩ := h
    have : ¬ 4096 < (readV 0 0 b).1 := fun k => hc (.inr k)
    exact ⟨by omega, by rw [List.length_drop]; omega⟩

set_option maxRecDepth 100000 in
set_option maxHeartbeats 1000000 in
theorem getPlain_any (b g : Nat) (bs : List Int) (w : World) (h : Rd w b g bs) (hg : g < w.heap.size) (hb : Oct.IsB bs) (hl : bs.length ≤ 100000000) :
    Calls Try.prog 34 #[.pointer (some ⟨b, 0, none⟩)] w (GetsX b g w (getPl bs)) := by
  have HC := Lib.hid (getCount_any b g bs w h hb)
  have HGL := Lib.hid hg
  have HB := Lib.hid hb
  unfold getPl
  cases hc : readC bs with
  | none =>
    rw [hc] at HC
    clear h hg hb hl hc
    go_enter Try.func34, Try.ntmps34
    go_wp2_with fail
    refine HC.out.mono ?_
    rintro e w1 ⟨ht, -, rfl⟩
    have HF : Hid (GetsX b g w none (.returned (.tuple #[.slice none 0 0, .int .i64 4])) w1) := Lib.hid ⟨ht, 4, by decide, rfl⟩
    clear ht
    dsimp only
    go_wp2
    go_ret2
    exact HF.out
  | some p =>
    obtain ⟨n, r⟩ := p
    have hlt := readC_lt hc
    have hbr := readC_le hb hc
    rw [hc] at HC
    have HG := Lib.hid (fun W (hr : Rd W b g r) (hgl : g < W.heap.size) => getStrings_any b g n r W hr hgl hbr.2 (by omega) (by omega))
    dsimp only
    obtain ⟨X, hX⟩ : ∃ X, readSs n r = X := ⟨_, rfl⟩
    rw [hX] at HG ⊢
    clear h hg hb hl hc hlt hbr hX
    go_enter Try.func34, Try.ntmps34
    go_wp2_with fail
    refine HC.out.mono ?_
    rintro e w1 ⟨ht, hsz, rfl, hr⟩
    have HG1 := Lib.hid (HG.out w1 hr (Nat.lt_of_lt_of_le HGL.out hsz))
    have HT := Lib.hid ht
    have HSz := Lib.hid hsz
    clear ht hsz hr
    dsimp only
    go_wp2_with fail
    refine HG1.out.mono ?_
    rintro e w2 ⟨ht2, hx⟩
    have HT2 : Hid (Turn w w2 (At b)) := Lib.hid (turn_more HT.out ht2 (fun i e => .inl e))
    clear ht2
    cases X with
    | none =>
      obtain ⟨E, hE, rfl⟩ := hx
      have HF : Hid (GetsX b g w none (.returned (.tuple #[.slice none 0 0, .int .i64 E])) w2) := Lib.hid ⟨HT2.out, E, hE, rfl⟩
      clear hE
      dsimp only
      go_wp2
      go_ret2
      exact HF.out
    | some p =>
      obtain ⟨l, rest⟩ := p
      obtain ⟨a5, c5, rfl, hs5, hr5, hn5⟩ := hx
      have HF : Hid (GetsX b g w (some (l, rest)) (.returned (.tuple #[.slice a5 l.length c5, .int .i64 0])) w2) := Lib.hid ⟨HT2.out, a5, c5, rfl, hs5, hr5, fun ad e => Nat.le_trans HSz.out (hn5 ad e)⟩
      obtain ⟨m, hm⟩ : ∃ m, l.length = m := ⟨_, rfl⟩
      rw [hm] at HF ⊢
      clear hs5 hr5 hm hn5
      dsimp only
      go_wp2
      go_ret2
      exact HF.out

/-- numbers, nothing left; or an error -/
def IxX (b g : Nat) (w : World) (r : Option (List Int)) (e : Ending) (w' : World) : Prop :=
  Turn w w' (At b) ∧ w.heap.size ≤ w'.heap.size ∧ match r with
    | some ix => ∃ a c, e = .returned (.tuple #[.slice a ix.length c, .int .i64 0]) ∧ Us.Seg w' a ix.length c ix ∧ Rd w' b g []
    | none => ∃ E : Int, E ≠ 0 ∧ e = .returned (.tuple #[.slice none 0 0, .int .i64 E])

set_option maxRecDepth 100000 in
set_option maxHeartbeats 2000000 in
theorem getIndexes_any (b g n : Nat) (bs : List Int) (w : World) (h : Rd w b g bs) (hb : Oct.IsB bs) (hl : bs.length ≤ 100000000) :
    Calls Try.prog 65 #[.pointer (some ⟨b, 0, none⟩), .int .i64 n] w (IxX b g w (getIx n bs)) := by
  match bs, h, hb, hl with
  | [], h, _, _ =>
    have HN := Lib.hid (Oct.number_more b g [] 1 w h (by decide) (by decide) (by decide))
    have HF : Hid (IxX b g w none (.returned (.tuple #[.slice none 0 0, .int .i64 7])) w) := Lib.hid ⟨Turn.refl _ _, Nat.le_refl _, 7, by decide, rfl⟩
    clear h
    go_enter Try.func65, Try.ntmps65
    go_wp2_with fail
    refine HN.out.mono ?_
    rintro e w1 ⟨rfl, rfl⟩
    dsimp only
    go_wp2
    go_ret2
    exact HF.out
  | k :: r, h, hb, hl =>
    have hk := hb k (by simp)
    have hbr : Oct.IsB r := fun x hx => hb x (by simp [hx])
    have hrl : r.length ≤ 100000000 := by rw [List.length_cons] at hl; omega
    have HNum : Hid (Calls Try.prog 33 #[.pointer (some ⟨b, 0, none⟩), .int .i64 1] w (ReadN b g w k r)) := Lib.hid (by
      have := Oct.number_yes b g (k :: r) 1 w h hb (by decide) (by decide) (by simp)
      rwa [show ofB ((k :: r).take 1) = k from by simp [ofB]] at this)
    unfold ReadN at HNum
    obtain ⟨q, hq⟩ : ∃ q, r.length = q := ⟨_, rfl⟩
    have HBy := Lib.hid (fun W (hr : Rd W b g r) => Oct.bytes_yes b g r q W hr (by omega) (by omega))
    rw [← hq, List.take_length, List.drop_length, hq] at HBy
    have HRB := Lib.hid hbr
    have hkw : wrap64 k = k := by rw [← IntWalk.i64_left, IntKind.wrap_i64]; omega
    obtain ⟨E, B, hR⟩ : ∃ E B, getR r n k = (E, B) := ⟨_, _, rfl⟩
    obtain ⟨m, hm⟩ : ∃ m, B.length = m := ⟨_, rfl⟩
    have hGet := fun a c W hs => Pk.get_form hR hm (Pk.fit_isB hbr) a q c W hs
    have HGet := Lib.hid hGet
    have hu : IsU B := by
      by_cases h0 : (getR r n k).1 = 0
      · have := (Pk.put_get r n k (Pk.fit_isB hbr) h0).2.2.2; rwa [hR] at this
      · have := Pk.get_no r n k h0
        rw [hR] at this
        dsimp only at this
        rw [this]; intro x hx; cases hx
    have HU := Lib.hid hu
    have HM := Lib.hid hm
    obtain ⟨v, hv⟩ : ∃ v, wid B = v := ⟨_, rfl⟩
    have HV := Lib.hid hv
    rw [getIx, hR]
    dsimp only
    rw [hv]
    have hQ := Lib.hid hq
    clear h hb hl hbr hR hm hGet hu hv hq
    by_cases hE : E = 0
    · subst hE
      by_cases hvk : (v : Int) = k
      · rw [if_neg (by simp [hvk])]
        go_enter Try.func65, Try.ntmps65
        go_wp2_with fail
        refine HNum.out.mono ?_
        rintro e w1 ⟨rfl, hg1, hr1⟩
        have HT1 := Lib.hid (turn_read hg1)
        have HLeft := Lib.hid (Oct.left_yes b g r w1 hr1)
        rw [hQ.out] at HLeft
        have HBy1 := Lib.hid (HBy.out w1 hr1)
        have HS1 : Hid (w.heap.size ≤ w1.heap.size) := Lib.hid hg1.size
        clear hg1 hr1
        dsimp only
        go_wp2_with (first
          | (go_at_call 36; refine HLeft.out.mono ?_; rintro e w' ⟨rfl, rfl⟩)
          | fail)
        refine HBy1.out.mono ?_
        rintro e w2 hrb
        obtain ⟨y, p, rfl, hp, hown2, hg2, hr2⟩ := hrb.value
        rw [hQ.out] at hp
        subst hp
        have HG2 := Lib.hid (HGet.out _ _ w2 (Bs.Seg.own hown2))
        have HT2 : Hid (Turn w w2 (At b)) := Lib.hid (turn_more HT1.out (turn_read hg2) (fun i e => .inl e))
        have HS2 : Hid (w.heap.size ≤ w2.heap.size) := Lib.hid (Nat.le_trans HS1.out hg2.size)
        have HR2 := Lib.hid hr2
        clear hrb hown2 hg2 hr2
        dsimp only
        go_wp2_with fail
        refine HG2.out.mono ?_
        rintro e w3 ⟨a3, c3, rfl, hs3, ht3⟩
        have HW := Lib.hid (Pk.width_any a3 m c3 B w3 hs3 HU.out)
        rw [HV.out, hvk] at HW
        have HF : Hid (IxX b g w (some B) (.returned (.tuple #[.slice a3 m c3, .int .i64 0])) w3) := Lib.hid (by
          refine ⟨turn_more HT2.out ht3 (fun i e => e.elim), Nat.le_trans HS2.out ht3.size, a3, c3, by rw [HM.out], by rw [HM.out]; exact hs3, In.Turn.rd ht3 HR2.out id id⟩)
        clear hs3 ht3
        dsimp only
        go_wp2_with (first
          | (go_at_call 28; refine HW.out.mono ?_; rintro e w' ⟨rfl, rfl⟩)
          | fail)
        go_ret2
        exact HF.out
      · rw [if_pos (.inr hvk)]
        have hne : ((v : Int) != k) = true := bne_iff_ne.2 hvk
        go_enter Try.func65, Try.ntmps65
        go_wp2_with fail
        refine HNum.out.mono ?_
        rintro e w1 ⟨rfl, hg1, hr1⟩
        have HT1 := Lib.hid (turn_read hg1)
        have HLeft := Lib.hid (Oct.left_yes b g r w1 hr1)
        rw [hQ.out] at HLeft
        have HBy1 := Lib.hid (HBy.out w1 hr1)
        have HS1 : Hid (w.heap.size ≤ w1.heap.size) := Lib.hid hg1.size
        clear hg1 hr1
        dsimp only
        go_wp2_with (first
          | (go_at_call 36; refine HLeft.out.mono ?_; rintro e w' ⟨rfl, rfl⟩)
          | fail)
        refine HBy1.out.mono ?_
        rintro e w2 hrb
        obtain ⟨y, p, rfl, hp, hown2, hg2, hr2⟩ := hrb.value
        rw [hQ.out] at hp
        subst hp
        have HG2 := Lib.hid (HGet.out _ _ w2 (Bs.Seg.own hown2))
        have HT2 : Hid (Turn w w2 (At b)) := Lib.hid (turn_more HT1.out (turn_read hg2) (fun i e => .inl e))
        have HS2 : Hid (w.heap.size ≤ w2.heap.size) := Lib.hid (Nat.le_trans HS1.out hg2.size)
        clear hrb hown2 hg2 hr2
        dsimp only
        go_wp2_with fail
        refine HG2.out.mono ?_
        rintro e w3 ⟨a3, c3, rfl, hs3, ht3⟩
        have HW := Lib.hid (Pk.width_any a3 m c3 B w3 hs3 HU.out)
        rw [HV.out] at HW
        have HF : Hid (IxX b g w none (.returned (.tuple #[.slice none 0 0, .int .i64 4])) w3) := Lib.hid ⟨turn_more HT2.out ht3 (fun i e => e.elim), Nat.le_trans HS2.out ht3.size, 4, by decide, rfl⟩
        clear hs3 ht3 hvk
        dsimp only
        go_wp2_with (first
          | (go_at_call 28; refine HW.out.mono ?_; rintro e w' ⟨rfl, rfl⟩)
          | fail)
        go_ret2
        exact HF.out
    · rw [if_pos (.inl hE)]
      go_enter Try.func65, Try.ntmps65
      go_wp2_with fail
      refine HNum.out.mono ?_
      rintro e w1 ⟨rfl, hg1, hr1⟩
      have HT1 := Lib.hid (turn_read hg1)
      have HLeft := Lib.hid (Oct.left_yes b g r w1 hr1)
      rw [hQ.out] at HLeft
      have HBy1 := Lib.hid (HBy.out w1 hr1)
      have HS1 : Hid (w.heap.size ≤ w1.heap.size) := Lib.hid hg1.size
      clear hg1 hr1
      dsimp only
      go_wp2_with (first
        | (go_at_call 36; refine HLeft.out.mono ?_; rintro e w' ⟨rfl, rfl⟩)
        | fail)
      refine HBy1.out.mono ?_
      rintro e w2 hrb
      obtain ⟨y, p, rfl, hp, hown2, hg2, hr2⟩ := hrb.value
      rw [hQ.out] at hp
      subst hp
      have HG2 := Lib.hid (HGet.out _ _ w2 (Bs.Seg.own hown2))
      have HT2 : Hid (Turn w w2 (At b)) := Lib.hid (turn_more HT1.out (turn_read hg2) (fun i e => .inl e))
      have HS2 : Hid (w.heap.size ≤ w2.heap.size) := Lib.hid (Nat.le_trans HS1.out hg2.size)
      clear hrb hown2 hg2 hr2
      dsimp only
      go_wp2_with fail
      refine HG2.out.mono ?_
      rintro e w3 ⟨a3, c3, rfl, hs3, ht3⟩
      have HF : Hid (IxX b g w none (.returned (.tuple #[.slice none 0 0, .int .i64 4])) w3) := Lib.hid ⟨turn_more HT2.out ht3 (fun i e => e.elim), Nat.le_trans HS2.out ht3.size, 4, by decide, rfl⟩
      clear hs3 ht3
      dsimp only
      go_wp2
      go_ret2
      exact HF.out
end Go.Proofs.Ytgbpmpeknbaccaa.Tx
