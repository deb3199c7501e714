/-
  The document's Get: what it refuses before there are flags.
-/
import Derived.Test.YtpcilohiokpmnaaNuRef3
import Derived.Test.YtpcilohiokpmnaaNuGet
import Derived.Test.YtpcilohiokpmnaaRBytes
import Derived.Test.YtpcilohiokpmnaaPkRGet
namespace Go.Proofs.Ytpcilohiokpmnaa.Nu
open Go.RowKit
open Dv (Turn nowhere)
open Pk (Turn.then getR sizeN Fit)
open Oct (readV ofB)
open In (At RR RRead RVarX rvar_any rnew_any rnumber1_any turn_up below_grown)

theorem rgetp_form {l : List Int} {n v E : Int} {B : List Int} {m : Nat} (hR : getR l n v = (E, B)) (hm : B.length = m) (hb : Fit 8 l) (a : Option Addr) (len c : Nat) (W : World) (hs : Bs.Seg W a len c l) :
    Calls Try.prog 42 #[.slice a len c, .int .i64 n, .int .i64 v] W (Pk.GetF W m E B) :=
  (Pk.rget_any a len c l n v W hs hb).mono fun e w' h => by
    rw [hR] at h
    obtain ⟨a', k, he, h1, h2⟩ := h
    subst hm
    exact ⟨a', k, he, h1, Pk.turn_of h2⟩

set_option maxHeartbeats 400000 in
theorem rleft_any (b g : Nat) (l : List Int) (w : World) (h : RR w b g l) :
    Calls Try.prog 43 #[.pointer (some ⟨b, 0, none⟩)] w fun e w' => e = .returned (.int .i64 l.length) ∧ w = w' := by
  obtain ⟨o, c, h0, hle, hc, hj⟩ := h.cells
  obtain ⟨m, hm⟩ : ∃ m, l.length = m := ⟨_, rfl⟩
  rw [hm] at h0 ⊢
  clear hj hle hc h hm
  go_enter Try.func43, Try.ntmps43
  go_wp2
  go_ret
  exact ⟨rfl, rfl⟩

/-- one byte more of whatever is left -/
theorem rform_any (b g : Nat) (l : List Int) (w : World) (h : RR w b g l) (hb : Oct.IsB l) : ∃ x f r, (f = 0 ∨ f = 7) ∧ (l = [] → f = 7) ∧
    Calls Try.prog 39 #[.pointer (some ⟨b, 0, none⟩), .int .i64 1] w (RRead b g w x f r) := by
  have := rnumber1_any b g l w h hb
  cases l with
  | nil => exact ⟨0, 7, [], .inr rfl, fun _ => rfl, this⟩
  | cons x r => exact ⟨x, 0, r, .inl rfl, (fun h => by cases h), this⟩

set_option maxRecDepth 100000 in
set_option maxHeartbeats 2000000 in
/-- the number of flags can't be read, or is too great -/
theorem rget_count (a : Option Addr) (n c : Nat) (bs : List Int) (w : World) (hs : Bs.Seg w a n c bs) (hb : Oct.IsB bs) (hn : n ≤ 100000000) (hc : readC bs = none) :
    Calls Try.prog 17 #[.slice a n c] w (GetX w 0 [] 0 4) := by
  have HNew := Lib.hid (rnew_any a n c bs w hs (by omega))
  have HB := Lib.hid hb
  have hbad : ¬ (readV 0 0 bs).2.1 = 0 ∨ 4096 < (readV 0 0 bs).1 := by
    unfold readC at hc
    split at hc
    · rename_i h; exact h
    · cases hc
  obtain ⟨v, er, nn, hv⟩ : ∃ v er nn, readV 0 0 bs = (v, er, nn) := ⟨_, _, _, rfl⟩
  have HVe := Lib.hid hv
  have hv0 : er = 0 → 0 ≤ v := fun h0 => by subst h0; exact (In.var_readV bs hb v nn hv).1
  rw [hv] at hbad
  dsimp only at hbad
  clear hs hb hn hc hv
  go_enter Try.func17, Try.ntmps17
  go_wp2_with fail
  refine HNew.out.mono ?_
  rintro e w1 ⟨b, g, rfl, hb0, hrd, hgr, hg1⟩
  have HVar := Lib.hid (rvar_any b g bs w1 hrd HB.out)
  unfold RVarX at HVar
  rw [HVe.out] at HVar
  have HB1 : Hid (Below w.heap.size w w1) := Lib.hid (below_grown hgr (Nat.le_refl _))
  have HB0 := Lib.hid hb0
  clear hb0 hrd hgr hg1
  dsimp only at HVar
  dsimp only
  go_wp2_with fail
  refine HVar.out.mono ?_
  rintro e w2 ⟨rfl, ht2, hr2⟩
  obtain ⟨x, f, r, hf, -, hnum⟩ := rform_any b g (bs.drop nn) w2 hr2 (In.isB_drop HB.out nn)
  have HNum := Lib.hid hnum
  have HB2 : Hid (Below w.heap.size w w2) := Lib.hid (turn_up HB1.out ht2 HB0.out)
  clear ht2 hr2 HVar hnum
  dsimp only
  go_wp2_with fail
  refine HNum.out.mono ?_
  rintro e w3 ⟨rfl, ht3, hr3⟩
  have HF : Hid (GetX w 0 [] 0 4 (.returned (.tuple #[.slice none 0 0, .int .i64 0, .int .i64 4])) w3) := Lib.hid (getx_bad (turn_up HB2.out ht3 HB0.out))
  clear ht3 hr3 HNum
  dsimp only
  by_cases he : er = 0
  · subst he
    have h4 : 4096 < v := by simpa using hbad
    have hv1 := hv0 rfl
    clear hbad hv0
    rcases hf with rfl | rfl
    · go_wp2
      go_ret3
      exact HF.out
    · go_wp2
      go_ret3
      exact HF.out
  · have he1 : (er != 0) = true := bne_iff_ne.2 he
    have he2 : (er == 0) = false := beq_eq_false_iff_ne.2 he
    clear hbad hv0 hf
    go_wp2
    go_ret3
    exact HF.out

/-- Var of a count that can be read. -/
theorem rvar_count {bs : List Int} (hb : Oct.IsB bs) {m : Nat} {r : List Int} (hc : readC bs = some (m, r)) : ∀ b g W, RR W b g bs →
    Calls Try.prog 38 #[.pointer (some ⟨b, 0, none⟩)] W (RRead b g W (m : Int) 0 r) := by
  obtain ⟨hm, hbe⟩ := readC_some hb hc
  have hv : readV 0 0 bs = ((m : Int), 0, (Oct.varB 9 (m : Int)).length) := by rw [hbe]; exact In.readV_var m r (by omega)
  have hd : bs.drop (Oct.varB 9 (m : Int)).length = r := by rw [hbe]; exact In.drop_var m r
  intro b g W h
  have := rvar_any b g bs W h hb
  unfold RVarX at this
  rw [hv] at this
  dsimp only at this
  rw [hd] at this
  exact this

set_option maxRecDepth 100000 in
set_option maxHeartbeats 2000000 in
/-- no byte behind the number of flags, or a wrong one -/
theorem rget_form (a : Option Addr) (n c : Nat) (bs : List Int) (m : Nat) (r : List Int) (w : World) (hs : Bs.Seg w a n c bs) (hb : Oct.IsB bs) (hn : n ≤ 100000000) (hc : readC bs = some (m, r)) (hr : r = [] ∨ ∃ k t, r = k :: t ∧ 2 < k) :
    Calls Try.prog 17 #[.slice a n c] w (GetX w 0 [] 0 4) := by
  have HNew := Lib.hid (rnew_any a n c bs w hs (by omega))
  obtain ⟨hm, hbe⟩ := readC_some hb hc
  have HRB : Hid (Oct.IsB r) := Lib.hid (isB_right (hbe ▸ hb))
  have HVar := Lib.hid (rvar_count hb hc)
  have hm4 : ¬ (4096 : Int) < (m : Int) := by omega
  clear hs hb hn hc hbe
  go_enter Try.func17, Try.ntmps17
  go_wp2_with fail
  refine HNew.out.mono ?_
  rintro e w1 ⟨b, g, rfl, hb0, hrd, hgr, hg1⟩
  have HV1 := Lib.hid (HVar.out b g w1 hrd)
  have HB1 : Hid (Below w.heap.size w w1) := Lib.hid (below_grown hgr (Nat.le_refl _))
  have HB0 := Lib.hid hb0
  clear hb0 hrd hgr hg1
  dsimp only
  go_wp2_with fail
  refine HV1.out.mono ?_
  rintro e w2 ⟨rfl, ht2, hr2⟩
  have hnum := rnumber1_any b g r w2 hr2 HRB.out
  have HB2 : Hid (Below w.heap.size w w2) := Lib.hid (turn_up HB1.out ht2 HB0.out)
  rcases hr with rfl | ⟨k, t, rfl, hk⟩
  · have HNum : Hid (Calls Try.prog 39 #[.pointer (some ⟨b, 0, none⟩), .int .i64 1] w2 (RRead b g w2 0 7 [])) := Lib.hid hnum
    clear ht2 hr2 HV1 hnum
    dsimp only
    go_wp2_with fail
    refine HNum.out.mono ?_
    rintro e w3 ⟨rfl, ht3, hr3⟩
    have HF : Hid (GetX w 0 [] 0 4 (.returned (.tuple #[.slice none 0 0, .int .i64 0, .int .i64 4])) w3) := Lib.hid (getx_bad (turn_up HB2.out ht3 HB0.out))
    clear ht3 hr3 HNum
    dsimp only
    go_wp2
    go_ret3
    exact HF.out
  · have HNum : Hid (Calls Try.prog 39 #[.pointer (some ⟨b, 0, none⟩), .int .i64 1] w2 (RRead b g w2 k 0 t)) := Lib.hid hnum
    clear ht2 hr2 HV1 hnum
    dsimp only
    go_wp2_with fail
    refine HNum.out.mono ?_
    rintro e w3 ⟨rfl, ht3, hr3⟩
    have HF : Hid (GetX w 0 [] 0 4 (.returned (.tuple #[.slice none 0 0, .int .i64 0, .int .i64 4])) w3) := Lib.hid (getx_bad (turn_up HB2.out ht3 HB0.out))
    clear ht3 hr3 HNum
    dsimp only
    go_wp2
    go_ret3
    exact HF.out

/-! ### the row of flags, filled one by one -/
def fillF (D : List Bool) (j : Nat) : List Bool := D.take j ++ List.replicate (D.length - j) false
theorem fillF_zero (D : List Bool) : fillF D 0 = List.replicate D.length false := by simp [fillF]
theorem fillF_all (D : List Bool) : fillF D D.length = D := by simp [fillF]
theorem fillF_len (D : List Bool) (j : Nat) (h : j ≤ D.length) : (fillF D j).length = D.length := by
  unfold fillF; rw [List.length_append, List.length_take, List.length_replicate]; omega
theorem fillF_set (D : List Bool) (j : Nat) (h : j < D.length) : (fillF D j).set j (D.getD j false) = fillF D (j + 1) := by
  have e2 : D.length - j = (D.length - (j + 1)) + 1 := by omega
  have hl : (D.take j).length = j := by rw [List.length_take]; omega
  unfold fillF
  rw [e2, List.replicate_succ, List.set_append_right _ _ (by omega), hl, Nat.sub_self, List.set_cons_zero, List.take_succ_eq_append_getElem h, List.append_assoc, List.getD_eq_getElem?_getD, List.getElem?_eq_getElem h]
  rfl
theorem make_fullT (S : Nat) (hS : S ≤ 1000000) (W : World) : (Instr.makeSlice 27 (.int .u64 (S : Int)) (.int .u64 (S : Int))).run Try.prog W = .ok (.slice (some ⟨W.heap.size, 0, none⟩) S S) (W.alloc (.cells (roomF S) 4)) := by
  obtain ⟨i0, hi, hz0, hz1, hz2⟩ := info_parts Bl.info_bool
  have h := run_make (P := Try.prog) W 27 4 i0 (.bool false) Try.underlying27 hi hz0 .u64 .u64 (S : Int) (S : Int) (by omega) (by omega) (by rw [hz2]; omega) (by omega)
  rw [hz1, Int.toNat_natCast, Nat.mul_one] at h
  exact h
theorem roomF_list (S : Nat) : (roomF S).toList = (List.replicate S false).map Value.bool := by
  have h : (roomF S).toList = List.replicate S (Value.bool false) := toList_madeCells_one _ _
  rw [h, List.map_replicate]
theorem made_flags (W : World) (D : List Bool) (S : Nat) (hS : S ≤ 1000000) (hD : D.length = S) : (W.alloc (.cells (roomF S) 4)).ownsRow W.heap.size 4 1 (.slice (some ⟨W.heap.size, 0, none⟩) S S) S ((fillF D 0).map Value.bool) := by
  rw [fillF_zero, hD]
  exact ⟨by simp, .inr ⟨W.heap.size, S, roomF S, rfl, Nat.le_refl _, heap_alloc_new W _, Nat.le_refl _, by unfold maxLen; omega, by rw [roomF_size, Nat.mul_one], by rw [roomF_list]; exact List.take_of_length_le (by simp)⟩⟩
end Go.Proofs.Ytpcilohiokpmnaa.Nu
