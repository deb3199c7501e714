/-
  Get: flags read again, and how many bytes.
-/
import Derived.Test.YtpcilohiokpmnaaNuGetP
namespace Go.Proofs.Ytpcilohiokpmnaa.Nu
open Go.RowKit
open Dv (Turn nowhere)
open Pk (Turn.then)
open Oct (Rd ReadN ReadV readV ofB)
open In (At turn_read turn_more turn_up new_any oseg below_grown)

/-- flags, how many bytes, an error: the answer plain -/
def GetX (w : World) (m : Nat) (L : List Bool) (z E : Int) (e : Ending) (w' : World) : Prop :=
  ∃ a k, e = .returned (.tuple #[.slice a m k, .int .i64 z, .int .i64 E]) ∧ Bl.Seg w' a m k L ∧ Turn w w' nowhere
theorem getx_bad {w w' : World} (h : Below w.heap.size w w') : GetX w 0 [] 0 4 (.returned (.tuple #[.slice none 0 0, .int .i64 0, .int .i64 4])) w' := ⟨none, 0, rfl, Bl.Seg.nil w', turn_below h⟩

set_option maxRecDepth 100000 in
set_option maxHeartbeats 2000000 in
/-- the number of flags can't be read, or is too great -/
theorem get_count (a : Option Addr) (n c : Nat) (bs : List Int) (w : World) (hs : Bs.Seg w a n c bs) (hb : Oct.IsB bs) (hn : n ≤ 100000000) (hc : readC bs = none) :
    Calls Try.prog 10 #[.slice a n c] w (GetX w 0 [] 0 4) := by
  have HNew := Lib.hid (new_any a n c bs w (oseg hs) (by omega))
  have HB := Lib.hid hb
  have hbad : ¬ (readV 0 0 bs).2.1 = 0 ∨ 4096 < (readV 0 0 bs).1 := by
    unfold readC at hc
    split at hc
    · rename_i h; exact h
    · cases hc
  obtain ⟨v, er, nn, hv⟩ : ∃ v er nn, readV 0 0 bs = (v, er, nn) := ⟨_, _, _, rfl⟩
  have HVe := Lib.hid hv
  have hv0 : er = 0 → 0 ≤ v := fun h0 => by subst h0; exact (In.var_readV bs hb v nn hv).1
  rw [hv] at hbad
  dsimp only at hbad
  clear hs hb hn hc hv
  by_cases he : er = 0
  · subst he
    have h4 : 4096 < v := by simpa using hbad
    have hv1 := hv0 rfl
    clear hbad hv0
    go_enter Try.func10, Try.ntmps10
    go_wp2_with fail
    refine HNew.out.mono ?_
    rintro e w1 ⟨b, g, rfl, hb0, hg0, hb1, hg1, hrd, hgr⟩
    have HVar := Lib.hid (Oct.var_any b g bs w1 hrd HB.out)
    unfold ReadV at HVar
    rw [HVe.out] at HVar
    have HB1 : Hid (Below w.heap.size w w1) := Lib.hid (below_grown hgr (Nat.le_refl _))
    have HB0 := Lib.hid hb0
    clear hb0 hg0 hb1 hg1 hrd hgr
    dsimp only at HVar
    dsimp only
    go_wp2_with fail
    refine HVar.out.mono ?_
    rintro e w2 ⟨rfl, hg2, hr2⟩
    have HF : Hid (GetX w 0 [] 0 4 (.returned (.tuple #[.slice none 0 0, .int .i64 0, .int .i64 4])) w2) := Lib.hid (getx_bad (turn_up HB1.out (turn_read hg2) HB0.out))
    clear hg2 hr2 HVar
    dsimp only
    go_wp2
    go_ret3
    exact HF.out
  · have he1 : (er != 0) = true := bne_iff_ne.2 he
    have he2 : (er == 0) = false := beq_eq_false_iff_ne.2 he
    clear hbad hv0
    go_enter Try.func10, Try.ntmps10
    go_wp2_with fail
    refine HNew.out.mono ?_
    rintro e w1 ⟨b, g, rfl, hb0, hg0, hb1, hg1, hrd, hgr⟩
    have HVar := Lib.hid (Oct.var_any b g bs w1 hrd HB.out)
    unfold ReadV at HVar
    rw [HVe.out] at HVar
    have HB1 : Hid (Below w.heap.size w w1) := Lib.hid (below_grown hgr (Nat.le_refl _))
    have HB0 := Lib.hid hb0
    clear hb0 hg0 hb1 hg1 hrd hgr
    dsimp only at HVar
    dsimp only
    go_wp2_with fail
    refine HVar.out.mono ?_
    rintro e w2 ⟨rfl, hg2, hr2⟩
    have HF : Hid (GetX w 0 [] 0 4 (.returned (.tuple #[.slice none 0 0, .int .i64 0, .int .i64 4])) w2) := Lib.hid (getx_bad (turn_up HB1.out (turn_read hg2) HB0.out))
    clear hg2 hr2 HVar
    dsimp only
    go_wp2
    go_ret3
    exact HF.out

set_option maxRecDepth 100000 in
set_option maxHeartbeats 4000000 in
/-- behind the number of flags -/
theorem get_more (a : Option Addr) (n c : Nat) (bs : List Int) (m : Nat) (r : List Int) (w : World) (hs : Bs.Seg w a n c bs) (hb : Oct.IsB bs) (hn : n ≤ 100000000) (hc : readC bs = some (m, r)) (M : Nat) (L : List Bool) (z E : Int) (hR : resN bs (getN bs) = (L, z, E)) (hM : L.length = M) :
    Calls Try.prog 10 #[.slice a n c] w (GetX w M L z E) := by
  have HNew := Lib.hid (new_any a n c bs w (oseg hs) (by omega))
  have HB := Lib.hid hb
  have hlen := hs.len
  obtain ⟨hm, hbe⟩ := readC_some hb hc
  have hrB : Oct.IsB r := isB_right (hbe ▸ hb)
  have hrl : r.length ≤ n := by
    have := congrArg List.length hbe
    rw [List.length_append] at this
    omega
  have hV : ∃ nn, readV 0 0 bs = ((m : Int), 0, nn) ∧ bs.drop nn = r := by
    refine ⟨(Oct.varB 9 (m : Int)).length, ?_, ?_⟩
    · rw [hbe]; exact In.readV_var m r (by omega)
    · rw [hbe]; exact In.drop_var m r
  obtain ⟨nn, hv, hd⟩ := hV
  have HVar : Hid (∀ b g W, Rd W b g bs → Calls Try.prog 28 #[.pointer (some ⟨b, 0, none⟩)] W fun e w' => e = .returned (.tuple #[.int .u64 (m : Int), .int .i64 0]) ∧ W.grownBy w' (some b) ∧ Rd w' b g r) := Lib.hid fun b g W h => by
    have := Oct.var_any b g bs W h HB.out
    unfold ReadV at this
    rw [hv] at this
    dsimp only at this
    rw [hd] at this
    exact this
  unfold getN rdN at hR
  rw [hc] at hR
  have hm4 : ¬ (4096 : Int) < (m : Int) := by omega
  have hwm : IntKind.i64.wrap (m : Int) = (m : Int) := by rw [IntKind.wrap_i64]; omega
  clear hv hd hc hbe
  match r, hrB, hrl, hR, HVar with
  | [], _, _, hR, HVar =>
    simp only [resN, Prod.mk.injEq] at hR
    obtain ⟨rfl, rfl, rfl⟩ := hR
    obtain rfl : M = 0 := by rw [← hM]; rfl
    clear hs hb hM
    go_enter Try.func10, Try.ntmps10
    go_wp2_with fail
    refine HNew.out.mono ?_
    rintro e w1 ⟨b, g, rfl, hb0, hg0, hb1, hg1, hrd, hgr⟩
    have HVar1 := Lib.hid (HVar.out b g w1 hrd)
    have HB1 : Hid (Below w.heap.size w w1) := Lib.hid (below_grown hgr (Nat.le_refl _))
    have HB0 := Lib.hid hb0
    clear hb0 hg0 hb1 hg1 hrd hgr
    dsimp only
    go_wp2_with fail
    refine HVar1.out.mono ?_
    rintro e w2 ⟨rfl, hg2, hr2⟩
    have HNum := Lib.hid (Oct.number_more b g [] 1 w2 hr2 (by decide) (by decide) (by decide))
    have HF : Hid (GetX w 0 [] 0 4 (.returned (.tuple #[.slice none 0 0, .int .i64 0, .int .i64 4])) w2) := Lib.hid (getx_bad (turn_up HB1.out (turn_read hg2) HB0.out))
    clear hg2 hr2 HVar1
    dsimp only
    go_wp2_with fail
    refine HNum.out.mono ?_
    rintro e w3 ⟨rfl, rfl⟩
    dsimp only
    go_wp2
    go_ret3
    exact HF.out
  | k :: r, hrB, hrl, hR, HVar =>
    have hk := hrB k (by simp)
    have hr2B : Oct.IsB r := fun x hx => hrB x (by simp [hx])
    have HRB := Lib.hid hrB
    simp only at hR
    have HKd := Lib.hid (fun b g W h => get_kind b g m k r W h hr2B hm)
    obtain ⟨X, hX⟩ : ∃ X, rdK m k r = X := ⟨_, rfl⟩
    rw [hX] at hR HKd
    have HX := Lib.hid hX
    clear hs hb hX hr2B
    have hwk : IntKind.u64.wrap k = k := by rw [IntKind.wrap_u64]; omega
    go_enter Try.func10, Try.ntmps10
    go_wp2_with fail
    refine HNew.out.mono ?_
    rintro e w1 ⟨b, g, rfl, hb0, hg0, hb1, hg1, hrd, hgr⟩
    have HVar1 := Lib.hid (HVar.out b g w1 hrd)
    have HB1 : Hid (Below w.heap.size w w1) := Lib.hid (below_grown hgr (Nat.le_refl _))
    have HB0 := Lib.hid hb0
    clear hb0 hg0 hb1 hg1 hrd hgr
    dsimp only
    go_wp2_with fail
    refine HVar1.out.mono ?_
    rintro e w2 ⟨rfl, hg2, hr2⟩
    have HNum : Hid (Calls Try.prog 29 #[.pointer (some ⟨b, 0, none⟩), .int .i64 1] w2 (ReadN b g w2 k r)) := Lib.hid (by
      have := Oct.number_yes b g (k :: r) 1 w2 hr2 HRB.out (by decide) (by decide) (by simp)
      rwa [show ofB ((k :: r).take 1) = k from by simp [ofB]] at this)
    unfold ReadN at HNum
    have HB2 : Hid (Below w.heap.size w w2) := Lib.hid (turn_up HB1.out (turn_read hg2) HB0.out)
    clear hg2 hr2 HVar1
    dsimp only
    go_wp2_with fail
    refine HNum.out.mono ?_
    rintro e w3 ⟨rfl, hg3, hr3⟩
    have HK3 := Lib.hid (HKd.out b g w3 hr3)
    have HB3 : Hid (Below w.heap.size w w3) := Lib.hid (turn_up HB2.out (turn_read hg3) HB0.out)
    clear hg3 hr3 HNum
    dsimp only
    go_wp2_with fail
    refine HK3.out.mono ?_
    rintro e w4 ⟨hT4, -, hx⟩
    have HB4 : Hid (Below w.heap.size w w4) := Lib.hid (turn_up HB3.out hT4 HB0.out)
    clear hT4
    cases X with
    | none =>
      obtain ⟨E1, hE1, rfl⟩ := hx
      simp only [resN, Prod.mk.injEq] at hR
      obtain ⟨rfl, rfl, rfl⟩ := hR
      obtain rfl : M = 0 := by rw [← hM]; rfl
      have HF : Hid (GetX w 0 [] 0 4 (.returned (.tuple #[.slice none 0 0, .int .i64 0, .int .i64 4])) w4) := Lib.hid (getx_bad HB4.out)
      have hEb : (E1 != 0) = true := bne_iff_ne.2 hE1
      clear hM
      dsimp only
      go_wp2_with fail
      go_ret3
      exact HF.out
    | some q =>
      obtain ⟨l, rest⟩ := q
      obtain ⟨a4, c4, rfl, hs4, hr4⟩ := hx
      have HForm := Lib.hid (form_any a4 l.length c4 l w4 hs4)
      have hfl := formN_le l
      obtain ⟨f, hf⟩ : ∃ f, formN l = f := ⟨_, rfl⟩
      obtain ⟨p, hp⟩ : ∃ p, l.length = p := ⟨_, rfl⟩
      have hwf : IntKind.u64.wrap (f : Int) = (f : Int) := by rw [IntKind.wrap_u64]; omega
      simp only at hR
      rw [hf] at HForm hR hfl
      rw [hp] at HForm hs4 ⊢
      have HS4 := Lib.hid hs4
      have HR4 := Lib.hid hr4
      have HP := Lib.hid hp
      by_cases hfk : (f : Int) = k
      · rw [if_pos hfk] at hR
        simp only [resN, Prod.mk.injEq] at hR
        obtain ⟨rfl, hz, rfl⟩ := hR
        obtain rfl : p = M := by rw [← hM, HP.out]
        have hfk1 : ((f : Int) != k) = false := by rw [hfk]; exact bne_self_eq_false k
        have hrl2 : rest.length ≤ n := by
          have h1 := HX.out
          unfold rdK at h1
          split at h1
          · cases h1; simp at hrl; omega
          · split at h1
            · unfold rdP at h1
              split at h1
              · cases h1
              · split at h1
                · cases h1
                · cases h1; rw [List.length_drop]; simp at hrl; omega
            · cases h1
        obtain ⟨t, ht⟩ : ∃ t, rest.length = t := ⟨_, rfl⟩
        rw [hlen, ht] at hz
        rw [ht] at hrl2
        have HLf := Lib.hid (fun W h => Oct.left_yes b g rest W h)
        rw [ht] at HLf
        have hws : IntKind.i64.wrap ((n : Int) - (t : Int)) = z := by rw [IntKind.wrap_i64]; omega
        have HZ := Lib.hid hz
        clear hs4 hr4 hp hM hf hfk hz ht hlen
        dsimp only
        go_wp2_with fail
        refine HForm.out.mono ?_
        rintro e w5 ⟨rfl, hT5⟩
        have HL5 := Lib.hid (HLf.out w5 (In.Turn.rd hT5 HR4.out id id))
        have HF : Hid (GetX w p l z 0 (.returned (.tuple #[.slice a4 p c4, .int .i64 z, .int .i64 0])) w5) := Lib.hid ⟨a4, c4, rfl, bseg_stay HS4.out hT5, Turn.then (turn_below HB4.out) hT5⟩
        clear hT5 HForm
        dsimp only
        go_wp2_with (first
          | (go_at_call 31; refine HL5.out.mono ?_; rintro e w' ⟨rfl, rfl⟩)
          | fail)
        go_ret3
        exact HF.out
      · rw [if_neg hfk] at hR
        simp only [resN, Prod.mk.injEq] at hR
        obtain ⟨rfl, rfl, rfl⟩ := hR
        obtain rfl : M = 0 := by rw [← hM]; rfl
        have hfk1 : ((f : Int) != k) = true := bne_iff_ne.2 hfk
        clear hs4 hr4 hp hM hf hfk
        dsimp only
        go_wp2_with fail
        refine HForm.out.mono ?_
        rintro e w5 ⟨rfl, hT5⟩
        have HF : Hid (GetX w 0 [] 0 4 (.returned (.tuple #[.slice none 0 0, .int .i64 0, .int .i64 4])) w5) := Lib.hid (getx_bad (below_turn (Turn.then (turn_below HB4.out) hT5)))
        clear hT5 HForm
        dsimp only
        go_wp2
        go_ret3
        exact HF.out

/-- Get, in the laws' form. -/
theorem got_form {bs : List Int} {L : List Bool} {z E : Int} {m : Nat} (hR : resN bs (getN bs) = (L, z, E)) (hm : L.length = m) (hb : Oct.IsB bs) (hn : bs.length ≤ 100000000) (a : Option Addr) (n c : Nat) (W : World) (hs : Bs.Seg W a n c bs) :
    Calls Try.prog 10 #[.slice a n c] W (GetX W m L z E) := by
  have hl := hs.len
  cases hc : readC bs with
  | none =>
    have h := hR
    unfold getN rdN at h
    rw [hc] at h
    simp only [resN, Prod.mk.injEq] at h
    obtain ⟨rfl, rfl, rfl⟩ := h
    obtain rfl : m = 0 := by rw [← hm]; rfl
    exact get_count a n c bs W hs hb (by omega) hc
  | some p =>
    obtain ⟨k, r⟩ := p
    exact get_more a n c bs k r W hs hb (by omega) hc m L z E hR hm
end Go.Proofs.Ytpcilohiokpmnaa.Nu
