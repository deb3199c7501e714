/-
  form, numbers, Count, Spread.
-/
import Derived.Test.YtpcilohiokpmnaaNuPlaces
import Derived.Test.YtpcilohiokpmnaaNuNum
import Derived.Test.YtpcilohiokpmnaaJBase
namespace Go.Proofs.Ytpcilohiokpmnaa.Nu
open Go.RowKit
open Dv (Turn nowhere)
open Pk (Turn.then)

theorem turn_below {w w' : World} (h : Below w.heap.size w w') : Turn w w' nowhere := ⟨h.os, h.tape, h.output, h.size, fun k hk _ => h.block k hk⟩
theorem below_turn {w w' : World} (h : Turn w w' nowhere) : Below w.heap.size w w' := ⟨h.os, h.tape, h.output, h.size, fun k hk => h.block k hk id⟩

set_option maxRecDepth 100000 in
set_option maxHeartbeats 1000000 in
theorem form_any (a : Option Addr) (n c : Nat) (l : List Bool) (w : World) (hs : Bl.Seg w a n c l) :
    Calls Try.prog 23 #[.slice a n c] w fun e w' => e = .returned (.int .i64 (formN l : Int)) ∧ Turn w w' nowhere := by
  have HC := Lib.hid (count_any a n c l w hs)
  have hL := hs.len
  have hcap := hs.cap
  have hle := hs.le
  unfold maxLen at hcap
  have hcl := cnt_le l
  have hf : formN l = if cnt l = 0 then 0 else if cnt l = n then 1 else 2 := by unfold formN; rw [hL]
  rw [hL] at hcl
  rw [hf]
  obtain ⟨z, hz⟩ : ∃ z, cnt l = z := ⟨_, rfl⟩
  rw [hz] at HC hcl ⊢
  clear hs hL hf hz
  by_cases h0 : z = 0
  · subst h0
    rw [if_pos rfl]
    go_enter Try.func23, Try.ntmps23
    go_wp2_with fail
    refine HC.out.mono ?_
    rintro e w1 ⟨rfl, hb⟩
    have HB := Lib.hid (turn_below hb)
    clear hb
    dsimp only
    go_wp2
    go_ret
    exact ⟨rfl, HB.out⟩
  · rw [if_neg h0]
    have e0 : ((z : Int) == 0) = false := beq_eq_false_iff_ne.2 (by omega)
    by_cases h1 : z = n
    · subst h1
      rw [if_pos rfl]
      have e1 : ((z : Int) == (z : Int)) = true := beq_self_eq_true _
      clear h0
      go_enter Try.func23, Try.ntmps23
      go_wp2_with fail
      refine HC.out.mono ?_
      rintro e w1 ⟨rfl, hb⟩
      have HB := Lib.hid (turn_below hb)
      clear hb
      dsimp only
      go_wp2
      go_ret
      exact ⟨rfl, HB.out⟩
    · rw [if_neg h1]
      have e1 : ((z : Int) == (n : Int)) = false := beq_eq_false_iff_ne.2 (by omega)
      clear h0 h1
      go_enter Try.func23, Try.ntmps23
      go_wp2_with fail
      refine HC.out.mono ?_
      rintro e w1 ⟨rfl, hb⟩
      have HB := Lib.hid (turn_below hb)
      clear hb
      dsimp only
      go_wp2
      go_ret
      exact ⟨rfl, HB.out⟩

set_option maxHeartbeats 1000000 in
theorem Count_any (a : Option Addr) (n c : Nat) (l : List Bool) (w : World) (hs : Bl.Seg w a n c l) :
    Calls Try.prog 13 #[.slice a n c] w fun e w' => e = .returned (.int .i64 (cnt l : Int)) ∧ Turn w w' nowhere := by
  have HC := Lib.hid (count_any a n c l w hs)
  clear hs
  go_enter Try.func13, Try.ntmps13
  go_wp2_with fail
  refine HC.out.mono ?_
  rintro e w1 ⟨rfl, hb⟩
  have HB := Lib.hid (turn_below hb)
  clear hb
  dsimp only
  go_wp2
  go_ret
  exact ⟨rfl, HB.out⟩

/-- what Spread tells -/
def spreadF (l : List Bool) (v : Int) : List Int := if (l.length : Int) - (cnt l : Int) = v then placesF 0 l else []
/-- a result of numbers -/
def IntF (w : World) (m : Nat) (L : List Int) (e : Ending) (w' : World) : Prop :=
  ∃ a k, e = .returned (.slice a m k) ∧ Js.Seg w' a m k L ∧ Turn w w' nowhere
theorem own_slice {w : World} {base n : Nat} {V : Value} {l : List Int} (h : w.ownsRow base 3 1 V n (l.map (Value.int .i64))) : ∃ a c, V = .slice a n c ∧ Js.Seg w a n c l := by
  have h1 := h.1
  rw [List.length_map, Nat.mul_one] at h1
  have hh := h
  rcases h.2 with ⟨rfl, rfl⟩ | ⟨g', cap, cur, rfl, _⟩
  · obtain rfl := List.eq_nil_of_length_eq_zero h1
    exact ⟨none, 0, rfl, Js.Seg.nil w⟩
  · exact ⟨_, cap, rfl, Js.Seg.own hh⟩

set_option maxHeartbeats 1000000 in
theorem spread_any (a : Option Addr) (n c : Nat) (l : List Bool) (v : Int) (m : Nat) (w : World) (hs : Bl.Seg w a n c l) (hn : n ≤ 1000000) (hm : (spreadF l v).length = m) :
    Calls Try.prog 15 #[.slice a n c, .int .i64 v] w (IntF w m (spreadF l v)) := by
  have HC := Lib.hid (count_any a n c l w hs)
  have hL := hs.len
  have hcl := cnt_le l
  have HP := Lib.hid (fun W hs => places_any a n c l W hs hn)
  have HS := Lib.hid hs
  unfold spreadF at hm ⊢
  rw [hL] at hcl hm ⊢
  have HPl : Hid ((placesF 0 l).length = n) := Lib.hid (by rw [places_len, hL])
  obtain ⟨z, hz⟩ : ∃ z, cnt l = z := ⟨_, rfl⟩
  rw [hz] at HC hcl hm ⊢
  clear hs hL hz
  have hw : IntKind.i64.wrap ((n : Int) - (z : Int)) = (n : Int) - (z : Int) := by rw [IntKind.wrap_i64]; omega
  by_cases h : (n : Int) - (z : Int) = v
  · rw [if_pos h] at hm ⊢
    rw [HPl.out] at hm
    subst hm
    have e1 : ((n : Int) - (z : Int) != v) = false := by rw [h]; exact bne_self_eq_false v
    clear h
    go_enter Try.func15, Try.ntmps15
    go_wp2_with fail
    refine HC.out.mono ?_
    rintro e w1 ⟨rfl, hb⟩
    have HB := Lib.hid (turn_below hb)
    have HP1 := Lib.hid (HP.out w1 (bseg_stay HS.out HB.out))
    clear hb
    dsimp only
    go_wp2_with fail
    refine HP1.out.mono ?_
    rintro e w2 ⟨⟨a', c', rfl, hown⟩, hb⟩
    have HF : Hid (IntF w n (placesF 0 l) (.returned (.slice a' n c')) w2) := Lib.hid (by
      obtain ⟨a2, c2, e2, hseg⟩ := own_slice hown
      cases e2
      exact ⟨_, _, rfl, hseg, Turn.then HB.out (turn_below hb)⟩)
    clear hown hb
    dsimp only
    go_wp2
    go_ret
    exact HF.out
  · rw [if_neg h] at hm ⊢
    obtain rfl : m = 0 := by rw [← hm]; rfl
    have e1 : ((n : Int) - (z : Int) != v) = true := bne_iff_ne.2 h
    clear h hm
    go_enter Try.func15, Try.ntmps15
    go_wp2_with fail
    refine HC.out.mono ?_
    rintro e w1 ⟨rfl, hb⟩
    have HB := Lib.hid (turn_below hb)
    clear hb
    dsimp only
    go_wp2
    go_ret
    exact ⟨none, 0, rfl, Js.Seg.nil w1, HB.out⟩

/-! ### numbers -/
/-- the first k are numbers, the others 0 -/
def fillN (l : List Bool) (k : Nat) : List Int := numsL (l.take k) ++ List.replicate (l.length - k) 0
theorem fillN_len (l : List Bool) (k : Nat) (h : k ≤ l.length) : (fillN l k).length = l.length := by
  unfold fillN
  rw [List.length_append, nums_len, List.length_take, List.length_replicate]
  omega
theorem fillN_zero (l : List Bool) : fillN l 0 = List.replicate l.length 0 := by simp [fillN, numsL]
theorem fillN_all (l : List Bool) : fillN l l.length = numsL l := by simp [fillN]
theorem fillN_succ (l : List Bool) (k : Nat) (h : k < l.length) : (l.getD k false = false → fillN l (k + 1) = fillN l k) ∧ (l.getD k false = true → fillN l (k + 1) = (fillN l k).set k 1) ∧ (fillN l k).getD k 0 = 0 := by
  have e : l.getD k false = l[k] := by rw [List.getD_eq_getElem?_getD, List.getElem?_eq_getElem h]; rfl
  have e2 : l.length - k = (l.length - (k + 1)) + 1 := by omega
  have hlk : (numsL (l.take k)).length = k := by rw [nums_len, List.length_take]; omega
  have e3 : numsL (l.take (k + 1)) = numsL (l.take k) ++ [if l[k] = true then 1 else 0] := by
    rw [List.take_succ_eq_append_getElem h]; unfold numsL; rw [List.map_append, List.map_cons, List.map_nil]
  rw [e]
  unfold fillN
  rw [e3, e2, List.replicate_succ]
  refine ⟨fun hb => ?_, fun hb => ?_, ?_⟩
  · rw [hb, if_neg (by decide), List.append_assoc]; rfl
  · rw [hb, if_pos rfl, List.append_assoc, List.set_append_right _ _ (by omega), hlk, Nat.sub_self]; rfl
  · rw [List.getD_eq_getElem?_getD, List.getElem?_append_right (by omega), hlk, Nat.sub_self]; rfl

set_option maxRecDepth 100000 in
set_option maxHeartbeats 1000000 in
theorem numbers_any (a : Option Addr) (n c : Nat) (l : List Bool) (w : World) (hs : Bl.Seg w a n c l) (hn : n ≤ 65536) :
    Calls Try.prog 26 #[.slice a n c] w fun e w' => e = .returned (.slice (some ⟨w.heap.size, 0, none⟩) n n) ∧ Us.Seg w' (some ⟨w.heap.size, 0, none⟩) n n (numsL l) ∧ Turn w w' nowhere := by
  have hmk := Pk.make_nums n (by omega)
  have HL := Lib.hid hs.len
  have HLt := Lib.hid (bseg_lt hs)
  have HO0 : Hid ((w.alloc (.cells (Pk.roomU n) 46)).ownsRow w.heap.size 46 1 (.slice (some ⟨w.heap.size, 0, none⟩) n n) n ((fillN l 0).map (Value.int .u64))) := Lib.hid (by
    rw [fillN_zero, HL.out]
    exact Pk.made_own w n (by omega))
  have HB0 : Hid (Below w.heap.size w (w.alloc (.cells (Pk.roomU n) 46))) := Lib.hid ((Below.refl _ w).alloc (Nat.le_refl _) _)
  have HS := Lib.hid hs
  clear hs
  go_enter Try.func26, Try.ntmps26
  go_wp2
  go_loopw [11] (fun si wr => ∃ k : Nat, k ≤ n ∧ si = .int .i64 k ∧ Hid (wr.ownsRow w.heap.size 46 1 (.slice (some ⟨w.heap.size, 0, none⟩) n n) n ((fillN l k).map (Value.int .u64))) ∧ Hid (Below w.heap.size w wr)) (fun si _ => n - (intOf si).toNat)
  case atStart => exact ⟨0, Nat.zero_le _, rfl, HO0, HB0⟩
  case round =>
    obtain ⟨k, hk, rfl, HO, HB⟩ := hrel
    by_cases hlt : k < n
    · obtain ⟨g, o, rfl, hc⟩ := (bseg_below HS.out HB.out rfl).addr (by omega)
      have hck := hc k hlt
      obtain ⟨f1, f2, f3⟩ := fillN_succ l k (by rw [HL.out]; exact hlt)
      obtain ⟨b, hb⟩ : ∃ b, l.getD k false = b := ⟨_, rfl⟩
      rw [hb] at hck f1 f2
      clear hc hb
      cases b with
      | false =>
        have HO2 : Hid (wr.ownsRow w.heap.size 46 1 (.slice (some ⟨w.heap.size, 0, none⟩) n n) n ((fillN l (k + 1)).map (Value.int .u64))) := Lib.hid (by rw [f1 rfl]; exact HO.out)
        clear f1 f2 f3
        go_wp2
        go_roundw
        case rel => exact ⟨k + 1, by omega, by go_num, HO2, HB⟩
        case measure => simp [intOf]; omega
      | true =>
        have hcell := HO.out.cellAt k (by omega)
        have hkl : k < (fillN l k).length := by rw [fillN_len l k (by rw [HL.out]; exact hk), HL.out]; exact hlt
        rw [List.getElem?_map, List.getElem?_eq_getElem hkl] at hcell
        simp only [Option.map_some] at hcell
        have hfree := HO.out.frozenAt k
        have HO2 : Hid ((wr.setCell ⟨w.heap.size, k, none⟩ (.int .u64 1)).ownsRow w.heap.size 46 1 (.slice (some ⟨w.heap.size, 0, none⟩) n n) n ((fillN l (k + 1)).map (Value.int .u64))) := Lib.hid (by
          rw [f2 rfl, List.map_set]
          exact (HO.out.stored k (.int .u64 1)).1)
        have HB2 : Hid (Below w.heap.size w (wr.setCell ⟨w.heap.size, k, none⟩ (.int .u64 1))) := Lib.hid (HB.out.setCell (p := ⟨w.heap.size, k, none⟩) (Nat.le_refl _) _)
        generalize (fillN l k)[k]'_ = z at hcell
        clear f1 f2 f3
        go_wp2
        go_roundw
        case rel => exact ⟨k + 1, by omega, by go_num, HO2, HB2⟩
        case measure => simp [intOf]; omega
    · obtain rfl : k = n := by omega
      have HF : Hid (Us.Seg wr (some ⟨w.heap.size, 0, none⟩) k k (numsL l)) := Lib.hid (by
        have h := HO.out
        have e : fillN l k = numsL l := by have := fillN_all l; rwa [HL.out] at this
        rw [e] at h
        exact Us.Seg.own h)
      go_wp2
      go_ret
      exact ⟨rfl, HF.out, turn_below HB.out⟩
end Go.Proofs.Ytpcilohiokpmnaa.Nu
