/-
  What the program's and the document's functions do, in memory and as plain functions: NuForm, NuPut.
-/

import Derived.Test.YtljanfnhmhimiaaGreatSmD
import Derived.Test.YtljanfnhmhimiaaGreatSmE
import Derived.Test.YtljanfnhmhimiaaGreatSmH
import Derived.Test.YtljanfnhmhimiaaGreatSmR

namespace Go.Proofs.YtljanfnhmhimiaaGreat.Nu
open Go.RowKit
open Dv (Turn nowhere)
open Pk (Turn.then)

theorem turn_below {w w' : World} (h : Below w.heap.size w w') : Turn w w' nowhere := ⟨h.os, h.tape, h.output, h.size, fun k hk _ => h.block k hk⟩
theorem below_turn {w w' : World} (h : Turn w w' nowhere) : Below w.heap.size w w' := ⟨h.os, h.tape, h.output, h.size, fun k hk => h.block k hk id⟩

set_option maxRecDepth 100000 in
set_option maxHeartbeats 1000000 in
theorem form_any (a : Option Addr) (n c : Nat) (l : List Bool) (w : World) (hs : Bl.Seg w a n c l) :
    Calls Tryz.prog 48 #[.slice a n c] w fun e w' => e = .returned (.int .i64 (formN l : Int)) ∧ Turn w w' nowhere := by
  have HC := Lib.hid (count_any a n c l w hs)
  have hL := hs.len
  have hcap := hs.cap
  have hle := hs.le
  unfold maxLen at hcap
  have hcl := cnt_le l
  have hf : formN l = if cnt l = 0 then 0 else if cnt l = n then 1 else 2 := by unfold formN; rw [hL]
  rw [hL] at hcl
  rw [hf]
  obtain ⟨z, hz⟩ : ∃ z, cnt l = z := ⟨_, rfl⟩
  rw [hz] at HC hcl ⊢
  clear hs hL hf hz
  by_cases h0 : z = 0
  · subst h0
    rw [if_pos rfl]
    go_enter Tryz.func48, Tryz.ntmps48
    go_wp2_with fail
    refine HC.out.mono ?_
    rintro e w1 ⟨rfl, hb⟩
    have HB := Lib.hid (turn_below hb)
    clear hb
    dsimp only
    go_wp2
    go_ret
    exact ⟨rfl, HB.out⟩
  · rw [if_neg h0]
    have e0 : ((z : Int) == 0) = false := beq_eq_false_iff_ne.2 (by omega)
    by_cases h1 : z = n
    · subst h1
      rw [if_pos rfl]
      have e1 : ((z : Int) == (z : Int)) = true := beq_self_eq_true _
      clear h0
      go_enter Tryz.func48, Tryz.ntmps48
      go_wp2_with fail
      refine HC.out.mono ?_
      rintro e w1 ⟨rfl, hb⟩
      have HB := Lib.hid (turn_below hb)
      clear hb
      dsimp only
      go_wp2
      go_ret
      exact ⟨rfl, HB.out⟩
    · rw [if_neg h1]
      have e1 : ((z : Int) == (n : Int)) = false := beq_eq_false_iff_ne.2 (by omega)
      clear h0 h1
      go_enter Tryz.func48, Tryz.ntmps48
      go_wp2_with fail
      refine HC.out.mono ?_
      rintro e w1 ⟨rfl, hb⟩
      have HB := Lib.hid (turn_below hb)
      clear hb
      dsimp only
      go_wp2
      go_ret
      exact ⟨rfl, HB.out⟩

set_option maxHeartbeats 1000000 in
theorem Count_any (a : Option Addr) (n c : Nat) (l : List Bool) (w : World) (hs : Bl.Seg w a n c l) :
    Calls Tryz.prog 60 #[.slice a n c] w fun e w' => e = .returned (.int .i64 (cnt l : Int)) ∧ Turn w w' nowhere := by
  have HC := Lib.hid (count_any a n c l w hs)
  clear hs
  go_enter Tryz.func60, Tryz.ntmps60
  go_wp2_with fail
  refine HC.out.mono ?_
  rintro e w1 ⟨rfl, hb⟩
  have HB := Lib.hid (turn_below hb)
  clear hb
  dsimp only
  go_wp2
  go_ret
  exact ⟨rfl, HB.out⟩

/-- what Spread tells -/
def spreadF (l : List Bool) (v : Int) : List Int := if (l.length : Int) - (cnt l : Int) = v then placesF 0 l else []
/-- a result of numbers, an own row -/
def IntO (w : World) (m : Nat) (L : List Int) (e : Ending) (w' : World) : Prop :=
  ∃ a k, e = .returned (.slice a m k) ∧ w'.ownsRow w.heap.size 3 1 (.slice a m k) m (L.map (Value.int .i64)) ∧ Turn w w' nowhere

set_option maxHeartbeats 1000000 in
theorem spread_own (a : Option Addr) (n c : Nat) (l : List Bool) (v : Int) (m : Nat) (w : World) (hs : Bl.Seg w a n c l) (hn : n ≤ 1000000) (hm : (spreadF l v).length = m) :
    Calls Tryz.prog 65 #[.slice a n c, .int .i64 v] w (IntO w m (spreadF l v)) := by
  have HC := Lib.hid (count_any a n c l w hs)
  have hL := hs.len
  have hcl := cnt_le l
  have HP := Lib.hid (fun W hs => places_any a n c l W hs hn)
  have HS := Lib.hid hs
  unfold spreadF at hm ⊢
  rw [hL] at hcl hm ⊢
  have HPl : Hid ((placesF 0 l).length = n) := Lib.hid (by rw [places_len, hL])
  obtain ⟨z, hz⟩ : ∃ z, cnt l = z := ⟨_, rfl⟩
  rw [hz] at HC hcl hm ⊢
  clear hs hL hz
  have hw : IntKind.i64.wrap ((n : Int) - (z : Int)) = (n : Int) - (z : Int) := by rw [IntKind.wrap_i64]; omega
  by_cases h : (n : Int) - (z : Int) = v
  · rw [if_pos h] at hm ⊢
    rw [HPl.out] at hm
    subst hm
    have e1 : ((n : Int) - (z : Int) != v) = false := by rw [h]; exact bne_self_eq_false v
    clear h
    go_enter Tryz.func65, Tryz.ntmps65
    go_wp2_with fail
    refine HC.out.mono ?_
    rintro e w1 ⟨rfl, hb⟩
    have HB := Lib.hid (turn_below hb)
    have HP1 := Lib.hid (HP.out w1 (bseg_stay HS.out HB.out))
    clear hb
    dsimp only
    go_wp2_with fail
    refine HP1.out.mono ?_
    rintro e w2 ⟨⟨a', c', rfl, hown⟩, hb⟩
    have HF : Hid (IntO w n (placesF 0 l) (.returned (.slice a' n c')) w2) := Lib.hid ⟨_, _, rfl, Oct.ownsRow_mono hown HB.out.size, Turn.then HB.out (turn_below hb)⟩
    clear hown hb
    dsimp only
    go_wp2
    go_ret
    exact HF.out
  · rw [if_neg h] at hm ⊢
    obtain rfl : m = 0 := by rw [← hm]; rfl
    have e1 : ((n : Int) - (z : Int) != v) = true := bne_iff_ne.2 h
    clear h hm
    go_enter Tryz.func65, Tryz.ntmps65
    go_wp2_with fail
    refine HC.out.mono ?_
    rintro e w1 ⟨rfl, hb⟩
    have HB := Lib.hid (turn_below hb)
    clear hb
    dsimp only
    go_wp2
    go_ret
    exact ⟨none, 0, rfl, World.ownsRow_nil _ _ _ _, HB.out⟩

/-! ### numbers -/
/-- the first k are numbers, the others 0 -/
def fillN (l : List Bool) (k : Nat) : List Int := numsL (l.take k) ++ List.replicate (l.length - k) 0
theorem fillN_len (l : List Bool) (k : Nat) (h : k ≤ l.length) : (fillN l k).length = l.length := by
  unfold fillN
  rw [List.length_append, nums_len, List.length_take, List.length_replicate]
  omega
theorem fillN_zero (l : List Bool) : fillN l 0 = List.replicate l.length 0 := by simp [fillN, numsL]
theorem fillN_all (l : List Bool) : fillN l l.length = numsL l := by simp [fillN]
theorem fillN_succ (l : List Bool) (k : Nat) (h : k < l.length) : (l.getD k false = false → fillN l (k + 1) = fillN l k) ∧ (l.getD k false = true → fillN l (k + 1) = (fillN l k).set k 1) ∧ (fillN l k).getD k 0 = 0 := by
  have e : l.getD k false = l[k] := by rw [List.getD_eq_getElem?_getD, List.getElem?_eq_getElem h]; rfl
  have e2 : l.length - k = (l.length - (k + 1)) + 1 := by omega
  have hlk : (numsL (l.take k)).length = k := by rw [nums_len, List.length_take]; omega
  have e3 : numsL (l.take (k + 1)) = numsL (l.take k) ++ [if l[k] = true then 1 else 0] := by
    rw [List.take_succ_eq_append_getElem h]; unfold numsL; rw [List.map_append, List.map_cons, List.map_nil]
  rw [e]
  unfold fillN
  rw [e3, e2, List.replicate_succ]
  refine ⟨fun hb => ?_, fun hb => ?_, ?_⟩
  · rw [hb, if_neg (by decide), List.append_assoc]; rfl
  · rw [hb, if_pos rfl, List.append_assoc, List.set_append_right _ _ (by omega), hlk, Nat.sub_self]; rfl
  · rw [List.getD_eq_getElem?_getD, List.getElem?_append_right (by omega), hlk, Nat.sub_self]; rfl

set_option maxRecDepth 100000 in
set_option maxHeartbeats 1000000 in
theorem numbers_any (a : Option Addr) (n c : Nat) (l : List Bool) (w : World) (hs : Bl.Seg w a n c l) (hn : n ≤ 65536) :
    Calls Tryz.prog 51 #[.slice a n c] w fun e w' => e = .returned (.slice (some ⟨w.heap.size, 0, none⟩) n n) ∧ Us.Seg w' (some ⟨w.heap.size, 0, none⟩) n n (numsL l) ∧ Turn w w' nowhere := by
  have hmk := Pk.make_nums n (by omega)
  have HL := Lib.hid hs.len
  have HLt := Lib.hid (bseg_lt hs)
  have HO0 : Hid ((w.alloc (.cells (Pk.roomU n) 85)).ownsRow w.heap.size 85 1 (.slice (some ⟨w.heap.size, 0, none⟩) n n) n ((fillN l 0).map (Value.int .u64))) := Lib.hid (by
    rw [fillN_zero, HL.out]
    exact Pk.made_own w n (by omega))
  have HB0 : Hid (Below w.heap.size w (w.alloc (.cells (Pk.roomU n) 85))) := Lib.hid ((Below.refl _ w).alloc (Nat.le_refl _) _)
  have HS := Lib.hid hs
  clear hs
  go_enter Tryz.func51, Tryz.ntmps51
  go_wp2
  go_loopw [11] (fun si wr => ∃ k : Nat, k ≤ n ∧ si = .int .i64 k ∧ Hid (wr.ownsRow w.heap.size 85 1 (.slice (some ⟨w.heap.size, 0, none⟩) n n) n ((fillN l k).map (Value.int .u64))) ∧ Hid (Below w.heap.size w wr)) (fun si _ => n - (intOf si).toNat)
  case atStart => exact ⟨0, Nat.zero_le _, rfl, HO0, HB0⟩
  case round =>
    obtain ⟨k, hk, rfl, HO, HB⟩ := hrel
    by_cases hlt : k < n
    · obtain ⟨g, o, rfl, hc⟩ := (bseg_below HS.out HB.out rfl).addr (by omega)
      have hck := hc k hlt
      obtain ⟨f1, f2, f3⟩ := fillN_succ l k (by rw [HL.out]; exact hlt)
      obtain ⟨b, hb⟩ : ∃ b, l.getD k false = b := ⟨_, rfl⟩
      rw [hb] at hck f1 f2
      clear hc hb
      cases b with
      | false =>
        have HO2 : Hid (wr.ownsRow w.heap.size 85 1 (.slice (some ⟨w.heap.size, 0, none⟩) n n) n ((fillN l (k + 1)).map (Value.int .u64))) := Lib.hid (by rw [f1 rfl]; exact HO.out)
        clear f1 f2 f3
        go_wp2
        go_roundw
        case rel => exact ⟨k + 1, by omega, by go_num, HO2, HB⟩
        case measure => simp [intOf]; omega
      | true =>
        have hcell := HO.out.cellAt k (by omega)
        have hkl : k < (fillN l k).length := by rw [fillN_len l k (by rw [HL.out]; exact hk), HL.out]; exact hlt
        rw [List.getElem?_map, List.getElem?_eq_getElem hkl] at hcell
        simp only [Option.map_some] at hcell
        have hfree := HO.out.frozenAt k
        have HO2 : Hid ((wr.setCell ⟨w.heap.size, k, none⟩ (.int .u64 1)).ownsRow w.heap.size 85 1 (.slice (some ⟨w.heap.size, 0, none⟩) n n) n ((fillN l (k + 1)).map (Value.int .u64))) := Lib.hid (by
          rw [f2 rfl, List.map_set]
          exact (HO.out.stored k (.int .u64 1)).1)
        have HB2 : Hid (Below w.heap.size w (wr.setCell ⟨w.heap.size, k, none⟩ (.int .u64 1))) := Lib.hid (HB.out.setCell (p := ⟨w.heap.size, k, none⟩) (Nat.le_refl _) _)
        generalize (fillN l k)[k]'_ = z at hcell
        clear f1 f2 f3
        go_wp2
        go_roundw
        case rel => exact ⟨k + 1, by omega, by go_num, HO2, HB2⟩
        case measure => simp [intOf]; omega
    · obtain rfl : k = n := by omega
      have HF : Hid (Us.Seg wr (some ⟨w.heap.size, 0, none⟩) k k (numsL l)) := Lib.hid (by
        have h := HO.out
        have e : fillN l k = numsL l := by have := fillN_all l; rwa [HL.out] at this
        rw [e] at h
        exact Us.Seg.own h)
      go_wp2
      go_ret
      exact ⟨rfl, HF.out, turn_below HB.out⟩
end Go.Proofs.YtljanfnhmhimiaaGreat.Nu

namespace Go.Proofs.YtljanfnhmhimiaaGreat.Nu
open Go.RowKit
open Dv (Turn nowhere)
open Pk (Turn.then PutF)
open Bs (info_u8)
open Oct (varB)
open In (oseg below_grown)

theorem ownsRow_form {w : World} {base e n : Nat} {v : Value} {xs : List Value} (h : w.ownsRow base e 1 v n xs) (h0 : 0 < n) : ∃ g c, v = .slice (some ⟨g, 0, none⟩) n c := by
  rcases h.2 with ⟨rfl, rfl⟩ | ⟨g, c, cur, rfl, _⟩
  · omega
  · exact ⟨g, c, rfl⟩
theorem wrap_u64 {n : Nat} (h : n < 18446744073709551616) : IntKind.u64.wrap (n : Int) = (n : Int) := by rw [IntKind.wrap_u64]; omega

theorem put_long (a : Option Addr) (n c : Nat) (w : World) (hn : 4096 < n) :
    Calls Tryz.prog 28 #[.slice a n c] w (PutF w 0 3 []) := by
  have hn' : (4096 : Int) < (n : Int) := by omega
  clear hn
  go_enter Tryz.func28, Tryz.ntmps28
  go_wp2
  go_ret2
  exact ⟨none, 0, rfl, Bs.Seg.nil w, Turn.refl _ _⟩

/-- the head of the encoding -/
def headN (l : List Bool) : List Int := varB 9 (l.length : Int) ++ [(formN l : Int)]
theorem enc_head (l : List Bool) : encN l = headN l ++ restB l := by unfold encN headN; rw [List.append_assoc]; rfl
set_option maxRecDepth 100000 in
set_option maxHeartbeats 2000000 in
theorem put_short (a : Option Addr) (n c : Nat) (l : List Bool) (w : World) (hs : Bl.Seg w a n c l) (hn : n ≤ 4096) (h2 : ¬ formN l = 2) :
    Calls Tryz.prog 28 #[.slice a n c] w (PutF w (encN l).length 0 (encN l)) := by
  obtain ⟨i0, hi, hz0, hz1, hz2⟩ := info_parts info_u8
  have HF := Lib.hid (form_any a n c l w hs)
  have hlen := hs.len
  have hfl := formN_le l
  have HV := Lib.hid (fun W => Oct.putVar_any none 0 0 [] (n : Int) W (oseg (Bs.Seg.nil W)) (by omega) (by omega) (by decide))
  have he : encN l = ([] ++ varB 9 (n : Int)) ++ [(formN l : Int)] := by
    rw [enc_head]; unfold headN restB; rw [if_neg h2, hlen, List.append_nil]; rfl
  obtain ⟨f, hf⟩ : ∃ f, formN l = f := ⟨_, rfl⟩
  rw [hf] at HF hfl h2 he
  have hwu := wrap_u64 (n := n) (by omega)
  have hw8 : IntKind.u8.wrap (f : Int) = (f : Int) := by rw [IntKind.wrap_u8]; omega
  have hf2 : ((f : Int) == 2) = false := beq_eq_false_iff_ne.2 (by omega)
  have hn' : ¬ (4096 : Int) < (n : Int) := by omega
  have HE := Lib.hid he
  clear hs hlen he hf h2 hfl
  go_enter Tryz.func28, Tryz.ntmps28
  go_wp2_with fail
  refine HF.out.mono ?_
  rintro e w1 ⟨rfl, ht⟩
  have HB1 := Lib.hid (below_turn ht)
  have HV1 := Lib.hid (HV.out w1)
  clear ht
  dsimp only
  go_wp2_with fail
  refine HV1.out.mono ?_
  rintro e w2 hnew
  obtain ⟨g2, p2, rfl, hf⟩ := hnew.value
  obtain ⟨hp2, hown2, hg2⟩ := hf.is
  have hvl := Oct.varB_le 9 (n : Int)
  have hp2b : p2 ≤ 10 := by rw [hp2]; simpa using hvl
  have HB2 : Hid (Below w.heap.size w w2) := Lib.hid (HB1.out.trans (below_grown hg2 HB1.out.size))
  have HO2 : Hid (w2.ownsRow w.heap.size 5 1 (.slice (some ⟨g2, 0, none⟩) p2 p2) p2 (([] ++ varB 9 (n : Int)).map (Value.int .u8))) := Lib.hid (Oct.ownsRow_mono hown2 HB1.out.size)
  have HP2 := Lib.hid hp2
  have HS2 := Lib.hid HB2.out.size
  clear hnew hf hown2 hg2 hp2 hvl
  dsimp only
  go_wp2_with (first
    | (at_builtin; refine wpList_append_own _ rfl (.tmp 18) (.tmp 21) 45 rfl w.heap.size 5 i0 (.int .u8 0) 1 1 Tryz.underlying45 hi hz0 hz1 hz2 rfl (by decide) _ p2 _ rfl (HO2.out.alloc _) ⟨w2.heap.size, 0, none⟩ 1 1 [.int .u8 (f : Int)] rfl rfl (by intro t u ht; match t, ht with | 0, ht => simp at ht; subst ht; exact Pk.cell_new w2 _ _) (by intro u hu; simp at hu; subst hu; rfl) (by unfold maxLen; omega) (by omega) (by have := HS2.out; simp; omega) ?_; intro v8 w8 hown8 hg8 hnil8; obtain ⟨g8, c8, rfl⟩ := ownsRow_form hown8 (by omega))
    | fail)
  have HFin : Hid (PutF w (encN l).length 0 (encN l) (.returned (.tuple #[.slice (some ⟨g8, 0, none⟩) (p2 + 1) c8, .int .i64 0])) w8) := by
    have hl : (encN l).length = p2 + 1 := by rw [HE.out, List.length_append, ← HP2.out]; rfl
    refine Lib.hid ⟨_, c8, by rw [hl], ?_, turn_below ((HB2.out.alloc HB2.out.size _).grown hg8 (by have := HS2.out; simp; omega) (fun j e => by
      have := (HO2.out.alloc (.cells #[.int .u8 (f : Int)] 5)).lt j e
      exact this.1))⟩
    rw [hl, HE.out]
    refine Bs.Seg.own (base := w.heap.size) (e := 5) ?_
    rw [List.map_append]
    exact hown8
  clear hown8 hg8
  go_ret2
  exact HFin.out

set_option maxRecDepth 100000 in
set_option maxHeartbeats 2000000 in
theorem put_some (a : Option Addr) (n c : Nat) (l : List Bool) (w : World) (hs : Bl.Seg w a n c l) (hn : n ≤ 4096) (h2 : formN l = 2) :
    Calls Tryz.prog 28 #[.slice a n c] w (PutF w (encN l).length 0 (encN l)) := by
  obtain ⟨i0, hi, hz0, hz1, hz2⟩ := info_parts info_u8
  have HF := Lib.hid (form_any a n c l w hs)
  have hlen := hs.len
  have HV := Lib.hid (fun W => Oct.putVar_any none 0 0 [] (n : Int) W (oseg (Bs.Seg.nil W)) (by omega) (by omega) (by decide))
  have he : encN l = (([] ++ varB 9 (n : Int)) ++ [2]) ++ bitsB l := by
    rw [enc_head]; unfold headN restB; rw [if_pos h2, hlen, h2]; rfl
  rw [h2] at HF
  have hwu := wrap_u64 (n := n) (by omega)
  have hn' : ¬ (4096 : Int) < (n : Int) := by omega
  have HE := Lib.hid he
  have hl6 : l.length ≤ 65536 := by omega
  have HPB : Hid (Pk.putR (numsL l) 1 = (0, bitsB l)) := Lib.hid (put_bits hl6)
  obtain ⟨pl, hpl⟩ : ∃ p, (bitsB l).length = p := ⟨_, rfl⟩
  have hplb : pl ≤ 8192 := by rw [← hpl, bits_len hl6]; exact sizeN_le hl6
  have HNum := Lib.hid (fun W h => numbers_any a n c l W h (by omega))
  have HPut := Lib.hid (fun a' c' W h => Pk.put_form (l := numsL l) (v := 1) HPB.out hpl (nums_isU l) a' n c' W h)
  have HS := Lib.hid hs
  have HPL := Lib.hid hpl
  clear hs hlen he h2 hpl hl6
  go_enter Tryz.func28, Tryz.ntmps28
  go_wp2_with fail
  refine HF.out.mono ?_
  rintro e w1 ⟨rfl, ht⟩
  have HB1 := Lib.hid (below_turn ht)
  have HV1 := Lib.hid (HV.out w1)
  clear ht
  dsimp only
  go_wp2_with fail
  refine HV1.out.mono ?_
  rintro e w2 hnew
  obtain ⟨g2, p2, rfl, hf⟩ := hnew.value
  obtain ⟨hp2, hown2, hg2⟩ := hf.is
  have hvl := Oct.varB_le 9 (n : Int)
  have hp2b : p2 ≤ 10 := by rw [hp2]; simpa using hvl
  have HB2 : Hid (Below w.heap.size w w2) := Lib.hid (HB1.out.trans (below_grown hg2 HB1.out.size))
  have HO2 : Hid (w2.ownsRow w.heap.size 5 1 (.slice (some ⟨g2, 0, none⟩) p2 p2) p2 (([] ++ varB 9 (n : Int)).map (Value.int .u8))) := Lib.hid (Oct.ownsRow_mono hown2 HB1.out.size)
  have HP2 := Lib.hid hp2
  have HS2 := Lib.hid HB2.out.size
  clear hnew hf hown2 hg2 hp2 hvl
  dsimp only
  go_wp2_with (first
    | (at_builtin; refine wpList_append_own _ rfl (.tmp 18) (.tmp 21) 45 rfl w.heap.size 5 i0 (.int .u8 0) 1 1 Tryz.underlying45 hi hz0 hz1 hz2 rfl (by decide) _ p2 _ rfl (HO2.out.alloc _) ⟨w2.heap.size, 0, none⟩ 1 1 [.int .u8 2] rfl rfl (by intro t u ht; match t, ht with | 0, ht => simp at ht; subst ht; exact Pk.cell_new w2 _ _) (by intro u hu; simp at hu; subst hu; rfl) (by unfold maxLen; omega) (by omega) (by have := HS2.out; simp; omega) ?_; intro v8 w8 hown8 hg8 hnil8; obtain ⟨g8, c8, rfl⟩ := ownsRow_form hown8 (by omega); have HO8 := Lib.hid hown8; have HB8 : Hid (Below w.heap.size w w8) := Lib.hid ((HB2.out.alloc HB2.out.size _).grown hg8 (by have := HS2.out; simp; omega) (fun j e => ((HO2.out.alloc (.cells #[.int .u8 2] 5)).lt j e).1)); have HNum8 := Lib.hid (HNum.out w8 (bseg_below HS.out HB8.out rfl)); clear hown8 hg8 hnil8)
    | fail)
  refine HNum8.out.mono ?_
  rintro e w3 ⟨rfl, hsN, htN⟩
  have HO3 : Hid (w3.ownsRow w.heap.size 5 1 (.slice (some ⟨g8, 0, none⟩) (p2 + 1) c8) (p2 + 1) (([] ++ varB 9 (n : Int)).map (Value.int .u8) ++ [.int .u8 2])) := Lib.hid (Pk.own_turn_any HO8.out htN id)
  have HB3 : Hid (Below w.heap.size w w3) := Lib.hid (below_turn (Turn.then (turn_below HB8.out) htN))
  have HPut3 := Lib.hid (HPut.out _ _ w3 hsN)
  clear hsN htN HNum8
  dsimp only
  go_wp2_with fail
  refine HPut3.out.mono ?_
  rintro e w4 ⟨a4, k4, rfl, hs4, ht4⟩
  have HO4 : Hid (w4.ownsRow w.heap.size 5 1 (.slice (some ⟨g8, 0, none⟩) (p2 + 1) c8) (p2 + 1) (([] ++ varB 9 (n : Int)).map (Value.int .u8) ++ [.int .u8 2])) := Lib.hid (Pk.own_turn_any HO3.out ht4 id)
  have HB4 : Hid (Below w.heap.size w w4) := Lib.hid (below_turn (Turn.then (turn_below HB3.out) ht4))
  have HS4 := Lib.hid hs4
  have HZ4 := Lib.hid HB4.out.size
  clear hs4 ht4 HPut3
  dsimp only
  go_wp2_with (first
    | (at_builtin; refine Bs.wpList_append_seg rfl (.tmp 31) (.tmp 32) 45 rfl w.heap.size 5 i0 Tryz.underlying45 hi hz0 hz1 hz2 g8 (p2 + 1) c8 _ rfl HO4.out a4 pl k4 (bitsB l) rfl HS4.out (by omega) HZ4.out ?_; intro g9 c9 w9 hown9 hg9)
    | fail)
  have HFin : Hid (PutF w (encN l).length 0 (encN l) (.returned (.tuple #[.slice (some ⟨g9, 0, none⟩) (p2 + 1 + pl) c9, .int .i64 0])) w9) := by
    have hl : (encN l).length = p2 + 1 + pl := by rw [HE.out, List.length_append, List.length_append, ← HP2.out, HPL.out]; rfl
    refine Lib.hid ⟨_, c9, by rw [hl], ?_, turn_below (HB4.out.grown hg9 HZ4.out (fun j e => (HO4.out.lt j e).1))⟩
    rw [hl, HE.out]
    refine Bs.Seg.own (base := w.heap.size) (e := 5) ?_
    rw [List.map_append, List.map_append]
    exact hown9
  clear hown9 hg9
  go_ret2
  exact HFin.out

/-- Put, in the laws' form. -/
theorem put_form {l : List Bool} {E : Int} {B : List Int} {m : Nat} (hR : putN l = (E, B)) (hm : B.length = m) (a : Option Addr) (n c : Nat) (W : World) (hs : Bl.Seg W a n c l) :
    Calls Tryz.prog 28 #[.slice a n c] W (PutF W m E B) := by
  have hl := hs.len
  subst hm
  unfold putN at hR
  by_cases h : 4096 < l.length
  · rw [if_pos h] at hR
    cases hR
    exact put_long a n c W (by omega)
  · rw [if_neg h] at hR
    cases hR
    by_cases h2 : formN l = 2
    · exact put_some a n c l W hs (by omega) h2
    · exact put_short a n c l W hs (by omega) h2
end Go.Proofs.YtljanfnhmhimiaaGreat.Nu
