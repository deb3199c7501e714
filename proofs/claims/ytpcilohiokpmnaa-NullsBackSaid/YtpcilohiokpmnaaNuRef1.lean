/-
  The document's Count, numbers, Spread, Lengths.
-/
import Derived.Test.YtpcilohiokpmnaaNuForm
namespace Go.Proofs.Ytpcilohiokpmnaa.Nu
open Go.RowKit
open Dv (Turn nowhere)
open Pk (Turn.then)

theorem cnt_take (l : List Bool) (k : Nat) (hk : k < l.length) : cnt (l.take (k + 1)) = cnt (l.take k) + (if l.getD k false = true then 1 else 0) := by
  rw [List.take_succ_eq_append_getElem hk, cnt_app, List.getD_eq_getElem?_getD, List.getElem?_eq_getElem hk]
  simp [cnt]

set_option maxRecDepth 100000 in
set_option maxHeartbeats 1000000 in
theorem rcount_any (a : Option Addr) (n c : Nat) (l : List Bool) (w : World) (hs : Bl.Seg w a n c l) :
    Calls Try.prog 19 #[.slice a n c] w fun e w' => e = .returned (.int .i64 (cnt l : Int)) ∧ w = w' := by
  have hcap := hs.cap
  have hle := hs.le
  unfold maxLen at hcap
  have HL := Lib.hid hs.len
  have HS := Lib.hid hs
  clear hs
  go_enter Try.func19, Try.ntmps19
  go_wp2
  go_loopw [3, 4] (fun sn si wr => ∃ k z : Nat, k ≤ n ∧ si = .int .i64 k ∧ sn = .int .i64 z ∧ w = wr ∧ Hid (cnt (l.take k) = z) ∧ z ≤ k) (fun _ si _ => n - (intOf si).toNat)
  case atStart => exact ⟨0, 0, Nat.zero_le _, rfl, rfl, rfl, Lib.hid rfl, Nat.le_refl _⟩
  case round =>
    obtain ⟨k, z, hk, rfl, rfl, rfl, HZ, hz⟩ := hrel
    by_cases hlt : k < n
    · obtain ⟨g, o, rfl, hc⟩ := HS.out.addr (by omega)
      have hck := hc k hlt
      have h1 := cnt_take l k (by rw [HL.out]; exact hlt)
      rw [HZ.out] at h1
      obtain ⟨b, hb⟩ : ∃ b, l.getD k false = b := ⟨_, rfl⟩
      rw [hb] at hck h1
      clear hc hb
      cases b with
      | true =>
        have H1 : Hid (cnt (l.take (k + 1)) = z + 1) := Lib.hid (by simpa using h1)
        clear h1
        go_wp2
        go_roundw
        case rel => exact ⟨k + 1, z + 1, by omega, by go_num, by go_num, trivial, H1, by omega⟩
        case measure => simp [intOf]; omega
      | false =>
        have H1 : Hid (cnt (l.take (k + 1)) = z) := Lib.hid (by simpa using h1)
        clear h1
        go_wp2
        go_roundw
        case rel => exact ⟨k + 1, z, by omega, by go_num, rfl, trivial, H1, by omega⟩
        case measure => simp [intOf]; omega
    · obtain rfl : k = n := by omega
      have HF : Hid (cnt l = z) := Lib.hid (by have := HZ.out; rwa [List.take_of_length_le (Nat.le_of_eq HL.out)] at this)
      go_wp2
      go_ret
      exact ⟨Bs.ret_int (by rw [HF.out]), rfl⟩

set_option maxRecDepth 100000 in
set_option maxHeartbeats 1000000 in
theorem rnumbers_any (a : Option Addr) (n c : Nat) (l : List Bool) (w : World) (hs : Bl.Seg w a n c l) (hn : n ≤ 65536) :
    Calls Try.prog 36 #[.slice a n c] w fun e w' => e = .returned (.slice (some ⟨w.heap.size, 0, none⟩) n n) ∧ Us.Seg w' (some ⟨w.heap.size, 0, none⟩) n n (numsL l) ∧ Turn w w' nowhere := by
  have hmk := Pk.make_nums n (by omega)
  have HL := Lib.hid hs.len
  have HO0 : Hid ((w.alloc (.cells (Pk.roomU n) 46)).ownsRow w.heap.size 46 1 (.slice (some ⟨w.heap.size, 0, none⟩) n n) n ((fillN l 0).map (Value.int .u64))) := Lib.hid (by
    rw [fillN_zero, HL.out]
    exact Pk.made_own w n (by omega))
  have HB0 : Hid (Below w.heap.size w (w.alloc (.cells (Pk.roomU n) 46))) := Lib.hid ((Below.refl _ w).alloc (Nat.le_refl _) _)
  have HS := Lib.hid hs
  clear hs
  go_enter Try.func36, Try.ntmps36
  go_wp2
  go_loopw [4] (fun si wr => ∃ k : Nat, k ≤ n ∧ si = .int .i64 k ∧ Hid (wr.ownsRow w.heap.size 46 1 (.slice (some ⟨w.heap.size, 0, none⟩) n n) n ((fillN l k).map (Value.int .u64))) ∧ Hid (Below w.heap.size w wr)) (fun si _ => n - (intOf si).toNat)
  case atStart => exact ⟨0, Nat.zero_le _, rfl, HO0, HB0⟩
  case round =>
    obtain ⟨k, hk, rfl, HO, HB⟩ := hrel
    by_cases hlt : k < n
    · obtain ⟨g, o, rfl, hc⟩ := (bseg_below HS.out HB.out rfl).addr (by omega)
      have hck := hc k hlt
      obtain ⟨f1, f2, f3⟩ := fillN_succ l k (by rw [HL.out]; exact hlt)
      obtain ⟨b, hb⟩ : ∃ b, l.getD k false = b := ⟨_, rfl⟩
      rw [hb] at hck f1 f2
      clear hc hb
      cases b with
      | false =>
        have HO2 : Hid (wr.ownsRow w.heap.size 46 1 (.slice (some ⟨w.heap.size, 0, none⟩) n n) n ((fillN l (k + 1)).map (Value.int .u64))) := Lib.hid (by rw [f1 rfl]; exact HO.out)
        clear f1 f2 f3
        go_wp2
        go_roundw
        case rel => exact ⟨k + 1, by omega, by go_num, HO2, HB⟩
        case measure => simp [intOf]; omega
      | true =>
        have hcell := HO.out.cellAt k (by omega)
        have hkl : k < (fillN l k).length := by rw [fillN_len l k (by rw [HL.out]; exact hk), HL.out]; exact hlt
        rw [List.getElem?_map, List.getElem?_eq_getElem hkl] at hcell
        simp only [Option.map_some] at hcell
        have hfree := HO.out.frozenAt k
        have HO2 : Hid ((wr.setCell ⟨w.heap.size, k, none⟩ (.int .u64 1)).ownsRow w.heap.size 46 1 (.slice (some ⟨w.heap.size, 0, none⟩) n n) n ((fillN l (k + 1)).map (Value.int .u64))) := Lib.hid (by
          rw [f2 rfl, List.map_set]
          exact (HO.out.stored k (.int .u64 1)).1)
        have HB2 : Hid (Below w.heap.size w (wr.setCell ⟨w.heap.size, k, none⟩ (.int .u64 1))) := Lib.hid (HB.out.setCell (p := ⟨w.heap.size, k, none⟩) (Nat.le_refl _) _)
        generalize (fillN l k)[k]'_ = z at hcell
        clear f1 f2 f3
        go_wp2
        go_roundw
        case rel => exact ⟨k + 1, by omega, by go_num, HO2, HB2⟩
        case measure => simp [intOf]; omega
    · obtain rfl : k = n := by omega
      have HF : Hid (Us.Seg wr (some ⟨w.heap.size, 0, none⟩) k k (numsL l)) := Lib.hid (by
        have h := HO.out
        have e : fillN l k = numsL l := by have := fillN_all l; rwa [HL.out] at this
        rw [e] at h
        exact Us.Seg.own h)
      go_wp2
      go_ret
      exact ⟨rfl, HF.out, turn_below HB.out⟩

theorem places_take (l : List Bool) (k : Nat) (hk : k < l.length) (b : Bool) (hb : l.getD k false = b) : placesF 0 (l.take (k + 1)) = placesF 0 (l.take k) ++ [if b = true then -1 else (nextP (l.take k) : Int)] ∧ nextP (l.take (k + 1)) = nextP (l.take k) + (if b = true then 0 else 1) := by
  have e : l.take (k + 1) = l.take k ++ [b] := by
    rw [List.take_succ_eq_append_getElem hk, ← hb, List.getD_eq_getElem?_getD, List.getElem?_eq_getElem hk]; rfl
  rw [e]
  exact ⟨places_snoc _ _, nextP_snoc _ _⟩
theorem nextP_le (l : List Bool) : nextP l ≤ l.length := by unfold nextP; omega

set_option maxRecDepth 100000 in
set_option maxHeartbeats 2000000 in
theorem rspread_any (a : Option Addr) (n c : Nat) (l : List Bool) (v : Int) (m : Nat) (w : World) (hs : Bl.Seg w a n c l) (hn : n ≤ 1000000) (hm : (spreadF l v).length = m) :
    Calls Try.prog 20 #[.slice a n c, .int .i64 v] w (IntF w m (spreadF l v)) := by
  obtain ⟨i0, hi, hz0, hz1, hz2⟩ := info_parts info_int
  have HC := Lib.hid (rcount_any a n c l w hs)
  have hL := hs.len
  have hcl := cnt_le l
  have HS := Lib.hid hs
  unfold spreadF at hm ⊢
  rw [hL] at hcl hm ⊢
  have HPl : Hid ((placesF 0 l).length = n) := Lib.hid (by rw [places_len, hL])
  have HL := Lib.hid hL
  obtain ⟨z, hz⟩ : ∃ z, cnt l = z := ⟨_, rfl⟩
  rw [hz] at HC hcl hm ⊢
  clear hs hL hz
  have hw : IntKind.i64.wrap ((n : Int) - (z : Int)) = (n : Int) - (z : Int) := by rw [IntKind.wrap_i64]; omega
  by_cases h : (n : Int) - (z : Int) = v
  · rw [if_pos h] at hm ⊢
    rw [HPl.out] at hm
    subst hm
    have e1 : ((n : Int) - (z : Int) != v) = false := by rw [h]; exact bne_self_eq_false v
    clear h
    go_enter Try.func20, Try.ntmps20
    go_wp2_with fail
    refine HC.out.mono ?_
    rintro e w1 ⟨rfl, rfl⟩
    dsimp only
    go_wp2
    go_loopw [5, 6, 7] (fun so sn si wr => ∃ (k : Nat) (aV : Option Addr) (cV : Nat), k ≤ n ∧ si = .int .i64 k ∧ sn = .int .i64 (nextP (l.take k) : Int) ∧ so = .slice aV k cV ∧ Hid (wr.ownsRow w.heap.size 3 1 (.slice aV k cV) k ((placesF 0 (l.take k)).map (Value.int .i64))) ∧ Hid (Below w.heap.size w wr)) (fun _ _ si _ => n - (intOf si).toNat)
    case atStart => exact ⟨0, none, 0, Nat.zero_le _, rfl, rfl, rfl, Lib.hid (World.ownsRow_nil _ _ _ _), Lib.hid (Below.refl _ _)⟩
    case round =>
      obtain ⟨k, aV, cV, hk, rfl, rfl, rfl, HO, HB⟩ := hrel
      by_cases hlt : k < n
      · obtain ⟨g, o, rfl, hc⟩ := (bseg_below HS.out HB.out rfl).addr (by omega)
        have hck := hc k hlt
        obtain ⟨b, hb⟩ : ∃ b, l.getD k false = b := ⟨_, rfl⟩
        obtain ⟨hp1, hp2⟩ := places_take l k (by rw [HL.out]; exact hlt) b hb
        rw [hb] at hck
        have hnk : nextP (l.take k) ≤ 1000000 := by have h1 := nextP_le (l.take k); rw [List.length_take] at h1; omega
        have HZ := Lib.hid HB.out.size
        obtain ⟨q, hq⟩ : ∃ q, nextP (l.take k) = q := ⟨_, rfl⟩
        rw [hq] at hp1 hp2 hnk
        have HP1 := Lib.hid hp1
        rw [hq]
        clear hc hb hp1 hq
        cases b with
        | true =>
          have hp3 : nextP (l.take (k + 1)) = q := by simpa using hp2
          have HP3 := Lib.hid hp3
          clear hp2 hp3
          go_wp2_with (first
            | (at_builtin; refine wpList_append_own _ rfl (.tmp 25) (.tmp 26) 34 rfl w.heap.size 3 i0 (.int .i64 0) 1 8 Try.underlying34 hi hz0 hz1 hz2 rfl (by decide) (.slice aV k cV) k _ rfl (HO.out.alloc _) ⟨wr.heap.size, 0, none⟩ 1 1 [.int .i64 (-1)] rfl rfl (by intro t u ht; match t, ht with | 0, ht => simp at ht; subst ht; exact Pk.cell_new wr _ _) (by intro u hu; simp at hu; subst hu; rfl) (by unfold maxLen; omega) (by omega) (by have := HZ.out; simp; omega) ?_; intro v8 w8 hown8 hg8 hnil8; obtain ⟨g8, c8, rfl⟩ := Go.ownsRow_succ hown8)
            | fail)
          go_roundw
          case rel =>
            refine ⟨k + 1, _, _, by omega, by go_num, by rw [HP3.out], rfl, Lib.hid ?_, Lib.hid ((HB.out.alloc HB.out.size _).grown hg8 (by have := HZ.out; simp; omega) (fun j e => (((HO.out.alloc (.cells #[.int .i64 (-1)] 3)).lt j e)).1))⟩
            rw [HP1.out, List.map_append]
            exact hown8
          case measure => simp [intOf]; omega
        | false =>
          have hp3 : nextP (l.take (k + 1)) = q + 1 := by simpa using hp2
          have HP3 := Lib.hid hp3
          have hwq : IntKind.i64.wrap ((q : Int) + 1) = (q : Int) + 1 := by rw [IntKind.wrap_i64]; omega
          clear hp2 hp3
          go_wp2_with (first
            | (at_builtin; refine wpList_append_own _ rfl (.tmp 28) (.tmp 30) 34 rfl w.heap.size 3 i0 (.int .i64 0) 1 8 Try.underlying34 hi hz0 hz1 hz2 rfl (by decide) (.slice aV k cV) k _ rfl (HO.out.alloc _) ⟨wr.heap.size, 0, none⟩ 1 1 [.int .i64 (q : Int)] rfl rfl (by intro t u ht; match t, ht with | 0, ht => simp at ht; subst ht; exact Pk.cell_new wr _ _) (by intro u hu; simp at hu; subst hu; rfl) (by unfold maxLen; omega) (by omega) (by have := HZ.out; simp; omega) ?_; intro v8 w8 hown8 hg8 hnil8; obtain ⟨g8, c8, rfl⟩ := Go.ownsRow_succ hown8)
            | fail)
          go_roundw
          case rel =>
            refine ⟨k + 1, _, _, by omega, by go_num, by rw [HP3.out]; go_num, rfl, Lib.hid ?_, Lib.hid ((HB.out.alloc HB.out.size _).grown hg8 (by have := HZ.out; simp; omega) (fun j e => (((HO.out.alloc (.cells #[.int .i64 (q : Int)] 3)).lt j e)).1))⟩
            rw [HP1.out, List.map_append]
            exact hown8
          case measure => simp [intOf]; omega
      · obtain rfl : k = n := by omega
        have HF : Hid (IntF w k (placesF 0 l) (.returned (.slice aV k cV)) wr) := Lib.hid (by
          have hO := HO.out
          rw [List.take_of_length_le (Nat.le_of_eq HL.out)] at hO
          obtain ⟨a2, c2, e2, hseg⟩ := own_slice hO
          cases e2
          exact ⟨_, _, rfl, hseg, turn_below HB.out⟩)
        go_wp2
        go_ret
        exact HF.out
  · rw [if_neg h] at hm ⊢
    obtain rfl : m = 0 := by rw [← hm]; rfl
    have e1 : ((n : Int) - (z : Int) != v) = true := bne_iff_ne.2 h
    clear h hm
    go_enter Try.func20, Try.ntmps20
    go_wp2_with fail
    refine HC.out.mono ?_
    rintro e w1 ⟨rfl, rfl⟩
    dsimp only
    go_wp2
    go_ret
    exact ⟨none, 0, rfl, Js.Seg.nil w, Turn.refl _ _⟩
end Go.Proofs.Ytpcilohiokpmnaa.Nu
