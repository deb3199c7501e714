/-
  the document's own: Count, the numbers, Spread, Lengths, Put, the parts of Get
-/
import Derived.Test.YtpcilohiokpmnaaNuForm
import Derived.Test.YtpcilohiokpmnaaNuPut
import Derived.Test.YtpcilohiokpmnaaRVar
import Derived.Test.YtpcilohiokpmnaaPkRPut
import Derived.Test.YtpcilohiokpmnaaNuGet
import Derived.Test.YtpcilohiokpmnaaRBytes
import Derived.Test.YtpcilohiokpmnaaPkRGet
namespace Go.Proofs.Ytpcilohiokpmnaa.Nu
open Go.RowKit
open Dv (Turn nowhere)
open Pk (Turn.then)

theorem cnt_take (l : List Bool) (k : Nat) (hk : k < l.length) : cnt (l.take (k + 1)) = cnt (l.take k) + (if l.getD k false = true then 1 else 0) := by
  rw [List.take_succ_eq_append_getElem hk, cnt_app, List.getD_eq_getElem?_getD, List.getElem?_eq_getElem hk]
  simp [cnt]

set_option maxRecDepth 100000 in
set_option maxHeartbeats 1000000 in
theorem rcount_any (a : Option Addr) (n c : Nat) (l : List Bool) (w : World) (hs : Bl.Seg w a n c l) :
    Calls Try.prog 19 #[.slice a n c] w fun e w' => e = .returned (.int .i64 (cnt l : Int)) ∧ w = w' := by
  have hcap := hs.cap
  have hle := hs.le
  unfold maxLen at hcap
  have HL := Lib.hid hs.len
  have HS := Lib.hid hs
  clear hs
  go_enter Try.func19, Try.ntmps19
  go_wp2
  go_loopw [3, 4] (fun sn si wr => ∃ k z : Nat, k ≤ n ∧ si = .int .i64 k ∧ sn = .int .i64 z ∧ w = wr ∧ Hid (cnt (l.take k) = z) ∧ z ≤ k) (fun _ si _ => n - (intOf si).toNat)
  case atStart => exact ⟨0, 0, Nat.zero_le _, rfl, rfl, rfl, Lib.hid rfl, Nat.le_refl _⟩
  case round =>
    obtain ⟨k, z, hk, rfl, rfl, rfl, HZ, hz⟩ := hrel
    by_cases hlt : k < n
    · obtain ⟨g, o, rfl, hc⟩ := HS.out.addr (by omega)
      have hck := hc k hlt
      have h1 := cnt_take l k (by rw [HL.out]; exact hlt)
      rw [HZ.out] at h1
      obtain ⟨b, hb⟩ : ∃ b, l.getD k false = b := ⟨_, rfl⟩
      rw [hb] at hck h1
      clear hc hb
      cases b with
      | true =>
        have H1 : Hid (cnt (l.take (k + 1)) = z + 1) := Lib.hid (by simpa using h1)
        clear h1
        go_wp2
        go_roundw
        case rel => exact ⟨k + 1, z + 1, by omega, by go_num, by go_num, trivial, H1, by omega⟩
        case measure => simp [intOf]; omega
      | false =>
        have H1 : Hid (cnt (l.take (k + 1)) = z) := Lib.hid (by simpa using h1)
        clear h1
        go_wp2
        go_roundw
        case rel => exact ⟨k + 1, z, by omega, by go_num, rfl, trivial, H1, by omega⟩
        case measure => simp [intOf]; omega
    · obtain rfl : k = n := by omega
      have HF : Hid (cnt l = z) := Lib.hid (by have := HZ.out; rwa [List.take_of_length_le (Nat.le_of_eq HL.out)] at this)
      go_wp2
      go_ret
      exact ⟨Bs.ret_int (by rw [HF.out]), rfl⟩

set_option maxRecDepth 100000 in
set_option maxHeartbeats 1000000 in
theorem rnumbers_any (a : Option Addr) (n c : Nat) (l : List Bool) (w : World) (hs : Bl.Seg w a n c l) (hn : n ≤ 65536) :
    Calls Try.prog 36 #[.slice a n c] w fun e w' => e = .returned (.slice (some ⟨w.heap.size, 0, none⟩) n n) ∧ Us.Seg w' (some ⟨w.heap.size, 0, none⟩) n n (numsL l) ∧ Turn w w' nowhere := by
  have hmk := Pk.make_nums n (by omega)
  have HL := Lib.hid hs.len
  have HO0 : Hid ((w.alloc (.cells (Pk.roomU n) 46)).ownsRow w.heap.size 46 1 (.slice (some ⟨w.heap.size, 0, none⟩) n n) n ((fillN l 0).map (Value.int .u64))) := Lib.hid (by
    rw [fillN_zero, HL.out]
    exact Pk.made_own w n (by omega))
  have HB0 : Hid (Below w.heap.size w (w.alloc (.cells (Pk.roomU n) 46))) := Lib.hid ((Below.refl _ w).alloc (Nat.le_refl _) _)
  have HS := Lib.hid hs
  clear hs
  go_enter Try.func36, Try.ntmps36
  go_wp2
  go_loopw [4] (fun si wr => ∃ k : Nat, k ≤ n ∧ si = .int .i64 k ∧ Hid (wr.ownsRow w.heap.size 46 1 (.slice (some ⟨w.heap.size, 0, none⟩) n n) n ((fillN l k).map (Value.int .u64))) ∧ Hid (Below w.heap.size w wr)) (fun si _ => n - (intOf si).toNat)
  case atStart => exact ⟨0, Nat.zero_le _, rfl, HO0, HB0⟩
  case round =>
    obtain ⟨k, hk, rfl, HO, HB⟩ := hrel
    by_cases hlt : k < n
    · obtain ⟨g, o, rfl, hc⟩ := (bseg_below HS.out HB.out rfl).addr (by omega)
      have hck := hc k hlt
      obtain ⟨f1, f2, f3⟩ := fillN_succ l k (by rw [HL.out]; exact hlt)
      obtain ⟨b, hb⟩ : ∃ b, l.getD k false = b := ⟨_, rfl⟩
      rw [hb] at hck f1 f2
      clear hc hb
      cases b with
      | false =>
        have HO2 : Hid (wr.ownsRow w.heap.size 46 1 (.slice (some ⟨w.heap.size, 0, none⟩) n n) n ((fillN l (k + 1)).map (Value.int .u64))) := Lib.hid (by rw [f1 rfl]; exact HO.out)
        clear f1 f2 f3
        go_wp2
        go_roundw
        case rel => exact ⟨k + 1, by omega, by go_num, HO2, HB⟩
        case measure => simp [intOf]; omega
      | true =>
        have hcell := HO.out.cellAt k (by omega)
        have hkl : k < (fillN l k).length := by rw [fillN_len l k (by rw [HL.out]; exact hk), HL.out]; exact hlt
        rw [List.getElem?_map, List.getElem?_eq_getElem hkl] at hcell
        simp only [Option.map_some] at hcell
        have hfree := HO.out.frozenAt k
        have HO2 : Hid ((wr.setCell ⟨w.heap.size, k, none⟩ (.int .u64 1)).ownsRow w.heap.size 46 1 (.slice (some ⟨w.heap.size, 0, none⟩) n n) n ((fillN l (k + 1)).map (Value.int .u64))) := Lib.hid (by
          rw [f2 rfl, List.map_set]
          exact (HO.out.stored k (.int .u64 1)).1)
        have HB2 : Hid (Below w.heap.size w (wr.setCell ⟨w.heap.size, k, none⟩ (.int .u64 1))) := Lib.hid (HB.out.setCell (p := ⟨w.heap.size, k, none⟩) (Nat.le_refl _) _)
        generalize (fillN l k)[k]'_ = z at hcell
        clear f1 f2 f3
        go_wp2
        go_roundw
        case rel => exact ⟨k + 1, by omega, by go_num, HO2, HB2⟩
        case measure => simp [intOf]; omega
    · obtain rfl : k = n := by omega
      have HF : Hid (Us.Seg wr (some ⟨w.heap.size, 0, none⟩) k k (numsL l)) := Lib.hid (by
        have h := HO.out
        have e : fillN l k = numsL l := by have := fillN_all l; rwa [HL.out] at this
        rw [e] at h
        exact Us.Seg.own h)
      go_wp2
      go_ret
      exact ⟨rfl, HF.out, turn_below HB.out⟩

theorem places_take (l : List Bool) (k : Nat) (hk : k < l.length) (b : Bool) (hb : l.getD k false = b) : placesF 0 (l.take (k + 1)) = placesF 0 (l.take k) ++ [if b = true then -1 else (nextP (l.take k) : Int)] ∧ nextP (l.take (k + 1)) = nextP (l.take k) + (if b = true then 0 else 1) := by
  have e : l.take (k + 1) = l.take k ++ [b] := by
    rw [List.take_succ_eq_append_getElem hk, ← hb, List.getD_eq_getElem?_getD, List.getElem?_eq_getElem hk]; rfl
  rw [e]
  exact ⟨places_snoc _ _, nextP_snoc _ _⟩
theorem nextP_le (l : List Bool) : nextP l ≤ l.length := by unfold nextP; omega

set_option maxRecDepth 100000 in
set_option maxHeartbeats 2000000 in
theorem rspread_any (a : Option Addr) (n c : Nat) (l : List Bool) (v : Int) (m : Nat) (w : World) (hs : Bl.Seg w a n c l) (hn : n ≤ 1000000) (hm : (spreadF l v).length = m) :
    Calls Try.prog 20 #[.slice a n c, .int .i64 v] w (IntF w m (spreadF l v)) := by
  obtain ⟨i0, hi, hz0, hz1, hz2⟩ := info_parts info_int
  have HC := Lib.hid (rcount_any a n c l w hs)
  have hL := hs.len
  have hcl := cnt_le l
  have HS := Lib.hid hs
  unfold spreadF at hm ⊢
  rw [hL] at hcl hm ⊢
  have HPl : Hid ((placesF 0 l).length = n) := Lib.hid (by rw [places_len, hL])
  have HL := Lib.hid hL
  obtain ⟨z, hz⟩ : ∃ z, cnt l = z := ⟨_, rfl⟩
  rw [hz] at HC hcl hm ⊢
  clear hs hL hz
  have hw : IntKind.i64.wrap ((n : Int) - (z : Int)) = (n : Int) - (z : Int) := by rw [IntKind.wrap_i64]; omega
  by_cases h : (n : Int) - (z : Int) = v
  · rw [if_pos h] at hm ⊢
    rw [HPl.out] at hm
    subst hm
    have e1 : ((n : Int) - (z : Int) != v) = false := by rw [h]; exact bne_self_eq_false v
    clear h
    go_enter Try.func20, Try.ntmps20
    go_wp2_with fail
    refine HC.out.mono ?_
    rintro e w1 ⟨rfl, rfl⟩
    dsimp only
    go_wp2
    go_loopw [5, 6, 7] (fun so sn si wr => ∃ (k : Nat) (aV : Option Addr) (cV : Nat), k ≤ n ∧ si = .int .i64 k ∧ sn = .int .i64 (nextP (l.take k) : Int) ∧ so = .slice aV k cV ∧ Hid (wr.ownsRow w.heap.size 3 1 (.slice aV k cV) k ((placesF 0 (l.take k)).map (Value.int .i64))) ∧ Hid (Below w.heap.size w wr)) (fun _ _ si _ => n - (intOf si).toNat)
    case atStart => exact ⟨0, none, 0, Nat.zero_le _, rfl, rfl, rfl, Lib.hid (World.ownsRow_nil _ _ _ _), Lib.hid (Below.refl _ _)⟩
    case round =>
      obtain ⟨k, aV, cV, hk, rfl, rfl, rfl, HO, HB⟩ := hrel
      by_cases hlt : k < n
      · obtain ⟨g, o, rfl, hc⟩ := (bseg_below HS.out HB.out rfl).addr (by omega)
        have hck := hc k hlt
        obtain ⟨b, hb⟩ : ∃ b, l.getD k false = b := ⟨_, rfl⟩
        obtain ⟨hp1, hp2⟩ := places_take l k (by rw [HL.out]; exact hlt) b hb
        rw [hb] at hck
        have hnk : nextP (l.take k) ≤ 1000000 := by have h1 := nextP_le (l.take k); rw [List.length_take] at h1; omega
        have HZ := Lib.hid HB.out.size
        obtain ⟨q, hq⟩ : ∃ q, nextP (l.take k) = q := ⟨_, rfl⟩
        rw [hq] at hp1 hp2 hnk
        have HP1 := Lib.hid hp1
        rw [hq]
        clear hc hb hp1 hq
        cases b with
        | true =>
          have hp3 : nextP (l.take (k + 1)) = q := by simpa using hp2
          have HP3 := Lib.hid hp3
          clear hp2 hp3
          go_wp2_with (first
            | (at_builtin; refine wpList_append_own _ rfl (.tmp 25) (.tmp 26) 34 rfl w.heap.size 3 i0 (.int .i64 0) 1 8 Try.underlying34 hi hz0 hz1 hz2 rfl (by decide) (.slice aV k cV) k _ rfl (HO.out.alloc _) ⟨wr.heap.size, 0, none⟩ 1 1 [.int .i64 (-1)] rfl rfl (by intro t u ht; match t, ht with | 0, ht => simp at ht; subst ht; exact Pk.cell_new wr _ _) (by intro u hu; simp at hu; subst hu; rfl) (by unfold maxLen; omega) (by omega) (by have := HZ.out; simp; omega) ?_; intro v8 w8 hown8 hg8 hnil8; obtain ⟨g8, c8, rfl⟩ := Go.ownsRow_succ hown8)
            | fail)
          go_roundw
          case rel =>
            refine ⟨k + 1, _, _, by omega, by go_num, by rw [HP3.out], rfl, Lib.hid ?_, Lib.hid ((HB.out.alloc HB.out.size _).grown hg8 (by have := HZ.out; simp; omega) (fun j e => (((HO.out.alloc (.cells #[.int .i64 (-1)] 3)).lt j e)).1))⟩
            rw [HP1.out, List.map_append]
            exact hown8
          case measure => simp [intOf]; omega
        | false =>
          have hp3 : nextP (l.take (k + 1)) = q + 1 := by simpa using hp2
          have HP3 := Lib.hid hp3
          have hwq : IntKind.i64.wrap ((q : Int) + 1) = (q : Int) + 1 := by rw [IntKind.wrap_i64]; omega
          clear hp2 hp3
          go_wp2_with (first
            | (at_builtin; refine wpList_append_own _ rfl (.tmp 28) (.tmp 30) 34 rfl w.heap.size 3 i0 (.int .i64 0) 1 8 Try.underlying34 hi hz0 hz1 hz2 rfl (by decide) (.slice aV k cV) k _ rfl (HO.out.alloc _) ⟨wr.heap.size, 0, none⟩ 1 1 [.int .i64 (q : Int)] rfl rfl (by intro t u ht; match t, ht with | 0, ht => simp at ht; subst ht; exact Pk.cell_new wr _ _) (by intro u hu; simp at hu; subst hu; rfl) (by unfold maxLen; omega) (by omega) (by have := HZ.out; simp; omega) ?_; intro v8 w8 hown8 hg8 hnil8; obtain ⟨g8, c8, rfl⟩ := Go.ownsRow_succ hown8)
            | fail)
          go_roundw
          case rel =>
            refine ⟨k + 1, _, _, by omega, by go_num, by rw [HP3.out]; go_num, rfl, Lib.hid ?_, Lib.hid ((HB.out.alloc HB.out.size _).grown hg8 (by have := HZ.out; simp; omega) (fun j e => (((HO.out.alloc (.cells #[.int .i64 (q : Int)] 3)).lt j e)).1))⟩
            rw [HP1.out, List.map_append]
            exact hown8
          case measure => simp [intOf]; omega
      · obtain rfl : k = n := by omega
        have HF : Hid (IntF w k (placesF 0 l) (.returned (.slice aV k cV)) wr) := Lib.hid (by
          have hO := HO.out
          rw [List.take_of_length_le (Nat.le_of_eq HL.out)] at hO
          obtain ⟨a2, c2, e2, hseg⟩ := own_slice hO
          cases e2
          exact ⟨_, _, rfl, hseg, turn_below HB.out⟩)
        go_wp2
        go_ret
        exact HF.out
  · rw [if_neg h] at hm ⊢
    obtain rfl : m = 0 := by rw [← hm]; rfl
    have e1 : ((n : Int) - (z : Int) != v) = true := bne_iff_ne.2 h
    clear h hm
    go_enter Try.func20, Try.ntmps20
    go_wp2_with fail
    refine HC.out.mono ?_
    rintro e w1 ⟨rfl, rfl⟩
    dsimp only
    go_wp2
    go_ret
    exact ⟨none, 0, rfl, Js.Seg.nil w, Turn.refl _ _⟩
end Go.Proofs.Ytpcilohiokpmnaa.Nu
namespace Go.Proofs.Ytpcilohiokpmnaa.Nu
open Go.RowKit
open Dv (Turn nowhere)
open Pk (Turn.then)

theorem cell_new' (w : World) (v : Value) (t : TypeId) (B : Nat) (h : w.heap.size = B) : (w.alloc (.cells #[v] t)).cell? ⟨B, 0, none⟩ = some v := by subst h; exact Pk.cell_new w v t
theorem flagsR_len (R : List (Nat × Bool)) : ∀ p ∈ R, p.1 ≤ (flagsR R).length := by
  induction R with
  | nil => intro p hp; cases hp
  | cons q R ih =>
    intro p hp
    rw [flagsR_cons, List.length_append, List.length_replicate]
    rcases List.mem_cons.1 hp with rfl | h
    · omega
    · have := ih p h; omega
theorem lens_le (l : List Bool) : ∀ x ∈ lens l, 1 ≤ x ∧ x ≤ l.length := by
  intro x hx
  obtain ⟨p, hp, rfl⟩ := List.mem_map.1 hx
  have h1 := flagsR_len _ p hp
  rw [runs_join] at h1
  have h2 := runs_pos l p hp
  omega
theorem lens_pos {l : List Bool} (h : 0 < l.length) : 0 < (lens l).length := by
  match l, h with
  | x :: t, _ =>
    obtain ⟨n, r, e⟩ := runs_head x t
    unfold lens
    rw [e]
    simp
theorem upLast_set : ∀ (L : List Int), 0 < L.length → upLast L = L.set (L.length - 1) (L.getD (L.length - 1) 0 + 1)
  | [], h => by simp at h
  | [x], _ => rfl
  | x :: y :: r, _ => by
    have ih := upLast_set (y :: r) (by simp)
    rw [upLast, ih]
    simp
theorem upLast_len (L : List Int) (h : 0 < L.length) : (upLast L).length = L.length := by rw [upLast_set L h, List.length_set]
theorem lens_take (l : List Bool) (k : Nat) (hk : k < l.length) :
    (k = 0 → lens (l.take (k + 1)) = lens (l.take k) ++ [1]) ∧
    (∀ j, k = j + 1 → (l.getD k false = l.getD j false → lens (l.take (k + 1)) = upLast (lens (l.take k))) ∧ (¬ l.getD k false = l.getD j false → lens (l.take (k + 1)) = lens (l.take k) ++ [1])) := by
  have e : l.take (k + 1) = l.take k ++ [l.getD k false] := by
    rw [List.take_succ_eq_append_getElem hk, List.getD_eq_getElem?_getD, List.getElem?_eq_getElem hk]; rfl
  rw [e, lens_snoc]
  refine ⟨fun h => by subst h; rfl, fun j hj => ?_⟩
  have hl : (l.take k).getLast? = some (l.getD j false) := by
    rw [List.getLast?_eq_getElem?, List.length_take, Nat.min_eq_left (by omega), List.getElem?_take_of_lt (by omega), hj, Nat.add_sub_cancel, List.getElem?_eq_getElem (by omega), List.getD_eq_getElem?_getD, List.getElem?_eq_getElem (by omega)]
    rfl
  rw [hl]
  exact ⟨fun h => by rw [h, if_pos rfl], fun h => by rw [if_neg (fun he => h (Option.some.inj he).symm)]⟩

set_option maxRecDepth 100000 in
set_option maxHeartbeats 2000000 in
theorem rlengths_any (a : Option Addr) (n c : Nat) (l : List Bool) (m : Nat) (w : World) (hs : Bl.Seg w a n c l) (hn : n ≤ 1000000) (hm : (lens l).length = m) :
    Calls Try.prog 21 #[.slice a n c] w (IntF w m (lens l)) := by
  obtain ⟨i0, hi, hz0, hz1, hz2⟩ := info_parts info_int
  have HL := Lib.hid hs.len
  have HS := Lib.hid hs
  have HM := Lib.hid hm
  clear hs hm
  go_enter Try.func21, Try.ntmps21
  go_wp2
  go_loopw [3, 4] (fun so si wr => ∃ (k q : Nat) (aV : Option Addr) (cV : Nat), k ≤ n ∧ si = .int .i64 k ∧ so = .slice aV q cV ∧ Hid ((lens (l.take k)).length = q) ∧ Hid (wr.ownsRow w.heap.size 3 1 (.slice aV q cV) q ((lens (l.take k)).map (Value.int .i64))) ∧ Hid (Below w.heap.size w wr)) (fun _ si _ => n - (intOf si).toNat)
  case atStart => exact ⟨0, 0, none, 0, Nat.zero_le _, rfl, rfl, Lib.hid rfl, Lib.hid (World.ownsRow_nil _ _ _ _), Lib.hid (Below.refl _ _)⟩
  case round =>
    obtain ⟨k, q, aV, cV, hk, rfl, rfl, HQ, HO, HB⟩ := hrel
    by_cases hlt : k < n
    · obtain ⟨g, o, rfl, hc⟩ := (bseg_below HS.out HB.out rfl).addr (by omega)
      have hck := hc k hlt
      obtain ⟨t0, t1⟩ := lens_take l k (by rw [HL.out]; exact hlt)
      have HQk : Hid (q ≤ k) := Lib.hid (by
        rw [← HQ.out]
        have := runs_len (l.take k)
        unfold lens
        rw [List.length_map]
        rw [List.length_take] at this
        omega)
      have HZ := Lib.hid HB.out.size
      have HOs : Hid (∀ nq, (wr.drewN nq).ownsRow w.heap.size 3 1 (.slice aV q cV) q ((lens (l.take k)).map (Value.int .i64)) ∧ Below w.heap.size w (wr.drewN nq)) := Lib.hid fun nq => ⟨HO.out, Bs.below_drewN nq HB.out⟩
      by_cases hk0 : k = 0
      · subst hk0
        have HE := Lib.hid (t0 rfl)
        have hd0 : decide ((0 : Int) > 0) = false := rfl
        clear t0 t1 hc
        go_wp2
        go_quiet (fail)
        have HO2 := Lib.hid (HOs.out nq).1
        have HB2 := Lib.hid (HOs.out nq).2
        obtain ⟨v, hv⟩ : ∃ v, wr.drewN nq = v := ⟨_, rfl⟩
        rw [hv] at HO2 HB2 ⊢
        have HZ2 := Lib.hid HB2.out.size
        clear hck hv
        go_wp2_with (first
          | (at_builtin; refine wpList_append_own _ rfl (.tmp 33) (.tmp 34) 34 rfl w.heap.size 3 i0 (.int .i64 0) 1 8 Try.underlying34 hi hz0 hz1 hz2 rfl (by decide) (.slice aV q cV) q _ rfl (HO2.out.alloc _) ⟨v.heap.size, 0, none⟩ 1 1 [.int .i64 1] rfl rfl (by intro t u ht; match t, ht with | 0, ht => simp at ht; subst ht; exact Pk.cell_new v _ _) (by intro u hu; simp at hu; subst hu; rfl) (by have := HQk.out; unfold maxLen; omega) (by have := HQk.out; omega) (by have := HZ2.out; simp; omega) ?_; intro v8 w8 hown8 hg8 hnil8; obtain ⟨g8, c8, rfl⟩ := Go.ownsRow_succ hown8)
          | fail)
        go_roundw
        case rel =>
          refine ⟨0 + 1, q + 1, _, _, by omega, by go_num, rfl, Lib.hid ?_, Lib.hid ?_, Lib.hid ((HB2.out.alloc HB2.out.size _).grown hg8 (by have := HZ2.out; simp; omega) (fun j e => (((HO2.out.alloc (.cells #[.int .i64 1] 3)).lt j e)).1))⟩
          · rw [HE.out, List.length_append, HQ.out]; rfl
          · rw [HE.out, List.map_append]
            exact hown8
        case measure => simp [intOf]; omega
      · obtain ⟨j, rfl⟩ : ∃ j, k = j + 1 := ⟨k - 1, by omega⟩
        have hcj := hc j (by omega)
        obtain ⟨t2, t3⟩ := t1 j rfl
        obtain ⟨x, hx⟩ : ∃ x, l.getD (j + 1) false = x := ⟨_, rfl⟩
        obtain ⟨y, hy⟩ : ∃ y, l.getD j false = y := ⟨_, rfl⟩
        rw [hx] at hck t2 t3
        rw [hy] at hcj t2 t3
        have hjw : IntKind.i64.wrap (((j + 1 : Nat) : Int) - 1) = (j : Int) := by rw [IntKind.wrap_i64]; omega
        have hd0 : decide (((j + 1 : Nat) : Int) > 0) = true := decide_eq_true (by omega)
        have hd1 : ((j + 1 : Nat) : Int) - 1 = (j : Int) := by omega
        clear t0 t1 hc hx hy hk0
        by_cases hxy : x = y
        · have HE := Lib.hid (t2 hxy)
          have hxy1 : (x == y) = true := by rw [hxy]; exact beq_self_eq_true y
          have hq0 : 0 < q := by
            rw [← HQ.out]
            exact lens_pos (by rw [List.length_take]; have := HL.out; omega)
          obtain ⟨i, rfl⟩ : ∃ i, q = i + 1 := ⟨q - 1, by omega⟩
          clear t2 t3 hxy
          have hqb := HQk.out
          have hiw : IntKind.i64.wrap (((i + 1 : Nat) : Int) - 1) = (i : Int) := by rw [IntKind.wrap_i64]; omega
          have hi1 : ((i + 1 : Nat) : Int) - 1 = (i : Int) := by omega
          go_wp2
          go_quiet (fail)
          have HO2 := Lib.hid (HOs.out nq).1
          have HB2 := Lib.hid (HOs.out nq).2
          obtain ⟨v, hv⟩ : ∃ v, wr.drewN nq = v := ⟨_, rfl⟩
          rw [hv] at HO2 HB2 ⊢
          clear hck hcj hv
          obtain ⟨gV, cV', eV⟩ := Go.ownsRow_succ HO2.out
          obtain ⟨rfl, rfl⟩ : aV = some ⟨gV, 0, none⟩ ∧ cV = cV' := by cases eV; exact ⟨rfl, rfl⟩
          clear eV
          have hcell := HO2.out.cellAt i (by omega)
          have hil : i < (lens (l.take (j + 1))).length := by rw [HQ.out]; omega
          rw [List.getElem?_map, List.getElem?_eq_getElem hil] at hcell
          simp only [Option.map_some] at hcell
          have hfree := HO2.out.frozenAt i
          have hxb := lens_le (l.take (j + 1)) _ (List.getElem_mem hil)
          have hUp := upLast_set (lens (l.take (j + 1))) (by omega)
          rw [HQ.out, Nat.add_sub_cancel, List.getD_eq_getElem?_getD, List.getElem?_eq_getElem hil] at hUp
          simp only [Option.getD_some] at hUp
          have hUl := upLast_len (lens (l.take (j + 1))) (by omega)
          rw [HQ.out] at hUl
          generalize (lens (l.take (j + 1)))[i]'hil = z at hcell hUp hxb
          have hz2 : z ≤ 1000001 := by have := hxb.2; rw [List.length_take] at this; omega
          have hz1 := hxb.1
          have hwz : IntKind.i64.wrap (z + 1) = z + 1 := by rw [IntKind.wrap_i64]; omega
          have HO3 : Hid ((v.setCell ⟨gV, i, none⟩ (.int .i64 (z + 1))).ownsRow w.heap.size 3 1 (.slice (some ⟨gV, 0, none⟩) (i + 1) cV) (i + 1) ((lens (l.take (j + 1 + 1))).map (Value.int .i64))) := Lib.hid (by
            rw [HE.out, hUp, List.map_set]
            exact (HO2.out.stored i (.int .i64 (z + 1))).1)
          have HB3 : Hid (Below w.heap.size w (v.setCell ⟨gV, i, none⟩ (.int .i64 (z + 1)))) := Lib.hid (HB2.out.setCell (p := ⟨gV, i, none⟩) (HO2.out.lt gV rfl).1 _)
          have HQ3 : Hid ((lens (l.take (j + 1 + 1))).length = i + 1) := Lib.hid (by rw [HE.out]; exact hUl)
          clear hUp hUl hxb hil
          go_wp2
          go_roundw
          case rel => exact ⟨j + 1 + 1, i + 1, _, _, by omega, by go_num, rfl, HQ3, HO3, HB3⟩
          case measure => simp [intOf]; omega
        · have HE := Lib.hid (t3 hxy)
          have hxy1 : (x == y) = false := beq_eq_false_iff_ne.2 hxy
          clear t2 t3 hxy
          go_wp2
          go_quiet (fail)
          have HO2 := Lib.hid (HOs.out nq).1
          have HB2 := Lib.hid (HOs.out nq).2
          obtain ⟨v, hv⟩ : ∃ v, wr.drewN nq = v := ⟨_, rfl⟩
          rw [hv] at HO2 HB2 ⊢
          have HZ2 := Lib.hid HB2.out.size
          clear hck hcj hv
          go_wp2_with (first
            | (at_builtin; refine wpList_append_own _ rfl (.tmp 33) (.tmp 34) 34 rfl w.heap.size 3 i0 (.int .i64 0) 1 8 Try.underlying34 hi hz0 hz1 hz2 rfl (by decide) (.slice aV q cV) q _ rfl (HO2.out.alloc _) ⟨v.heap.size, 0, none⟩ 1 1 [.int .i64 1] rfl rfl (by intro t u ht; match t, ht with | 0, ht => simp at ht; subst ht; exact Pk.cell_new v _ _) (by intro u hu; simp at hu; subst hu; rfl) (by have := HQk.out; unfold maxLen; omega) (by have := HQk.out; omega) (by have := HZ2.out; simp; omega) ?_; intro v8 w8 hown8 hg8 hnil8; obtain ⟨g8, c8, rfl⟩ := Go.ownsRow_succ hown8)
            | fail)
          go_roundw
          case rel =>
            refine ⟨j + 1 + 1, q + 1, _, _, by omega, by go_num, rfl, Lib.hid ?_, Lib.hid ?_, Lib.hid ((HB2.out.alloc HB2.out.size _).grown hg8 (by have := HZ2.out; simp; omega) (fun j e => (((HO2.out.alloc (.cells #[.int .i64 1] 3)).lt j e)).1))⟩
            · rw [HE.out, List.length_append, HQ.out]; rfl
            · rw [HE.out, List.map_append]
              exact hown8
          case measure => simp [intOf]; omega
    · obtain rfl : k = n := by omega
      have HF : Hid (IntF w m (lens l) (.returned (.slice aV q cV)) wr) := Lib.hid (by
        have hO := HO.out
        have hQ := HQ.out
        rw [List.take_of_length_le (Nat.le_of_eq HL.out)] at hO hQ
        obtain ⟨a2, c2, e2, hseg⟩ := own_slice hO
        cases e2
        have : q = m := by rw [← hQ, HM.out]
        subst this
        exact ⟨_, _, rfl, hseg, turn_below HB.out⟩)
      go_wp2
      go_ret
      exact HF.out
end Go.Proofs.Ytpcilohiokpmnaa.Nu
namespace Go.Proofs.Ytpcilohiokpmnaa.Nu
open Go.RowKit
open Dv (Turn nowhere)
open Pk (Turn.then PutF putR IsU)
open Bs (info_u8)
open Oct (varB)

theorem rpack_form {l : List Int} {v E : Int} {B : List Int} {m : Nat} (hR : putR l v = (E, B)) (hm : B.length = m) (hu : IsU l) (a : Option Addr) (n c : Nat) (W : World) (hs : Us.Seg W a n c l) :
    Calls Try.prog 35 #[.slice a n c, .int .i64 v] W (Pk.PutO W m E B) :=
  (Pk.rput_any a n c l v W hs hu).mono fun e w' h => by
    rw [hR] at h
    obtain ⟨a', k, he, h1, h2, h3⟩ := h
    subst hm
    exact ⟨a', k, he, h1, Pk.turn_of h2, h3⟩
/-- bytes of another row stay where a row of the call's own grows -/
theorem seg_past {w w8 : World} {a : Option Addr} {n c g : Nat} {l : List Int} {tmp : Obj} (h : Bs.Seg w a n c l) (hg : (w.alloc tmp).grownBy w8 (some g)) (hne : ∀ ad, a = some ad → g ≠ ad.block) : Bs.Seg w8 a n c l :=
  (h.grown (World.grownBy_alloc w tmp none)).kept hg (fun ad had e => hne ad had (Option.some.inj e))

theorem rput_long (a : Option Addr) (n c : Nat) (w : World) (hn : 4096 < n) :
    Calls Try.prog 16 #[.slice a n c] w (PutF w 0 3 []) := by
  have hn' : (4096 : Int) < (n : Int) := by omega
  clear hn
  go_enter Try.func16, Try.ntmps16
  go_wp2
  go_ret2
  exact ⟨none, 0, rfl, Bs.Seg.nil w, Turn.refl _ _⟩

/-- one byte more, at the end -/
theorem put_end {w w2 w8 : World} {l : List Bool} {p g c : Nat} {f : Int} {tmp : Obj} {V : Value} {xs : List Int} (hb : Below w.heap.size w w2) (ho : w2.ownsRow w.heap.size 5 1 V p (xs.map (Value.int .u8))) (hp : xs.length = p) (he : encN l = xs ++ [f])
    (hown8 : w8.ownsRow w.heap.size 5 1 (.slice (some ⟨g, 0, none⟩) (p + 1) c) (p + 1) (xs.map (Value.int .u8) ++ [Value.int .u8 f])) (hg8 : (w2.alloc tmp).grownBy w8 V.ownBlock) :
    PutF w (encN l).length 0 (encN l) (.returned (.tuple #[.slice (some ⟨g, 0, none⟩) (p + 1) c, .int .i64 0])) w8 := by
  have hl : (encN l).length = p + 1 := by rw [he, List.length_append, hp]; rfl
  refine ⟨_, c, by rw [hl], ?_, turn_below ((hb.alloc hb.size _).grown hg8 (by have := hb.size; simp; omega) (fun j e => ((ho.alloc tmp).lt j e).1))⟩
  rw [hl, he]
  refine Bs.Seg.own (base := w.heap.size) (e := 5) ?_
  rw [List.map_append]
  exact hown8

set_option maxRecDepth 100000 in
set_option maxHeartbeats 2000000 in
theorem rput_none (a : Option Addr) (n c : Nat) (l : List Bool) (w : World) (hs : Bl.Seg w a n c l) (hn : n ≤ 4096) (h0 : cnt l = 0) :
    Calls Try.prog 16 #[.slice a n c] w (PutF w (encN l).length 0 (encN l)) := by
  obtain ⟨i0, hi, hz0, hz1, hz2⟩ := info_parts info_u8
  have hlen := hs.len
  have HC := Lib.hid (fun W hs => rcount_any a n c l W hs)
  rw [h0] at HC
  have HV := Lib.hid (In.rputVar_any w.heap.size (.slice none 0 0) 0 [] (n : Int) w (World.ownsRow_nil _ _ _ _) (Nat.le_refl _) (by omega) (by omega) (by decide))
  have hfm : formN l = 0 := by unfold formN; rw [if_pos h0]
  have he : encN l = ([] ++ varB 9 (n : Int)) ++ [0] := by
    rw [enc_head]; unfold headN restB; rw [hfm, if_neg (by decide), hlen, List.append_nil]; rfl
  have HE := Lib.hid he
  have HS := Lib.hid hs
  have hvl := Oct.varB_le 9 (n : Int)
  obtain ⟨p, hp⟩ : ∃ p, 0 + (varB 9 (n : Int)).length = p := ⟨_, rfl⟩
  rw [hp] at HV
  have HP : Hid ((([] ++ varB 9 (n : Int)) : List Int).length = p) := Lib.hid (by rw [← hp]; simp)
  have hpb : p ≤ 10 := by omega
  have hwu := wrap_u64 (n := n) (by omega)
  have hn' : ¬ (4096 : Int) < (n : Int) := by omega
  clear hs hlen he hfm h0 hvl hp
  go_enter Try.func16, Try.ntmps16
  go_wp2_with fail
  refine HV.out.mono ?_
  rintro e w2 ⟨g2, c2, rfl, hown2, hb2⟩
  have HB2 := Lib.hid hb2
  have HO2 := Lib.hid hown2
  have HC2 := Lib.hid (HC.out w2 (bseg_below HS.out hb2 rfl))
  have HS2 := Lib.hid hb2.size
  clear hown2 hb2
  dsimp only
  go_wp2_with fail
  refine HC2.out.mono ?_
  rintro e w' ⟨rfl, rfl⟩
  dsimp only
  go_wp2_with (first
    | (at_builtin; refine wpList_append_own _ rfl (.tmp 18) (.tmp 19) 23 rfl w.heap.size 5 i0 (.int .u8 0) 1 1 Try.underlying23 hi hz0 hz1 hz2 rfl (by decide) _ p _ rfl (HO2.out.alloc _) ⟨w2.heap.size, 0, none⟩ 1 1 [.int .u8 0] rfl rfl (by intro t u ht; match t, ht with | 0, ht => simp at ht; subst ht; exact Pk.cell_new w2 _ _) (by intro u hu; simp at hu; subst hu; rfl) (by unfold maxLen; omega) (by omega) (by have := HS2.out; simp; omega) ?_; intro v8 w8 hown8 hg8 hnil8; obtain ⟨g8, c8, rfl⟩ := ownsRow_form hown8 (by omega))
    | fail)
  have HFin := Lib.hid (put_end HB2.out HO2.out HP.out HE.out hown8 hg8)
  clear hown8 hg8
  go_ret2
  exact HFin.out

set_option maxRecDepth 100000 in
set_option maxHeartbeats 2000000 in
theorem rput_all (a : Option Addr) (n c : Nat) (l : List Bool) (w : World) (hs : Bl.Seg w a n c l) (hn : n ≤ 4096) (h0 : ¬ cnt l = 0) (h1 : cnt l = l.length) :
    Calls Try.prog 16 #[.slice a n c] w (PutF w (encN l).length 0 (encN l)) := by
  obtain ⟨i0, hi, hz0, hz1, hz2⟩ := info_parts info_u8
  have hlen := hs.len
  have HC := Lib.hid (fun W hs => rcount_any a n c l W hs)
  have hfm : formN l = 1 := by unfold formN; rw [if_neg h0, if_pos h1]
  rw [h1, hlen] at HC
  rw [h1, hlen] at h0
  have HV := Lib.hid (In.rputVar_any w.heap.size (.slice none 0 0) 0 [] (n : Int) w (World.ownsRow_nil _ _ _ _) (Nat.le_refl _) (by omega) (by omega) (by decide))
  have he : encN l = ([] ++ varB 9 (n : Int)) ++ [1] := by
    rw [enc_head]; unfold headN restB; rw [hfm, if_neg (by decide), hlen, List.append_nil]; rfl
  have HE := Lib.hid he
  have HS := Lib.hid hs
  have hvl := Oct.varB_le 9 (n : Int)
  obtain ⟨p, hp⟩ : ∃ p, 0 + (varB 9 (n : Int)).length = p := ⟨_, rfl⟩
  rw [hp] at HV
  have HP : Hid ((([] ++ varB 9 (n : Int)) : List Int).length = p) := Lib.hid (by rw [← hp]; simp)
  have hpb : p ≤ 10 := by omega
  have hwu := wrap_u64 (n := n) (by omega)
  have hn' : ¬ (4096 : Int) < (n : Int) := by omega
  have e0 : ((n : Int) == 0) = false := beq_eq_false_iff_ne.2 (by omega)
  have e1 : ((n : Int) == (n : Int)) = true := beq_self_eq_true _
  clear hs hlen he hfm h0 h1 hvl hp
  go_enter Try.func16, Try.ntmps16
  go_wp2_with fail
  refine HV.out.mono ?_
  rintro e w2 ⟨g2, c2, rfl, hown2, hb2⟩
  have HB2 := Lib.hid hb2
  have HO2 := Lib.hid hown2
  have HC2 := Lib.hid (HC.out w2 (bseg_below HS.out hb2 rfl))
  have HS2 := Lib.hid hb2.size
  clear hown2 hb2
  dsimp only
  go_wp2_with fail
  refine HC2.out.mono ?_
  rintro e w' ⟨rfl, rfl⟩
  dsimp only
  go_wp2_with (first
    | (at_builtin; refine wpList_append_own _ rfl (.tmp 25) (.tmp 26) 23 rfl w.heap.size 5 i0 (.int .u8 0) 1 1 Try.underlying23 hi hz0 hz1 hz2 rfl (by decide) _ p _ rfl (HO2.out.alloc _) ⟨w2.heap.size, 0, none⟩ 1 1 [.int .u8 1] rfl rfl (by intro t u ht; match t, ht with | 0, ht => simp at ht; subst ht; exact Pk.cell_new w2 _ _) (by intro u hu; simp at hu; subst hu; rfl) (by unfold maxLen; omega) (by omega) (by have := HS2.out; simp; omega) ?_; intro v8 w8 hown8 hg8 hnil8; obtain ⟨g8, c8, rfl⟩ := ownsRow_form hown8 (by omega))
    | fail)
  have HFin := Lib.hid (put_end HB2.out HO2.out HP.out HE.out hown8 hg8)
  clear hown8 hg8
  go_ret2
  exact HFin.out

set_option maxRecDepth 100000 in
set_option maxHeartbeats 2000000 in
theorem rput_some (a : Option Addr) (n c : Nat) (l : List Bool) (w : World) (hs : Bl.Seg w a n c l) (hn : n ≤ 4096) (h0 : ¬ cnt l = 0) (h1 : ¬ cnt l = l.length) :
    Calls Try.prog 16 #[.slice a n c] w (PutF w (encN l).length 0 (encN l)) := by
  obtain ⟨i0, hi, hz0, hz1, hz2⟩ := info_parts info_u8
  have hlen := hs.len
  have HC := Lib.hid (fun W hs => rcount_any a n c l W hs)
  have h2 : formN l = 2 := by unfold formN; rw [if_neg h0, if_neg h1]
  rw [hlen] at h1
  have HV := Lib.hid (In.rputVar_any w.heap.size (.slice none 0 0) 0 [] (n : Int) w (World.ownsRow_nil _ _ _ _) (Nat.le_refl _) (by omega) (by omega) (by decide))
  have he : encN l = (([] ++ varB 9 (n : Int)) ++ [2]) ++ bitsB l := by
    rw [enc_head]; unfold headN restB; rw [if_pos h2, hlen, h2]; rfl
  have HE := Lib.hid he
  have HS := Lib.hid hs
  have hvl := Oct.varB_le 9 (n : Int)
  obtain ⟨p, hp⟩ : ∃ p, 0 + (varB 9 (n : Int)).length = p := ⟨_, rfl⟩
  rw [hp] at HV
  have HP : Hid ((([] ++ varB 9 (n : Int)) : List Int).length = p) := Lib.hid (by rw [← hp]; simp)
  have hpb : p ≤ 10 := by omega
  have hwu := wrap_u64 (n := n) (by omega)
  have hn' : ¬ (4096 : Int) < (n : Int) := by omega
  obtain ⟨z, hz⟩ : ∃ z, cnt l = z := ⟨_, rfl⟩
  rw [hz] at HC h0 h1
  have e0 : ((z : Int) == 0) = false := beq_eq_false_iff_ne.2 (by omega)
  have e1 : ((z : Int) == (n : Int)) = false := beq_eq_false_iff_ne.2 (by omega)
  have hl6 : l.length ≤ 65536 := by omega
  have HPB : Hid (Pk.putR (numsL l) 1 = (0, bitsB l)) := Lib.hid (put_bits hl6)
  obtain ⟨pl, hpl⟩ : ∃ p, (bitsB l).length = p := ⟨_, rfl⟩
  have hplb : pl ≤ 8192 := by rw [← hpl, bits_len hl6]; exact sizeN_le hl6
  have HNum := Lib.hid (fun W h => rnumbers_any a n c l W h (by omega))
  have HPut := Lib.hid (fun a' c' W h => rpack_form (l := numsL l) (v := 1) HPB.out hpl (nums_isU l) a' n c' W h)
  have HPL := Lib.hid hpl
  clear hs hlen he h2 h0 h1 hvl hp hz hpl hl6
  go_enter Try.func16, Try.ntmps16
  go_wp2_with fail
  refine HV.out.mono ?_
  rintro e w2 ⟨g2, c2, rfl, hown2, hb2⟩
  have HB2 := Lib.hid hb2
  have HO2 := Lib.hid hown2
  have HC2 := Lib.hid (HC.out w2 (bseg_below HS.out hb2 rfl))
  have HN2 := Lib.hid (HNum.out w2 (bseg_below HS.out hb2 rfl))
  clear hown2 hb2
  dsimp only
  go_wp2_with fail
  refine HC2.out.mono ?_
  rintro e w' ⟨rfl, rfl⟩
  dsimp only
  go_wp2_with fail
  refine HN2.out.mono ?_
  rintro e w3 ⟨rfl, hsN, htN⟩
  have HO3 : Hid (w3.ownsRow w.heap.size 5 1 (.slice (some ⟨g2, 0, none⟩) p c2) p (([] ++ varB 9 (n : Int)).map (Value.int .u8))) := Lib.hid (Pk.own_turn_any HO2.out htN id)
  have HB3 : Hid (Below w.heap.size w w3) := Lib.hid (below_turn (Turn.then (turn_below HB2.out) htN))
  have HPut3 := Lib.hid (HPut.out _ _ w3 hsN)
  clear hsN htN HN2
  dsimp only
  go_wp2_with fail
  refine HPut3.out.mono ?_
  rintro e w4 ⟨a4, k4, rfl, hs4, ht4, hnew⟩
  obtain ⟨g4, ha4, hown4⟩ := hnew rfl
  have HNe : Hid (∀ ad, a4 = some ad → g2 ≠ ad.block) := Lib.hid (fun ad had e => by
    rw [ha4] at had
    cases had
    have h1 := (hown4.lt _ rfl).1
    have h2 := (HO3.out.lt _ rfl).2
    dsimp only at h1 h2 e
    omega)
  have HO4 : Hid (w4.ownsRow w.heap.size 5 1 (.slice (some ⟨g2, 0, none⟩) p c2) p (([] ++ varB 9 (n : Int)).map (Value.int .u8))) := Lib.hid (Pk.own_turn_any HO3.out ht4 id)
  have HB4 : Hid (Below w.heap.size w w4) := Lib.hid (below_turn (Turn.then (turn_below HB3.out) ht4))
  have HS4 := Lib.hid hs4
  have HZ4 := Lib.hid HB4.out.size
  clear hs4 ht4 HPut3 hnew ha4 hown4
  dsimp only
  go_wp2_with (first
    | (at_builtin; refine wpList_append_own _ rfl (.tmp 34) (.tmp 35) 23 rfl w.heap.size 5 i0 (.int .u8 0) 1 1 Try.underlying23 hi hz0 hz1 hz2 rfl (by decide) _ p _ rfl (HO4.out.alloc _) ⟨w4.heap.size, 0, none⟩ 1 1 [.int .u8 2] rfl rfl (by intro t u ht; match t, ht with | 0, ht => simp at ht; subst ht; exact Pk.cell_new w4 _ _) (by intro u hu; simp at hu; subst hu; rfl) (by unfold maxLen; omega) (by omega) (by have := HZ4.out; simp; omega) ?_; intro v8 w8 hown8 hg8 hnil8; obtain ⟨g8, c8, rfl⟩ := ownsRow_form hown8 (by omega); have HO8 := Lib.hid hown8; have HB8 : Hid (Below w.heap.size w w8) := Lib.hid ((HB4.out.alloc HB4.out.size _).grown hg8 (by have := HZ4.out; simp; omega) (fun j e => ((HO4.out.alloc (.cells #[.int .u8 2] 5)).lt j e).1)); have HS8 : Hid (Bs.Seg w8 a4 pl k4 (bitsB l)) := Lib.hid (seg_past HS4.out hg8 HNe.out); have HZ8 := Lib.hid HB8.out.size; clear hown8 hg8 hnil8)
    | (at_builtin; refine Bs.wpList_append_seg rfl (.tmp 36) (.tmp 37) 23 rfl w.heap.size 5 i0 Try.underlying23 hi hz0 hz1 hz2 g8 (p + 1) c8 _ rfl HO8.out a4 pl k4 (bitsB l) rfl HS8.out (by omega) HZ8.out ?_; intro g9 c9 w9 hown9 hg9)
    | fail)
  have HFin : Hid (PutF w (encN l).length 0 (encN l) (.returned (.tuple #[.slice (some ⟨g9, 0, none⟩) (p + 1 + pl) c9, .int .i64 0])) w9) := by
    have hl : (encN l).length = p + 1 + pl := by rw [HE.out, List.length_append, List.length_append, HP.out, HPL.out]; rfl
    refine Lib.hid ⟨_, c9, by rw [hl], ?_, turn_below (HB8.out.grown hg9 HZ8.out (fun j e => (HO8.out.lt j e).1))⟩
    rw [hl, HE.out]
    refine Bs.Seg.own (base := w.heap.size) (e := 5) ?_
    rw [List.map_append, List.map_append]
    exact hown9
  clear hown9 hg9
  go_ret2
  exact HFin.out

/-- The document's Put, in the laws' form. -/
theorem rput_form {l : List Bool} {E : Int} {B : List Int} {m : Nat} (hR : putN l = (E, B)) (hm : B.length = m) (a : Option Addr) (n c : Nat) (W : World) (hs : Bl.Seg W a n c l) :
    Calls Try.prog 16 #[.slice a n c] W (PutF W m E B) := by
  have hl := hs.len
  subst hm
  unfold putN at hR
  by_cases h : 4096 < l.length
  · rw [if_pos h] at hR
    cases hR
    exact rput_long a n c W (by omega)
  · rw [if_neg h] at hR
    cases hR
    by_cases h0 : cnt l = 0
    · exact rput_none a n c l W hs (by omega) h0
    · by_cases h1 : cnt l = l.length
      · exact rput_all a n c l W hs (by omega) h0 h1
      · exact rput_some a n c l W hs (by omega) h0 h1
end Go.Proofs.Ytpcilohiokpmnaa.Nu
namespace Go.Proofs.Ytpcilohiokpmnaa.Nu
open Go.RowKit
open Dv (Turn nowhere)
open Pk (Turn.then getR sizeN Fit)
open Oct (readV ofB)
open In (At RR RRead RVarX rvar_any rnew_any rnumber1_any turn_up below_grown)

theorem rgetp_form {l : List Int} {n v E : Int} {B : List Int} {m : Nat} (hR : getR l n v = (E, B)) (hm : B.length = m) (hb : Fit 8 l) (a : Option Addr) (len c : Nat) (W : World) (hs : Bs.Seg W a len c l) :
    Calls Try.prog 42 #[.slice a len c, .int .i64 n, .int .i64 v] W (Pk.GetF W m E B) :=
  (Pk.rget_any a len c l n v W hs hb).mono fun e w' h => by
    rw [hR] at h
    obtain ⟨a', k, he, h1, h2⟩ := h
    subst hm
    exact ⟨a', k, he, h1, Pk.turn_of h2⟩

set_option maxHeartbeats 400000 in
theorem rleft_any (b g : Nat) (l : List Int) (w : World) (h : RR w b g l) :
    Calls Try.prog 43 #[.pointer (some ⟨b, 0, none⟩)] w fun e w' => e = .returned (.int .i64 l.length) ∧ w = w' := by
  obtain ⟨o, c, h0, hle, hc, hj⟩ := h.cells
  obtain ⟨m, hm⟩ : ∃ m, l.length = m := ⟨_, rfl⟩
  rw [hm] at h0 ⊢
  clear hj hle hc h hm
  go_enter Try.func43, Try.ntmps43
  go_wp2
  go_ret
  exact ⟨rfl, rfl⟩

/-- one byte more of whatever is left -/
theorem rform_any (b g : Nat) (l : List Int) (w : World) (h : RR w b g l) (hb : Oct.IsB l) : ∃ x f r, (f = 0 ∨ f = 7) ∧ (l = [] → f = 7) ∧
    Calls Try.prog 39 #[.pointer (some ⟨b, 0, none⟩), .int .i64 1] w (RRead b g w x f r) := by
  have := rnumber1_any b g l w h hb
  cases l with
  | nil => exact ⟨0, 7, [], .inr rfl, fun _ => rfl, this⟩
  | cons x r => exact ⟨x, 0, r, .inl rfl, (fun h => by cases h), this⟩

set_option maxRecDepth 100000 in
set_option maxHeartbeats 2000000 in
/-- the number of flags can't be read, or is too great -/
theorem rget_count (a : Option Addr) (n c : Nat) (bs : List Int) (w : World) (hs : Bs.Seg w a n c bs) (hb : Oct.IsB bs) (hn : n ≤ 100000000) (hc : readC bs = none) :
    Calls Try.prog 17 #[.slice a n c] w (GetX w 0 [] 0 4) := by
  have HNew := Lib.hid (rnew_any a n c bs w hs (by omega))
  have HB := Lib.hid hb
  have hbad : ¬ (readV 0 0 bs).2.1 = 0 ∨ 4096 < (readV 0 0 bs).1 := by
    unfold readC at hc
    split at hc
    · rename_i h; exact h
    · cases hc
  obtain ⟨v, er, nn, hv⟩ : ∃ v er nn, readV 0 0 bs = (v, er, nn) := ⟨_, _, _, rfl⟩
  have HVe := Lib.hid hv
  have hv0 : er = 0 → 0 ≤ v := fun h0 => by subst h0; exact (In.var_readV bs hb v nn hv).1
  rw [hv] at hbad
  dsimp only at hbad
  clear hs hb hn hc hv
  go_enter Try.func17, Try.ntmps17
  go_wp2_with fail
  refine HNew.out.mono ?_
  rintro e w1 ⟨b, g, rfl, hb0, hrd, hgr, hg1⟩
  have HVar := Lib.hid (rvar_any b g bs w1 hrd HB.out)
  unfold RVarX at HVar
  rw [HVe.out] at HVar
  have HB1 : Hid (Below w.heap.size w w1) := Lib.hid (below_grown hgr (Nat.le_refl _))
  have HB0 := Lib.hid hb0
  clear hb0 hrd hgr hg1
  dsimp only at HVar
  dsimp only
  go_wp2_with fail
  refine HVar.out.mono ?_
  rintro e w2 ⟨rfl, ht2, hr2⟩
  obtain ⟨x, f, r, hf, -, hnum⟩ := rform_any b g (bs.drop nn) w2 hr2 (In.isB_drop HB.out nn)
  have HNum := Lib.hid hnum
  have HB2 : Hid (Below w.heap.size w w2) := Lib.hid (turn_up HB1.out ht2 HB0.out)
  clear ht2 hr2 HVar hnum
  dsimp only
  go_wp2_with fail
  refine HNum.out.mono ?_
  rintro e w3 ⟨rfl, ht3, hr3⟩
  have HF : Hid (GetX w 0 [] 0 4 (.returned (.tuple #[.slice none 0 0, .int .i64 0, .int .i64 4])) w3) := Lib.hid (getx_bad (turn_up HB2.out ht3 HB0.out))
  clear ht3 hr3 HNum
  dsimp only
  by_cases he : er = 0
  · subst he
    have h4 : 4096 < v := by simpa using hbad
    have hv1 := hv0 rfl
    clear hbad hv0
    rcases hf with rfl | rfl
    · go_wp2
      go_ret3
      exact HF.out
    · go_wp2
      go_ret3
      exact HF.out
  · have he1 : (er != 0) = true := bne_iff_ne.2 he
    have he2 : (er == 0) = false := beq_eq_false_iff_ne.2 he
    clear hbad hv0 hf
    go_wp2
    go_ret3
    exact HF.out

/-- Var of a count that can be read. -/
theorem rvar_count {bs : List Int} (hb : Oct.IsB bs) {m : Nat} {r : List Int} (hc : readC bs = some (m, r)) : ∀ b g W, RR W b g bs →
    Calls Try.prog 38 #[.pointer (some ⟨b, 0, none⟩)] W (RRead b g W (m : Int) 0 r) := by
  obtain ⟨hm, hbe⟩ := readC_some hb hc
  have hv : readV 0 0 bs = ((m : Int), 0, (Oct.varB 9 (m : Int)).length) := by rw [hbe]; exact In.readV_var m r (by omega)
  have hd : bs.drop (Oct.varB 9 (m : Int)).length = r := by rw [hbe]; exact In.drop_var m r
  intro b g W h
  have := rvar_any b g bs W h hb
  unfold RVarX at this
  rw [hv] at this
  dsimp only at this
  rw [hd] at this
  exact this

set_option maxRecDepth 100000 in
set_option maxHeartbeats 2000000 in
/-- no byte behind the number of flags, or a wrong one -/
theorem rget_form (a : Option Addr) (n c : Nat) (bs : List Int) (m : Nat) (r : List Int) (w : World) (hs : Bs.Seg w a n c bs) (hb : Oct.IsB bs) (hn : n ≤ 100000000) (hc : readC bs = some (m, r)) (hr : r = [] ∨ ∃ k t, r = k :: t ∧ 2 < k) :
    Calls Try.prog 17 #[.slice a n c] w (GetX w 0 [] 0 4) := by
  have HNew := Lib.hid (rnew_any a n c bs w hs (by omega))
  obtain ⟨hm, hbe⟩ := readC_some hb hc
  have HRB : Hid (Oct.IsB r) := Lib.hid (isB_right (hbe ▸ hb))
  have HVar := Lib.hid (rvar_count hb hc)
  have hm4 : ¬ (4096 : Int) < (m : Int) := by omega
  clear hs hb hn hc hbe
  go_enter Try.func17, Try.ntmps17
  go_wp2_with fail
  refine HNew.out.mono ?_
  rintro e w1 ⟨b, g, rfl, hb0, hrd, hgr, hg1⟩
  have HV1 := Lib.hid (HVar.out b g w1 hrd)
  have HB1 : Hid (Below w.heap.size w w1) := Lib.hid (below_grown hgr (Nat.le_refl _))
  have HB0 := Lib.hid hb0
  clear hb0 hrd hgr hg1
  dsimp only
  go_wp2_with fail
  refine HV1.out.mono ?_
  rintro e w2 ⟨rfl, ht2, hr2⟩
  have hnum := rnumber1_any b g r w2 hr2 HRB.out
  have HB2 : Hid (Below w.heap.size w w2) := Lib.hid (turn_up HB1.out ht2 HB0.out)
  rcases hr with rfl | ⟨k, t, rfl, hk⟩
  · have HNum : Hid (Calls Try.prog 39 #[.pointer (some ⟨b, 0, none⟩), .int .i64 1] w2 (RRead b g w2 0 7 [])) := Lib.hid hnum
    clear ht2 hr2 HV1 hnum
    dsimp only
    go_wp2_with fail
    refine HNum.out.mono ?_
    rintro e w3 ⟨rfl, ht3, hr3⟩
    have HF : Hid (GetX w 0 [] 0 4 (.returned (.tuple #[.slice none 0 0, .int .i64 0, .int .i64 4])) w3) := Lib.hid (getx_bad (turn_up HB2.out ht3 HB0.out))
    clear ht3 hr3 HNum
    dsimp only
    go_wp2
    go_ret3
    exact HF.out
  · have HNum : Hid (Calls Try.prog 39 #[.pointer (some ⟨b, 0, none⟩), .int .i64 1] w2 (RRead b g w2 k 0 t)) := Lib.hid hnum
    clear ht2 hr2 HV1 hnum
    dsimp only
    go_wp2_with fail
    refine HNum.out.mono ?_
    rintro e w3 ⟨rfl, ht3, hr3⟩
    have HF : Hid (GetX w 0 [] 0 4 (.returned (.tuple #[.slice none 0 0, .int .i64 0, .int .i64 4])) w3) := Lib.hid (getx_bad (turn_up HB2.out ht3 HB0.out))
    clear ht3 hr3 HNum
    dsimp only
    go_wp2
    go_ret3
    exact HF.out

/-! ### the row of flags, filled one by one -/
def fillF (D : List Bool) (j : Nat) : List Bool := D.take j ++ List.replicate (D.length - j) false
theorem fillF_zero (D : List Bool) : fillF D 0 = List.replicate D.length false := by simp [fillF]
theorem fillF_all (D : List Bool) : fillF D D.length = D := by simp [fillF]
theorem fillF_len (D : List Bool) (j : Nat) (h : j ≤ D.length) : (fillF D j).length = D.length := by
  unfold fillF; rw [List.length_append, List.length_take, List.length_replicate]; omega
theorem fillF_set (D : List Bool) (j : Nat) (h : j < D.length) : (fillF D j).set j (D.getD j false) = fillF D (j + 1) := by
  have e2 : D.length - j = (D.length - (j + 1)) + 1 := by omega
  have hl : (D.take j).length = j := by rw [List.length_take]; omega
  unfold fillF
  rw [e2, List.replicate_succ, List.set_append_right _ _ (by omega), hl, Nat.sub_self, List.set_cons_zero, List.take_succ_eq_append_getElem h, List.append_assoc, List.getD_eq_getElem?_getD, List.getElem?_eq_getElem h]
  rfl
theorem make_fullT (S : Nat) (hS : S ≤ 1000000) (W : World) : (Instr.makeSlice 27 (.int .u64 (S : Int)) (.int .u64 (S : Int))).run Try.prog W = .ok (.slice (some ⟨W.heap.size, 0, none⟩) S S) (W.alloc (.cells (roomF S) 4)) := by
  obtain ⟨i0, hi, hz0, hz1, hz2⟩ := info_parts Bl.info_bool
  have h := run_make (P := Try.prog) W 27 4 i0 (.bool false) Try.underlying27 hi hz0 .u64 .u64 (S : Int) (S : Int) (by omega) (by omega) (by rw [hz2]; omega) (by omega)
  rw [hz1, Int.toNat_natCast, Nat.mul_one] at h
  exact h
theorem roomF_list (S : Nat) : (roomF S).toList = (List.replicate S false).map Value.bool := by
  have h : (roomF S).toList = List.replicate S (Value.bool false) := toList_madeCells_one _ _
  rw [h, List.map_replicate]
theorem made_flags (W : World) (D : List Bool) (S : Nat) (hS : S ≤ 1000000) (hD : D.length = S) : (W.alloc (.cells (roomF S) 4)).ownsRow W.heap.size 4 1 (.slice (some ⟨W.heap.size, 0, none⟩) S S) S ((fillF D 0).map Value.bool) := by
  rw [fillF_zero, hD]
  exact ⟨by simp, .inr ⟨W.heap.size, S, roomF S, rfl, Nat.le_refl _, heap_alloc_new W _, Nat.le_refl _, by unfold maxLen; omega, by rw [roomF_size, Nat.mul_one], by rw [roomF_list]; exact List.take_of_length_le (by simp)⟩⟩
end Go.Proofs.Ytpcilohiokpmnaa.Nu
