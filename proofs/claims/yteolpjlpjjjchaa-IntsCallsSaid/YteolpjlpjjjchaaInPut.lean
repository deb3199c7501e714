/-
  Numbers of eight bytes behind others: putNumber, putPlain.
-/
import Derived.Test.YteolpjlpjjjchaaInMin
import Derived.Test.YteolpjlpjjjchaaRef1
import Derived.Test.YteolpjlpjjjchaaOctVarR
import Derived.Test.YteolpjlpjjjchaaPkForm
import Derived.Laws.MakeOwn
namespace Go.Proofs.Yteolpjlpjjjchaa.In
open Go.RowKit Go.Joins
open Is (IsI)
open Bs (info_u8)
open Ref1 (GrowB)

theorem oseg {w : World} {a : Option Addr} {n c : Nat} {l : List Int} (h : Bs.Seg w a n c l) : Oct.Seg w a n c l := ⟨h.len, h.le, h.cap, h.nil_, h.at_⟩
theorem bseg {w : World} {a : Option Addr} {n c : Nat} {l : List Int} (h : Oct.Seg w a n c l) : Bs.Seg w a n c l := ⟨h.len, h.le, h.cap, h.nil_, h.at_⟩
theorem below_grown {B : Nat} {w w' : World} (h : w.grownBy w' none) (hB : B ≤ w.heap.size) : Below B w w' := (Below.refl B w).grown h hB (fun _ e => by cases e)
theorem below_mono {B B' : Nat} {w w' : World} (h : Below B w w') (hB : B' ≤ B) : Below B' w w' := ⟨h.os, h.tape, h.output, h.size, fun k hk => h.block k (Nat.lt_of_lt_of_le hk hB)⟩
theorem own_grown {w w' : World} {base e s n : Nat} {v : Value} {xs : List Value} (h : w.ownsRow base e s v n xs) (hg : w.grownBy w' none) : w'.ownsRow base e s v n xs :=
  h.kept hg (by cases hv : v.ownBlock <;> simp)
theorem iseg_below {w w' : World} {a : Option Addr} {n c B : Nat} {l : List Int} (h : Is.Seg w a n c l) (k : Below B w w') (hB : B = w.heap.size) : Is.Seg w' a n c l := by
  subst hB; exact h.grown (Bs.grown_of k)

set_option maxRecDepth 100000 in
set_option maxHeartbeats 1000000 in
theorem putNumber_any (base : Nat) (v0 : Value) (n : Nat) (l : List Int) (v : Int) (w : World) (hown : w.ownsRow base 5 1 v0 n (l.map (Value.int .u8))) (hbase : base ≤ w.heap.size) (hn : n ≤ 70368744177664) :
    Calls Try.prog 61 #[v0, .int .i64 v] w (GrowB base w (l ++ num8 v) (n + 8)) := by
  obtain ⟨i0, hi, hz0, hz1, hz2⟩ := info_parts info_u8
  have HP := Lib.hid (Oct.put_yes none 0 0 [] (u v) 8 w (Oct.Seg.nil w) (u_bd v).1 (u_bd v).2 (by decide) (by decide) (by decide))
  have HO := Lib.hid hown
  have HN := Lib.hid hn
  clear hown hn
  go_enter Try.func61, Try.ntmps61
  go_wp2_with fail
  refine HP.out.mono ?_
  rintro e w1 hnew
  rw [List.nil_append] at hnew
  obtain ⟨g, q, rfl, hf⟩ := hnew.value
  obtain ⟨hq, hown1, hg⟩ := hf.is
  rw [Oct.putB_length] at hq
  subst hq
  have hs := Oct.Seg.own hown1
  have hown0 := own_grown HO.out hg
  have hsz := hg.size
  have HB := Lib.hid (below_grown (B := base) hg hbase)
  have HB2 : Hid (base ≤ w1.heap.size) := Lib.hid (by omega)
  have HS := Lib.hid (hs.at_ _ rfl)
  have HL : Hid (((Oct.putB 8 (u v)).map (Value.int .u8)).length = 8 * 1) := Lib.hid (by rw [List.length_map, Oct.putB_length])
  have HO0 := Lib.hid hown0
  clear hnew hf hown1 hg hs hown0 hsz
  go_wp2_with (at_builtin; refine wpList_append_own _ rfl (.tmp 5) (.tmp 8) 23 rfl base 5 i0 (.int .u8 0) 1 1 Try.underlying23 hi hz0 hz1 hz2 rfl (by decide) v0 n (l.map (Value.int .u8)) rfl HO0.out ⟨g, 0, none⟩ 8 8 ((Oct.putB 8 (u v)).map (Value.int .u8)) rfl HL.out HS.out (ints_oneCell _ _) (by have := HN.out; unfold maxLen; omega) (by have := HN.out; omega) HB2.out ?_; intro v' w2 hown2 hgrow2 _)
  obtain ⟨g', c', rfl⟩ := ownsRow_form hown2 (by omega)
  have HF : Hid (GrowB base w (l ++ num8 v) (n + 8) (.returned (.slice (some ⟨g', 0, none⟩) (n + 8) c')) w2) := by
    refine Lib.hid ⟨g', c', rfl, ?_, HB.out.grown hgrow2 HB2.out (fun i e => (HO0.out.lt i e).1)⟩
    rw [List.map_append]
    exact hown2
  clear hown2 hgrow2
  go_wp2
  go_ret
  exact HF.out

theorem plain_take (l : List Int) (k : Nat) (x : Int) (h : k < l.length) (hx : l.getD k 0 = x) : plainB (l.take (k + 1)) = plainB (l.take k) ++ num8 x := by
  rw [List.take_succ_eq_append_getElem h, plainB_snoc, ← hx]; simp [List.getD, h]

set_option maxRecDepth 100000 in
set_option maxHeartbeats 1000000 in
theorem putPlain_any (a : Option Addr) (n c : Nat) (l : List Int) (w : World) (hs : Is.Seg w a n c l) (hn : n ≤ 65536) :
    Calls Try.prog 49 #[.slice a n c] w (GrowB w.heap.size w (plainB l) (8 * n)) := by
  have hcap := hs.cap
  have hle := hs.le
  unfold maxLen at hcap
  have HLen := Lib.hid hs.len
  have hmk : ∀ W : World, (Instr.makeSlice 23 (.int .i64 0) (.int .i64 (8 * (n : Int)))).run Try.prog W = .ok (.slice (some ⟨W.heap.size, 0, none⟩) 0 (8 * n)) (W.alloc (.cells (Pk.room (8 * n)) 5)) := fun W => by
    have := Pk.make_room (8 * n) (by omega) W
    rwa [Int.natCast_mul] at this
  have h0 := World.ownsRow_made (base := w.heap.size) (e := 5) (size := 1) w (Pk.room (8 * n)) (8 * n) (Nat.le_refl _) (by unfold maxLen; omega) (by rw [Pk.room_size, Nat.mul_one])
  have HO := Lib.hid h0
  have HG : Hid (Below w.heap.size w (w.alloc (.cells (Pk.room (8 * n)) 5))) := Lib.hid ((Below.refl _ w).alloc (Nat.le_refl _) _)
  have HSeg := Lib.hid hs
  clear h0 hs
  go_enter Try.func49, Try.ntmps49
  go_wp2
  go_loopw [3, 12] (fun so si wr => ∃ (k : Nat) (V : Value), k ≤ n ∧ si = .int .i64 k ∧ V = so ∧ Hid (∃ g cc, V = .slice (some ⟨g, 0, none⟩) (8 * k) cc) ∧ Hid (wr.ownsRow w.heap.size 5 1 V (8 * k) ((plainB (l.take k)).map (Value.int .u8))) ∧ Hid (Below w.heap.size w wr))
    (fun _ si _ => n - (intOf si).toNat)
  case atStart => exact ⟨0, _, Nat.zero_le _, rfl, rfl, Lib.hid ⟨_, _, rfl⟩, HO, HG⟩
  case round =>
    obtain ⟨k, V, hk, rfl, rfl, HV, HO, HB⟩ := hrel
    by_cases hlt : k < n
    · have hseg := iseg_below HSeg.out HB.out rfl
      obtain ⟨gA, oA, rfl, hc⟩ := hseg.addr (by omega)
      have g1 := hc k hlt
      obtain ⟨x, hx⟩ : ∃ x, l.getD k 0 = x := ⟨_, rfl⟩
      rw [hx] at g1
      have HP := Lib.hid (plain_take l k x (by have := HLen.out; omega) hx)
      have HN := Lib.hid (putNumber_any w.heap.size V (8 * k) (plainB (l.take k)) x wr HO.out HB.out.size (by omega))
      clear hx hc hseg
      go_wp2_with fail
      refine HN.out.mono ?_
      rintro e w1 ⟨g, cc, rfl, hown, hbel⟩
      have HO1 : Hid (w1.ownsRow w.heap.size 5 1 (.slice (some ⟨g, 0, none⟩) (8 * k + 8) cc) (8 * (k + 1)) ((plainB (l.take (k + 1))).map (Value.int .u8))) := Lib.hid (by rw [HP.out]; exact hown)
      have HB1 := Lib.hid (HB.out.trans hbel)
      clear hown hbel
      dsimp only
      go_wp2
      go_roundw
      case rel => exact ⟨k + 1, _, by omega, by go_num, rfl, Lib.hid ⟨_, _, rfl⟩, HO1, HB1⟩
      case measure => simp [intOf]; omega
    · obtain rfl : k = n := by omega
      obtain ⟨g, cc, rfl⟩ := HV.out
      have HF : Hid (GrowB w.heap.size w (plainB l) (8 * k) (.returned (.slice (some ⟨g, 0, none⟩) (8 * k) cc)) wr) := by
        have := HO.out
        rw [List.take_of_length_le (Nat.le_of_eq HLen.out)] at this
        exact Lib.hid ⟨g, cc, rfl, this, HB.out⟩
      go_wp2
      go_ret
      exact HF.out
end Go.Proofs.Yteolpjlpjjjchaa.In
