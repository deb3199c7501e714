/-
  What the program's and the document's functions do, in memory and as plain functions: TxPlain, RBytes, InPut.
-/
import Derived.Laws.MakeOwn
import Derived.Test.YtljanfnhmhimiaaGreatSmE
import Derived.Test.YtljanfnhmhimiaaGreatSmH
import Derived.Test.YtljanfnhmhimiaaGreatSmM

namespace Go.Proofs.YtljanfnhmhimiaaGreat.Tx
open Go.RowKit Go.Joins
open Ss (IsS)
open Bs (info_u8)
open Oct (varB)
open Ref1 (GrowB)
open In (below_grown below_mono own_grown oseg)
open Pk (PutF)
open Dv (Turn nowhere)

/-- bytes and an error, the answer plain -/
def PutT (w : World) (r : Int × List Int) (e : Ending) (w' : World) : Prop :=
  ∃ a k, e = .returned (.tuple #[.slice a r.2.length k, .int .i64 r.1]) ∧ Bs.Seg w' a r.2.length k r.2 ∧ Below w.heap.size w w'
theorem putT_form {w w' : World} {r : Int × List Int} {e : Ending} {E : Int} {B : List Int} {m : Nat} (h : PutT w r e w') (hr : r = (E, B)) (hm : B.length = m) : PutF w m E B e w' := by
  subst hr
  obtain ⟨a, k, he, hs, hb⟩ := h
  subst hm
  exact ⟨a, k, he, hs, In.turn_below hb⟩
theorem can_below (a : Option Addr) (n c : Nat) (l : List (List Int)) (w : World) (hs : Ss.Seg w a n c l) :
    Calls Tryz.prog 168 #[.slice a n c] w fun e w' => e = .returned (.bool (okB l)) ∧ Below w.heap.size w w' :=
  (canPut_any a n c l w hs).mono fun e w' ⟨he, m, hw⟩ => ⟨he, by subst hw; exact Bs.below_drewN m (Below.refl _ w)⟩
theorem form_no {b : List Int} {l : List (List Int)} (h : okB l = false) : formR b l = (3, []) := by unfold formR; rw [h]; rfl
theorem form_yes {b : List Int} {l : List (List Int)} (h : okB l = true) : formR b l = (0, b) := by unfold formR; rw [h]; rfl
theorem putT_no {w w' : World} (h : Below w.heap.size w w') : PutT w (3, []) (.returned (.tuple #[.slice none 0 0, .int .i64 3])) w' := ⟨none, 0, rfl, Bs.Seg.nil w', h⟩

set_option maxRecDepth 100000 in
set_option maxHeartbeats 1000000 in
theorem plain_any (a : Option Addr) (n c : Nat) (l : List (List Int)) (w : World) (hs : Ss.Seg w a n c l) (hb : AllB l) :
    Calls Tryz.prog 144 #[.slice a n c] w (PutT w (formR (plainT l) l)) := by
  have HC := Lib.hid (can_below a n c l w hs)
  cases hok : okB l with
  | false =>
    rw [hok] at HC
    rw [form_no hok]
    clear hs hb hok
    go_enter Tryz.func144, Tryz.ntmps144
    go_wp2_with fail
    refine HC.out.mono ?_
    rintro e w1 ⟨rfl, hb1⟩
    have HF := Lib.hid (putT_no hb1)
    clear hb1
    dsimp only
    go_wp2
    go_ret2
    exact HF.out
  | true =>
    have hO := (okB_iff l).1 hok
    rw [hok] at HC
    rw [form_yes hok]
    have HOk := Lib.hid hO
    have hn : n ≤ 4096 := by rw [← hs.len]; exact hO.1
    have HLen := Lib.hid hs.len
    have HSeg := Lib.hid hs
    have HBB := Lib.hid hb
    have hwu := wrap_u64 (n := n) (by omega)
    clear hs hb hok hO
    go_enter Tryz.func144, Tryz.ntmps144
    go_wp2_with fail
    refine HC.out.mono ?_
    rintro e w1 ⟨rfl, hb1⟩
    have HPut := Lib.hid (Oct.putVar_any _ 1 1 [1] (n : Int) (w1.alloc (.cells #[.int .u8 1] 5)) (oseg (Bs.lit_seg w1 [1] (by decide))) (by omega) (by omega) (by decide))
    have HB1 : Hid (Below w.heap.size w (w1.alloc (.cells #[.int .u8 1] 5))) := Lib.hid (hb1.alloc hb1.size _)
    clear hb1
    dsimp only
    go_wp2_with fail
    refine HPut.out.mono ?_
    rintro e w2 hnew
    obtain ⟨g, p, rfl, hf⟩ := hnew.value
    obtain ⟨hp, hown1, hg⟩ := hf.is
    have hvl := Oct.varB_le 9 (n : Int)
    have hp1 : p ≤ 11 := by rw [hp]; simp; omega
    have hp0 : 0 < p := by rw [hp]; simp
    have HB2 := Lib.hid (HB1.out.trans (below_grown hg HB1.out.size))
    have HStr := Lib.hid (putStrings_any w.heap.size _ p ([1] ++ varB 9 (n : Int)) a n c l w2 (sseg_below HSeg.out HB2.out rfl) (fun h => sseg_lt HSeg.out h) HB2.out.size (Oct.ownsRow_mono hown1 HB1.out.size) hp0 (by omega) HBB.out HOk.out.2 (by omega))
    have HE : Hid (plainT l = [1] ++ varB 9 (n : Int) ++ strsB l) := Lib.hid (by unfold plainT; rw [HLen.out]; rfl)
    have HPl := Lib.hid hp
    clear hnew hf hown1 hg hp hvl hp1 hp0
    dsimp only
    go_wp2_with fail
    refine HStr.out.mono ?_
    rintro e w3 ⟨g3, c3, rfl, hown3, hb3⟩
    have HF : Hid (PutT w (0, plainT l) (.returned (.tuple #[.slice (some ⟨g3, 0, none⟩) (p + (strsB l).length) c3, .int .i64 0])) w3) := by
      have hl : (plainT l).length = p + (strsB l).length := by rw [HE.out, List.length_append, ← HPl.out]
      refine Lib.hid ⟨some ⟨g3, 0, none⟩, c3, by rw [← hl], ?_, HB2.out.trans hb3⟩
      rw [hl, HE.out]
      exact Bs.Seg.own hown3
    clear hown3 hb3
    dsimp only
    go_wp2
    go_ret2
    exact HF.out
end Go.Proofs.YtljanfnhmhimiaaGreat.Tx

namespace Go.Proofs.YtljanfnhmhimiaaGreat.In
open Go.RowKit Go.Joins
open Is (IsI)
open Bs (info_u8)
open Ref1 (GrowB)

theorem iseg_below {w w' : World} {a : Option Addr} {n c B : Nat} {l : List Int} (h : Is.Seg w a n c l) (k : Below B w w') (hB : B = w.heap.size) : Is.Seg w' a n c l := by
  subst hB; exact h.grown (Bs.grown_of k)

set_option maxRecDepth 100000 in
set_option maxHeartbeats 1000000 in
theorem putNumber_any (base : Nat) (v0 : Value) (n : Nat) (l : List Int) (v : Int) (w : World) (hown : w.ownsRow base 5 1 v0 n (l.map (Value.int .u8))) (hbase : base ≤ w.heap.size) (hn : n ≤ 70368744177664) :
    Calls Tryz.prog 181 #[v0, .int .i64 v] w (GrowB base w (l ++ num8 v) (n + 8)) := by
  obtain ⟨i0, hi, hz0, hz1, hz2⟩ := info_parts info_u8
  have HP := Lib.hid (Oct.put_yes none 0 0 [] (u v) 8 w (Oct.Seg.nil w) (u_bd v).1 (u_bd v).2 (by decide) (by decide) (by decide))
  have HO := Lib.hid hown
  have HN := Lib.hid hn
  clear hown hn
  go_enter Tryz.func181, Tryz.ntmps181
  go_wp2_with fail
  refine HP.out.mono ?_
  rintro e w1 hnew
  rw [List.nil_append] at hnew
  obtain ⟨g, q, rfl, hf⟩ := hnew.value
  obtain ⟨hq, hown1, hg⟩ := hf.is
  rw [Oct.putB_length] at hq
  subst hq
  have hs := Oct.Seg.own hown1
  have hown0 := own_grown HO.out hg
  have hsz := hg.size
  have HB := Lib.hid (below_grown (B := base) hg hbase)
  have HB2 : Hid (base ≤ w1.heap.size) := Lib.hid (by omega)
  have HS := Lib.hid (hs.at_ _ rfl)
  have HL : Hid (((Oct.putB 8 (u v)).map (Value.int .u8)).length = 8 * 1) := Lib.hid (by rw [List.length_map, Oct.putB_length])
  have HO0 := Lib.hid hown0
  clear hnew hf hown1 hg hs hown0 hsz
  go_wp2_with (at_builtin; refine wpList_append_own _ rfl (.tmp 5) (.tmp 8) 45 rfl base 5 i0 (.int .u8 0) 1 1 Tryz.underlying45 hi hz0 hz1 hz2 rfl (by decide) v0 n (l.map (Value.int .u8)) rfl HO0.out ⟨g, 0, none⟩ 8 8 ((Oct.putB 8 (u v)).map (Value.int .u8)) rfl HL.out HS.out (ints_oneCell _ _) (by have := HN.out; unfold maxLen; omega) (by have := HN.out; omega) HB2.out ?_; intro v' w2 hown2 hgrow2 _)
  obtain ⟨g', c', rfl⟩ := ownsRow_form hown2 (by omega)
  have HF : Hid (GrowB base w (l ++ num8 v) (n + 8) (.returned (.slice (some ⟨g', 0, none⟩) (n + 8) c')) w2) := by
    refine Lib.hid ⟨g', c', rfl, ?_, HB.out.grown hgrow2 HB2.out (fun i e => (HO0.out.lt i e).1)⟩
    rw [List.map_append]
    exact hown2
  clear hown2 hgrow2
  go_wp2
  go_ret
  exact HF.out

theorem plain_take (l : List Int) (k : Nat) (x : Int) (h : k < l.length) (hx : l.getD k 0 = x) : plainB (l.take (k + 1)) = plainB (l.take k) ++ num8 x := by
  rw [List.take_succ_eq_append_getElem h, plainB_snoc, ← hx]; simp [List.getD, h]

set_option maxRecDepth 100000 in
set_option maxHeartbeats 1000000 in
theorem putPlain_any (a : Option Addr) (n c : Nat) (l : List Int) (w : World) (hs : Is.Seg w a n c l) (hn : n ≤ 65536) :
    Calls Tryz.prog 160 #[.slice a n c] w (GrowB w.heap.size w (plainB l) (8 * n)) := by
  have hcap := hs.cap
  have hle := hs.le
  unfold maxLen at hcap
  have HLen := Lib.hid hs.len
  have hmk : ∀ W : World, (Instr.makeSlice 45 (.int .i64 0) (.int .i64 (8 * (n : Int)))).run Tryz.prog W = .ok (.slice (some ⟨W.heap.size, 0, none⟩) 0 (8 * n)) (W.alloc (.cells (Pk.room (8 * n)) 5)) := fun W => by
    have := Pk.make_room (8 * n) (by omega) W
    rwa [Int.natCast_mul] at this
  have h0 := World.ownsRow_made (base := w.heap.size) (e := 5) (size := 1) w (Pk.room (8 * n)) (8 * n) (Nat.le_refl _) (by unfold maxLen; omega) (by rw [Pk.room_size, Nat.mul_one])
  have HO := Lib.hid h0
  have HG : Hid (Below w.heap.size w (w.alloc (.cells (Pk.room (8 * n)) 5))) := Lib.hid ((Below.refl _ w).alloc (Nat.le_refl _) _)
  have HSeg := Lib.hid hs
  clear h0 hs
  go_enter Tryz.func160, Tryz.ntmps160
  go_wp2
  go_loopw [3, 12] (fun so si wr => ∃ (k : Nat) (V : Value), k ≤ n ∧ si = .int .i64 k ∧ V = so ∧ Hid (∃ g cc, V = .slice (some ⟨g, 0, none⟩) (8 * k) cc) ∧ Hid (wr.ownsRow w.heap.size 5 1 V (8 * k) ((plainB (l.take k)).map (Value.int .u8))) ∧ Hid (Below w.heap.size w wr))
    (fun _ si _ => n - (intOf si).toNat)
  case atStart => exact ⟨0, _, Nat.zero_le _, rfl, rfl, Lib.hid ⟨_, _, rfl⟩, HO, HG⟩
  case round =>
    obtain ⟨k, V, hk, rfl, rfl, HV, HO, HB⟩ := hrel
    by_cases hlt : k < n
    · have hseg := iseg_below HSeg.out HB.out rfl
      obtain ⟨gA, oA, rfl, hc⟩ := hseg.addr (by omega)
      have g1 := hc k hlt
      obtain ⟨x, hx⟩ : ∃ x, l.getD k 0 = x := ⟨_, rfl⟩
      rw [hx] at g1
      have HP := Lib.hid (plain_take l k x (by have := HLen.out; omega) hx)
      have HN := Lib.hid (putNumber_any w.heap.size V (8 * k) (plainB (l.take k)) x wr HO.out HB.out.size (by omega))
      clear hx hc hseg
      go_wp2_with fail
      refine HN.out.mono ?_
      rintro e w1 ⟨g, cc, rfl, hown, hbel⟩
      have HO1 : Hid (w1.ownsRow w.heap.size 5 1 (.slice (some ⟨g, 0, none⟩) (8 * k + 8) cc) (8 * (k + 1)) ((plainB (l.take (k + 1))).map (Value.int .u8))) := Lib.hid (by rw [HP.out]; exact hown)
      have HB1 := Lib.hid (HB.out.trans hbel)
      clear hown hbel
      dsimp only
      go_wp2
      go_roundw
      case rel => exact ⟨k + 1, _, by omega, by go_num, rfl, Lib.hid ⟨_, _, rfl⟩, HO1, HB1⟩
      case measure => simp [intOf]; omega
    · obtain rfl : k = n := by omega
      obtain ⟨g, cc, rfl⟩ := HV.out
      have HF : Hid (GrowB w.heap.size w (plainB l) (8 * k) (.returned (.slice (some ⟨g, 0, none⟩) (8 * k) cc)) wr) := by
        have := HO.out
        rw [List.take_of_length_le (Nat.le_of_eq HLen.out)] at this
        exact Lib.hid ⟨g, cc, rfl, this, HB.out⟩
      go_wp2
      go_ret
      exact HF.out
end Go.Proofs.YtljanfnhmhimiaaGreat.In
