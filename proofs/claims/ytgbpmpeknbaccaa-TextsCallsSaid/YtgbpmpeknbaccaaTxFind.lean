/-
  find: each text's word by its number, through a map.
-/
import Derived.Test.YtgbpmpeknbaccaaTxWords
import Derived.Test.YtgbpmpeknbaccaaUBase
namespace Go.Proofs.Ytgbpmpeknbaccaa.Tx
open Go.RowKit Go.Maps Go.Joins Go.WideMaps
open Ss (IsS encW)
open Us (info_u64)

theorem run_makeMap_hint {P : Program} (t : TypeId) (k e : TypeId) (ht : P.underlying t = some (.map k e)) (n : Int) (w : World) : (Instr.makeMap t (some (.int .i64 n))).run P w = .ok (.map (some w.heap.size)) (w.alloc (.map #[] 0)) := by
  simp [Instr.makeMap, run_underlying ht, asInt, asIntOf, Result.andThen]
def roomU (S : Nat) : Array Value := madeCells (Value.int .u64 0).cells S
theorem roomU_size (S : Nat) : (roomU S).size = S := size_madeCells _ _
theorem make_roomU (S : Nat) (hS : S ≤ 1000000) (W : World) : (Instr.makeSlice 40 (.int .i64 0) (.int .i64 (S : Int))).run Try.prog W = .ok (.slice (some ⟨W.heap.size, 0, none⟩) 0 S) (W.alloc (.cells (roomU S) 45)) := by
  obtain ⟨i0, hi, hz0, hz1, hz2⟩ := info_parts info_u64
  have h := run_make (P := Try.prog) W 40 45 i0 (.int .u64 0) Try.underlying40 hi hz0 .i64 .i64 0 (S : Int) (by omega) (by omega) (by rw [hz2]; omega) (by omega)
  rw [hz1, Int.toNat_natCast, Nat.mul_one] at h
  exact h

/-- a map that holds the numbers of the first k words -/
def MapAt (w : World) (b : Nat) (ws : List (List Int)) (k : Nat) : Prop :=
  ∃ D : DataW Unit, w.ownsMap Try.prog 9 (plainElem Try.prog 45) b k D ∧ ∀ j, j < k → ∀ z, D.atKey (keyT (ws.getD j [])) z = .lit (.int .u64 (j : Int))
theorem MapAt.kept {w w' : World} {b k : Nat} {ws : List (List Int)} {row : Option Nat} (h : MapAt w b ws k) (hg : w.grownBy w' row) (hne : some b ≠ row) : MapAt w' b ws k := by
  obtain ⟨D, hown, hat⟩ := h
  exact ⟨D, hown.kept hg hne, hat⟩
theorem MapAt.start (w : World) (ws : List (List Int)) : MapAt (w.alloc (.map #[] 0)) w.heap.size ws 0 := ⟨_, World.ownsMap_made _ _ _ _, fun j hj => absurd hj (Nat.not_lt_zero j)⟩
theorem key_ne {ws : List (List Int)} (hb : AllB ws) (hn : ws.Nodup) {j k : Nat} (hj : j < k) (hk : k < ws.length) : keyT (ws.getD j []) ≠ keyT (ws.getD k []) := by
  intro e
  have e1 : byt (ws.getD j []) = byt (ws.getD k []) := by simpa [keyT] using e
  have e2 := byt_inj (hb _ (take_at (by omega))) (hb _ (take_at hk)) e1
  have a1 := idx_at hn j (by omega)
  have a2 := idx_at hn k hk
  rw [e2, a2] at a1
  omega
theorem map_step {D : DataW Unit} {ws : List (List Int)} {k : Nat} (hD : Maps.IsMap D) (hb : AllB ws) (hn : ws.Nodup) (hk : k < ws.length) (hat : ∀ j, j < k → ∀ z, D.atKey (keyT (ws.getD j [])) z = .lit (.int .u64 (j : Int))) :
    ∀ j, j < k + 1 → ∀ z, (D.put (keyT (ws.getD k [])) (.lit (.int .u64 (k : Int)))).atKey (keyT (ws.getD j [])) z = .lit (.int .u64 (j : Int)) := by
  intro j hj z
  by_cases e : j = k
  · subst e
    exact atKey_put_same hD (by show WideAt.IsKeyLit (keyT _); trivial) _ _
  · rw [atKey_put_other (key_ne hb hn (show j < k by omega) hk)]
    exact hat j (by omega) z
theorem wf_u64 {k : Nat} (h : k ≤ 1000000) : (Lit.int .u64 (k : Int)).wf = true := by
  simp [Lit.wf, IntKind.min, IntKind.max, IntKind.signed, IntKind.bits]; omega
theorem ix_take (ws l : List (List Int)) (k : Nat) (x : List Int) (h : k < l.length) (hx : l.getD k [] = x) : (idxsF ws l).take (k + 1) = (idxsF ws l).take k ++ [((idx ws x : Nat) : Int)] := by
  rw [List.take_succ_eq_append_getElem (by rw [idxs_len]; exact h), ← hx]
  simp [idxsF, List.getD, h]

/-- Numbers of the call's own, handed back. -/
def NumsX (w : World) (l : List Int) (e : Ending) (w' : World) : Prop :=
  ∃ a c, e = .returned (.slice a l.length c) ∧ Us.Seg w' a l.length c l ∧ Below w.heap.size w w'

set_option maxRecDepth 100000 in
set_option maxHeartbeats 2000000 in
theorem find_any (a0 a1 : Option Addr) (m c0 n c1 : Nat) (ws l : List (List Int)) (w : World) (h0 : Ss.Seg w a0 m c0 ws) (h1 : Ss.Seg w a1 n c1 l) (hw : IsS ws) (hl : IsS l) (hnd : ws.Nodup) (hin : ∀ x ∈ l, x ∈ ws) (hm : m ≤ 65536) (hn : n ≤ 65536) :
    Calls Try.prog 27 #[.slice a0 m c0, .slice a1 n c1] w (NumsX w (idxsF ws l)) := by
  have hmm := @run_makeMap_hint Try.prog 69 9 45 Try.underlying69
  obtain ⟨j0, ji, jz0, jz1, jz2⟩ := info_parts info_u64
  have zeroE : ∀ W, (zeroValue 45).run Try.prog W = .ok (.int .u64 0) W := fun W => by kernel_rfl
  have HZ := Lib.hid zeroE
  have hmk := make_roomU n (by omega)
  have hcap0 := h0.cap
  have hle0 := h0.le
  have hcap1 := h1.cap
  have hle1 := h1.le
  unfold maxLen at hcap0 hcap1
  have L0 := Lib.hid h0.len
  have L1 := Lib.hid h1.len
  have S0 := Lib.hid h0
  have S1 := Lib.hid h1
  have HW := Lib.hid hw
  have HL := Lib.hid hl
  have HN := Lib.hid hnd
  have HI := Lib.hid hin
  clear h0 h1 hw hl hnd hin zeroE
  go_enter Try.func27, Try.ntmps27
  go_wp2
  go_loopw [16] (fun si wr => ∃ k : Nat, k ≤ m ∧ si = .int .i64 k ∧ Hid (MapAt wr w.heap.size ws k) ∧ Hid (Below w.heap.size w wr)) (fun si _ => m - (intOf si).toNat)
  case atStart => exact ⟨0, Nat.zero_le _, rfl, Lib.hid (MapAt.start w ws), Lib.hid ((Below.refl _ _).alloc (Nat.le_refl _) _)⟩
  case round =>
    obtain ⟨k, hk, rfl, HM, HB⟩ := hrel
    by_cases hlt : k < m
    · have hseg := sseg_below S0.out HB.out rfl
      obtain ⟨gA, oA, rfl, hc⟩ := hseg.addr (by omega)
      have g1 := hc k hlt
      obtain ⟨D, hown, hat⟩ := HM.out
      have HO := Lib.hid hown
      have HStep := Lib.hid (map_step hown.isMap (allB_of HW.out) HN.out (by rw [L0.out]; exact hlt) hat)
      obtain ⟨x, hx⟩ : ∃ x, ws.getD k [] = x := ⟨_, rfl⟩
      have HKey := Lib.hid (key_str (hx ▸ (HW.out.at k).2))
      rw [hx] at g1 HStep
      have hwu := wrap_u64 (n := k) (by omega)
      have HWf := Lib.hid (wf_u64 (k := k) (by omega))
      clear hc hx hseg hown hat
      go_wp2_with (first
        | (at_mapUpdate; refine wpList_mapUpdate_own _ rfl _ _ _ 69 rfl 9 45 law_str Try.underlying69 (plainElem (H := Unit) Try.prog 45) w.heap.size k _ rfl HO.out (by unfold maxLen; omega) _ _ _ rfl rfl HKey.out _ [] (plainElem_int Try.underlying45 HWf.out) ?_; intro w1 hown1 hgrow1)
        | go_in)
      go_roundw
      case rel => exact ⟨k + 1, by omega, by go_num, Lib.hid ⟨_, hown1, HStep.out⟩, Lib.hid (HB.out.grown hgrow1 HB.out.size (fun j hj => by cases hj; exact Nat.le_refl _))⟩
      case measure => simp [intOf]; omega
    · obtain rfl : k = m := by omega
      obtain ⟨B0, hB0⟩ : ∃ B, wr.heap.size = B := ⟨_, rfl⟩
      have hrow := World.ownsRow_made (base := B0) (e := 45) (size := 1) wr (roomU n) n (Nat.le_of_eq hB0.symm) (by unfold maxLen; omega) (by rw [roomU_size, Nat.mul_one])
      have HO0 := Lib.hid hrow
      have HM0 : Hid (MapAt (wr.alloc (.cells (roomU n) 45)) w.heap.size ws k) := Lib.hid (HM.out.kept (World.grownBy_alloc wr _ none) (by simp))
      have HB0 : Hid (Below w.heap.size w (wr.alloc (.cells (roomU n) 45))) := Lib.hid (HB.out.alloc HB.out.size _)
      have HLt : Hid (w.heap.size < B0) := Lib.hid (by obtain ⟨D, hown, _⟩ := HM.out; have := hown.lt; omega)
      have HSz0 : Hid (B0 ≤ (wr.alloc (.cells (roomU n) 45)).heap.size) := Lib.hid (by simp; omega)
      clear hrow HM HB hB0
      go_wp2
      go_loopw [8, 31] (fun so si wq => ∃ (q : Nat) (V : Value), q ≤ n ∧ si = .int .i64 q ∧ V = so ∧ Hid (∃ g cc, V = .slice (some ⟨g, 0, none⟩) q cc) ∧ Hid (wq.ownsRow B0 45 1 V q (((idxsF ws l).take q).map (Value.int .u64))) ∧ Hid (Below w.heap.size w wq) ∧ Hid (MapAt wq w.heap.size ws k) ∧ Hid (B0 ≤ wq.heap.size))
        (fun _ si _ => n - (intOf si).toNat)
      case atStart => exact ⟨0, _, Nat.zero_le _, rfl, rfl, Lib.hid ⟨_, _, rfl⟩, HO0, HB0, HM0, HSz0⟩
      case round =>
        obtain ⟨q, V, hq, rfl, rfl, HV, HO, HB, HM, HSz⟩ := hrel
        by_cases hltq : q < n
        · have hseg := sseg_below S1.out HB.out rfl
          obtain ⟨gA, oA, rfl, hc⟩ := hseg.addr (by omega)
          have g1 := hc q hltq
          obtain ⟨D, hown, hat⟩ := HM.out
          have HO1 := Lib.hid hown
          obtain ⟨x, hx⟩ : ∃ x, l.getD q [] = x := ⟨_, rfl⟩
          have hxin : x ∈ ws := HI.out x (hx ▸ take_at (by rw [L1.out]; exact hltq))
          have HKey := Lib.hid (key_str (hx ▸ (HL.out.at q).2))
          have HP := Lib.hid (ix_take ws l q x (by rw [L1.out]; exact hltq) hx)
          obtain ⟨i, hi⟩ : ∃ i, idx ws x = i := ⟨_, rfl⟩
          have hilt : i < k := by rw [← hi, ← L0.out]; exact idx_lt hxin
          have HIx : Hid (∀ c : Int, D.atKey (keyT x) (.lit (.int .u64 0)) = .lit (.int .u64 c) → c = (i : Int)) := Lib.hid fun c hcx => by
            have := hat i hilt (.lit (.int .u64 0))
            rw [← hi, idx_get hxin, hcx] at this
            rw [← hi]
            simpa using this
          rw [hi] at HP
          rw [hx] at g1
          clear hc hx hseg hown hat hxin hi hilt
          go_wp2_with (first
            | (at_lookup; refine wpList_lookup_own_int _ rfl _ _ 69 rfl 9 45 .u64 law_str Try.underlying69 Try.underlying45 (HZ.out _) w.heap.size k _ rfl HO1.out _ _ rfl HKey.out ?_; intro cc hatc hwc; obtain rfl := HIx.out cc hatc; clear hatc hwc)
            | (at_builtin; refine wpList_append_own _ rfl (.tmp 35) (.tmp 39) 40 rfl B0 45 j0 (.int .u64 0) 1 8 Try.underlying40 ji jz0 jz1 jz2 rfl (by decide) V q _ rfl (HO.out.alloc _) ⟨wr.heap.size, 0, none⟩ 1 1 [.int .u64 (i : Int)] rfl rfl (by intro t u ht; match t, ht with | 0, ht => simp at ht; subst ht; simp [Addr.add]) (by intro u hu; simp at hu; subst hu; rfl) (by unfold maxLen; omega) (by omega) (by have := HSz.out; simp; omega) ?_; intro v2 w2 hown2 hgrow2 hnil)
            | go_in)
          go_roundw
          case rel =>
            refine ⟨q + 1, _, by omega, by go_num, rfl, ?_, ?_, Lib.hid ((HB.out.alloc HB.out.size _).grown hgrow2 (by have := HB.out.size; simp; omega) (fun j e => by have := (HO.out.lt j e).1; have := HLt.out; omega)), Lib.hid ((HM.out.kept (World.grownBy_alloc wr _ none) (by simp)).kept hgrow2 (fun e => by have := (HO.out.lt w.heap.size e.symm).1; have := HLt.out; omega)), Lib.hid (by have := hgrow2.size; have := HSz.out; simp at *; omega)⟩
            · obtain ⟨g', c', e⟩ := ownsRow_form hown2 (by omega)
              exact Lib.hid ⟨g', c', e⟩
            · rw [HP.out, List.map_append]
              exact Lib.hid hown2
          case measure => simp [intOf]; omega
        · obtain rfl : q = n := by omega
          obtain ⟨g, cc, rfl⟩ := HV.out
          have HF : Hid (NumsX w (idxsF ws l) (.returned (.slice (some ⟨g, 0, none⟩) q cc)) wr) := by
            have hil : (idxsF ws l).length = q := by rw [idxs_len, L1.out]
            have := HO.out
            rw [List.take_of_length_le (Nat.le_of_eq hil)] at this
            refine Lib.hid ⟨_, cc, by rw [hil], ?_, HB.out⟩
            rw [hil]
            exact Us.Seg.own this
          go_wp2
          go_ret
          exact HF.out
end Go.Proofs.Ytgbpmpeknbaccaa.Tx
