/-
  What the program's and the document's functions do, in memory and as plain functions: TxKeys, TxWords, TxFind, TxDict, TxGetS, TxGetD, TxGetL, TxGet.
-/
import Derived.Maps.OwnSet
import Derived.Laws.MakeOwn
import Derived.WalkMore
import Derived.Test.YtljanfnhmhimiaaGreatSnC
import Derived.Test.YtljanfnhmhimiaaGreatSnD
import Derived.Test.YtljanfnhmhimiaaGreatSnQ

namespace Go.Proofs.YtljanfnhmhimiaaGreat.Tx
open Go.RowKit Go.Maps Go.Sort Go.Shelf

theorem sortsIn (m : Nat) : AnyZ.SortsIn Tryz.prog Lay.sorted_ren Fence.wide m :=
  ⟨fun blk off cap ss W hH hblk hsz => callsIn_wide.2 (AnyM.slices_Sort_string Lay.sort blk off cap ss W hH hblk hsz),
   fun p cap W => callsIn_wide.2 (AnyM.slices_Sort_string_none Lay.sort p cap W)⟩

theorem keys_any (mb : Option Nat) (W : World) : CallsIn Fence.wide 5 Tryz.prog 188 #[.map mb] W fun e w' => e = .returned (.func (.func 197) #[] #[.pointer (some ⟨W.heap.size, 0, none⟩)]) ∧ w' = W.alloc (.cells #[.map mb] 224) :=
  AnyZ.keys_in Lay.keys Fence.wide 5 trivial rfl mb W

set_option maxHeartbeats 1000000 in
theorem sorted_keys {H : Type} (b nn : Nat) (D0 : DataW H) (R : Value → Option (DataW H × List MemPlace)) (w : World) (hown : w.ownsMap Tryz.prog 9 R b nn D0) (hmax : Maps.size D0 ≤ maxLen) (hbytes : Maps.size D0 * 16 ≤ 140737488355328) :
    CallsIn Fence.wide 5 Tryz.prog 187 #[.func (.func 197) #[] #[.pointer (some ⟨w.heap.size, 0, none⟩)]] (w.alloc (.cells #[.map (some b)] 224)) fun e w' => ∃ (v : Value) (ss : List (List UInt8)), e = .returned v ∧ ss.Perm (strKeys D0) ∧
      w'.ownsRow (w.alloc (.cells #[.map (some b)] 224)).heap.size 9 1 v ss.length ((ss.mergeSort (fun x y => decide (x ≤ y))).map encStr) ∧ (v = .slice none 0 0 ↔ ss = []) ∧ Below (w.alloc (.cells #[.map (some b)] 224)).heap.size (w.alloc (.cells #[.map (some b)] 224)) w' := by
  have hbl := hown.lt
  have hseq : SeqGives Fence.wide 2 Tryz.prog 197 #[.pointer (some ⟨w.heap.size, 0, none⟩)] encStr (fun ss => ss.Perm (strKeys D0)) (Maps.size D0) (w.alloc (.cells #[.map (some b)] 224)) :=
    AnyZ.keys_gives (ρ := Lay.keys_ren) { Lay.keys with } Fence.wide _ trivial rfl (by omega) w.heap.size b nn D0 _ (by simp) (by simp) (by
      obtain ⟨es, clock, hb, Ft, hs, hD⟩ := hown
      exact ⟨es, clock, (Below.heap_alloc _ _ b hbl).trans hb, Ft, hs, hD⟩)
  exact AnyZ.sorted_in Lay.sorted Fence.wide 5 trivial trivial trivial trivial rfl (by omega) (sortsIn _) (enters_of Tryz.func196 (by kernel_rfl) rfl) 197 #[.pointer (some ⟨w.heap.size, 0, none⟩)] trivial (enters_of Tryz.func197 (by kernel_rfl) rfl) _ _ hmax hbytes _ hseq
end Go.Proofs.YtljanfnhmhimiaaGreat.Tx

namespace Go.Proofs.YtljanfnhmhimiaaGreat.Tx
open Go.RowKit Go.Maps Go.Joins Go.WideMaps
open In (below_mono)
open Ss (IsS encW)

def keyT (x : List Int) : Lit := .string (byt x)
def keysT (l : List (List Int)) : List Lit := l.map keyT
/-- the set of texts, as a datum -/
def setT (l : List (List Int)) : DataW Unit := setOf (.agg []) (keysT l)
theorem setT_nil : setT [] = .map [] := by simp [setT, keysT, setOf]
theorem setT_take (l : List (List Int)) (k : Nat) (x : List Int) (h : k < l.length) (hx : l.getD k [] = x) : setT (l.take (k + 1)) = (setT (l.take k)).put (keyT x) (.agg []) := by
  have e : l[k] = x := by rw [← hx]; simp [List.getD, h]
  rw [List.take_succ_eq_append_getElem h, e]
  unfold setT keysT
  rw [List.map_append, List.map_singleton, setOf_snoc]
theorem law_str : Keyed Tryz.prog 9 := string_keyed Tryz.underlying9
theorem key_str {x : List Int} (h : x.length ≤ 140737488355328) : keyOf Tryz.prog 9 (.string (strOfNums x)) = some (keyT x) := by
  have := keyOf_string_mk (P := Tryz.prog) (k := 9) (s := strOfNums x) Tryz.underlying9 (by rw [strOfNums_size]; exact Nat.le_trans h (by unfold maxLen; omega))
  rw [byt_data] at this
  exact this
theorem enc_byt (x : List Int) : encStr (byt x) = encW x := congrArg Value.string (ByteArray.ext (Array.ext' (byt_data x).symm))
theorem isKey_all (l : List (List Int)) : ∀ x ∈ keysT l, WideAt.IsKeyLit x := by
  intro x hx
  obtain ⟨y, _, rfl⟩ := List.mem_map.1 hx
  trivial
theorem has_setT (l : List (List Int)) (y : List UInt8) : Maps.has (setT l) (.string y) = true ↔ y ∈ l.map byt := by
  unfold setT
  rw [has_setOf _ _ _ (isKey_all l), List.any_eq_true]
  constructor
  · rintro ⟨z, hz, hs⟩
    obtain ⟨x, hx, rfl⟩ := List.mem_map.1 hz
    have : byt x = y := by simpa [keyT, Lit.sameKey] using hs
    exact this ▸ List.mem_map.2 ⟨x, hx, rfl⟩
  · intro h
    obtain ⟨x, hx, rfl⟩ := List.mem_map.1 h
    exact ⟨keyT x, List.mem_map.2 ⟨x, hx, rfl⟩, by simp [keyT, Lit.sameKey]⟩
theorem words_perm {l : List (List Int)} (hl : AllB l) {R : Value → Option (DataW Unit × List MemPlace)} {w : World} {b n : Nat} (hown : w.ownsMap Tryz.prog 9 R b n (setT l)) : ((wordsF l).map byt).Perm (strKeys (setT l)) := by
  obtain ⟨es, hD, hpw, _⟩ := hown.entries law_str
  obtain ⟨es', hD', hko⟩ := hown.keysOf
  obtain rfl : es = es' := by rw [hD] at hD'; simpa using hD'
  have hm : ∀ y, y ∈ (wordsF l).map byt ↔ Maps.has (setT l) (.string y) = true := fun y => by
    rw [has_setT]
    simp only [List.mem_map, mem_words]
  have hnd : ((wordsF l).map byt).Nodup := List.pairwise_map.2 ((up_words l hl).imp fun {a b} h e => by rw [e] at h; exact List.lt_irrefl _ h)
  rw [hD] at hm ⊢
  exact perm_strKeys hpw (fun p hp => by obtain ⟨v, hv⟩ := hko p hp; obtain ⟨x, _, hx, _⟩ := Maps.keyOf_str Tryz.underlying9 hv; exact ⟨x, hx⟩) hnd hm
theorem sort_words {l : List (List Int)} (hl : AllB l) {R : Value → Option (DataW Unit × List MemPlace)} {w : World} {b n : Nat} (hown : w.ownsMap Tryz.prog 9 R b n (setT l)) {ss : List (List UInt8)} (h : ss.Perm (strKeys (setT l))) : ss.length = (wordsF l).length ∧ (ss.mergeSort (fun x y => decide (x ≤ y))).map encStr = (wordsF l).map encW := by
  have hp := h.trans (words_perm hl hown).symm
  refine ⟨by rw [hp.length_eq, List.length_map], ?_⟩
  have e : ss.mergeSort (fun x y => decide (x ≤ y)) = (wordsF l).map byt := by
    have e1 := mergeSort_of_perm hp
    have hs : ((wordsF l).map byt).mergeSort leB = (wordsF l).map byt := List.mergeSort_of_pairwise (List.pairwise_map.2 ((up_words l hl).imp fun {a b} h => by simpa [leB] using List.le_of_lt h))
    rw [hs] at e1
    exact e1
  rw [e, List.map_map]
  exact List.map_congr_left fun x _ => enc_byt x

/-- Texts of the call's own, handed back. -/
def TextsX (w : World) (l : List (List Int)) (e : Ending) (w' : World) : Prop :=
  ∃ a c, e = .returned (.slice a l.length c) ∧ Ss.Seg w' a l.length c l ∧ Below w.heap.size w w'
theorem own_strs {w : World} {base n : Nat} {V : Value} {l : List (List Int)} (h : w.ownsRow base 9 1 V n (l.map encW)) : ∃ a c, V = .slice a n c ∧ Ss.Seg w a n c l := by
  have h1 := h.1
  rw [List.length_map, Nat.mul_one] at h1
  have hh := h
  rcases h.2 with ⟨rfl, rfl⟩ | ⟨g', cap, cur, rfl, _⟩
  · obtain rfl := List.eq_nil_of_length_eq_zero h1
    exact ⟨none, 0, rfl, Ss.Seg.nil w⟩
  · exact ⟨_, cap, rfl, Ss.Seg.own hh⟩

set_option maxRecDepth 100000 in
set_option maxHeartbeats 1000000 in
theorem words_any (a : Option Addr) (n c : Nat) (l : List (List Int)) (w : World) (hs : Ss.Seg w a n c l) (hS : IsS l) (hn : n ≤ 65536) :
    Calls Tryz.prog 170 #[.slice a n c] w (TextsX w (wordsF l)) := by
  have hmm := @run_makeMap Tryz.prog
  have hcap := hs.cap
  have hle := hs.le
  unfold maxLen at hcap
  have HLen := Lib.hid hs.len
  have HSeg := Lib.hid hs
  have HS := Lib.hid hS
  have HK := Lib.hid (fun mb W => (callsIn_wide (n := 5)).1 (keys_any mb W))
  clear hs hS
  go_enter Tryz.func170, Tryz.ntmps170
  go_wp2
  go_loopw [9] (fun si wr => ∃ k : Nat, k ≤ n ∧ si = .int .i64 k ∧ Hid (wr.ownsMap Tryz.prog 9 (unitElem (H := Unit)) w.heap.size k (setT (l.take k))) ∧ Hid (Below w.heap.size w wr)) (fun si _ => n - (intOf si).toNat)
  case atStart => exact ⟨0, Nat.zero_le _, rfl, Lib.hid (by rw [List.take_zero, setT_nil]; exact World.ownsMap_made _ _ _ _), Lib.hid ((Below.refl _ _).alloc (Nat.le_refl _) _)⟩
  case round =>
    obtain ⟨k, hk, rfl, HO, HB⟩ := hrel
    by_cases hlt : k < n
    · have hseg := sseg_below HSeg.out HB.out rfl
      obtain ⟨gA, oA, rfl, hc⟩ := hseg.addr (by omega)
      have g1 := hc k hlt
      obtain ⟨x, hx⟩ : ∃ x, l.getD k [] = x := ⟨_, rfl⟩
      have HX := Lib.hid (setT_take l k x (by rw [HLen.out]; exact hlt) hx)
      have HKey := Lib.hid (key_str (hx ▸ (HS.out.at k).2))
      rw [hx] at g1
      clear hc hx hseg
      go_wp2_with (first
        | (at_mapUpdate; refine wpList_mapUpdate_own _ rfl _ _ _ 224 rfl 9 225 law_str Tryz.underlying224 (unitElem (H := Unit)) w.heap.size k _ rfl HO.out (by unfold maxLen; omega) _ _ _ rfl rfl HKey.out _ [] unitElem_mk ?_; intro w1 hown1 hgrow1)
        | go_in)
      go_roundw
      case rel => exact ⟨k + 1, by omega, by go_num, Lib.hid (by rw [HX.out]; exact hown1), Lib.hid (HB.out.grown hgrow1 HB.out.size (fun j hj => by cases hj; exact Nat.le_refl _))⟩
      case measure => simp [intOf]; omega
    · obtain rfl : k = n := by omega
      have HO2 : Hid (wr.ownsMap Tryz.prog 9 (unitElem (H := Unit)) w.heap.size k (setT l)) := Lib.hid (by
        have := HO.out
        rwa [List.take_of_length_le (Nat.le_of_eq HLen.out)] at this)
      have hsz := HO2.out.size_le
      have HSo := Lib.hid ((callsIn_wide (n := 5)).1 (sorted_keys w.heap.size k (setT l) _ wr HO2.out (by unfold maxLen; omega) (by omega)))
      have HB2 : Hid (Below w.heap.size w (wr.alloc (.cells #[.map (some w.heap.size)] 224))) := Lib.hid (HB.out.alloc HB.out.size _)
      clear hsz HO
      go_wp2_with (first
        | (go_at_call 188; refine (HK.out _ _).mono ?_; rintro e w' ⟨rfl, rfl⟩)
        | (go_at_call 187; refine HSo.out.mono ?_; rintro e w2 ⟨v, ss, rfl, hperm, hrow, hnil, hb2⟩)
        | fail)
      obtain ⟨e1, e2⟩ := sort_words (allB_of HS.out) HO2.out hperm
      rw [e1, e2] at hrow
      obtain ⟨a2, c2, rfl, hs2⟩ := own_strs hrow
      have HF : Hid (TextsX w (wordsF l) (.returned (.slice a2 (wordsF l).length c2)) w2) := Lib.hid ⟨a2, c2, rfl, hs2, HB2.out.trans (below_mono hb2 HB2.out.size)⟩
      clear hs2 hrow hnil hb2 hperm e1 e2
      go_wp2
      go_ret
      exact HF.out
end Go.Proofs.YtljanfnhmhimiaaGreat.Tx

namespace Go.Proofs.YtljanfnhmhimiaaGreat.Tx
open Go.RowKit Go.Maps Go.Joins Go.WideMaps
open Ss (IsS encW)
open Us (info_u64)

theorem run_makeMap_hint {P : Program} (t : TypeId) (k e : TypeId) (ht : P.underlying t = some (.map k e)) (n : Int) (w : World) : (Instr.makeMap t (some (.int .i64 n))).run P w = .ok (.map (some w.heap.size)) (w.alloc (.map #[] 0)) := by
  simp [Instr.makeMap, run_underlying ht, asInt, asIntOf, Result.andThen]
def roomU (S : Nat) : Array Value := madeCells (Value.int .u64 0).cells S
theorem roomU_size (S : Nat) : (roomU S).size = S := size_madeCells _ _
theorem make_roomU (S : Nat) (hS : S ≤ 1000000) (W : World) : (Instr.makeSlice 88 (.int .i64 0) (.int .i64 (S : Int))).run Tryz.prog W = .ok (.slice (some ⟨W.heap.size, 0, none⟩) 0 S) (W.alloc (.cells (roomU S) 85)) := by
  obtain ⟨i0, hi, hz0, hz1, hz2⟩ := info_parts info_u64
  have h := run_make (P := Tryz.prog) W 88 85 i0 (.int .u64 0) Tryz.underlying88 hi hz0 .i64 .i64 0 (S : Int) (by omega) (by omega) (by rw [hz2]; omega) (by omega)
  rw [hz1, Int.toNat_natCast, Nat.mul_one] at h
  exact h

/-- a map that holds the numbers of the first k words -/
def MapAt (w : World) (b : Nat) (ws : List (List Int)) (k : Nat) : Prop :=
  ∃ D : DataW Unit, w.ownsMap Tryz.prog 9 (plainElem Tryz.prog 85) b k D ∧ ∀ j, j < k → ∀ z, D.atKey (keyT (ws.getD j [])) z = .lit (.int .u64 (j : Int))
theorem MapAt.kept {w w' : World} {b k : Nat} {ws : List (List Int)} {row : Option Nat} (h : MapAt w b ws k) (hg : w.grownBy w' row) (hne : some b ≠ row) : MapAt w' b ws k := by
  obtain ⟨D, hown, hat⟩ := h
  exact ⟨D, hown.kept hg hne, hat⟩
theorem MapAt.start (w : World) (ws : List (List Int)) : MapAt (w.alloc (.map #[] 0)) w.heap.size ws 0 := ⟨_, World.ownsMap_made _ _ _ _, fun j hj => absurd hj (Nat.not_lt_zero j)⟩
theorem key_ne {ws : List (List Int)} (hb : AllB ws) (hn : ws.Nodup) {j k : Nat} (hj : j < k) (hk : k < ws.length) : keyT (ws.getD j []) ≠ keyT (ws.getD k []) := by
  intro e
  have e1 : byt (ws.getD j []) = byt (ws.getD k []) := by simpa [keyT] using e
  have e2 := byt_inj (hb _ (take_at (by omega))) (hb _ (take_at hk)) e1
  have a1 := idx_at hn j (by omega)
  have a2 := idx_at hn k hk
  rw [e2, a2] at a1
  omega
theorem map_step {D : DataW Unit} {ws : List (List Int)} {k : Nat} (hD : Maps.IsMap D) (hb : AllB ws) (hn : ws.Nodup) (hk : k < ws.length) (hat : ∀ j, j < k → ∀ z, D.atKey (keyT (ws.getD j [])) z = .lit (.int .u64 (j : Int))) :
    ∀ j, j < k + 1 → ∀ z, (D.put (keyT (ws.getD k [])) (.lit (.int .u64 (k : Int)))).atKey (keyT (ws.getD j [])) z = .lit (.int .u64 (j : Int)) := by
  intro j hj z
  by_cases e : j = k
  · subst e
    exact atKey_put_same hD (by show WideAt.IsKeyLit (keyT _); trivial) _ _
  · rw [atKey_put_other (key_ne hb hn (show j < k by omega) hk)]
    exact hat j (by omega) z
theorem wf_u64 {k : Nat} (h : k ≤ 1000000) : (Lit.int .u64 (k : Int)).wf = true := by
  simp [Lit.wf, IntKind.min, IntKind.max, IntKind.signed, IntKind.bits]; omega
theorem ix_take (ws l : List (List Int)) (k : Nat) (x : List Int) (h : k < l.length) (hx : l.getD k [] = x) : (idxsF ws l).take (k + 1) = (idxsF ws l).take k ++ [((idx ws x : Nat) : Int)] := by
  rw [List.take_succ_eq_append_getElem (by rw [idxs_len]; exact h), ← hx]
  simp [idxsF, List.getD, h]

/-- Numbers of the call's own, handed back. -/
def NumsX (w : World) (l : List Int) (e : Ending) (w' : World) : Prop :=
  ∃ a c, e = .returned (.slice a l.length c) ∧ Us.Seg w' a l.length c l ∧ Below w.heap.size w w'

set_option maxRecDepth 100000 in
set_option maxHeartbeats 2000000 in
theorem find_any (a0 a1 : Option Addr) (m c0 n c1 : Nat) (ws l : List (List Int)) (w : World) (h0 : Ss.Seg w a0 m c0 ws) (h1 : Ss.Seg w a1 n c1 l) (hw : IsS ws) (hl : IsS l) (hnd : ws.Nodup) (hin : ∀ x ∈ l, x ∈ ws) (hm : m ≤ 65536) (hn : n ≤ 65536) :
    Calls Tryz.prog 171 #[.slice a0 m c0, .slice a1 n c1] w (NumsX w (idxsF ws l)) := by
  have hmm := @run_makeMap_hint Tryz.prog 230 9 85 Tryz.underlying230
  obtain ⟨j0, ji, jz0, jz1, jz2⟩ := info_parts info_u64
  have zeroE : ∀ W, (zeroValue 85).run Tryz.prog W = .ok (.int .u64 0) W := fun W => by kernel_rfl
  have HZ := Lib.hid zeroE
  have hmk := make_roomU n (by omega)
  have hcap0 := h0.cap
  have hle0 := h0.le
  have hcap1 := h1.cap
  have hle1 := h1.le
  unfold maxLen at hcap0 hcap1
  have L0 := Lib.hid h0.len
  have L1 := Lib.hid h1.len
  have S0 := Lib.hid h0
  have S1 := Lib.hid h1
  have HW := Lib.hid hw
  have HL := Lib.hid hl
  have HN := Lib.hid hnd
  have HI := Lib.hid hin
  clear h0 h1 hw hl hnd hin zeroE
  go_enter Tryz.func171, Tryz.ntmps171
  go_wp2
  go_loopw [16] (fun si wr => ∃ k : Nat, k ≤ m ∧ si = .int .i64 k ∧ Hid (MapAt wr w.heap.size ws k) ∧ Hid (Below w.heap.size w wr)) (fun si _ => m - (intOf si).toNat)
  case atStart => exact ⟨0, Nat.zero_le _, rfl, Lib.hid (MapAt.start w ws), Lib.hid ((Below.refl _ _).alloc (Nat.le_refl _) _)⟩
  case round =>
    obtain ⟨k, hk, rfl, HM, HB⟩ := hrel
    by_cases hlt : k < m
    · have hseg := sseg_below S0.out HB.out rfl
      obtain ⟨gA, oA, rfl, hc⟩ := hseg.addr (by omega)
      have g1 := hc k hlt
      obtain ⟨D, hown, hat⟩ := HM.out
      have HO := Lib.hid hown
      have HStep := Lib.hid (map_step hown.isMap (allB_of HW.out) HN.out (by rw [L0.out]; exact hlt) hat)
      obtain ⟨x, hx⟩ : ∃ x, ws.getD k [] = x := ⟨_, rfl⟩
      have HKey := Lib.hid (key_str (hx ▸ (HW.out.at k).2))
      rw [hx] at g1 HStep
      have hwu := wrap_u64 (n := k) (by omega)
      have HWf := Lib.hid (wf_u64 (k := k) (by omega))
      clear hc hx hseg hown hat
      go_wp2_with (first
        | (at_mapUpdate; refine wpList_mapUpdate_own _ rfl _ _ _ 230 rfl 9 85 law_str Tryz.underlying230 (plainElem (H := Unit) Tryz.prog 85) w.heap.size k _ rfl HO.out (by unfold maxLen; omega) _ _ _ rfl rfl HKey.out _ [] (plainElem_int Tryz.underlying85 HWf.out) ?_; intro w1 hown1 hgrow1)
        | go_in)
      go_roundw
      case rel => exact ⟨k + 1, by omega, by go_num, Lib.hid ⟨_, hown1, HStep.out⟩, Lib.hid (HB.out.grown hgrow1 HB.out.size (fun j hj => by cases hj; exact Nat.le_refl _))⟩
      case measure => simp [intOf]; omega
    · obtain rfl : k = m := by omega
      obtain ⟨B0, hB0⟩ : ∃ B, wr.heap.size = B := ⟨_, rfl⟩
      have hrow := World.ownsRow_made (base := B0) (e := 85) (size := 1) wr (roomU n) n (Nat.le_of_eq hB0.symm) (by unfold maxLen; omega) (by rw [roomU_size, Nat.mul_one])
      have HO0 := Lib.hid hrow
      have HM0 : Hid (MapAt (wr.alloc (.cells (roomU n) 85)) w.heap.size ws k) := Lib.hid (HM.out.kept (World.grownBy_alloc wr _ none) (by simp))
      have HB0 : Hid (Below w.heap.size w (wr.alloc (.cells (roomU n) 85))) := Lib.hid (HB.out.alloc HB.out.size _)
      have HLt : Hid (w.heap.size < B0) := Lib.hid (by obtain ⟨D, hown, _⟩ := HM.out; have := hown.lt; omega)
      have HSz0 : Hid (B0 ≤ (wr.alloc (.cells (roomU n) 85)).heap.size) := Lib.hid (by simp; omega)
      clear hrow HM HB hB0
      go_wp2
      go_loopw [8, 31] (fun so si wq => ∃ (q : Nat) (V : Value), q ≤ n ∧ si = .int .i64 q ∧ V = so ∧ Hid (∃ g cc, V = .slice (some ⟨g, 0, none⟩) q cc) ∧ Hid (wq.ownsRow B0 85 1 V q (((idxsF ws l).take q).map (Value.int .u64))) ∧ Hid (Below w.heap.size w wq) ∧ Hid (MapAt wq w.heap.size ws k) ∧ Hid (B0 ≤ wq.heap.size))
        (fun _ si _ => n - (intOf si).toNat)
      case atStart => exact ⟨0, _, Nat.zero_le _, rfl, rfl, Lib.hid ⟨_, _, rfl⟩, HO0, HB0, HM0, HSz0⟩
      case round =>
        obtain ⟨q, V, hq, rfl, rfl, HV, HO, HB, HM, HSz⟩ := hrel
        by_cases hltq : q < n
        · have hseg := sseg_below S1.out HB.out rfl
          obtain ⟨gA, oA, rfl, hc⟩ := hseg.addr (by omega)
          have g1 := hc q hltq
          obtain ⟨D, hown, hat⟩ := HM.out
          have HO1 := Lib.hid hown
          obtain ⟨x, hx⟩ : ∃ x, l.getD q [] = x := ⟨_, rfl⟩
          have hxin : x ∈ ws := HI.out x (hx ▸ take_at (by rw [L1.out]; exact hltq))
          have HKey := Lib.hid (key_str (hx ▸ (HL.out.at q).2))
          have HP := Lib.hid (ix_take ws l q x (by rw [L1.out]; exact hltq) hx)
          obtain ⟨i, hi⟩ : ∃ i, idx ws x = i := ⟨_, rfl⟩
          have hilt : i < k := by rw [← hi, ← L0.out]; exact idx_lt hxin
          have HIx : Hid (∀ c : Int, D.atKey (keyT x) (.lit (.int .u64 0)) = .lit (.int .u64 c) → c = (i : Int)) := Lib.hid fun c hcx => by
            have := hat i hilt (.lit (.int .u64 0))
            rw [← hi, idx_get hxin, hcx] at this
            rw [← hi]
            simpa using this
          rw [hi] at HP
          rw [hx] at g1
          clear hc hx hseg hown hat hxin hi hilt
          go_wp2_with (first
            | (at_lookup; refine wpList_lookup_own_int _ rfl _ _ 230 rfl 9 85 .u64 law_str Tryz.underlying230 Tryz.underlying85 (HZ.out _) w.heap.size k _ rfl HO1.out _ _ rfl HKey.out ?_; intro cc hatc hwc; obtain rfl := HIx.out cc hatc; clear hatc hwc)
            | (at_builtin; refine wpList_append_own _ rfl (.tmp 35) (.tmp 39) 88 rfl B0 85 j0 (.int .u64 0) 1 8 Tryz.underlying88 ji jz0 jz1 jz2 rfl (by decide) V q _ rfl (HO.out.alloc _) ⟨wr.heap.size, 0, none⟩ 1 1 [.int .u64 (i : Int)] rfl rfl (by intro t u ht; match t, ht with | 0, ht => simp at ht; subst ht; simp [Addr.add]) (by intro u hu; simp at hu; subst hu; rfl) (by unfold maxLen; omega) (by omega) (by have := HSz.out; simp; omega) ?_; intro v2 w2 hown2 hgrow2 hnil)
            | go_in)
          go_roundw
          case rel =>
            refine ⟨q + 1, _, by omega, by go_num, rfl, ?_, ?_, Lib.hid ((HB.out.alloc HB.out.size _).grown hgrow2 (by have := HB.out.size; simp; omega) (fun j e => by have := (HO.out.lt j e).1; have := HLt.out; omega)), Lib.hid ((HM.out.kept (World.grownBy_alloc wr _ none) (by simp)).kept hgrow2 (fun e => by have := (HO.out.lt w.heap.size e.symm).1; have := HLt.out; omega)), Lib.hid (by have := hgrow2.size; have := HSz.out; simp at *; omega)⟩
            · obtain ⟨g', c', e⟩ := ownsRow_form hown2 (by omega)
              exact Lib.hid ⟨g', c', e⟩
            · rw [HP.out, List.map_append]
              exact Lib.hid hown2
          case measure => simp [intOf]; omega
        · obtain rfl : q = n := by omega
          obtain ⟨g, cc, rfl⟩ := HV.out
          have HF : Hid (NumsX w (idxsF ws l) (.returned (.slice (some ⟨g, 0, none⟩) q cc)) wr) := by
            have hil : (idxsF ws l).length = q := by rw [idxs_len, L1.out]
            have := HO.out
            rw [List.take_of_length_le (Nat.le_of_eq hil)] at this
            refine Lib.hid ⟨_, cc, by rw [hil], ?_, HB.out⟩
            rw [hil]
            exact Us.Seg.own this
          go_wp2
          go_ret
          exact HF.out
end Go.Proofs.YtljanfnhmhimiaaGreat.Tx

namespace Go.Proofs.YtljanfnhmhimiaaGreat.Tx
open Go.RowKit Go.Joins
open Ss (IsS)
open Bs (info_u8)
open Oct (varB)
open Ref1 (GrowB)
open In (below_grown below_mono own_grown oseg turn_below)
open Pk (PutF wid putR IsU)
open Dv (Turn nowhere)

theorem below_turn {w w' : World} (h : Turn w w' nowhere) (B : Nat) (hB : B ≤ w.heap.size) : Below B w w' := below_mono (Pk.below_of h) hB
theorem dict_parts (l : List (List Int)) : dictT l = (([2] ++ varB 9 (l.length : Int)) ++ varB 9 ((wordsF l).length : Int) ++ strsB (wordsF l)) ++ [(wid (ixT l) : Int)] ++ (putR (ixT l) (wid (ixT l))).2 := by
  unfold dictT tailT
  simp only [List.append_assoc, List.cons_append, List.nil_append]

set_option maxRecDepth 100000 in
set_option maxHeartbeats 2000000 in
theorem dict_any (a : Option Addr) (n c : Nat) (l : List (List Int)) (w : World) (hs : Ss.Seg w a n c l) (hb : AllB l) :
    Calls Tryz.prog 145 #[.slice a n c] w (PutT w (formR (dictT l) l)) := by
  obtain ⟨i0, hi, hz0, hz1, hz2⟩ := info_parts info_u8
  have HC := Lib.hid (can_below a n c l w hs)
  cases hok : okB l with
  | false =>
    rw [hok] at HC
    rw [form_no hok]
    clear hs hb hok
    go_enter Tryz.func145, Tryz.ntmps145
    go_wp2_with fail
    refine HC.out.mono ?_
    rintro e w1 ⟨rfl, hb1⟩
    have HF := Lib.hid (putT_no hb1)
    clear hb1
    dsimp only
    go_wp2
    go_ret2
    exact HF.out
  | true =>
    have hO := (okB_iff l).1 hok
    rw [hok] at HC
    rw [form_yes hok]
    have HOk := Lib.hid hO
    have hn : n ≤ 4096 := by rw [← hs.len]; exact hO.1
    have HLen := Lib.hid hs.len
    have HSeg := Lib.hid hs
    have HBB := Lib.hid hb
    have hS : IsS l := fun s h => ⟨hb s h, Nat.le_trans (hO.2 s h) (by omega)⟩
    have HS := Lib.hid hS
    have hwu := wrap_u64 (n := n) (by omega)
    obtain ⟨ws, hws⟩ : ∃ ws, wordsF l = ws := ⟨_, rfl⟩
    obtain ⟨ix, hix⟩ : ∃ ix, ixT l = ix := ⟨_, rfl⟩
    have hwl := words_len l
    obtain ⟨m, hm⟩ : ∃ m, ws.length = m := ⟨_, rfl⟩
    have HIn : Hid (∀ x ∈ l, x ∈ ws) := Lib.hid fun x hx => hws ▸ (mem_words x l).2 hx
    have HWS : Hid (IsS ws) := Lib.hid (hws ▸ words_isS hS)
    have HND : Hid ws.Nodup := Lib.hid (hws ▸ (up_words l hb).nodup)
    have HWl : Hid (∀ s ∈ ws, s.length ≤ 65536) := Lib.hid fun s h => hO.2 s ((mem_words s l).1 (hws ▸ h))
    have HU : Hid (IsU ix) := Lib.hid (hix ▸ ix_isU (by have := hO.1; omega))
    have hpix := put_ix (l := l) (by have := hO.1; omega)
    have HParts := Lib.hid (dict_parts l)
    rw [hws, hix] at HParts
    have hixw : idxsF ws l = ix := by rw [← hws]; exact hix
    rw [hix] at hpix
    rw [hws] at hwl
    have hm4 : m ≤ 4096 := by have := hO.1; omega
    have hwm := wrap_u64 (n := m) (by omega)
    have HWords := Lib.hid (fun W (h : Ss.Seg W a n c l) => words_any a n c l W h HS.out (by omega))
    rw [hws] at HWords
    obtain ⟨v, hv⟩ : ∃ v, wid ix = v := ⟨_, rfl⟩
    have hv64 : v ≤ 64 := hv ▸ Pk.wid_64 HU.out
    rw [hv] at hpix HParts
    obtain ⟨P, hP⟩ : ∃ P, (putR ix v).2 = P := ⟨_, rfl⟩
    rw [hP] at HParts
    have hR : putR ix v = (0, P) := by rw [← hpix, ← hP]
    have hPl : P.length ≤ 524288 := hP ▸ Pk.put_len ix v
    obtain ⟨pl, hpl⟩ : ∃ x, P.length = x := ⟨_, rfl⟩
    rw [hpl] at hPl
    have hilen : ix.length = n := by rw [← hixw, idxs_len]; exact HLen.out
    have HIl := Lib.hid hilen
    have HIW := Lib.hid hixw
    have HR := Lib.hid hR
    have HPL := Lib.hid hpl
    have HM := Lib.hid hm
    have HV := Lib.hid hv
    have HWLen : Hid ((strsB ws).length ≤ m * 65546) := Lib.hid (by have := strsB_len ws HWl.out; rwa [hm] at this)
    have hvw : IntKind.u8.wrap (v : Int) = (v : Int) := by rw [IntKind.wrap_u8]; omega
    clear hs hb hok hO hS hws hix hwl hpix hixw hP hR hilen hpl hm hv
    go_enter Tryz.func145, Tryz.ntmps145
    go_wp2_with fail
    refine HC.out.mono ?_
    rintro e w1 ⟨rfl, hb1⟩
    have HB1 := Lib.hid hb1
    have HW1 := Lib.hid (HWords.out w1 (sseg_below HSeg.out hb1 rfl))
    unfold TextsX at HW1
    rw [HM.out] at HW1
    clear hb1
    dsimp only
    go_wp2_with fail
    refine HW1.out.mono ?_
    rintro e w2 ⟨aw, cw, rfl, hsw, hb2⟩
    have HB2 := Lib.hid (HB1.out.trans (below_mono hb2 HB1.out.size))
    have HSW := Lib.hid hsw
    have HFind := Lib.hid (find_any aw a m cw n c ws l w2 hsw (sseg_below HSeg.out HB2.out rfl) HWS.out HS.out HND.out HIn.out (by omega) (by omega))
    unfold NumsX at HFind
    rw [HIW.out, HIl.out] at HFind
    clear hsw hb2
    dsimp only
    go_wp2_with fail
    refine HFind.out.mono ?_
    rintro e w3 ⟨ai, ci, rfl, hsi, hb3⟩
    have HB3 : Hid (Below w2.heap.size w2 w3) := Lib.hid hb3
    have HWid := Lib.hid (Pk.width_any ai n ci ix w3 hsi HU.out)
    rw [HV.out] at HWid
    have HPut := Lib.hid (Pk.put_form (v := (v : Int)) HR.out HPL.out HU.out ai n ci w3 hsi)
    clear hsi hb3
    dsimp only
    go_wp2_with (first
      | (go_at_call 84; refine HWid.out.mono ?_; rintro e w' ⟨rfl, rfl⟩)
      | fail)
    refine HPut.out.mono ?_
    rintro e w4 ⟨ap, cp, rfl, hsp, ht4⟩
    have HB4 : Hid (Below w2.heap.size w2 w4) := Lib.hid (HB3.out.trans (below_turn ht4 _ HB3.out.size))
    have HV1 := Lib.hid (Oct.putVar_any _ 1 1 [2] (n : Int) (w4.alloc (.cells #[.int .u8 2] 5)) (oseg (Bs.lit_seg w4 [2] (by decide))) (by omega) (by omega) (by decide))
    have HB4a : Hid (Below w2.heap.size w2 (w4.alloc (.cells #[.int .u8 2] 5))) := Lib.hid (HB4.out.alloc HB4.out.size _)
    have HB4b : Hid (Below w4.heap.size w4 (w4.alloc (.cells #[.int .u8 2] 5))) := Lib.hid ((Below.refl _ w4).alloc (Nat.le_refl _) _)
    have HSP := Lib.hid hsp
    clear hsp ht4
    dsimp only
    go_wp2_with fail
    refine HV1.out.mono ?_
    rintro e w5 hnew
    obtain ⟨g5, p5, rfl, hf⟩ := hnew.value
    obtain ⟨hp5, hown5, hg5⟩ := hf.is
    have hvl := Oct.varB_le 9 (n : Int)
    have hp5b : p5 ≤ 11 := by rw [hp5]; simp; omega
    have HB5 : Hid (Below w2.heap.size w2 w5) := Lib.hid (HB4a.out.trans (below_grown hg5 HB4a.out.size))
    have HB5b : Hid (Below w4.heap.size w4 w5) := Lib.hid (HB4b.out.trans (below_grown hg5 HB4b.out.size))
    have HV2 := Lib.hid (Oct.putVar_any _ p5 p5 ([2] ++ varB 9 (n : Int)) (m : Int) w5 (Oct.Seg.own hown5) (by omega) (by omega) (by omega))
    have HP5 := Lib.hid hp5
    clear hnew hf hown5 hg5 hp5 hvl
    dsimp only
    go_wp2_with fail
    refine HV2.out.mono ?_
    rintro e w6 hnew
    obtain ⟨g6, p6, rfl, hf⟩ := hnew.value
    obtain ⟨hp6, hown6, hg6⟩ := hf.is
    have hvl := Oct.varB_le 9 (m : Int)
    have hp6b : p6 ≤ 21 := by rw [hp6, List.length_append, ← HP5.out]; omega
    have hp60 : 0 < p6 := by rw [hp6]; simp
    have HB6 : Hid (Below w2.heap.size w2 w6) := Lib.hid (HB5.out.trans (below_grown hg6 HB5.out.size))
    have HB6b : Hid (Below w4.heap.size w4 w6) := Lib.hid (HB5b.out.trans (below_grown hg6 HB5b.out.size))
    have HStr := Lib.hid (putStrings_any w4.heap.size _ p6 (([2] ++ varB 9 (n : Int)) ++ varB 9 (m : Int)) aw m cw ws w6 (sseg_below HSW.out HB6.out rfl) (fun h ad had => Nat.lt_of_lt_of_le (sseg_lt HSW.out h ad had) HB4.out.size) HB6b.out.size (Oct.ownsRow_mono hown6 HB5b.out.size) hp60 (by omega) (allB_of HWS.out) HWl.out (by omega))
    obtain ⟨q, hq⟩ : ∃ q, (strsB ws).length = q := ⟨_, rfl⟩
    rw [hq] at HStr
    have hqb : q ≤ m * 65546 := hq ▸ HWLen.out
    have HQ := Lib.hid hq
    have HP6 := Lib.hid hp6
    clear hnew hf hown6 hg6 hp6 hvl hp60 hq
    dsimp only
    go_wp2_with fail
    refine HStr.out.mono ?_
    rintro e w7 ⟨g7, c7, rfl, hown7, hb7⟩
    have HO7 := Lib.hid hown7
    have HB7 : Hid (Below w4.heap.size w4 w7) := Lib.hid (HB6b.out.trans hb7)
    have HSP7 : Hid (Bs.Seg w7 ap pl cp P) := Lib.hid (HSP.out.grown (Bs.grown_of HB7.out))
    have HS7 : Hid (w4.heap.size ≤ w7.heap.size) := Lib.hid HB7.out.size
    have HW24 : Hid (Below w.heap.size w w4) := Lib.hid (HB2.out.trans (below_mono HB4.out HB2.out.size))
    have HL4 : Hid (w.heap.size ≤ w4.heap.size) := Lib.hid HW24.out.size
    have HPos : Hid (0 < p6 + q) := Lib.hid (by have := HP6.out; simp at this; omega)
    clear hown7 hb7
    dsimp only
    go_wp2_with (first
      | (at_builtin; refine wpList_append_own _ rfl (.tmp 38) (.tmp 41) 45 rfl w4.heap.size 5 i0 (.int .u8 0) 1 1 Tryz.underlying45 hi hz0 hz1 hz2 rfl (by decide) _ (p6 + q) _ rfl (HO7.out.alloc _) ⟨w7.heap.size, 0, none⟩ 1 1 [.int .u8 (v : Int)] rfl rfl (by intro t u ht; match t, ht with | 0, ht => simp at ht; subst ht; exact Pk.cell_new w7 _ _) (by intro u hu; simp at hu; subst hu; rfl) (by unfold maxLen; omega) (by omega) (by have := HS7.out; simp; omega) ?_; intro v8 w8 hown8 hg8 hnil8; obtain ⟨g8, c8, rfl⟩ := ownsRow_form hown8 (by omega); have HO8 := Lib.hid hown8; have HB8 : Hid (Below w4.heap.size w4 w8) := Lib.hid ((HB7.out.alloc HS7.out _).grown hg8 (by have := HS7.out; simp; omega) (fun j e => (HO7.out.lt j e).1)); have HSP8 : Hid (Bs.Seg w8 ap pl cp P) := Lib.hid (HSP.out.grown (Bs.grown_of HB8.out)); have HS8 : Hid (w4.heap.size ≤ w8.heap.size) := Lib.hid HB8.out.size; clear hown8 hg8 hnil8)
      | (at_builtin; refine Bs.wpList_append_seg rfl (.tmp 42) (.tmp 43) 45 rfl w4.heap.size 5 i0 Tryz.underlying45 hi hz0 hz1 hz2 g8 (p6 + q + 1) c8 _ rfl HO8.out ap pl cp P rfl HSP8.out (by omega) HS8.out ?_; intro g9 c9 w9 hown9 hg9)
      | fail)
    have HF : Hid (PutT w (0, dictT l) (.returned (.tuple #[.slice (some ⟨g9, 0, none⟩) (p6 + q + 1 + pl) c9, .int .i64 0])) w9) := by
      have e1 : ([2] ++ varB 9 (n : Int)) ++ varB 9 (m : Int) ++ strsB ws ++ [(v : Int)] ++ P = dictT l := by rw [HParts.out, HLen.out, HM.out]
      have hlen : (dictT l).length = p6 + q + 1 + pl := by
        rw [← e1, List.length_append, List.length_append, List.length_append, ← HP6.out, HQ.out, HPL.out]
        simp
      refine Lib.hid ⟨_, c9, by rw [hlen], ?_, HW24.out.trans (below_mono (HB8.out.grown hg9 HS8.out (fun j e => (HO8.out.lt j e).1)) HL4.out)⟩
      rw [hlen, ← e1]
      refine Bs.Seg.own (base := w4.heap.size) (e := 5) ?_
      dsimp only
      rw [List.map_append, List.map_append]
      exact hown9
    clear hown9 hg9
    go_ret2
    exact HF.out

set_option maxRecDepth 100000 in
set_option maxHeartbeats 1000000 in
theorem put_any (a : Option Addr) (n c : Nat) (l : List (List Int)) (w : World) (hs : Ss.Seg w a n c l) (hb : AllB l) :
    Calls Tryz.prog 109 #[.slice a n c] w (PutT w (formR (bestT l) l)) := by
  have HP := Lib.hid (plain_any a n c l w hs hb)
  have HD := Lib.hid (fun W (k : Below w.heap.size w W) => dict_any a n c l W (sseg_below hs k rfl) hb)
  obtain ⟨E, hE⟩ : ∃ E : Int, (if okB l = true then (0 : Int) else 3) = E := ⟨_, rfl⟩
  obtain ⟨P, hP⟩ : ∃ P, (formR (plainT l) l).2 = P := ⟨_, rfl⟩
  obtain ⟨D, hD⟩ : ∃ D, (formR (dictT l) l).2 = D := ⟨_, rfl⟩
  have e1 : formR (plainT l) l = (E, P) := by rw [← hP, ← hE]; unfold formR; split <;> rfl
  have e2 : formR (dictT l) l = (E, D) := by rw [← hD, ← hE]; unfold formR; split <;> rfl
  have e3 : formR (bestT l) l = (E, if D.length < P.length then D else P) := by
    rw [← hP, ← hD, ← hE]
    unfold formR bestT
    split
    · simp
    · simp
  rw [e1] at HP
  rw [e2] at HD
  rw [e3]
  obtain ⟨R, hR⟩ : ∃ R, (if D.length < P.length then D else P) = R := ⟨_, rfl⟩
  rw [hR]
  have HRe := Lib.hid hR
  clear hR
  obtain ⟨pl, hpl⟩ : ∃ x, P.length = x := ⟨_, rfl⟩
  obtain ⟨dl, hdl⟩ : ∃ x, D.length = x := ⟨_, rfl⟩
  unfold PutT at HP HD
  dsimp only at HP HD
  rw [hpl] at HP
  rw [hdl] at HD
  have HPl := Lib.hid hpl
  have HDl := Lib.hid hdl
  clear hs hb hE hP hD e1 e2 e3 hpl hdl
  go_enter Tryz.func109, Tryz.ntmps109
  go_wp2_with fail
  refine HP.out.mono ?_
  rintro e w1 ⟨ap, cp, rfl, hsp, hb1⟩
  have HB1 := Lib.hid hb1
  have HSP := Lib.hid hsp
  have HD1 := Lib.hid (HD.out w1 hb1)
  clear hsp hb1
  dsimp only
  go_wp2_with fail
  refine HD1.out.mono ?_
  rintro e w2 ⟨ad, cd, rfl, hsd, hb2⟩
  have HB2 := Lib.hid (HB1.out.trans (below_mono hb2 HB1.out.size))
  have HSP2 : Hid (Bs.Seg w2 ap pl cp P) := Lib.hid (HSP.out.grown (Bs.grown_of hb2))
  have HSD := Lib.hid hsd
  clear hsd hb2
  dsimp only
  by_cases hlt : dl < pl
  · have HF : Hid (PutT w (E, R) (.returned (.tuple #[.slice ad dl cd, .int .i64 E])) w2) := Lib.hid (by
      rw [← HRe.out, if_pos (by rw [HPl.out, HDl.out]; exact hlt)]
      exact ⟨ad, cd, by rw [HDl.out], by rw [HDl.out]; exact HSD.out, HB2.out⟩)
    have hlt' : (dl : Int) < (pl : Int) := by omega
    clear hlt
    go_wp2
    go_ret2
    exact HF.out
  · have HF : Hid (PutT w (E, R) (.returned (.tuple #[.slice ap pl cp, .int .i64 E])) w2) := Lib.hid (by
      rw [← HRe.out, if_neg (by rw [HPl.out, HDl.out]; exact hlt)]
      exact ⟨ap, cp, by rw [HPl.out], by rw [HPl.out]; exact HSP2.out, HB2.out⟩)
    have hlt' : ¬ (dl : Int) < (pl : Int) := by omega
    clear hlt
    go_wp2
    go_ret2
    exact HF.out
end Go.Proofs.YtljanfnhmhimiaaGreat.Tx
