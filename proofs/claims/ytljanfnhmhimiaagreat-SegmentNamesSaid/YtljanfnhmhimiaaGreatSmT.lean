/-
  What the program's and the document's functions do, in memory and as plain functions: TxKeys, TxWords, TxFind, TxDict, TxGetS, TxGetD, TxGetL, TxGet.
-/
import Derived.Maps.OwnSet
import Derived.Laws.MakeOwn
import Derived.WalkMore
import Derived.Test.YtljanfnhmhimiaaGreatSmC
import Derived.Test.YtljanfnhmhimiaaGreatSmD
import Derived.Test.YtljanfnhmhimiaaGreatSmQ

namespace Go.Proofs.YtljanfnhmhimiaaGreat.Tx
open Go.RowKit Go.Maps Go.Sort Go.Shelf

theorem sortsIn (m : Nat) : AnyZ.SortsIn Tryz.prog Lay.sorted_ren Fence.wide m :=
  ⟨fun blk off cap ss W hH hblk hsz => callsIn_wide.2 (AnyM.slices_Sort_string Lay.sort blk off cap ss W hH hblk hsz),
   fun p cap W => callsIn_wide.2 (AnyM.slices_Sort_string_none Lay.sort p cap W)⟩

theorem keys_any (mb : Option Nat) (W : World) : CallsIn Fence.wide 5 Tryz.prog 188 #[.map mb] W fun e w' => e = .returned (.func (.func 197) #[] #[.pointer (some ⟨W.heap.size, 0, none⟩)]) ∧ w' = W.alloc (.cells #[.map mb] 224) :=
  AnyZ.keys_in Lay.keys Fence.wide 5 trivial rfl mb W

set_option maxHeartbeats 1000000 in
theorem sorted_keys {H : Type} (b nn : Nat) (D0 : DataW H) (R : Value → Option (DataW H × List MemPlace)) (w : World) (hown : w.ownsMap Tryz.prog 9 R b nn D0) (hmax : Maps.size D0 ≤ maxLen) (hbytes : Maps.size D0 * 16 ≤ 140737488355328) :
    CallsIn Fence.wide 5 Tryz.prog 187 #[.func (.func 197) #[] #[.pointer (some ⟨w.heap.size, 0, none⟩)]] (w.alloc (.cells #[.map (some b)] 224)) fun e w' => ∃ (v : Value) (ss : List (List UInt8)), e = .returned v ∧ ss.Perm (strKeys D0) ∧
      w'.ownsRow (w.alloc (.cells #[.map (some b)] 224)).heap.size 9 1 v ss.length ((ss.mergeSort (fun x y => decide (x ≤ y))).map encStr) ∧ (v = .slice none 0 0 ↔ ss = []) ∧ Below (w.alloc (.cells #[.map (some b)] 224)).heap.size (w.alloc (.cells #[.map (some b)] 224)) w' := by
  have hbl := hown.lt
  have hseq : SeqGives Fence.wide 2 Tryz.prog 197 #[.pointer (some ⟨w.heap.size, 0, none⟩)] encStr (fun ss => ss.Perm (strKeys D0)) (Maps.size D0) (w.alloc (.cells #[.map (some b)] 224)) :=
    AnyZ.keys_gives (ρ := Lay.keys_ren) { Lay.keys with } Fence.wide _ trivial rfl (by omega) w.heap.size b nn D0 _ (by simp) (by simp) (by
      obtain ⟨es, clock, hb, Ft, hs, hD⟩ := hown
      exact ⟨es, clock, (Below.heap_alloc _ _ b hbl).trans hb, Ft, hs, hD⟩)
  exact AnyZ.sorted_in Lay.sorted Fence.wide 5 trivial trivial trivial trivial rfl (by omega) (sortsIn _) (enters_of Tryz.func196 (by kernel_rfl) rfl) 197 #[.pointer (some ⟨w.heap.size, 0, none⟩)] trivial (enters_of Tryz.func197 (by kernel_rfl) rfl) _ _ hmax hbytes _ hseq
end Go.Proofs.YtljanfnhmhimiaaGreat.Tx

namespace Go.Proofs.YtljanfnhmhimiaaGreat.Tx
open Go.RowKit Go.Maps Go.Joins Go.WideMaps
open In (below_mono)
open Ss (IsS encW)

def keyT (x : List Int) : Lit := .string (byt x)
def keysT (l : List (List Int)) : List Lit := l.map keyT
/-- the set of texts, as a datum -/
def setT (l : List (List Int)) : DataW Unit := setOf (.agg []) (keysT l)
theorem setT_nil : setT [] = .map [] := by simp [setT, keysT, setOf]
theorem setT_take (l : List (List Int)) (k : Nat) (x : List Int) (h : k < l.length) (hx : l.getD k [] = x) : setT (l.take (k + 1)) = (setT (l.take k)).put (keyT x) (.agg []) := by
  have e : l[k] = x := by rw [← hx]; simp [List.getD, h]
  rw [List.take_succ_eq_append_getElem h, e]
  unfold setT keysT
  rw [List.map_append, List.map_singleton, setOf_snoc]
theorem law_str : Keyed Tryz.prog 9 := string_keyed Tryz.underlying9
theorem key_str {x : List Int} (h : x.length ≤ 140737488355328) : keyOf Tryz.prog 9 (.string (strOfNums x)) = some (keyT x) := by
  have := keyOf_string_mk (P := Tryz.prog) (k := 9) (s := strOfNums x) Tryz.underlying9 (by rw [strOfNums_size]; exact Nat.le_trans h (by unfold maxLen; omega))
  rw [byt_data] at this
  exact this
theorem enc_byt (x : List Int) : encStr (byt x) = encW x := congrArg Value.string (ByteArray.ext (Array.ext' (byt_data x).symm))
theorem isKey_all (l : List (List Int)) : ∀ x ∈ keysT l, WideAt.IsKeyLit x := by
  intro x hx
  obtain ⟨y, _, rfl⟩ := List.mem_map.1 hx
  trivial
theorem has_setT (l : List (List Int)) (y : List UInt8) : Maps.has (setT l) (.string y) = true ↔ y ∈ l.map byt := by
  unfold setT
  rw [has_setOf _ _ _ (isKey_all l), List.any_eq_true]
  constructor
  · rintro ⟨z, hz, hs⟩
    obtain ⟨x, hx, rfl⟩ := List.mem_map.1 hz
    have : byt x = y := by simpa [keyT, Lit.sameKey] using hs
    exact this ▸ List.mem_map.2 ⟨x, hx, rfl⟩
  · intro h
    obtain ⟨x, hx, rfl⟩ := List.mem_map.1 h
    exact ⟨keyT x, List.mem_map.2 ⟨x, hx, rfl⟩, by simp [keyT, Lit.sameKey]⟩
theorem words_perm {l : List (List Int)} (hl : AllB l) {R : Value → Option (DataW Unit × List MemPlace)} {w : World} {b n : Nat} (hown : w.ownsMap Tryz.prog 9 R b n (setT l)) : ((wordsF l).map byt).Perm (strKeys (setT l)) := by
  obtain ⟨es, hD, hpw, _⟩ := hown.entries law_str
  obtain ⟨es', hD', hko⟩ := hown.keysOf
  obtain rfl : es = es' := by rw [hD] at hD'; simpa using hD'
  have hm : ∀ y, y ∈ (wordsF l).map byt ↔ Maps.has (setT l) (.string y) = true := fun y => by
    rw [has_setT]
    simp only [List.mem_map, mem_words]
  have hnd : ((wordsF l).map byt).Nodup := List.pairwise_map.2 ((up_words l hl).imp fun {a b} h e => by rw [e] at h; exact List.lt_irrefl _ h)
  rw [hD] at hm ⊢
  exact perm_strKeys hpw (fun p hp => by obtain ⟨v, hv⟩ := hko p hp; obtain ⟨x, _, hx, _⟩ := Maps.keyOf_str Tryz.underlying9 hv; exact ⟨x, hx⟩) hnd hm
theorem sort_words {l : List (List Int)} (hl : AllB l) {R : Value → Option (DataW Unit × List MemPlace)} {w : World} {b n : Nat} (hown : w.ownsMap Tryz.prog 9 R b n (setT l)) {ss : List (List UInt8)} (h : ss.Perm (strKeys (setT l))) : ss.length = (wordsF l).length ∧ (ss.mergeSort (fun x y => decide (x ≤ y))).map encStr = (wordsF l).map encW := by
  have hp := h.trans (words_perm hl hown).symm
  refine ⟨by rw [hp.length_eq, List.length_map], ?_⟩
  have e : ss.mergeSort (fun x y => decide (x ≤ y)) = (wordsF l).map byt := by
    have e1 := mergeSort_of_perm hp
    have hs : ((wordsF l).map byt).mergeSort leB = (wordsF l).map byt := List.mergeSort_of_pairwise (List.pairwise_map.2 ((up_words l hl).imp fun {a b} h => by simpa [leB] using List.le_of_lt h))
    rw [hs] at e1
    exact e1
  rw [e, List.map_map]
  exact List.map_congr_left fun x _ => enc_byt x

/-- Texts of the call's own, handed back. -/
def TextsX (w : World) (l : List (List Int)) (e : Ending) (w' : World) : Prop :=
  ∃ a c, e = .returned (.slice a l.length c) ∧ Ss.Seg w' a l.length c l ∧ Below w.heap.size w w'
theorem own_strs {w : World} {base n : Nat} {V : Value} {l : List (List Int)} (h : w.ownsRow base 9 1 V n (l.map encW)) : ∃ a c, V = .slice a n c ∧ Ss.Seg w a n c l := by
  have h1 := h.1
  rw [List.length_map, Nat.mul_one] at h1
  have hh := h
  rcases h.2 with ⟨rfl, rfl⟩ | ⟨g', cap, cur, rfl, _⟩
  · obtain rfl := List.eq_nil_of_length_eq_zero h1
    exact ⟨none, 0, rfl, Ss.Seg.nil w⟩
  · exact ⟨_, cap, rfl, Ss.Seg.own hh⟩

set_option maxRecDepth 100000 in
set_option maxHeartbeats 1000000 in
theorem words_any (a : Option Addr) (n c : Nat) (l : List (List Int)) (w : World) (hs : Ss.Seg w a n c l) (hS : IsS l) (hn : n ≤ 65536) :
    Calls Tryz.prog 170 #[.slice a n c] w (TextsX w (wordsF l)) := by
  have hmm := @run_makeMap Tryz.prog
  have hcap := hs.cap
  have hle := hs.le
  unfold maxLen at hcap
  have HLen := Lib.hid hs.len
  have HSeg := Lib.hid hs
  have HS := Lib.hid hS
  have HK := Lib.hid (fun mb W => (callsIn_wide (n := 5)).1 (keys_any mb W))
  clear hs hS
  go_enter Tryz.func170, Tryz.ntmps170
  go_wp2
  go_loopw [9] (fun si wr => ∃ k : Nat, k ≤ n ∧ si = .int .i64 k ∧ Hid (wr.ownsMap Tryz.prog 9 (unitElem (H := Unit)) w.heap.size k (setT (l.take k))) ∧ Hid (Below w.heap.size w wr)) (fun si _ => n - (intOf si).toNat)
  case atStart => exact ⟨0, Nat.zero_le _, rfl, Lib.hid (by rw [List.take_zero, setT_nil]; exact World.ownsMap_made _ _ _ _), Lib.hid ((Below.refl _ _).alloc (Nat.le_refl _) _)⟩
  case round =>
    obtain ⟨k, hk, rfl, HO, HB⟩ := hrel
    by_cases hlt : k < n
    · have hseg := sseg_below HSeg.out HB.out rfl
      obtain ⟨gA, oA, rfl, hc⟩ := hseg.addr (by omega)
      have g1 := hc k hlt
      obtain ⟨x, hx⟩ : ∃ x, l.getD k [] = x := ⟨_, rfl⟩
      have HX := Lib.hid (setT_take l k x (by rw [HLen.out]; exact hlt) hx)
      have HKey := Lib.hid (key_str (hx ▸ (HS.out.at k).2))
      rw [hx] at g1
      clear hc hx hseg
      go_wp2_with (first
        | (at_mapUpdate; refine wpList_mapUpdate_own _ rfl _ _ _ 224 rfl 9 225 law_str Tryz.underlying224 (unitElem (H := Unit)) w.heap.size k _ rfl HO.out (by unfold maxLen; omega) _ _ _ rfl rfl HKey.out _ [] unitElem_mk ?_; intro w1 hown1 hgrow1)
        | go_in)
      go_roundw
      case rel => exact ⟨k + 1, by omega, by go_num, Lib.hid (by rw [HX.out]; exact hown1), Lib.hid (HB.out.grown hgrow1 HB.out.size (fun j hj => by cases hj; exact Nat.le_refl _))⟩
      case measure => simp [intOf]; omega
    · obtain rfl : k = n := by omega
      have HO2 : Hid (wr.ownsMap Tryz.prog 9 (unitElem (H := Unit)) w.heap.size k (setT l)) := Lib.hid (by
        have := HO.out
        rwa [List.take_of_length_le (Nat.le_of_eq HLen.out)] at this)
      have hsz := HO2.out.size_le
      have HSo := Lib.hid ((callsIn_wide (n := 5)).1 (sorted_keys w.heap.size k (setT l) _ wr HO2.out (by unfold maxLen; omega) (by omega)))
      have HB2 : Hid (Below w.heap.size w (wr.alloc (.cells #[.map (some w.heap.size)] 224))) := Lib.hid (HB.out.alloc HB.out.size _)
      clear hsz HO
      go_wp2_with (first
        | (go_at_call 188; refine (HK.out _ _).mono ?_; rintro e w' ⟨rfl, rfl⟩)
        | (go_at_call 187; refine HSo.out.mono ?_; rintro e w2 ⟨v, ss, rfl, hperm, hrow, hnil, hb2⟩)
        | fail)
      obtain ⟨e1, e2⟩ := sort_words (allB_of HS.out) HO2.out hperm
      rw [e1, e2] at hrow
      obtain ⟨a2, c2, rfl, hs2⟩ := own_strs hrow
      have HF : Hid (TextsX w (wordsF l) (.returned (.slice a2 (wordsF l).length c2)) w2) := Lib.hid ⟨a2, c2, rfl, hs2, HB2.out.trans (below_mono hb2 HB2.out.size)⟩
      clear hs2 hrow hnil hb2 hperm e1 e2
      go_wp2
      go_ret
      exact HF.out
end Go.Proofs.YtljanfnhmhimiaaGreat.Tx

namespace Go.Proofs.YtljanfnhmhimiaaGreat.Tx
open Go.RowKit Go.Maps Go.Joins Go.WideMaps
open Ss (IsS encW)
open Us (info_u64)

theorem run_makeMap_hint {P : Program} (t : TypeId) (k e : TypeId) (ht : P.underlying t = some (.map k e)) (n : Int) (w : World) : (Instr.makeMap t (some (.int .i64 n))).run P w = .ok (.map (some w.heap.size)) (w.alloc (.map #[] 0)) := by
  simp [Instr.makeMap, run_underlying ht, asInt, asIntOf, Result.andThen]
def roomU (S : Nat) : Array Value := madeCells (Value.int .u64 0).cells S
theorem roomU_size (S : Nat) : (roomU S).size = S := size_madeCells _ _
theorem make_roomU (S : Nat) (hS : S ≤ 1000000) (W : World) : (Instr.makeSlice 88 (.int .i64 0) (.int .i64 (S : Int))).run Tryz.prog W = .ok (.slice (some ⟨W.heap.size, 0, none⟩) 0 S) (W.alloc (.cells (roomU S) 85)) := by
  obtain ⟨i0, hi, hz0, hz1, hz2⟩ := info_parts info_u64
  have h := run_make (P := Tryz.prog) W 88 85 i0 (.int .u64 0) Tryz.underlying88 hi hz0 .i64 .i64 0 (S : Int) (by omega) (by omega) (by rw [hz2]; omega) (by omega)
  rw [hz1, Int.toNat_natCast, Nat.mul_one] at h
  exact h

/-- a map that holds the numbers of the first k words -/
def MapAt (w : World) (b : Nat) (ws : List (List Int)) (k : Nat) : Prop :=
  ∃ D : DataW Unit, w.ownsMap Tryz.prog 9 (plainElem Tryz.prog 85) b k D ∧ ∀ j, j < k → ∀ z, D.atKey (keyT (ws.getD j [])) z = .lit (.int .u64 (j : Int))
theorem MapAt.kept {w w' : World} {b k : Nat} {ws : List (List Int)} {row : Option Nat} (h : MapAt w b ws k) (hg : w.grownBy w' row) (hne : some b ≠ row) : MapAt w' b ws k := by
  obtain ⟨D, hown, hat⟩ := h
  exact ⟨D, hown.kept hg hne, hat⟩
theorem MapAt.start (w : World) (ws : List (List Int)) : MapAt (w.alloc (.map #[] 0)) w.heap.size ws 0 := ⟨_, World.ownsMap_made _ _ _ _, fun j hj => absurd hj (Nat.not_lt_zero j)⟩
theorem key_ne {ws : List (List Int)} (hb : AllB ws) (hn : ws.Nodup) {j k : Nat} (hj : j < k) (hk : k < ws.length) : keyT (ws.getD j []) ≠ keyT (ws.getD k []) := by
  intro e
  have e1 : byt (ws.getD j []) = byt (ws.getD k []) := by simpa [keyT] using e
  have e2 := byt_inj (hb _ (take_at (by omega))) (hb _ (take_at hk)) e1
  have a1 := idx_at hn j (by omega)
  have a2 := idx_at hn k hk
  rw [e2, a2] at a1
  omega
theorem map_step {D : DataW Unit} {ws : List (List Int)} {k : Nat} (hD : Maps.IsMap D) (hb : AllB ws) (hn : ws.Nodup) (hk : k < ws.length) (hat : ∀ j, j < k → ∀ z, D.atKey (keyT (ws.getD j [])) z = .lit (.int .u64 (j : Int))) :
    ∀ j, j < k + 1 → ∀ z, (D.put (keyT (ws.getD k [])) (.lit (.int .u64 (k : Int)))).atKey (keyT (ws.getD j [])) z = .lit (.int .u64 (j : Int)) := by
  intro j hj z
  by_cases e : j = k
  · subst e
    exact atKey_put_same hD (by show WideAt.IsKeyLit (keyT _); trivial) _ _
  · rw [atKey_put_other (key_ne hb hn (show j < k by omega) hk)]
    exact hat j (by omega) z
theorem wf_u64 {k : Nat} (h : k ≤ 1000000) : (Lit.int .u64 (k : Int)).wf = true := by
  simp [Lit.wf, IntKind.min, IntKind.max, IntKind.signed, IntKind.bits]; omega
theorem ix_take (ws l : List (List Int)) (k : Nat) (x : List Int) (h : k < l.length) (hx : l.getD k [] = x) : (idxsF ws l).take (k + 1) = (idxsF ws l).take k ++ [((idx ws x : Nat) : Int)] := by
  rw [List.take_succ_eq_append_getElem (by rw [idxs_len]; exact h), ← hx]
  simp [idxsF, List.getD, h]

/-- Numbers of the call's own, handed back. -/
def NumsX (w : World) (l : List Int) (e : Ending) (w' : World) : Prop :=
  ∃ a c, e = .returned (.slice a l.length c) ∧ Us.Seg w' a l.length c l ∧ Below w.heap.size w w'

set_option maxRecDepth 100000 in
set_option maxHeartbeats 2000000 in
theorem find_any (a0 a1 : Option Addr) (m c0 n c1 : Nat) (ws l : List (List Int)) (w : World) (h0 : Ss.Seg w a0 m c0 ws) (h1 : Ss.Seg w a1 n c1 l) (hw : IsS ws) (hl : IsS l) (hnd : ws.Nodup) (hin : ∀ x ∈ l, x ∈ ws) (hm : m ≤ 65536) (hn : n ≤ 65536) :
    Calls Tryz.prog 171 #[.slice a0 m c0, .slice a1 n c1] w (NumsX w (idxsF ws l)) := by
  have hmm := @run_makeMap_hint Tryz.prog 230 9 85 Tryz.underlying230
  obtain ⟨j0, ji, jz0, jz1, jz2⟩ := info_parts info_u64
  have zeroE : ∀ W, (zeroValue 85).run Tryz.prog W = .ok (.int .u64 0) W := fun W => by kernel_rfl
  have HZ := Lib.hid zeroE
  have hmk := make_roomU n (by omega)
  have hcap0 := h0.cap
  have hle0 := h0.le
  have hcap1 := h1.cap
  have hle1 := h1.le
  unfold maxLen at hcap0 hcap1
  have L0 := Lib.hid h0.len
  have L1 := Lib.hid h1.len
  have S0 := Lib.hid h0
  have S1 := Lib.hid h1
  have HW := Lib.hid hw
  have HL := Lib.hid hl
  have HN := Lib.hid hnd
  have HI := Lib.hid hin
  clear h0 h1 hw hl hnd hin zeroE
  go_enter Tryz.func171, Tryz.ntmps171
  go_wp2
  go_loopw [16] (fun si wr => ∃ k : Nat, k ≤ m ∧ si = .int .i64 k ∧ Hid (MapAt wr w.heap.size ws k) ∧ Hid (Below w.heap.size w wr)) (fun si _ => m - (intOf si).toNat)
  case atStart => exact ⟨0, Nat.zero_le _, rfl, Lib.hid (MapAt.start w ws), Lib.hid ((Below.refl _ _).alloc (Nat.le_refl _) _)⟩
  case round =>
    obtain ⟨k, hk, rfl, HM, HB⟩ := hrel
    by_cases hlt : k < m
    · have hseg := sseg_below S0.out HB.out rfl
      obtain ⟨gA, oA, rfl, hc⟩ := hseg.addr (by omega)
      have g1 := hc k hlt
      obtain ⟨D, hown, hat⟩ := HM.out
      have HO := Lib.hid hown
      have HStep := Lib.hid (map_step hown.isMap (allB_of HW.out) HN.out (by rw [L0.out]; exact hlt) hat)
      obtain ⟨x, hx⟩ : ∃ x, ws.getD k [] = x := ⟨_, rfl⟩
      have HKey := Lib.hid (key_str (hx ▸ (HW.out.at k).2))
      rw [hx] at g1 HStep
      have hwu := wrap_u64 (n := k) (by omega)
      have HWf := Lib.hid (wf_u64 (k := k) (by omega))
      clear hc hx hseg hown hat
      go_wp2_with (first
        | (at_mapUpdate; refine wpList_mapUpdate_own _ rfl _ _ _ 230 rfl 9 85 law_str Tryz.underlying230 (plainElem (H := Unit) Tryz.prog 85) w.heap.size k _ rfl HO.out (by unfold maxLen; omega) _ _ _ rfl rfl HKey.out _ [] (plainElem_int Tryz.underlying85 HWf.out) ?_; intro w1 hown1 hgrow1)
        | go_in)
      go_roundw
      case rel => exact ⟨k + 1, by omega, by go_num, Lib.hid ⟨_, hown1, HStep.out⟩, Lib.hid (HB.out.grown hgrow1 HB.out.size (fun j hj => by cases hj; exact Nat.le_refl _))⟩
      case measure => simp [intOf]; omega
    · obtain rfl : k = m := by omega
      obtain ⟨B0, hB0⟩ : ∃ B, wr.heap.size = B := ⟨_, rfl⟩
      have hrow := World.ownsRow_made (base := B0) (e := 85) (size := 1) wr (roomU n) n (Nat.le_of_eq hB0.symm) (by unfold maxLen; omega) (by rw [roomU_size, Nat.mul_one])
      have HO0 := Lib.hid hrow
      have HM0 : Hid (MapAt (wr.alloc (.cells (roomU n) 85)) w.heap.size ws k) := Lib.hid (HM.out.kept (World.grownBy_alloc wr _ none) (by simp))
      have HB0 : Hid (Below w.heap.size w (wr.alloc (.cells (roomU n) 85))) := Lib.hid (HB.out.alloc HB.out.size _)
      have HLt : Hid (w.heap.size < B0) := Lib.hid (by obtain ⟨D, hown, _⟩ := HM.out; have := hown.lt; omega)
      have HSz0 : Hid (B0 ≤ (wr.alloc (.cells (roomU n) 85)).heap.size) := Lib.hid (by simp; omega)
      clear hrow HM HB hB0
      go_wp2
      go_loopw [8, 31] (fun so si wq => ∃ (q : Nat) (V : Value), q ≤ n ∧ si = .int .i64 q ∧ V = so ∧ Hid (∃ g cc, V = .slice (some ⟨g, 0, none⟩) q cc) ∧ Hid (wq.ownsRow B0 85 1 V q (((idxsF ws l).take q).map (Value.int .u64))) ∧ Hid (Below w.heap.size w wq) ∧ Hid (MapAt wq w.heap.size ws k) ∧ Hid (B0 ≤ wq.heap.size))
        (fun _ si _ => n - (intOf si).toNat)
      case atStart => exact ⟨0, _, Nat.zero_le _, rfl, rfl, Lib.hid ⟨_, _, rfl⟩, HO0, HB0, HM0, HSz0⟩
      case round =>
        obtain ⟨q, V, hq, rfl, rfl, HV, HO, HB, HM, HSz⟩ := hrel
        by_cases hltq : q < n
        · have hseg := sseg_below S1.out HB.out rfl
          obtain ⟨gA, oA, rfl, hc⟩ := hseg.addr (by omega)
          have g1 := hc q hltq
          obtain ⟨D, hown, hat⟩ := HM.out
          have HO1 := Lib.hid hown
          obtain ⟨x, hx⟩ : ∃ x, l.getD q [] = x := ⟨_, rfl⟩
          have hxin : x ∈ ws := HI.out x (hx ▸ take_at (by rw [L1.out]; exact hltq))
          have HKey := Lib.hid (key_str (hx ▸ (HL.out.at q).2))
          have HP := Lib.hid (ix_take ws l q x (by rw [L1.out]; exact hltq) hx)
          obtain ⟨i, hi⟩ : ∃ i, idx ws x = i := ⟨_, rfl⟩
          have hilt : i < k := by rw [← hi, ← L0.out]; exact idx_lt hxin
          have HIx : Hid (∀ c : Int, D.atKey (keyT x) (.lit (.int .u64 0)) = .lit (.int .u64 c) → c = (i : Int)) := Lib.hid fun c hcx => by
            have := hat i hilt (.lit (.int .u64 0))
            rw [← hi, idx_get hxin, hcx] at this
            rw [← hi]
            simpa using this
          rw [hi] at HP
          rw [hx] at g1
          clear hc hx hseg hown hat hxin hi hilt
          go_wp2_with (first
            | (at_lookup; refine wpList_lookup_own_int _ rfl _ _ 230 rfl 9 85 .u64 law_str Tryz.underlying230 Tryz.underlying85 (HZ.out _) w.heap.size k _ rfl HO1.out _ _ rfl HKey.out ?_; intro cc hatc hwc; obtain rfl := HIx.out cc hatc; clear hatc hwc)
            | (at_builtin; refine wpList_append_own _ rfl (.tmp 35) (.tmp 39) 88 rfl B0 85 j0 (.int .u64 0) 1 8 Tryz.underlying88 ji jz0 jz1 jz2 rfl (by decide) V q _ rfl (HO.out.alloc _) ⟨wr.heap.size, 0, none⟩ 1 1 [.int .u64 (i : Int)] rfl rfl (by intro t u ht; match t, ht with | 0, ht => simp at ht; subst ht; simp [Addr.add]) (by intro u hu; simp at hu; subst hu; rfl) (by unfold maxLen; omega) (by omega) (by have := HSz.out; simp; omega) ?_; intro v2 w2 hown2 hgrow2 hnil)
            | go_in)
          go_roundw
          case rel =>
            refine ⟨q + 1, _, by omega, by go_num, rfl, ?_, ?_, Lib.hid ((HB.out.alloc HB.out.size _).grown hgrow2 (by have := HB.out.size; simp; omega) (fun j e => by have := (HO.out.lt j e).1; have := HLt.out; omega)), Lib.hid ((HM.out.kept (World.grownBy_alloc wr _ none) (by simp)).kept hgrow2 (fun e => by have := (HO.out.lt w.heap.size e.symm).1; have := HLt.out; omega)), Lib.hid (by have := hgrow2.size; have := HSz.out; simp at *; omega)⟩
            · obtain ⟨g', c', e⟩ := ownsRow_form hown2 (by omega)
              exact Lib.hid ⟨g', c', e⟩
            · rw [HP.out, List.map_append]
              exact Lib.hid hown2
          case measure => simp [intOf]; omega
        · obtain rfl : q = n := by omega
          obtain ⟨g, cc, rfl⟩ := HV.out
          have HF : Hid (NumsX w (idxsF ws l) (.returned (.slice (some ⟨g, 0, none⟩) q cc)) wr) := by
            have hil : (idxsF ws l).length = q := by rw [idxs_len, L1.out]
            have := HO.out
            rw [List.take_of_length_le (Nat.le_of_eq hil)] at this
            refine Lib.hid ⟨_, cc, by rw [hil], ?_, HB.out⟩
            rw [hil]
            exact Us.Seg.own this
          go_wp2
          go_ret
          exact HF.out
end Go.Proofs.YtljanfnhmhimiaaGreat.Tx

namespace Go.Proofs.YtljanfnhmhimiaaGreat.Tx
open Go.RowKit Go.Joins
open Ss (IsS)
open Bs (info_u8)
open Oct (varB)
open Ref1 (GrowB)
open In (below_grown below_mono own_grown oseg turn_below)
open Pk (PutF wid putR IsU)
open Dv (Turn nowhere)

theorem below_turn {w w' : World} (h : Turn w w' nowhere) (B : Nat) (hB : B ≤ w.heap.size) : Below B w w' := below_mono (Pk.below_of h) hB
theorem dict_parts (l : List (List Int)) : dictT l = (([2] ++ varB 9 (l.length : Int)) ++ varB 9 ((wordsF l).length : Int) ++ strsB (wordsF l)) ++ [(wid (ixT l) : Int)] ++ (putR (ixT l) (wid (ixT l))).2 := by
  unfold dictT tailT
  simp only [List.append_assoc, List.cons_append, List.nil_append]

set_option maxRecDepth 100000 in
set_option maxHeartbeats 2000000 in
theorem dict_any (a : Option Addr) (n c : Nat) (l : List (List Int)) (w : World) (hs : Ss.Seg w a n c l) (hb : AllB l) :
    Calls Tryz.prog 145 #[.slice a n c] w (PutT w (formR (dictT l) l)) := by
  obtain ⟨i0, hi, hz0, hz1, hz2⟩ := info_parts info_u8
  have HC := Lib.hid (can_below a n c l w hs)
  cases hok : okB l with
  | false =>
    rw [hok] at HC
    rw [form_no hok]
    clear hs hb hok
    go_enter Tryz.func145, Tryz.ntmps145
    go_wp2_with fail
    refine HC.out.mono ?_
    rintro e w1 ⟨rfl, hb1⟩
    have HF := Lib.hid (putT_no hb1)
    clear hb1
    dsimp only
    go_wp2
    go_ret2
    exact HF.out
  | true =>
    have hO := (okB_iff l).1 hok
    rw [hok] at HC
    rw [form_yes hok]
    have HOk := Lib.hid hO
    have hn : n ≤ 4096 := by rw [← hs.len]; exact hO.1
    have HLen := Lib.hid hs.len
    have HSeg := Lib.hid hs
    have HBB := Lib.hid hb
    have hS : IsS l := fun s h => ⟨hb s h, Nat.le_trans (hO.2 s h) (by omega)⟩
    have HS := Lib.hid hS
    have hwu := wrap_u64 (n := n) (by omega)
    obtain ⟨ws, hws⟩ : ∃ ws, wordsF l = ws := ⟨_, rfl⟩
    obtain ⟨ix, hix⟩ : ∃ ix, ixT l = ix := ⟨_, rfl⟩
    have hwl := words_len l
    obtain ⟨m, hm⟩ : ∃ m, ws.length = m := ⟨_, rfl⟩
    have HIn : Hid (∀ x ∈ l, x ∈ ws) := Lib.hid fun x hx => hws ▸ (mem_words x l).2 hx
    have HWS : Hid (IsS ws) := Lib.hid (hws ▸ words_isS hS)
    have HND : Hid ws.Nodup := Lib.hid (hws ▸ (up_words l hb).nodup)
    have HWl : Hid (∀ s ∈ ws, s.length ≤ 65536) := Lib.hid fun s h => hO.2 s ((mem_words s l).1 (hws ▸ h))
    have HU : Hid (IsU ix) := Lib.hid (hix ▸ ix_isU (by have := hO.1; omega))
    have hpix := put_ix (l := l) (by have := hO.1; omega)
    have HParts := Lib.hid (dict_parts l)
    rw [hws, hix] at HParts
    have hixw : idxsF ws l = ix := by rw [← hws]; exact hix
    rw [hix] at hpix
    rw [hws] at hwl
    have hm4 : m ≤ 4096 := by have := hO.1; omega
    have hwm := wrap_u64 (n := m) (by omega)
    have HWords := Lib.hid (fun W (h : Ss.Seg W a n c l) => words_any a n c l W h HS.out (by omega))
    rw [hws] at HWords
    obtain ⟨v, hv⟩ : ∃ v, wid ix = v := ⟨_, rfl⟩
    have hv64 : v ≤ 64 := hv ▸ Pk.wid_64 HU.out
    rw [hv] at hpix HParts
    obtain ⟨P, hP⟩ : ∃ P, (putR ix v).2 = P := ⟨_, rfl⟩
    rw [hP] at HParts
    have hR : putR ix v = (0, P) := by rw [← hpix, ← hP]
    have hPl : P.length ≤ 524288 := hP ▸ Pk.put_len ix v
    obtain ⟨pl, hpl⟩ : ∃ x, P.length = x := ⟨_, rfl⟩
    rw [hpl] at hPl
    have hilen : ix.length = n := by rw [← hixw, idxs_len]; exact HLen.out
    have HIl := Lib.hid hilen
    have HIW := Lib.hid hixw
    have HR := Lib.hid hR
    have HPL := Lib.hid hpl
    have HM := Lib.hid hm
    have HV := Lib.hid hv
    have HWLen : Hid ((strsB ws).length ≤ m * 65546) := Lib.hid (by have := strsB_len ws HWl.out; rwa [hm] at this)
    have hvw : IntKind.u8.wrap (v : Int) = (v : Int) := by rw [IntKind.wrap_u8]; omega
    clear hs hb hok hO hS hws hix hwl hpix hixw hP hR hilen hpl hm hv
    go_enter Tryz.func145, Tryz.ntmps145
    go_wp2_with fail
    refine HC.out.mono ?_
    rintro e w1 ⟨rfl, hb1⟩
    have HB1 := Lib.hid hb1
    have HW1 := Lib.hid (HWords.out w1 (sseg_below HSeg.out hb1 rfl))
    unfold TextsX at HW1
    rw [HM.out] at HW1
    clear hb1
    dsimp only
    go_wp2_with fail
    refine HW1.out.mono ?_
    rintro e w2 ⟨aw, cw, rfl, hsw, hb2⟩
    have HB2 := Lib.hid (HB1.out.trans (below_mono hb2 HB1.out.size))
    have HSW := Lib.hid hsw
    have HFind := Lib.hid (find_any aw a m cw n c ws l w2 hsw (sseg_below HSeg.out HB2.out rfl) HWS.out HS.out HND.out HIn.out (by omega) (by omega))
    unfold NumsX at HFind
    rw [HIW.out, HIl.out] at HFind
    clear hsw hb2
    dsimp only
    go_wp2_with fail
    refine HFind.out.mono ?_
    rintro e w3 ⟨ai, ci, rfl, hsi, hb3⟩
    have HB3 : Hid (Below w2.heap.size w2 w3) := Lib.hid hb3
    have HWid := Lib.hid (Pk.width_any ai n ci ix w3 hsi HU.out)
    rw [HV.out] at HWid
    have HPut := Lib.hid (Pk.put_form (v := (v : Int)) HR.out HPL.out HU.out ai n ci w3 hsi)
    clear hsi hb3
    dsimp only
    go_wp2_with (first
      | (go_at_call 84; refine HWid.out.mono ?_; rintro e w' ⟨rfl, rfl⟩)
      | fail)
    refine HPut.out.mono ?_
    rintro e w4 ⟨ap, cp, rfl, hsp, ht4⟩
    have HB4 : Hid (Below w2.heap.size w2 w4) := Lib.hid (HB3.out.trans (below_turn ht4 _ HB3.out.size))
    have HV1 := Lib.hid (Oct.putVar_any _ 1 1 [2] (n : Int) (w4.alloc (.cells #[.int .u8 2] 5)) (oseg (Bs.lit_seg w4 [2] (by decide))) (by omega) (by omega) (by decide))
    have HB4a : Hid (Below w2.heap.size w2 (w4.alloc (.cells #[.int .u8 2] 5))) := Lib.hid (HB4.out.alloc HB4.out.size _)
    have HB4b : Hid (Below w4.heap.size w4 (w4.alloc (.cells #[.int .u8 2] 5))) := Lib.hid ((Below.refl _ w4).alloc (Nat.le_refl _) _)
    have HSP := Lib.hid hsp
    clear hsp ht4
    dsimp only
    go_wp2_with fail
    refine HV1.out.mono ?_
    rintro e w5 hnew
    obtain ⟨g5, p5, rfl, hf⟩ := hnew.value
    obtain ⟨hp5, hown5, hg5⟩ := hf.is
    have hvl := Oct.varB_le 9 (n : Int)
    have hp5b : p5 ≤ 11 := by rw [hp5]; simp; omega
    have HB5 : Hid (Below w2.heap.size w2 w5) := Lib.hid (HB4a.out.trans (below_grown hg5 HB4a.out.size))
    have HB5b : Hid (Below w4.heap.size w4 w5) := Lib.hid (HB4b.out.trans (below_grown hg5 HB4b.out.size))
    have HV2 := Lib.hid (Oct.putVar_any _ p5 p5 ([2] ++ varB 9 (n : Int)) (m : Int) w5 (Oct.Seg.own hown5) (by omega) (by omega) (by omega))
    have HP5 := Lib.hid hp5
    clear hnew hf hown5 hg5 hp5 hvl
    dsimp only
    go_wp2_with fail
    refine HV2.out.mono ?_
    rintro e w6 hnew
    obtain ⟨g6, p6, rfl, hf⟩ := hnew.value
    obtain ⟨hp6, hown6, hg6⟩ := hf.is
    have hvl := Oct.varB_le 9 (m : Int)
    have hp6b : p6 ≤ 21 := by rw [hp6, List.length_append, ← HP5.out]; omega
    have hp60 : 0 < p6 := by rw [hp6]; simp
    have HB6 : Hid (Below w2.heap.size w2 w6) := Lib.hid (HB5.out.trans (below_grown hg6 HB5.out.size))
    have HB6b : Hid (Below w4.heap.size w4 w6) := Lib.hid (HB5b.out.trans (below_grown hg6 HB5b.out.size))
    have HStr := Lib.hid (putStrings_any w4.heap.size _ p6 (([2] ++ varB 9 (n : Int)) ++ varB 9 (m : Int)) aw m cw ws w6 (sseg_below HSW.out HB6.out rfl) (fun h ad had => Nat.lt_of_lt_of_le (sseg_lt HSW.out h ad had) HB4.out.size) HB6b.out.size (Oct.ownsRow_mono hown6 HB5b.out.size) hp60 (by omega) (allB_of HWS.out) HWl.out (by omega))
    obtain ⟨q, hq⟩ : ∃ q, (strsB ws).length = q := ⟨_, rfl⟩
    rw [hq] at HStr
    have hqb : q ≤ m * 65546 := hq ▸ HWLen.out
    have HQ := Lib.hid hq
    have HP6 := Lib.hid hp6
    clear hnew hf hown6 hg6 hp6 hvl hp60 hq
    dsimp only
    go_wp2_with fail
    refine HStr.out.mono ?_
    rintro e w7 ⟨g7, c7, rfl, hown7, hb7⟩
    have HO7 := Lib.hid hown7
    have HB7 : Hid (Below w4.heap.size w4 w7) := Lib.hid (HB6b.out.trans hb7)
    have HSP7 : Hid (Bs.Seg w7 ap pl cp P) := Lib.hid (HSP.out.grown (Bs.grown_of HB7.out))
    have HS7 : Hid (w4.heap.size ≤ w7.heap.size) := Lib.hid HB7.out.size
    have HW24 : Hid (Below w.heap.size w w4) := Lib.hid (HB2.out.trans (below_mono HB4.out HB2.out.size))
    have HL4 : Hid (w.heap.size ≤ w4.heap.size) := Lib.hid HW24.out.size
    have HPos : Hid (0 < p6 + q) := Lib.hid (by have := HP6.out; simp at this; omega)
    clear hown7 hb7
    dsimp only
    go_wp2_with (first
      | (at_builtin; refine wpList_append_own _ rfl (.tmp 38) (.tmp 41) 45 rfl w4.heap.size 5 i0 (.int .u8 0) 1 1 Tryz.underlying45 hi hz0 hz1 hz2 rfl (by decide) _ (p6 + q) _ rfl (HO7.out.alloc _) ⟨w7.heap.size, 0, none⟩ 1 1 [.int .u8 (v : Int)] rfl rfl (by intro t u ht; match t, ht with | 0, ht => simp at ht; subst ht; exact Pk.cell_new w7 _ _) (by intro u hu; simp at hu; subst hu; rfl) (by unfold maxLen; omega) (by omega) (by have := HS7.out; simp; omega) ?_; intro v8 w8 hown8 hg8 hnil8; obtain ⟨g8, c8, rfl⟩ := ownsRow_form hown8 (by omega); have HO8 := Lib.hid hown8; have HB8 : Hid (Below w4.heap.size w4 w8) := Lib.hid ((HB7.out.alloc HS7.out _).grown hg8 (by have := HS7.out; simp; omega) (fun j e => (HO7.out.lt j e).1)); have HSP8 : Hid (Bs.Seg w8 ap pl cp P) := Lib.hid (HSP.out.grown (Bs.grown_of HB8.out)); have HS8 : Hid (w4.heap.size ≤ w8.heap.size) := Lib.hid HB8.out.size; clear hown8 hg8 hnil8)
      | (at_builtin; refine Bs.wpList_append_seg rfl (.tmp 42) (.tmp 43) 45 rfl w4.heap.size 5 i0 Tryz.underlying45 hi hz0 hz1 hz2 g8 (p6 + q + 1) c8 _ rfl HO8.out ap pl cp P rfl HSP8.out (by omega) HS8.out ?_; intro g9 c9 w9 hown9 hg9)
      | fail)
    have HF : Hid (PutT w (0, dictT l) (.returned (.tuple #[.slice (some ⟨g9, 0, none⟩) (p6 + q + 1 + pl) c9, .int .i64 0])) w9) := by
      have e1 : ([2] ++ varB 9 (n : Int)) ++ varB 9 (m : Int) ++ strsB ws ++ [(v : Int)] ++ P = dictT l := by rw [HParts.out, HLen.out, HM.out]
      have hlen : (dictT l).length = p6 + q + 1 + pl := by
        rw [← e1, List.length_append, List.length_append, List.length_append, ← HP6.out, HQ.out, HPL.out]
        simp
      refine Lib.hid ⟨_, c9, by rw [hlen], ?_, HW24.out.trans (below_mono (HB8.out.grown hg9 HS8.out (fun j e => (HO8.out.lt j e).1)) HL4.out)⟩
      rw [hlen, ← e1]
      refine Bs.Seg.own (base := w4.heap.size) (e := 5) ?_
      dsimp only
      rw [List.map_append, List.map_append]
      exact hown9
    clear hown9 hg9
    go_ret2
    exact HF.out

set_option maxRecDepth 100000 in
set_option maxHeartbeats 1000000 in
theorem put_any (a : Option Addr) (n c : Nat) (l : List (List Int)) (w : World) (hs : Ss.Seg w a n c l) (hb : AllB l) :
    Calls Tryz.prog 109 #[.slice a n c] w (PutT w (formR (bestT l) l)) := by
  have HP := Lib.hid (plain_any a n c l w hs hb)
  have HD := Lib.hid (fun W (k : Below w.heap.size w W) => dict_any a n c l W (sseg_below hs k rfl) hb)
  obtain ⟨E, hE⟩ : ∃ E : Int, (if okB l = true then (0 : Int) else 3) = E := ⟨_, rfl⟩
  obtain ⟨P, hP⟩ : ∃ P, (formR (plainT l) l).2 = P := ⟨_, rfl⟩
  obtain ⟨D, hD⟩ : ∃ D, (formR (dictT l) l).2 = D := ⟨_, rfl⟩
  have e1 : formR (plainT l) l = (E, P) := by rw [← hP, ← hE]; unfold formR; split <;> rfl
  have e2 : formR (dictT l) l = (E, D) := by rw [← hD, ← hE]; unfold formR; split <;> rfl
  have e3 : formR (bestT l) l = (E, if D.length < P.length then D else P) := by
    rw [← hP, ← hD, ← hE]
    unfold formR bestT
    split
    · simp
    · simp
  rw [e1] at HP
  rw [e2] at HD
  rw [e3]
  obtain ⟨R, hR⟩ : ∃ R, (if D.length < P.length then D else P) = R := ⟨_, rfl⟩
  rw [hR]
  have HRe := Lib.hid hR
  clear hR
  obtain ⟨pl, hpl⟩ : ∃ x, P.length = x := ⟨_, rfl⟩
  obtain ⟨dl, hdl⟩ : ∃ x, D.length = x := ⟨_, rfl⟩
  unfold PutT at HP HD
  dsimp only at HP HD
  rw [hpl] at HP
  rw [hdl] at HD
  have HPl := Lib.hid hpl
  have HDl := Lib.hid hdl
  clear hs hb hE hP hD e1 e2 e3 hpl hdl
  go_enter Tryz.func109, Tryz.ntmps109
  go_wp2_with fail
  refine HP.out.mono ?_
  rintro e w1 ⟨ap, cp, rfl, hsp, hb1⟩
  have HB1 := Lib.hid hb1
  have HSP := Lib.hid hsp
  have HD1 := Lib.hid (HD.out w1 hb1)
  clear hsp hb1
  dsimp only
  go_wp2_with fail
  refine HD1.out.mono ?_
  rintro e w2 ⟨ad, cd, rfl, hsd, hb2⟩
  have HB2 := Lib.hid (HB1.out.trans (below_mono hb2 HB1.out.size))
  have HSP2 : Hid (Bs.Seg w2 ap pl cp P) := Lib.hid (HSP.out.grown (Bs.grown_of hb2))
  have HSD := Lib.hid hsd
  clear hsd hb2
  dsimp only
  by_cases hlt : dl < pl
  · have HF : Hid (PutT w (E, R) (.returned (.tuple #[.slice ad dl cd, .int .i64 E])) w2) := Lib.hid (by
      rw [← HRe.out, if_pos (by rw [HPl.out, HDl.out]; exact hlt)]
      exact ⟨ad, cd, by rw [HDl.out], by rw [HDl.out]; exact HSD.out, HB2.out⟩)
    have hlt' : (dl : Int) < (pl : Int) := by omega
    clear hlt
    go_wp2
    go_ret2
    exact HF.out
  · have HF : Hid (PutT w (E, R) (.returned (.tuple #[.slice ap pl cp, .int .i64 E])) w2) := Lib.hid (by
      rw [← HRe.out, if_neg (by rw [HPl.out, HDl.out]; exact hlt)]
      exact ⟨ap, cp, by rw [HPl.out], by rw [HPl.out]; exact HSP2.out, HB2.out⟩)
    have hlt' : ¬ (dl : Int) < (pl : Int) := by omega
    clear hlt
    go_wp2
    go_ret2
    exact HF.out
end Go.Proofs.YtljanfnhmhimiaaGreat.Tx

namespace Go.Proofs.YtljanfnhmhimiaaGreat.Tx
open Go.RowKit Go.Joins
open Ss (IsS encW info_str)
open Oct (Rd ReadN ReadV readV ofB)
open In (At turn_read turn_row turn_more own_at turn_below below_mono isB_drop isB_take)
open Dv (Turn nowhere)

def roomS (S : Nat) : Array Value := madeCells (Value.string ⟨#[]⟩).cells S
theorem roomS_size (S : Nat) : (roomS S).size = S := size_madeCells _ _
theorem make_roomS (S : Nat) (hS : S ≤ 1000000) (W : World) : (Instr.makeSlice 132 (.int .i64 0) (.int .i64 (S : Int))).run Tryz.prog W = .ok (.slice (some ⟨W.heap.size, 0, none⟩) 0 S) (W.alloc (.cells (roomS S) 9)) := by
  obtain ⟨i0, hi, hz0, hz1, hz2⟩ := info_parts info_str
  have h := run_make (P := Tryz.prog) W 132 9 i0 (.string ⟨#[]⟩) Tryz.underlying132 hi hz0 .i64 .i64 0 (S : Int) (by omega) (by omega) (by rw [hz2]; omega) (by omega)
  rw [hz1, Int.toNat_natCast, Nat.mul_one] at h
  exact h
/-- 'string(b)', b of the call's own. -/
theorem conv_own {w : World} {base e g n c : Nat} {l : List Int} (h : w.ownsRow base e 1 (.slice (some ⟨g, 0, none⟩) n c) n (l.map (Value.int .u8))) : (convert 45 9 (.slice (some ⟨g, 0, none⟩) n c)).run Tryz.prog w = .ok (.string (strOfNums l)) w := by
  have hs := Bs.Seg.own h
  refine run_convert_bytes_arg w 45 5 Tryz.underlying45 Tryz.underlying5 g 0 n c l hs.len (fun j hj => ?_) 9 Tryz.underlying9
  have := hs.at_ _ rfl j (.int .u8 (l.getD j 0)) (by simp [List.getD, show j < l.length by have := hs.len; omega])
  rwa [Addr.add_lit] at this

/-- a count, or an error -/
def CountX (b g : Nat) (w : World) (r : Option (Nat × List Int)) (e : Ending) (w' : World) : Prop :=
  Turn w w' (At b) ∧ w.heap.size ≤ w'.heap.size ∧ match r with
    | some (n, rest) => e = .returned (.tuple #[.int .i64 n, .int .i64 0]) ∧ Rd w' b g rest
    | none => e = .returned (.tuple #[.int .i64 0, .int .i64 4])

set_option maxRecDepth 100000 in
set_option maxHeartbeats 1000000 in
theorem getCount_any (b g : Nat) (bs : List Int) (w : World) (h : Rd w b g bs) (hb : Oct.IsB bs) :
    Calls Tryz.prog 172 #[.pointer (some ⟨b, 0, none⟩)] w (CountX b g w (readC bs)) := by
  have HVar := Lib.hid (Oct.var_any b g bs w h hb)
  unfold ReadV at HVar
  obtain ⟨v, er, nn, hv⟩ : ∃ v er nn, readV 0 0 bs = (v, er, nn) := ⟨_, _, _, rfl⟩
  have hvb : er = 0 → 0 ≤ v := fun h0 => by subst h0; exact (In.var_readV bs hb v nn hv).1
  unfold readC
  rw [hv] at HVar ⊢
  dsimp only at HVar ⊢
  clear h hb hv
  by_cases he : er = 0
  · subst he
    have hv0 := hvb rfl
    clear hvb
    by_cases hl : 4096 < v
    · rw [if_pos (.inr hl)]
      go_enter Tryz.func172, Tryz.ntmps172
      go_wp2_with fail
      refine HVar.out.mono ?_
      rintro e w1 ⟨rfl, hg, hr⟩
      have HF : Hid (CountX b g w none (.returned (.tuple #[.int .i64 0, .int .i64 4])) w1) := Lib.hid ⟨turn_read hg, hg.size, rfl⟩
      clear hg hr
      dsimp only
      go_wp2
      go_ret2
      exact HF.out
    · rw [if_neg (by simp; omega)]
      obtain ⟨m, rfl⟩ := Int.eq_ofNat_of_zero_le hv0
      rw [Int.toNat_natCast]
      go_enter Tryz.func172, Tryz.ntmps172
      go_wp2_with fail
      refine HVar.out.mono ?_
      rintro e w1 ⟨rfl, hg, hr⟩
      have HF : Hid (CountX b g w (some (m, bs.drop nn)) (.returned (.tuple #[.int .i64 m, .int .i64 0])) w1) := Lib.hid ⟨turn_read hg, hg.size, rfl, hr⟩
      clear hg hr
      dsimp only
      go_wp2
      go_ret2
      exact HF.out
  · rw [if_pos (.inl he)]
    go_enter Tryz.func172, Tryz.ntmps172
    go_wp2_with fail
    refine HVar.out.mono ?_
    rintro e w1 ⟨rfl, hg, hr⟩
    have HF : Hid (CountX b g w none (.returned (.tuple #[.int .i64 0, .int .i64 4])) w1) := Lib.hid ⟨turn_read hg, hg.size, rfl⟩
    clear hg hr
    dsimp only
    go_wp2
    go_ret2
    exact HF.out

/-- texts, and what is left; or an error -/
def GetsX (b g : Nat) (w : World) (r : Option (List (List Int) × List Int)) (e : Ending) (w' : World) : Prop :=
  Turn w w' (At b) ∧ match r with
    | some (l, rest) => ∃ a c, e = .returned (.tuple #[.slice a l.length c, .int .i64 0]) ∧ Ss.Seg w' a l.length c l ∧ Rd w' b g rest ∧ ∀ ad, a = some ad → w.heap.size ≤ ad.block
    | none => ∃ E : Int, E ≠ 0 ∧ e = .returned (.tuple #[.slice none 0 0, .int .i64 E])

theorem readSs_step (n k : Nat) (bs : List Int) (acc : List (List Int)) (rest : List Int) (hk : k < n) (h : readSs n bs = (readSs (n - k) rest).map (fun p => (acc ++ p.1, p.2))) :
    (readS rest = none → readSs n bs = none) ∧ (∀ s r, readS rest = some (s, r) → readSs n bs = (readSs (n - (k + 1)) r).map (fun p => ((acc ++ [s]) ++ p.1, p.2))) := by
  have e : n - k = (n - (k + 1)) + 1 := by omega
  rw [e, readSs] at h
  refine ⟨fun hn => ?_, fun s r hs => ?_⟩
  · rw [hn] at h; exact h
  · rw [hs] at h
    dsimp only at h
    rw [h]
    cases readSs (n - (k + 1)) r with
    | none => rfl
    | some p => obtain ⟨l1, r1⟩ := p; simp

set_option maxRecDepth 100000 in
set_option maxHeartbeats 2000000 in
theorem getStrings_any (b g n : Nat) (bs : List Int) (w : World) (h : Rd w b g bs) (hg : g < w.heap.size) (hb : Oct.IsB bs) (hl : bs.length ≤ 100000000) (hn : n ≤ 65536) :
    Calls Tryz.prog 173 #[.pointer (some ⟨b, 0, none⟩), .int .i64 n] w (GetsX b g w (readSs n bs)) := by
  obtain ⟨i0, hi, hz0, hz1, hz2⟩ := info_parts info_str
  have hbl : b < w.heap.size := World.block_lt_of_cell? w _ h.self
  have HBL := Lib.hid hbl
  have HGL := Lib.hid hg
  have hmk := make_roomS n (by omega)
  have h0 := World.ownsRow_made (base := w.heap.size) (e := 9) (size := 1) w (roomS n) n (Nat.le_refl _) (by unfold maxLen; omega) (by rw [roomS_size, Nat.mul_one])
  have HO0 := Lib.hid h0
  have HT0 : Hid (Turn w (w.alloc (.cells (roomS n) 9)) (At b)) := Lib.hid (Turn.alloc w _ _)
  have HR0 : Hid (Rd (w.alloc (.cells (roomS n) 9)) b g bs) := Lib.hid (In.Turn.rd (Turn.alloc w _ nowhere) h id id)
  have HE0 : Hid (readSs n bs = (readSs (n - 0) bs).map (fun p => (([] : List (List Int)) ++ p.1, p.2))) := Lib.hid (by simp)
  have HB0 : Hid (Oct.IsB bs ∧ bs.length ≤ 100000000) := Lib.hid ⟨hb, hl⟩
  clear h0 h hg hb hbl hl
  go_enter Tryz.func173, Tryz.ntmps173
  go_wp2
  go_step3
  go_wp2
  go_step3
  go_wp2
  go_loopw [6] (fun so wr => ∃ (k : Nat) (acc : List (List Int)) (rest : List Int), k ≤ n ∧ so = .slice (some ⟨w.heap.size, 0, none⟩) k n ∧ Hid (wr.ownsRow w.heap.size 9 1 (.slice (some ⟨w.heap.size, 0, none⟩) k n) k (acc.map encW)) ∧
      Hid (Rd wr b g rest) ∧ Hid (Oct.IsB rest ∧ rest.length ≤ 100000000) ∧ Hid (readSs n bs = (readSs (n - k) rest).map (fun p => (acc ++ p.1, p.2))) ∧ Hid (Turn w wr (At b)) ∧ Hid (w.heap.size < wr.heap.size))
    (fun so _ => n - (match so with | .slice _ k _ => k | _ => 0))
  case atStart => exact ⟨0, [], bs, Nat.zero_le _, rfl, HO0, HR0, HB0, HE0, HT0, Lib.hid (by simp)⟩
  case round =>
    obtain ⟨k, acc, rest, hk, rfl, HO, HR, HB, HE, HT, HL⟩ := hrel
    by_cases hlt : k < n
    · have hstep := readSs_step n k bs acc rest hlt HE.out
      have HVar := Lib.hid (Oct.var_any b g rest wr HR.out HB.out.1)
      unfold ReadV at HVar
      obtain ⟨v, er, nn, hv⟩ : ∃ v er nn, readV 0 0 rest = (v, er, nn) := ⟨_, _, _, rfl⟩
      have hvb : er = 0 → 0 ≤ v := fun h0 => by subst h0; exact (In.var_readV rest HB.out.1 v nn hv).1
      have HVe := Lib.hid hv
      rw [hv] at HVar
      dsimp only at HVar
      clear hv
      by_cases hbad : er ≠ 0 ∨ 65536 < v
      · have HF : Hid (∀ w', Turn wr w' (At b) → GetsX b g w (readSs n bs) (.returned (.tuple #[.slice none 0 0, .int .i64 4])) w') := Lib.hid fun w' ht => by
          rw [hstep.1 (by unfold readS; rw [HVe.out]; exact if_pos (by rcases hbad with h | h; exact .inl h; exact .inr (.inl h)))]
          exact ⟨turn_more HT.out ht (fun i e => .inl e), 4, by decide, rfl⟩
        have hbd := hbad
        clear hstep
        by_cases he : er = 0
        · subst he
          have hv2 : 65536 < v := by simpa using hbad
          have hv0 := hvb rfl
          clear hbad hbd hvb
          go_wp2_with fail
          refine HVar.out.mono ?_
          rintro e w1 ⟨rfl, hg1, hr1⟩
          have HF1 := Lib.hid (HF.out w1 (turn_read hg1))
          clear hg1 hr1
          dsimp only
          go_wp2
          try rw [Exit.noGoto_ret]
          go_ret2
          exact HF1.out
        · clear hbad hbd hvb
          go_wp2_with fail
          refine HVar.out.mono ?_
          rintro e w1 ⟨rfl, hg1, hr1⟩
          have HF1 := Lib.hid (HF.out w1 (turn_read hg1))
          clear hg1 hr1
          dsimp only
          go_wp2
          try rw [Exit.noGoto_ret]
          go_ret2
          exact HF1.out
      · have he : er = 0 := Classical.byContradiction fun h => hbad (.inl h)
        have hv2 : ¬ 65536 < v := fun h => hbad (.inr h)
        subst he
        obtain ⟨s, rfl⟩ := Int.eq_ofNat_of_zero_le (hvb rfl)
        clear hbad hvb
        obtain ⟨r1, hr1e⟩ : ∃ r, rest.drop nn = r := ⟨_, rfl⟩
        have hr1b : Oct.IsB r1 := hr1e ▸ isB_drop HB.out.1 nn
        have hr1l : r1.length ≤ 100000000 := by rw [← hr1e, List.length_drop]; have := HB.out.2; omega
        rw [hr1e] at HVar
        have HR1e := Lib.hid hr1e
        obtain ⟨q, hq⟩ : ∃ q, r1.length = q := ⟨_, rfl⟩
        have hwq := wrap_u64 (n := q) (by omega)
        clear hr1e
        by_cases hlong : q < s
        · have HF : Hid (∀ w', Turn wr w' (At b) → GetsX b g w (readSs n bs) (.returned (.tuple #[.slice none 0 0, .int .i64 4])) w') := Lib.hid fun w' ht => by
            rw [hstep.1 (by unfold readS; rw [HVe.out]; exact if_pos (.inr (.inr (by rw [HR1e.out, hq]; simpa using hlong))))]
            exact ⟨turn_more HT.out ht (fun i e => .inl e), 4, by decide, rfl⟩
          clear hstep
          go_wp2_with fail
          refine HVar.out.mono ?_
          rintro e w1 ⟨rfl, hg1, hr1⟩
          have HF1 := Lib.hid (HF.out w1 (turn_read hg1))
          have HLeft := Lib.hid (Oct.left_yes b g r1 w1 hr1)
          rw [hq] at HLeft
          have hlong' : (q : Int) < (s : Int) := by omega
          clear hg1 hr1 hq hr1b hr1l hlong
          dsimp only
          go_wp2_with (first
            | (go_at_call 64; refine HLeft.out.mono ?_; rintro e w' ⟨rfl, rfl⟩)
            | fail)
          try rw [Exit.noGoto_ret]
          go_ret2
          exact HF1.out
        · have HS : Hid (readSs n bs = (readSs (n - (k + 1)) (r1.drop s)).map (fun p => ((acc ++ [r1.take s]) ++ p.1, p.2))) := Lib.hid (hstep.2 _ _ (by
            unfold readS
            rw [HVe.out]
            dsimp only
            rw [HR1e.out, if_neg (by rw [hq]; simp; omega), Int.toNat_natCast]))
          have HBy : Hid (∀ W, Rd W b g r1 → Calls Tryz.prog 63 #[.pointer (some ⟨b, 0, none⟩), .int .i64 s] W (Oct.ReadB b g W (r1.take s) (r1.drop s))) := Lib.hid fun W h => Oct.bytes_yes b g r1 s W h (by omega) (by omega)
          have HB2 : Hid (Oct.IsB (r1.drop s) ∧ (r1.drop s).length ≤ 100000000) := Lib.hid ⟨isB_drop hr1b s, by rw [List.length_drop]; omega⟩
          have HTl : Hid ((r1.take s).length = s) := Lib.hid (by rw [List.length_take]; omega)
          obtain ⟨x, hx⟩ : ∃ x, r1.take s = x := ⟨_, rfl⟩
          rw [hx] at HS HBy HTl
          obtain ⟨r2, hr2⟩ : ∃ x, r1.drop s = x := ⟨_, rfl⟩
          rw [hr2] at HS HBy HB2
          clear hstep hx hr2
          go_wp2_with fail
          refine HVar.out.mono ?_
          rintro e w1 ⟨rfl, hg1, hr1⟩
          have HT1 : Hid (Turn w w1 (At b)) := Lib.hid (turn_more HT.out (turn_read hg1) (fun i e => .inl e))
          have HO1 : Hid (w1.ownsRow w.heap.size 9 1 (.slice (some ⟨w.heap.size, 0, none⟩) k n) k (acc.map encW)) := Lib.hid (own_at HO.out hg1 (by have := HBL.out; omega))
          have HL1 : Hid (w.heap.size < w1.heap.size) := Lib.hid (Nat.lt_of_lt_of_le HL.out hg1.size)
          have HLeft := Lib.hid (Oct.left_yes b g r1 w1 hr1)
          rw [hq] at HLeft
          have HBy1 := Lib.hid (HBy.out w1 hr1)
          have hlong' : ¬ (q : Int) < (s : Int) := by omega
          clear hg1 hr1 hq hr1b hr1l hlong
          dsimp only
          go_wp2_with (first
            | (go_at_call 64; refine HLeft.out.mono ?_; rintro e w' ⟨rfl, rfl⟩)
            | fail)
          refine HBy1.out.mono ?_
          rintro e w2 hrb
          obtain ⟨y, p, rfl, hp, hown2, hg2, hr2⟩ := hrb.value
          have hcv := conv_own hown2
          have hT2 := turn_read hg2
          have HT2 : Hid (Turn w w2 (At b)) := Lib.hid (turn_more HT1.out hT2 (fun i e => .inl e))
          have HO2 : Hid (w2.ownsRow w.heap.size 9 1 (.slice (some ⟨w.heap.size, 0, none⟩) k n) k (acc.map encW)) := Lib.hid (own_at HO1.out hg2 (by have := HBL.out; omega))
          have HL2 : Hid (w.heap.size < w2.heap.size) := Lib.hid (Nat.lt_of_lt_of_le HL1.out hg2.size)
          have HR2 := Lib.hid hr2
          clear hrb hp hown2 hg2 hr2 hT2
          dsimp only
          go_wp2_with (first
            | (at_builtin; refine wpList_append_fits _ rfl (.tmp 29) (.tmp 32) 132 rfl w.heap.size 9 i0 1 Tryz.underlying132 hi hz1 w.heap.size k n _ rfl (HO2.out.alloc _) ⟨w2.heap.size, 0, none⟩ 1 1 [.string (strOfNums x)] rfl rfl (by intro t u ht; match t, ht with | 0, ht => simp at ht; subst ht; exact Pk.cell_new w2 _ _) (by intro u hu; simp at hu; subst hu; rfl) (by omega) ?_; intro w3 hown3 hgrow3)
            | fail)
          go_roundw
          case rel =>
            have hT3 := Turn.alloc w2 (.cells #[.string (strOfNums x)] 9) (At b)
            refine ⟨k + 1, acc ++ [x], r2, by omega, by go_num, Lib.hid ?_, Lib.hid ?_, HB2, HS, Lib.hid ?_, Lib.hid (Nat.lt_of_lt_of_le (Nat.lt_of_lt_of_le HL2.out hT3.size) hgrow3.size)⟩
            · rw [List.map_append]; exact hown3
            · exact In.Turn.rd (turn_row hgrow3) (In.Turn.rd (Turn.alloc w2 _ nowhere) HR2.out id id) (by have := HBL.out; unfold At; omega) (by have := HGL.out; unfold At; omega)
            · exact turn_more (turn_more HT2.out hT3 (fun i e => .inl e)) (turn_row hgrow3) (fun i e => .inr (by unfold At at e; omega))
          case measure => dsimp only; omega
    · obtain rfl : k = n := by omega
      have hd := HE.out
      rw [Nat.sub_self] at hd
      have hd2 : readSs k bs = some (acc, rest) := by rw [hd]; simp [readSs]
      have hal : acc.length = k := by have := HO.out.1; rw [List.length_map] at this; omega
      have HF : Hid (GetsX b g w (readSs k bs) (.returned (.tuple #[.slice (some ⟨w.heap.size, 0, none⟩) k k, .int .i64 0])) wr) := Lib.hid (by
        rw [hd2]
        refine ⟨HT.out, _, k, by rw [hal], ?_, HR.out, fun ad e => by cases e; exact Nat.le_refl _⟩
        rw [hal]
        exact Ss.Seg.own HO.out)
      clear hd hd2 hal
      go_wp2
      try rw [Exit.noGoto_ret]
      go_ret2
      exact HF.out
end Go.Proofs.YtljanfnhmhimiaaGreat.Tx

namespace Go.Proofs.YtljanfnhmhimiaaGreat.Tx
open Go.RowKit Go.Joins
open Ss (IsS encW info_str)
open Oct (Rd ReadN ReadV readV ofB)
open In (At turn_read turn_row turn_more own_at turn_below below_mono isB_drop isB_take)
open Dv (Turn nowhere)
open Pk (wid getR IsU)

theorem readC_lt {b : List Int} {n : Nat} {r : List Int} (h : readC b = some (n, r)) : n ≤ 4096 ∧ r.length ≤ b.length := by
  unfold readC at h
  split at h
  · cases h
  · rename_i hc
    simp only [Option.some.injEq, Prod.mk.injEq] at h
    obtain ⟨rfl, rfl⟩ := h
    have : ¬ 4096 < (readV 0 0 b).1 := fun k => hc (.inr k)
    exact ⟨by omega, by rw [List.length_drop]; omega⟩

set_option maxRecDepth 100000 in
set_option maxHeartbeats 1000000 in
theorem getPlain_any (b g : Nat) (bs : List Int) (w : World) (h : Rd w b g bs) (hg : g < w.heap.size) (hb : Oct.IsB bs) (hl : bs.length ≤ 100000000) :
    Calls Tryz.prog 147 #[.pointer (some ⟨b, 0, none⟩)] w (GetsX b g w (getPl bs)) := by
  have HC := Lib.hid (getCount_any b g bs w h hb)
  have HGL := Lib.hid hg
  have HB := Lib.hid hb
  unfold getPl
  cases hc : readC bs with
  | none =>
    rw [hc] at HC
    clear h hg hb hl hc
    go_enter Tryz.func147, Tryz.ntmps147
    go_wp2_with fail
    refine HC.out.mono ?_
    rintro e w1 ⟨ht, -, rfl⟩
    have HF : Hid (GetsX b g w none (.returned (.tuple #[.slice none 0 0, .int .i64 4])) w1) := Lib.hid ⟨ht, 4, by decide, rfl⟩
    clear ht
    dsimp only
    go_wp2
    go_ret2
    exact HF.out
  | some p =>
    obtain ⟨n, r⟩ := p
    have hlt := readC_lt hc
    have hbr := readC_le hb hc
    rw [hc] at HC
    have HG := Lib.hid (fun W (hr : Rd W b g r) (hgl : g < W.heap.size) => getStrings_any b g n r W hr hgl hbr.2 (by omega) (by omega))
    dsimp only
    obtain ⟨X, hX⟩ : ∃ X, readSs n r = X := ⟨_, rfl⟩
    rw [hX] at HG ⊢
    clear h hg hb hl hc hlt hbr hX
    go_enter Tryz.func147, Tryz.ntmps147
    go_wp2_with fail
    refine HC.out.mono ?_
    rintro e w1 ⟨ht, hsz, rfl, hr⟩
    have HG1 := Lib.hid (HG.out w1 hr (Nat.lt_of_lt_of_le HGL.out hsz))
    have HT := Lib.hid ht
    have HSz := Lib.hid hsz
    clear ht hsz hr
    dsimp only
    go_wp2_with fail
    refine HG1.out.mono ?_
    rintro e w2 ⟨ht2, hx⟩
    have HT2 : Hid (Turn w w2 (At b)) := Lib.hid (turn_more HT.out ht2 (fun i e => .inl e))
    clear ht2
    cases X with
    | none =>
      obtain ⟨E, hE, rfl⟩ := hx
      have HF : Hid (GetsX b g w none (.returned (.tuple #[.slice none 0 0, .int .i64 E])) w2) := Lib.hid ⟨HT2.out, E, hE, rfl⟩
      clear hE
      dsimp only
      go_wp2
      go_ret2
      exact HF.out
    | some p =>
      obtain ⟨l, rest⟩ := p
      obtain ⟨a5, c5, rfl, hs5, hr5, hn5⟩ := hx
      have HF : Hid (GetsX b g w (some (l, rest)) (.returned (.tuple #[.slice a5 l.length c5, .int .i64 0])) w2) := Lib.hid ⟨HT2.out, a5, c5, rfl, hs5, hr5, fun ad e => Nat.le_trans HSz.out (hn5 ad e)⟩
      obtain ⟨m, hm⟩ : ∃ m, l.length = m := ⟨_, rfl⟩
      rw [hm] at HF ⊢
      clear hs5 hr5 hm hn5
      dsimp only
      go_wp2
      go_ret2
      exact HF.out

/-- numbers, nothing left; or an error -/
def IxX (b g : Nat) (w : World) (r : Option (List Int)) (e : Ending) (w' : World) : Prop :=
  Turn w w' (At b) ∧ w.heap.size ≤ w'.heap.size ∧ match r with
    | some ix => ∃ a c, e = .returned (.tuple #[.slice a ix.length c, .int .i64 0]) ∧ Us.Seg w' a ix.length c ix ∧ Rd w' b g []
    | none => ∃ E : Int, E ≠ 0 ∧ e = .returned (.tuple #[.slice none 0 0, .int .i64 E])

set_option maxRecDepth 100000 in
set_option maxHeartbeats 2000000 in
theorem getIndexes_any (b g n : Nat) (bs : List Int) (w : World) (h : Rd w b g bs) (hb : Oct.IsB bs) (hl : bs.length ≤ 100000000) :
    Calls Tryz.prog 174 #[.pointer (some ⟨b, 0, none⟩), .int .i64 n] w (IxX b g w (getIx n bs)) := by
  match bs, h, hb, hl with
  | [], h, _, _ =>
    have HN := Lib.hid (Oct.number_more b g [] 1 w h (by decide) (by decide) (by decide))
    have HF : Hid (IxX b g w none (.returned (.tuple #[.slice none 0 0, .int .i64 7])) w) := Lib.hid ⟨Turn.refl _ _, Nat.le_refl _, 7, by decide, rfl⟩
    clear h
    go_enter Tryz.func174, Tryz.ntmps174
    go_wp2_with fail
    refine HN.out.mono ?_
    rintro e w1 ⟨rfl, rfl⟩
    dsimp only
    go_wp2
    go_ret2
    exact HF.out
  | k :: r, h, hb, hl =>
    have hk := hb k (by simp)
    have hbr : Oct.IsB r := fun x hx => hb x (by simp [hx])
    have hrl : r.length ≤ 100000000 := by rw [List.length_cons] at hl; omega
    have HNum : Hid (Calls Tryz.prog 94 #[.pointer (some ⟨b, 0, none⟩), .int .i64 1] w (ReadN b g w k r)) := Lib.hid (by
      have := Oct.number_yes b g (k :: r) 1 w h hb (by decide) (by decide) (by simp)
      rwa [show ofB ((k :: r).take 1) = k from by simp [ofB]] at this)
    unfold ReadN at HNum
    obtain ⟨q, hq⟩ : ∃ q, r.length = q := ⟨_, rfl⟩
    have HBy := Lib.hid (fun W (hr : Rd W b g r) => Oct.bytes_yes b g r q W hr (by omega) (by omega))
    rw [← hq, List.take_length, List.drop_length, hq] at HBy
    have HRB := Lib.hid hbr
    have hkw : wrap64 k = k := by rw [← IntWalk.i64_left, IntKind.wrap_i64]; omega
    obtain ⟨E, B, hR⟩ : ∃ E B, getR r n k = (E, B) := ⟨_, _, rfl⟩
    obtain ⟨m, hm⟩ : ∃ m, B.length = m := ⟨_, rfl⟩
    have hGet := fun a c W hs => Pk.get_form hR hm (Pk.fit_isB hbr) a q c W hs
    have HGet := Lib.hid hGet
    have hu : IsU B := by
      by_cases h0 : (getR r n k).1 = 0
      · have := (Pk.put_get r n k (Pk.fit_isB hbr) h0).2.2.2; rwa [hR] at this
      · have := Pk.get_no r n k h0
        rw [hR] at this
        dsimp only at this
        rw [this]; intro x hx; cases hx
    have HU := Lib.hid hu
    have HM := Lib.hid hm
    obtain ⟨v, hv⟩ : ∃ v, wid B = v := ⟨_, rfl⟩
    have HV := Lib.hid hv
    rw [getIx, hR]
    dsimp only
    rw [hv]
    have hQ := Lib.hid hq
    clear h hb hl hbr hR hm hGet hu hv hq
    by_cases hE : E = 0
    · subst hE
      by_cases hvk : (v : Int) = k
      · rw [if_neg (by simp [hvk])]
        go_enter Tryz.func174, Tryz.ntmps174
        go_wp2_with fail
        refine HNum.out.mono ?_
        rintro e w1 ⟨rfl, hg1, hr1⟩
        have HT1 := Lib.hid (turn_read hg1)
        have HLeft := Lib.hid (Oct.left_yes b g r w1 hr1)
        rw [hQ.out] at HLeft
        have HBy1 := Lib.hid (HBy.out w1 hr1)
        have HS1 : Hid (w.heap.size ≤ w1.heap.size) := Lib.hid hg1.size
        clear hg1 hr1
        dsimp only
        go_wp2_with (first
          | (go_at_call 64; refine HLeft.out.mono ?_; rintro e w' ⟨rfl, rfl⟩)
          | fail)
        refine HBy1.out.mono ?_
        rintro e w2 hrb
        obtain ⟨y, p, rfl, hp, hown2, hg2, hr2⟩ := hrb.value
        rw [hQ.out] at hp
        subst hp
        have HG2 := Lib.hid (HGet.out _ _ w2 (Bs.Seg.own hown2))
        have HT2 : Hid (Turn w w2 (At b)) := Lib.hid (turn_more HT1.out (turn_read hg2) (fun i e => .inl e))
        have HS2 : Hid (w.heap.size ≤ w2.heap.size) := Lib.hid (Nat.le_trans HS1.out hg2.size)
        have HR2 := Lib.hid hr2
        clear hrb hown2 hg2 hr2
        dsimp only
        go_wp2_with fail
        refine HG2.out.mono ?_
        rintro e w3 ⟨a3, c3, rfl, hs3, ht3⟩
        have HW := Lib.hid (Pk.width_any a3 m c3 B w3 hs3 HU.out)
        rw [HV.out, hvk] at HW
        have HF : Hid (IxX b g w (some B) (.returned (.tuple #[.slice a3 m c3, .int .i64 0])) w3) := Lib.hid (by
          refine ⟨turn_more HT2.out ht3 (fun i e => e.elim), Nat.le_trans HS2.out ht3.size, a3, c3, by rw [HM.out], by rw [HM.out]; exact hs3, In.Turn.rd ht3 HR2.out id id⟩)
        clear hs3 ht3
        dsimp only
        go_wp2_with (first
          | (go_at_call 84; refine HW.out.mono ?_; rintro e w' ⟨rfl, rfl⟩)
          | fail)
        go_ret2
        exact HF.out
      · rw [if_pos (.inr hvk)]
        have hne : ((v : Int) != k) = true := bne_iff_ne.2 hvk
        go_enter Tryz.func174, Tryz.ntmps174
        go_wp2_with fail
        refine HNum.out.mono ?_
        rintro e w1 ⟨rfl, hg1, hr1⟩
        have HT1 := Lib.hid (turn_read hg1)
        have HLeft := Lib.hid (Oct.left_yes b g r w1 hr1)
        rw [hQ.out] at HLeft
        have HBy1 := Lib.hid (HBy.out w1 hr1)
        have HS1 : Hid (w.heap.size ≤ w1.heap.size) := Lib.hid hg1.size
        clear hg1 hr1
        dsimp only
        go_wp2_with (first
          | (go_at_call 64; refine HLeft.out.mono ?_; rintro e w' ⟨rfl, rfl⟩)
          | fail)
        refine HBy1.out.mono ?_
        rintro e w2 hrb
        obtain ⟨y, p, rfl, hp, hown2, hg2, hr2⟩ := hrb.value
        rw [hQ.out] at hp
        subst hp
        have HG2 := Lib.hid (HGet.out _ _ w2 (Bs.Seg.own hown2))
        have HT2 : Hid (Turn w w2 (At b)) := Lib.hid (turn_more HT1.out (turn_read hg2) (fun i e => .inl e))
        have HS2 : Hid (w.heap.size ≤ w2.heap.size) := Lib.hid (Nat.le_trans HS1.out hg2.size)
        clear hrb hown2 hg2 hr2
        dsimp only
        go_wp2_with fail
        refine HG2.out.mono ?_
        rintro e w3 ⟨a3, c3, rfl, hs3, ht3⟩
        have HW := Lib.hid (Pk.width_any a3 m c3 B w3 hs3 HU.out)
        rw [HV.out] at HW
        have HF : Hid (IxX b g w none (.returned (.tuple #[.slice none 0 0, .int .i64 4])) w3) := Lib.hid ⟨turn_more HT2.out ht3 (fun i e => e.elim), Nat.le_trans HS2.out ht3.size, 4, by decide, rfl⟩
        clear hs3 ht3 hvk
        dsimp only
        go_wp2_with (first
          | (go_at_call 84; refine HW.out.mono ?_; rintro e w' ⟨rfl, rfl⟩)
          | fail)
        go_ret2
        exact HF.out
    · rw [if_pos (.inl hE)]
      go_enter Tryz.func174, Tryz.ntmps174
      go_wp2_with fail
      refine HNum.out.mono ?_
      rintro e w1 ⟨rfl, hg1, hr1⟩
      have HT1 := Lib.hid (turn_read hg1)
      have HLeft := Lib.hid (Oct.left_yes b g r w1 hr1)
      rw [hQ.out] at HLeft
      have HBy1 := Lib.hid (HBy.out w1 hr1)
      have HS1 : Hid (w.heap.size ≤ w1.heap.size) := Lib.hid hg1.size
      clear hg1 hr1
      dsimp only
      go_wp2_with (first
        | (go_at_call 64; refine HLeft.out.mono ?_; rintro e w' ⟨rfl, rfl⟩)
        | fail)
      refine HBy1.out.mono ?_
      rintro e w2 hrb
      obtain ⟨y, p, rfl, hp, hown2, hg2, hr2⟩ := hrb.value
      rw [hQ.out] at hp
      subst hp
      have HG2 := Lib.hid (HGet.out _ _ w2 (Bs.Seg.own hown2))
      have HT2 : Hid (Turn w w2 (At b)) := Lib.hid (turn_more HT1.out (turn_read hg2) (fun i e => .inl e))
      have HS2 : Hid (w.heap.size ≤ w2.heap.size) := Lib.hid (Nat.le_trans HS1.out hg2.size)
      clear hrb hown2 hg2 hr2
      dsimp only
      go_wp2_with fail
      refine HG2.out.mono ?_
      rintro e w3 ⟨a3, c3, rfl, hs3, ht3⟩
      have HF : Hid (IxX b g w none (.returned (.tuple #[.slice none 0 0, .int .i64 4])) w3) := Lib.hid ⟨turn_more HT2.out ht3 (fun i e => e.elim), Nat.le_trans HS2.out ht3.size, 4, by decide, rfl⟩
      clear hs3 ht3
      dsimp only
      go_wp2
      go_ret2
      exact HF.out
end Go.Proofs.YtljanfnhmhimiaaGreat.Tx

namespace Go.Proofs.YtljanfnhmhimiaaGreat.Tx
open Go.RowKit Go.Joins
open Ss (IsS encW info_str)
open Oct (Rd ReadN ReadV readV ofB)
open In (At turn_read turn_row turn_more own_at turn_below below_mono isB_drop isB_take)
open Dv (Turn nowhere)
open Pk (wid getR IsU)

theorem sseg_turn {w w' : World} {a : Option Addr} {n c : Nat} {l : List (List Int)} {S : Nat → Prop} (h : Ss.Seg w a n c l) (k : Turn w w' S) (hS : ∀ ad, a = some ad → ¬ S ad.block) : Ss.Seg w' a n c l := by
  refine ⟨h.len, h.le, h.cap, h.nil_, fun ad had j u hu => ?_⟩
  have e : (ad.add j).block = ad.block := by unfold Addr.add; split <;> rfl
  exact k.cell (h.at_ ad had j u hu) (by rw [e]; exact hS ad had)
theorem getIx_some {n : Nat} {b : List Int} (hb : Oct.IsB b) {ix : List Int} (h : getIx n b = some ix) : ix.length = n ∧ IsU ix := by
  match b, hb, h with
  | w :: r, hb, h =>
    rw [getIx] at h
    split at h
    · cases h
    · rename_i hg
      have g1 : (getR r n w).1 = 0 := Classical.byContradiction fun k => hg (.inl k)
      obtain ⟨-, p2, -, p4⟩ := Pk.put_get r n w (Pk.fit_isB fun x hx => hb x (by simp [hx])) g1
      simp only [Option.some.injEq] at h
      subst h
      exact ⟨by omega, p4⟩
theorem dictL_no {ws : List (List Int)} {ix : List Int} {k : Nat} (hk : k < ix.length) (h : (ws.length : Int) ≤ ix.getD k 0) : dictL ws ix = none := by
  unfold dictL
  rw [if_neg]
  intro ha
  have := of_decide_eq_true (List.all_eq_true.1 ha (ix[k]) (List.getElem_mem hk))
  rw [List.getD_eq_getElem?_getD, List.getElem?_eq_getElem hk] at h
  simp at h
  omega
def getsL (ws : List (List Int)) (ix : List Int) : List (List Int) := ix.map fun i => ws.getD i.toNat []
theorem dictL_yes {ws : List (List Int)} {ix : List Int} (h : ∀ i ∈ ix, i < (ws.length : Int)) : dictL ws ix = some (getsL ws ix) := by
  unfold dictL
  rw [if_pos (List.all_eq_true.2 fun i hi => decide_eq_true (h i hi))]
  rfl
theorem gets_take (ws : List (List Int)) (ix : List Int) (k j : Nat) (x : List Int) (hk : k < ix.length) (hj : ix.getD k 0 = (j : Int)) (hx : ws.getD j [] = x) : getsL ws (ix.take (k + 1)) = getsL ws (ix.take k) ++ [x] := by
  have e : ix[k] = (j : Int) := by rw [← hj]; simp [List.getD, hk]
  rw [List.take_succ_eq_append_getElem hk, e]
  unfold getsL
  rw [List.map_append, List.map_singleton, Int.toNat_natCast, hx]
theorem lt_take {ws : List (List Int)} {ix : List Int} {k j : Nat} (hk : k < ix.length) (hj : ix.getD k 0 = (j : Int)) (hw : j < ws.length) (h : ∀ i ∈ ix.take k, i < (ws.length : Int)) : ∀ i ∈ ix.take (k + 1), i < (ws.length : Int) := by
  have e : ix[k] = (j : Int) := by rw [← hj]; simp [List.getD, hk]
  intro i hi
  rw [List.take_succ_eq_append_getElem hk, e] at hi
  rcases List.mem_append.1 hi with hi | hi
  · exact h i hi
  · rw [List.mem_singleton.1 hi]; omega

/-- texts, nothing left; or an error -/
def GotX (b g : Nat) (w : World) (r : Option (List (List Int))) (e : Ending) (w' : World) : Prop :=
  Turn w w' (At b) ∧ match r with
    | some l => ∃ a c, e = .returned (.tuple #[.slice a l.length c, .int .i64 0]) ∧ Ss.Seg w' a l.length c l ∧ Rd w' b g []
    | none => ∃ E : Int, E ≠ 0 ∧ e = .returned (.tuple #[.slice none 0 0, .int .i64 E])

/-- behind the indexes -/
def finL (ws : List (List Int)) (ix : List Int) : Option (List (List Int)) := match dictL ws ix with
  | none => none
  | some l => if wordsF l = ws then some l else none

set_option maxRecDepth 100000 in
set_option maxHeartbeats 2000000 in
theorem getDict_none1 (b g : Nat) (bs : List Int) (w : World) (h : Rd w b g bs) (hb : Oct.IsB bs) (hc : readC bs = none) :
    Calls Tryz.prog 148 #[.pointer (some ⟨b, 0, none⟩)] w (GotX b g w none) := by
  have HC := Lib.hid (getCount_any b g bs w h hb)
  rw [hc] at HC
  clear h hb hc
  go_enter Tryz.func148, Tryz.ntmps148
  go_wp2_with fail
  refine HC.out.mono ?_
  rintro e w1 ⟨ht, -, rfl⟩
  have HF : Hid (GotX b g w none (.returned (.tuple #[.slice none 0 0, .int .i64 4])) w1) := Lib.hid ⟨ht, 4, by decide, rfl⟩
  clear ht
  dsimp only
  go_wp2
  go_ret2
  exact HF.out

set_option maxRecDepth 100000 in
set_option maxHeartbeats 2000000 in
theorem getDict_none2 (b g n : Nat) (bs r : List Int) (w : World) (h : Rd w b g bs) (hg : g < w.heap.size) (hb : Oct.IsB bs) (hl : bs.length ≤ 100000000) (hc : readC bs = some (n, r)) (hp : getPl r = none) :
    Calls Tryz.prog 148 #[.pointer (some ⟨b, 0, none⟩)] w (GotX b g w none) := by
  have HC := Lib.hid (getCount_any b g bs w h hb)
  have hlt := readC_lt hc
  have hbr := readC_le hb hc
  rw [hc] at HC
  have HG := Lib.hid (fun W (hr : Rd W b g r) (hgl : g < W.heap.size) => getPlain_any b g r W hr hgl hbr.2 (by omega))
  rw [hp] at HG
  have HGL := Lib.hid hg
  clear h hb hc hlt hbr hl hg
  go_enter Tryz.func148, Tryz.ntmps148
  go_wp2_with fail
  refine HC.out.mono ?_
  rintro e w1 ⟨ht, hsz, rfl, hr⟩
  have HG1 := Lib.hid (HG.out w1 hr (Nat.lt_of_lt_of_le HGL.out hsz))
  have HT := Lib.hid ht
  clear ht hsz hr
  dsimp only
  go_wp2_with fail
  refine HG1.out.mono ?_
  rintro e w2 ⟨ht2, E, hE, rfl⟩
  have HF : Hid (GotX b g w none (.returned (.tuple #[.slice none 0 0, .int .i64 E])) w2) := Lib.hid ⟨turn_more HT.out ht2 (fun i e => .inl e), E, hE, rfl⟩
  clear ht2
  dsimp only
  go_wp2
  go_ret2
  exact HF.out

set_option maxRecDepth 100000 in
set_option maxHeartbeats 2000000 in
theorem getDict_none3 (b g n : Nat) (bs r r2 : List Int) (ws : List (List Int)) (w : World) (h : Rd w b g bs) (hg : g < w.heap.size) (hb : Oct.IsB bs) (hl : bs.length ≤ 100000000) (hc : readC bs = some (n, r)) (hp : getPl r = some (ws, r2)) (hr2 : Oct.IsB r2 ∧ r2.length ≤ 100000000) (hi : getIx n r2 = none) :
    Calls Tryz.prog 148 #[.pointer (some ⟨b, 0, none⟩)] w (GotX b g w none) := by
  have HC := Lib.hid (getCount_any b g bs w h hb)
  have hlt := readC_lt hc
  have hbr := readC_le hb hc
  rw [hc] at HC
  have HG := Lib.hid (fun W (hr : Rd W b g r) (hgl : g < W.heap.size) => getPlain_any b g r W hr hgl hbr.2 (by omega))
  rw [hp] at HG
  have HI := Lib.hid (fun W (hr : Rd W b g r2) => getIndexes_any b g n r2 W hr hr2.1 hr2.2)
  rw [hi] at HI
  have HGL := Lib.hid hg
  obtain ⟨m, hm⟩ : ∃ m, ws.length = m := ⟨_, rfl⟩
  unfold GetsX at HG
  dsimp only at HG
  rw [hm] at HG
  clear h hb hc hlt hbr hl hg hi hp hr2 hm
  go_enter Tryz.func148, Tryz.ntmps148
  go_wp2_with fail
  refine HC.out.mono ?_
  rintro e w1 ⟨ht, hsz, rfl, hr⟩
  have HG1 := Lib.hid (HG.out w1 hr (Nat.lt_of_lt_of_le HGL.out hsz))
  have HT := Lib.hid ht
  clear ht hsz hr
  dsimp only
  go_wp2_with fail
  refine HG1.out.mono ?_
  rintro e w2 ⟨ht2, aw, cw, rfl, hsw, hrd2, hnew⟩
  have HT2 : Hid (Turn w w2 (At b)) := Lib.hid (turn_more HT.out ht2 (fun i e => .inl e))
  have HI1 := Lib.hid (HI.out w2 hrd2)
  clear ht2 hsw hrd2 hnew
  dsimp only
  go_wp2_with fail
  refine HI1.out.mono ?_
  rintro e w3 ⟨ht3, -, E, hE, rfl⟩
  have HF : Hid (GotX b g w none (.returned (.tuple #[.slice none 0 0, .int .i64 E])) w3) := Lib.hid ⟨turn_more HT2.out ht3 (fun i e => .inl e), E, hE, rfl⟩
  clear ht3
  dsimp only
  go_wp2
  go_ret2
  exact HF.out

set_option maxRecDepth 100000 in
set_option maxHeartbeats 2000000 in
theorem getDict_yes (b g n : Nat) (bs r r2 ix : List Int) (ws : List (List Int)) (w : World) (h : Rd w b g bs) (hg : g < w.heap.size) (hb : Oct.IsB bs) (hl : bs.length ≤ 100000000) (hc : readC bs = some (n, r)) (hp : getPl r = some (ws, r2)) (hr2 : Oct.IsB r2 ∧ r2.length ≤ 100000000)
    (hi : getIx n r2 = some ix) (hix : ix.length = n ∧ IsU ix) (hws : IsS ws) (hwl : ws.length ≤ 4096) :
    Calls Tryz.prog 148 #[.pointer (some ⟨b, 0, none⟩)] w (GotX b g w (finL ws ix)) := by
  obtain ⟨i0, hii, hz0, hz1, hz2⟩ := info_parts info_str
  have HC := Lib.hid (getCount_any b g bs w h hb)
  have hlt := readC_lt hc
  have hbr := readC_le hb hc
  rw [hc] at HC
  have HG := Lib.hid (fun W (hr : Rd W b g r) (hgl : g < W.heap.size) => getPlain_any b g r W hr hgl hbr.2 (by omega))
  rw [hp] at HG
  have HI := Lib.hid (fun W (hr : Rd W b g r2) => getIndexes_any b g n r2 W hr hr2.1 hr2.2)
  rw [hi] at HI
  have HGL := Lib.hid hg
  have hbl : b < w.heap.size := World.block_lt_of_cell? w _ h.self
  have HBL := Lib.hid hbl
  obtain ⟨m, hm⟩ : ∃ m, ws.length = m := ⟨_, rfl⟩
  have hn4 := hlt.1
  unfold GetsX at HG
  unfold IxX at HI
  dsimp only at HG HI
  rw [hm] at HG hwl
  rw [hix.1] at HI
  have HM := Lib.hid hm
  have HIx := Lib.hid hix
  have HWS := Lib.hid hws
  have hmk := make_roomS n (by omega)
  have hwm := wrap_u64 (n := m) (by omega)
  obtain ⟨X, hX⟩ : ∃ X, finL ws ix = X := ⟨_, rfl⟩
  rw [hX]
  have HX := Lib.hid hX
  clear h hb hc hlt hbr hl hg hi hp hr2 hm hbl hix hws hX
  go_enter Tryz.func148, Tryz.ntmps148
  go_wp2_with fail
  refine HC.out.mono ?_
  rintro e w1 ⟨ht, hsz, rfl, hr⟩
  have HG1 := Lib.hid (HG.out w1 hr (Nat.lt_of_lt_of_le HGL.out hsz))
  have HT := Lib.hid ht
  have HS1 := Lib.hid hsz
  clear ht hsz hr
  dsimp only
  go_wp2_with fail
  refine HG1.out.mono ?_
  rintro e w2 ⟨ht2, aw, cw, rfl, hsw, hrd2, hnew⟩
  have HT2 : Hid (Turn w w2 (At b)) := Lib.hid (turn_more HT.out ht2 (fun i e => .inl e))
  have HI1 := Lib.hid (HI.out w2 hrd2)
  have HSW := Lib.hid hsw
  have HNew : Hid (∀ ad, aw = some ad → ¬ At b ad.block) := Lib.hid fun ad e => by have := hnew ad e; have := HS1.out; have := HBL.out; unfold At; omega
  clear ht2 hsw hrd2 hnew
  dsimp only
  go_wp2_with fail
  refine HI1.out.mono ?_
  rintro e w3 ⟨ht3, hsz3, ai, ci, rfl, hsi, hrd3⟩
  have HT3 : Hid (Turn w w3 (At b)) := Lib.hid (turn_more HT2.out ht3 (fun i e => .inl e))
  have HSW3 := Lib.hid (sseg_turn HSW.out ht3 HNew.out)
  have HSI := Lib.hid hsi
  have HR3 := Lib.hid hrd3
  have hcapw := HSW.out.cap
  have hcapi := hsi.cap
  have hlew := HSW.out.le
  have hlei := hsi.le
  unfold maxLen at hcapw hcapi
  have h0 := World.ownsRow_made (base := w3.heap.size) (e := 9) (size := 1) w3 (roomS n) n (Nat.le_refl _) (by unfold maxLen; omega) (by rw [roomS_size, Nat.mul_one])
  have HO0 := Lib.hid h0
  have HBl0 : Hid (Below w3.heap.size w3 (w3.alloc (.cells (roomS n) 9))) := Lib.hid ((Below.refl _ _).alloc (Nat.le_refl _) _)
  clear ht3 hsz3 hsi hrd3 h0
  dsimp only
  go_wp2
  go_loopw [8, 40] (fun so si wr => ∃ k : Nat, k ≤ n ∧ si = .int .i64 k ∧ so = .slice (some ⟨w3.heap.size, 0, none⟩) k n ∧ Hid (wr.ownsRow w3.heap.size 9 1 (.slice (some ⟨w3.heap.size, 0, none⟩) k n) k ((getsL ws (ix.take k)).map encW)) ∧
      Hid (∀ i ∈ ix.take k, i < (ws.length : Int)) ∧ Hid (Below w3.heap.size w3 wr) ∧ Hid (w3.heap.size < wr.heap.size))
    (fun _ si _ => n - (intOf si).toNat)
  case atStart => exact ⟨0, Nat.zero_le _, rfl, rfl, HO0, Lib.hid (fun i hi => by simp at hi), HBl0, Lib.hid (by simp)⟩
  case round =>
    obtain ⟨k, hk, rfl, rfl, HO, HLt, HB, HSz⟩ := hrel
    by_cases hlt : k < n
    · have husg := HSI.out.grown (Bs.grown_of HB.out)
      obtain ⟨gI, oI, rfl, hci⟩ := husg.addr (by omega)
      have g1 := hci k hlt
      have hu := HIx.out.2 (ix.getD k 0) (by rw [List.getD_eq_getElem?_getD, List.getElem?_eq_getElem (by rw [HIx.out.1]; exact hlt)]; exact List.getElem_mem _)
      obtain ⟨j, hj⟩ := Int.eq_ofNat_of_zero_le hu.1
      rw [hj] at g1
      by_cases hjm : j < m
      · have hssg := HSW3.out.grown (Bs.grown_of HB.out)
        obtain ⟨gW, oW, rfl, hcw⟩ := hssg.addr (by omega)
        have g2 := hcw j hjm
        obtain ⟨x, hx⟩ : ∃ x, ws.getD j [] = x := ⟨_, rfl⟩
        rw [hx] at g2
        have HP := Lib.hid (gets_take ws ix k j x (by rw [HIx.out.1]; exact hlt) hj hx)
        have HLt2 := Lib.hid (lt_take (by rw [HIx.out.1]; exact hlt) hj (by rw [HM.out]; exact hjm) HLt.out)
        have hjm' : ¬ (m : Int) ≤ (j : Int) := by omega
        have hjm2 : (j : Int) < (m : Int) := by omega
        clear hci hcw hj hx hu husg hssg
        go_wp2_with (first
          | (at_builtin; refine wpList_append_fits _ rfl (.tmp 49) (.tmp 54) 132 rfl w3.heap.size 9 i0 1 Tryz.underlying132 hii hz1 w3.heap.size k n _ rfl (HO.out.alloc _) ⟨wr.heap.size, 0, none⟩ 1 1 [.string (strOfNums x)] rfl rfl (by intro t u ht; match t, ht with | 0, ht => simp at ht; subst ht; exact Pk.cell_new wr _ _) (by intro u hu; simp at hu; subst hu; rfl) (by omega) ?_; intro w5 hown5 hgrow5)
          | fail)
        go_roundw
        case rel =>
          refine ⟨k + 1, by omega, by go_num, rfl, Lib.hid ?_, HLt2, Lib.hid ((HB.out.alloc HB.out.size _).grown hgrow5 (by have := HB.out.size; simp; omega) (fun j e => by cases e; exact Nat.le_refl _)), Lib.hid (by have := hgrow5.size; have := HSz.out; simp at *; omega)⟩
          rw [HP.out, List.map_append]
          exact hown5
        case measure => simp [intOf]; omega
      · have HF : Hid (GotX b g w X (.returned (.tuple #[.slice none 0 0, .int .i64 4])) wr) := Lib.hid (by
          have e : finL ws ix = none := by
            unfold finL
            rw [dictL_no (k := k) (by rw [HIx.out.1]; exact hlt) (by rw [HM.out, hj]; omega)]
          rw [← HX.out, e]
          exact ⟨turn_more HT3.out (turn_below (S := nowhere) HB.out) (fun i e => e.elim), 4, by decide, rfl⟩)
        have hjm' : (m : Int) ≤ (j : Int) := by omega
        clear hci hj hu husg hjm
        go_wp2
        go_ret2
        exact HF.out
    · obtain rfl : k = n := by omega
      have hik : ix.take k = ix := List.take_of_length_le (Nat.le_of_eq HIx.out.1)
      have hO := HO.out
      have hLt := HLt.out
      rw [hik] at hO hLt
      obtain ⟨l, hle⟩ : ∃ l, getsL ws ix = l := ⟨_, rfl⟩
      have hdl := dictL_yes hLt
      rw [hle] at hO hdl
      have hlS : IsS l := fun s hs => by
        rw [← hle] at hs
        obtain ⟨i, hi, rfl⟩ := List.mem_map.1 hs
        exact HWS.out.at i.toNat
      have hll : l.length = k := by rw [← hle]; unfold getsL; rw [List.length_map]; exact HIx.out.1
      have HSeg := Lib.hid (Ss.Seg.own hO)
      have HWd := Lib.hid (words_any (some ⟨w3.heap.size, 0, none⟩) k k l wr (Ss.Seg.own hO) hlS (by omega))
      obtain ⟨ul, hul⟩ : ∃ u, (wordsF l).length = u := ⟨_, rfl⟩
      unfold TextsX at HWd
      rw [hul] at HWd
      have HEq : Hid (∀ W a1 c1, Ss.Seg W a1 ul c1 (wordsF l) → Ss.Seg W aw m cw ws → Calls Tryz.prog 175 #[.slice a1 ul c1, .slice aw m cw] W fun e w' => e = .returned (.bool (Ss.sameB (wordsF l) ws)) ∧ ∃ m, w' = W.drewN m) :=
        Lib.hid fun W a1 c1 s1 s2 => equal_any a1 aw ul m c1 cw (wordsF l) ws W s1 s2 (words_isS hlS) HWS.out
      have HB2 := Lib.hid HB.out
      have HLl := Lib.hid hll
      have HDl := Lib.hid hdl
      clear hO hLt hdl hlS hle hik HO HLt hll hul
      by_cases hsame : wordsF l = ws
      · have hsb := Ss.sameB_yes hsame
        rw [hsb] at HEq
        have HXs : Hid (X = some l) := Lib.hid (by rw [← HX.out]; unfold finL; rw [HDl.out]; exact if_pos hsame)
        clear hsb hsame
        go_wp2_with fail
        refine HWd.out.mono ?_
        rintro e w5 ⟨a5, c5, rfl, hs5, hb5⟩
        have HB5 : Hid (Below w3.heap.size w3 w5) := Lib.hid (HB2.out.trans (below_mono hb5 HB2.out.size))
        have HE5 := Lib.hid (HEq.out w5 a5 c5 hs5 (HSW3.out.grown (Bs.grown_of HB5.out)))
        have HSeg5 := Lib.hid (HSeg.out.grown (Bs.grown_of hb5))
        clear hs5 hb5
        dsimp only
        go_wp2_with fail
        refine HE5.out.mono ?_
        rintro e w6 ⟨rfl, q, hw6⟩
        have HB6 : Hid (Below w3.heap.size w3 w6) := Lib.hid (by subst hw6; exact Bs.below_drewN q HB5.out)
        have HF : Hid (GotX b g w X (.returned (.tuple #[.slice (some ⟨w3.heap.size, 0, none⟩) k k, .int .i64 0])) w6) := Lib.hid (by
          rw [HXs.out]
          refine ⟨turn_more HT3.out (turn_below (S := nowhere) HB6.out) (fun i e => e.elim), _, k, by rw [HLl.out], ?_, In.Turn.rd (turn_below (S := nowhere) HB6.out) HR3.out id id⟩
          rw [HLl.out]
          subst hw6
          exact HSeg5.out.grown (Bs.grown_of (Bs.below_drewN q (Below.refl _ _))))
        clear hw6
        dsimp only
        go_wp2
        go_ret2
        exact HF.out
      · have hsb := Ss.sameB_no hsame
        rw [hsb] at HEq
        have HXs : Hid (X = none) := Lib.hid (by rw [← HX.out]; unfold finL; rw [HDl.out]; exact if_neg hsame)
        clear hsb hsame
        go_wp2_with fail
        refine HWd.out.mono ?_
        rintro e w5 ⟨a5, c5, rfl, hs5, hb5⟩
        have HB5 : Hid (Below w3.heap.size w3 w5) := Lib.hid (HB2.out.trans (below_mono hb5 HB2.out.size))
        have HE5 := Lib.hid (HEq.out w5 a5 c5 hs5 (HSW3.out.grown (Bs.grown_of HB5.out)))
        clear hs5 hb5
        dsimp only
        go_wp2_with fail
        refine HE5.out.mono ?_
        rintro e w6 ⟨rfl, q, hw6⟩
        have HB6 : Hid (Below w3.heap.size w3 w6) := Lib.hid (by subst hw6; exact Bs.below_drewN q HB5.out)
        have HF : Hid (GotX b g w X (.returned (.tuple #[.slice none 0 0, .int .i64 4])) w6) := Lib.hid (by
          rw [HXs.out]
          exact ⟨turn_more HT3.out (turn_below (S := nowhere) HB6.out) (fun i e => e.elim), 4, by decide, rfl⟩)
        clear hw6
        dsimp only
        go_wp2
        go_ret2
        exact HF.out

theorem getPl_some {b : List Int} (hb : Oct.IsB b) {l : List (List Int)} {r : List Int} (h : getPl b = some (l, r)) : l.length ≤ 4096 ∧ IsS l ∧ (Oct.IsB r ∧ r.length ≤ b.length) := by
  unfold getPl at h
  cases hc : readC b with
  | none => rw [hc] at h; cases h
  | some p =>
    obtain ⟨n, r1⟩ := p
    rw [hc] at h
    obtain ⟨h1, h2⟩ := readC_some hb hc
    have hb1 : Oct.IsB r1 := isB_right (h2 ▸ hb)
    obtain ⟨e1, e2, e3, e4⟩ := readSs_some n r1 hb1 l r h
    refine ⟨by omega, fun s hs => ⟨e3 s hs, Nat.le_trans (e2 s hs) (by omega)⟩, isB_right (e4 ▸ hb1), ?_⟩
    rw [h2, e4, List.length_append, List.length_append]
    omega

theorem getDict_any (b g : Nat) (bs : List Int) (w : World) (h : Rd w b g bs) (hg : g < w.heap.size) (hb : Oct.IsB bs) (hl : bs.length ≤ 100000000) :
    Calls Tryz.prog 148 #[.pointer (some ⟨b, 0, none⟩)] w (GotX b g w (getDt bs)) := by
  unfold getDt
  cases hc : readC bs with
  | none => exact getDict_none1 b g bs w h hb hc
  | some p =>
    obtain ⟨n, r⟩ := p
    have hbr := readC_le hb hc
    have hlr := readC_lt hc
    dsimp only
    cases hp : getPl r with
    | none => exact getDict_none2 b g n bs r w h hg hb hl hc hp
    | some q =>
      obtain ⟨ws, r2⟩ := q
      obtain ⟨p1, p2, p3⟩ := getPl_some hbr.2 hp
      dsimp only
      cases hi : getIx n r2 with
      | none => exact getDict_none3 b g n bs r r2 ws w h hg hb hl hc hp ⟨p3.1, by omega⟩ hi
      | some ix => exact getDict_yes b g n bs r r2 ix ws w h hg hb hl hc hp ⟨p3.1, by omega⟩ hi (getIx_some p3.1 hi) p2 p1
end Go.Proofs.YtljanfnhmhimiaaGreat.Tx

namespace Go.Proofs.YtljanfnhmhimiaaGreat.Tx
open Go.RowKit Go.Joins
open Ss (IsS encW info_str)
open Oct (Rd ReadN ReadV readV ofB)
open In (At turn_read turn_row turn_more own_at turn_below below_mono below_grown turn_up new_any oseg)
open Dv (Turn nowhere)

/-- texts and an error, the answer plain -/
def GetE (w : World) (r : Int × List (List Int)) (e : Ending) (w' : World) : Prop :=
  ∃ a c, e = .returned (.tuple #[.slice a r.2.length c, .int .i64 r.1]) ∧ Ss.Seg w' a r.2.length c r.2 ∧ Below w.heap.size w w'
theorem gete_bad {w w' : World} (h : Below w.heap.size w w') : GetE w (4, []) (.returned (.tuple #[.slice none 0 0, .int .i64 4])) w' := ⟨none, 0, rfl, Ss.Seg.nil w', h⟩

set_option maxRecDepth 100000 in
set_option maxHeartbeats 2000000 in
theorem get_none (a : Option Addr) (n c : Nat) (w : World) (hs : Bs.Seg w a n c []) (hn : n ≤ 100000000) :
    Calls Tryz.prog 111 #[.slice a n c] w (GetE w (4, [])) := by
  have HNew := Lib.hid (new_any a n c [] w (oseg hs) (by omega))
  clear hs hn
  go_enter Tryz.func111, Tryz.ntmps111
  go_wp2_with fail
  refine HNew.out.mono ?_
  rintro e w1 ⟨b, g, rfl, hb0, hg0, hb1, hg1, hrd, hgr⟩
  have HNum := Lib.hid (Oct.number_more b g [] 1 w1 hrd (by decide) (by decide) (by decide))
  have HF : Hid (GetE w (4, []) (.returned (.tuple #[.slice none 0 0, .int .i64 4])) w1) := Lib.hid (gete_bad (below_grown hgr (Nat.le_refl _)))
  clear hb0 hg0 hb1 hg1 hrd hgr
  dsimp only
  go_wp2_with fail
  refine HNum.out.mono ?_
  rintro e w2 ⟨rfl, rfl⟩
  dsimp only
  go_wp2
  go_ret2
  exact HF.out

set_option maxRecDepth 100000 in
set_option maxHeartbeats 2000000 in
theorem get_kind (a : Option Addr) (n c : Nat) (k : Int) (t : List Int) (w : World) (hs : Bs.Seg w a n c (k :: t)) (hb : Oct.IsB (k :: t)) (hn : n ≤ 100000000) (hk1 : ¬ k = 1) (hk2 : ¬ k = 2) :
    Calls Tryz.prog 111 #[.slice a n c] w (GetE w (4, [])) := by
  have HNew := Lib.hid (new_any a n c (k :: t) w (oseg hs) (by omega))
  have HB := Lib.hid hb
  have e1 : (k == 1) = false := beq_eq_false_iff_ne.2 hk1
  have e2 : (k == 2) = false := beq_eq_false_iff_ne.2 hk2
  clear hs hb hn hk1 hk2
  go_enter Tryz.func111, Tryz.ntmps111
  go_wp2_with fail
  refine HNew.out.mono ?_
  rintro e w1 ⟨b, g, rfl, hb0, hg0, hb1, hg1, hrd, hgr⟩
  have HNum : Hid (Calls Tryz.prog 94 #[.pointer (some ⟨b, 0, none⟩), .int .i64 1] w1 (ReadN b g w1 k t)) := Lib.hid (by
    have := Oct.number_yes b g (k :: t) 1 w1 hrd HB.out (by decide) (by decide) (by simp)
    rwa [show ofB ((k :: t).take 1) = k from by simp [ofB]] at this)
  unfold ReadN at HNum
  have HB1 : Hid (Below w.heap.size w w1) := Lib.hid (below_grown hgr (Nat.le_refl _))
  have HB0 := Lib.hid hb0
  clear hb0 hg0 hb1 hg1 hrd hgr
  dsimp only
  go_wp2_with fail
  refine HNum.out.mono ?_
  rintro e w2 ⟨rfl, hg2, hr2⟩
  have HF : Hid (GetE w (4, []) (.returned (.tuple #[.slice none 0 0, .int .i64 4])) w2) := Lib.hid (gete_bad (turn_up HB1.out (turn_read hg2) HB0.out))
  clear hg2 hr2
  dsimp only
  go_wp2
  go_ret2
  exact HF.out

set_option maxRecDepth 100000 in
set_option maxHeartbeats 2000000 in
theorem get_1 (a : Option Addr) (n c : Nat) (t : List Int) (w : World) (hs : Bs.Seg w a n c (1 :: t)) (hb : Oct.IsB (1 :: t)) (hn : n ≤ 100000000) :
    Calls Tryz.prog 111 #[.slice a n c] w (GetE w (resT (endT (getPl t)))) := by
  have HNew := Lib.hid (new_any a n c (1 :: t) w (oseg hs) (by omega))
  have hlen := hs.len
  have htl : t.length ≤ 100000000 := by rw [List.length_cons] at hlen; omega
  have HBt : Hid (Oct.IsB t) := Lib.hid fun x hx => hb x (by simp [hx])
  have HB := Lib.hid hb
  have HTL := Lib.hid htl
  obtain ⟨X, hX⟩ : ∃ X, getPl t = X := ⟨_, rfl⟩
  have HXe := Lib.hid hX
  rw [hX]
  clear hs hb htl hX hlen hn
  go_enter Tryz.func111, Tryz.ntmps111
  go_wp2_with fail
  refine HNew.out.mono ?_
  rintro e w1 ⟨b, g, rfl, hb0, hg0, hb1, hg1, hrd, hgr⟩
  have HNum : Hid (Calls Tryz.prog 94 #[.pointer (some ⟨b, 0, none⟩), .int .i64 1] w1 (ReadN b g w1 1 t)) := Lib.hid (by
    have := Oct.number_yes b g (1 :: t) 1 w1 hrd HB.out (by decide) (by decide) (by simp)
    exact this)
  unfold ReadN at HNum
  have HB1 : Hid (Below w.heap.size w w1) := Lib.hid (below_grown hgr (Nat.le_refl _))
  have HB0 := Lib.hid hb0
  have HG1 := Lib.hid hg1
  clear hb0 hg0 hb1 hg1 hrd hgr
  dsimp only
  go_wp2_with fail
  refine HNum.out.mono ?_
  rintro e w2 ⟨rfl, hg2, hr2⟩
  have HB2 : Hid (Below w.heap.size w w2) := Lib.hid (turn_up HB1.out (turn_read hg2) HB0.out)
  have HGet : Hid (Calls Tryz.prog 147 #[.pointer (some ⟨b, 0, none⟩)] w2 (GetsX b g w2 X)) := Lib.hid (by
    rw [← HXe.out]
    exact getPlain_any b g t w2 hr2 (Nat.lt_of_lt_of_le HG1.out hg2.size) HBt.out HTL.out)
  clear hg2 hr2
  dsimp only
  go_wp2_with fail
  refine HGet.out.mono ?_
  rintro e w5 ⟨ht5, hx⟩
  have HB5 : Hid (Below w.heap.size w w5) := Lib.hid (turn_up HB2.out ht5 HB0.out)
  clear ht5 HNum
  cases X with
  | none =>
    obtain ⟨E, hE, rfl⟩ := hx
    have HF : Hid (GetE w (resT (endT none)) (.returned (.tuple #[.slice none 0 0, .int .i64 4])) w5) := Lib.hid (gete_bad HB5.out)
    have hEb : (E != 0) = true := bne_iff_ne.2 hE
    dsimp only
    go_wp2_with fail
    go_ret2
    exact HF.out
  | some p =>
    obtain ⟨l, rest⟩ := p
    obtain ⟨a5, c5, rfl, hs5, hr5, -⟩ := hx
    have HL := Lib.hid (Oct.left_yes b g rest w5 hr5)
    obtain ⟨m, hm⟩ : ∃ m, l.length = m := ⟨_, rfl⟩
    cases rest with
    | nil =>
      have HF : Hid (GetE w (resT (endT (some (l, [])))) (.returned (.tuple #[.slice a5 m c5, .int .i64 0])) w5) := Lib.hid ⟨a5, c5, by rw [← hm]; rfl, hs5, HB5.out⟩
      rw [hm]
      clear hm hs5 hr5
      dsimp only [List.length_nil] at HL
      dsimp only
      go_wp2_with (first
        | (go_at_call 64; refine HL.out.mono ?_; rintro e w' ⟨rfl, rfl⟩)
        | fail)
      go_ret2
      exact HF.out
    | cons y r =>
      have HF : Hid (GetE w (resT (endT (some (l, y :: r)))) (.returned (.tuple #[.slice none 0 0, .int .i64 4])) w5) := Lib.hid (gete_bad HB5.out)
      obtain ⟨q, hq⟩ : ∃ q, (y :: r).length = q := ⟨_, rfl⟩
      have hq1 : 0 < q := by rw [← hq]; simp
      rw [hq] at HL
      rw [hm]
      clear hm hs5 hr5 hq
      dsimp only
      go_wp2_with (first
        | (go_at_call 64; refine HL.out.mono ?_; rintro e w' ⟨rfl, rfl⟩)
        | fail)
      go_ret2
      exact HF.out

set_option maxRecDepth 100000 in
set_option maxHeartbeats 2000000 in
theorem get_2 (a : Option Addr) (n c : Nat) (t : List Int) (w : World) (hs : Bs.Seg w a n c (2 :: t)) (hb : Oct.IsB (2 :: t)) (hn : n ≤ 100000000) :
    Calls Tryz.prog 111 #[.slice a n c] w (GetE w (resT (getDt t))) := by
  have HNew := Lib.hid (new_any a n c (2 :: t) w (oseg hs) (by omega))
  have hlen := hs.len
  have htl : t.length ≤ 100000000 := by rw [List.length_cons] at hlen; omega
  have HBt : Hid (Oct.IsB t) := Lib.hid fun x hx => hb x (by simp [hx])
  have HB := Lib.hid hb
  have HTL := Lib.hid htl
  obtain ⟨X, hX⟩ : ∃ X, getDt t = X := ⟨_, rfl⟩
  have HXe := Lib.hid hX
  rw [hX]
  clear hs hb htl hX hlen hn
  go_enter Tryz.func111, Tryz.ntmps111
  go_wp2_with fail
  refine HNew.out.mono ?_
  rintro e w1 ⟨b, g, rfl, hb0, hg0, hb1, hg1, hrd, hgr⟩
  have HNum : Hid (Calls Tryz.prog 94 #[.pointer (some ⟨b, 0, none⟩), .int .i64 1] w1 (ReadN b g w1 2 t)) := Lib.hid (by
    have := Oct.number_yes b g (2 :: t) 1 w1 hrd HB.out (by decide) (by decide) (by simp)
    exact this)
  unfold ReadN at HNum
  have HB1 : Hid (Below w.heap.size w w1) := Lib.hid (below_grown hgr (Nat.le_refl _))
  have HB0 := Lib.hid hb0
  have HG1 := Lib.hid hg1
  clear hb0 hg0 hb1 hg1 hrd hgr
  dsimp only
  go_wp2_with fail
  refine HNum.out.mono ?_
  rintro e w2 ⟨rfl, hg2, hr2⟩
  have HB2 : Hid (Below w.heap.size w w2) := Lib.hid (turn_up HB1.out (turn_read hg2) HB0.out)
  have HGet : Hid (Calls Tryz.prog 148 #[.pointer (some ⟨b, 0, none⟩)] w2 (GotX b g w2 X)) := Lib.hid (by
    rw [← HXe.out]
    exact getDict_any b g t w2 hr2 (Nat.lt_of_lt_of_le HG1.out hg2.size) HBt.out HTL.out)
  clear hg2 hr2
  dsimp only
  go_wp2_with fail
  refine HGet.out.mono ?_
  rintro e w5 ⟨ht5, hx⟩
  have HB5 : Hid (Below w.heap.size w w5) := Lib.hid (turn_up HB2.out ht5 HB0.out)
  clear ht5 HNum
  cases X with
  | none =>
    obtain ⟨E, hE, rfl⟩ := hx
    have HF : Hid (GetE w (resT none) (.returned (.tuple #[.slice none 0 0, .int .i64 4])) w5) := Lib.hid (gete_bad HB5.out)
    have hEb : (E != 0) = true := bne_iff_ne.2 hE
    dsimp only
    go_wp2_with fail
    go_ret2
    exact HF.out
  | some l =>
    obtain ⟨a5, c5, rfl, hs5, hr5⟩ := hx
    have HL := Lib.hid (Oct.left_yes b g [] w5 hr5)
    obtain ⟨m, hm⟩ : ∃ m, l.length = m := ⟨_, rfl⟩
    have HF : Hid (GetE w (resT (some l)) (.returned (.tuple #[.slice a5 m c5, .int .i64 0])) w5) := Lib.hid ⟨a5, c5, by rw [← hm]; rfl, hs5, HB5.out⟩
    rw [hm]
    clear hm hs5 hr5
    dsimp only [List.length_nil] at HL
    dsimp only
    go_wp2_with (first
      | (go_at_call 64; refine HL.out.mono ?_; rintro e w' ⟨rfl, rfl⟩)
      | fail)
    go_ret2
    exact HF.out

theorem get_any (a : Option Addr) (n c : Nat) (bs : List Int) (w : World) (hs : Bs.Seg w a n c bs) (hb : Oct.IsB bs) (hn : n ≤ 100000000) :
    Calls Tryz.prog 111 #[.slice a n c] w (GetE w (resT (getT bs))) := by
  match bs, hs, hb with
  | [], hs, _ => exact get_none a n c w hs hn
  | k :: t, hs, hb =>
    rw [getT_cons]
    by_cases h1 : k = 1
    · subst h1
      rw [if_pos rfl]
      exact get_1 a n c t w hs hb hn
    · rw [if_neg h1]
      by_cases h2 : k = 2
      · subst h2
        rw [if_pos rfl]
        exact get_2 a n c t w hs hb hn
      · rw [if_neg h2]
        exact get_kind a n c k t w hs hb hn h1 h2
end Go.Proofs.YtljanfnhmhimiaaGreat.Tx
