/-
  Words: a set of the texts, its keys sorted.
-/
import Derived.Test.YtgbpmpeknbaccaaTxKeys
namespace Go.Proofs.Ytgbpmpeknbaccaa.Tx
open Go.RowKit Go.Maps Go.Joins Go.WideMaps
open In (below_mono)
open Ss (IsS encW)

def keyT (x : List Int) : Lit := .string (byt x)
def keysT (l : List (List Int)) : List Lit := l.map keyT
/-- the set of texts, as a datum -/
def setT (l : List (List Int)) : DataW Unit := setOf (.agg []) (keysT l)
theorem setT_nil : setT [] = .map [] := by simp [setT, keysT, setOf]
theorem setT_take (l : List (List Int)) (k : Nat) (x : List Int) (h : k < l.length) (hx : l.getD k [] = x) : setT (l.take (k + 1)) = (setT (l.take k)).put (keyT x) (.agg []) := by
  have e : l[k] = x := by rw [← hx]; simp [List.getD, h]
  rw [List.take_succ_eq_append_getElem h, e]
  unfold setT keysT
  rw [List.map_append, List.map_singleton, setOf_snoc]
theorem law_str : Keyed Try.prog 9 := string_keyed Try.underlying9
theorem key_str {x : List Int} (h : x.length ≤ 140737488355328) : keyOf Try.prog 9 (.string (strOfNums x)) = some (keyT x) := by
  have := keyOf_string_mk (P := Try.prog) (k := 9) (s := strOfNums x) Try.underlying9 (by rw [strOfNums_size]; exact Nat.le_trans h (by unfold maxLen; omega))
  rw [byt_data] at this
  exact this
theorem enc_byt (x : List Int) : encStr (byt x) = encW x := congrArg Value.string (ByteArray.ext (Array.ext' (byt_data x).symm))
theorem isKey_all (l : List (List Int)) : ∀ x ∈ keysT l, WideAt.IsKeyLit x := by
  intro x hx
  obtain ⟨y, _, rfl⟩ := List.mem_map.1 hx
  trivial
theorem has_setT (l : List (List Int)) (y : List UInt8) : Maps.has (setT l) (.string y) = true ↔ y ∈ l.map byt := by
  unfold setT
  rw [has_setOf _ _ _ (isKey_all l), List.any_eq_true]
  constructor
  · rintro ⟨z, hz, hs⟩
    obtain ⟨x, hx, rfl⟩ := List.mem_map.1 hz
    have : byt x = y := by simpa [keyT, Lit.sameKey] using hs
    exact this ▸ List.mem_map.2 ⟨x, hx, rfl⟩
  · intro h
    obtain ⟨x, hx, rfl⟩ := List.mem_map.1 h
    exact ⟨keyT x, List.mem_map.2 ⟨x, hx, rfl⟩, by simp [keyT, Lit.sameKey]⟩
theorem words_perm {l : List (List Int)} (hl : AllB l) {R : Value → Option (DataW Unit × List MemPlace)} {w : World} {b n : Nat} (hown : w.ownsMap Try.prog 9 R b n (setT l)) : ((wordsF l).map byt).Perm (strKeys (setT l)) := by
  obtain ⟨es, hD, hpw, _⟩ := hown.entries law_str
  obtain ⟨es', hD', hko⟩ := hown.keysOf
  obtain rfl : es = es' := by rw [hD] at hD'; simpa using hD'
  have hm : ∀ y, y ∈ (wordsF l).map byt ↔ Maps.has (setT l) (.string y) = true := fun y => by
    rw [has_setT]
    simp only [List.mem_map, mem_words]
  have hnd : ((wordsF l).map byt).Nodup := List.pairwise_map.2 ((up_words l hl).imp fun {a b} h e => by rw [e] at h; exact List.lt_irrefl _ h)
  rw [hD] at hm ⊢
  exact perm_strKeys hpw (fun p hp => by obtain ⟨v, hv⟩ := hko p hp; obtain ⟨x, _, hx, _⟩ := Maps.keyOf_str Try.underlying9 hv; exact ⟨x, hx⟩) hnd hm
theorem sort_words {l : List (List Int)} (hl : AllB l) {R : Value → Option (DataW Unit × List MemPlace)} {w : World} {b n : Nat} (hown : w.ownsMap Try.prog 9 R b n (setT l)) {ss : List (List UInt8)} (h : ss.Perm (strKeys (setT l))) : ss.length = (wordsF l).length ∧ (ss.mergeSort (fun x y => decide (x ≤ y))).map encStr = (wordsF l).map encW := by
  have hp := h.trans (words_perm hl hown).symm
  refine ⟨by rw [hp.length_eq, List.length_map], ?_⟩
  have e : ss.mergeSort (fun x y => decide (x ≤ y)) = (wordsF l).map byt := by
    have e1 := mergeSort_of_perm hp
    have hs : ((wordsF l).map byt).mergeSort leB = (wordsF l).map byt := List.mergeSort_of_pairwise (List.pairwise_map.2 ((up_words l hl).imp fun {a b} h => by simpa [leB] using List.le_of_lt h))
    rw [hs] at e1
    exact e1
  rw [e, List.map_map]
  exact List.map_congr_left fun x _ => enc_byt x

/-- Texts of the call's own, handed back. -/
def TextsX (w : World) (l : List (List Int)) (e : Ending) (w' : World) : Prop :=
  ∃ a c, e = .returned (.slice a l.length c) ∧ Ss.Seg w' a l.length c l ∧ Below w.heap.size w w'
theorem own_strs {w : World} {base n : Nat} {V : Value} {l : List (List Int)} (h : w.ownsRow base 9 1 V n (l.map encW)) : ∃ a c, V = .slice a n c ∧ Ss.Seg w a n c l := by
  have h1 := h.1
  rw [List.length_map, Nat.mul_one] at h1
  have hh := h
  rcases h.2 with ⟨rfl, rfl⟩ | ⟨g', cap, cur, rfl, _⟩
  · obtain rfl := List.eq_nil_of_length_eq_zero h1
    exact ⟨none, 0, rfl, Ss.Seg.nil w⟩
  · exact ⟨_, cap, rfl, Ss.Seg.own hh⟩

set_option maxRecDepth 100000 in
set_option maxHeartbeats 1000000 in
theorem words_any (a : Option Addr) (n c : Nat) (l : List (List Int)) (w : World) (hs : Ss.Seg w a n c l) (hS : IsS l) (hn : n ≤ 65536) :
    Calls Try.prog 15 #[.slice a n c] w (TextsX w (wordsF l)) := by
  have hmm := @run_makeMap Try.prog
  have hcap := hs.cap
  have hle := hs.le
  unfold maxLen at hcap
  have HLen := Lib.hid hs.len
  have HSeg := Lib.hid hs
  have HS := Lib.hid hS
  have HK := Lib.hid (fun mb W => (callsIn_wide (n := 5)).1 (keys_any mb W))
  clear hs hS
  go_enter Try.func15, Try.ntmps15
  go_wp2
  go_loopw [9] (fun si wr => ∃ k : Nat, k ≤ n ∧ si = .int .i64 k ∧ Hid (wr.ownsMap Try.prog 9 (unitElem (H := Unit)) w.heap.size k (setT (l.take k))) ∧ Hid (Below w.heap.size w wr)) (fun si _ => n - (intOf si).toNat)
  case atStart => exact ⟨0, Nat.zero_le _, rfl, Lib.hid (by rw [List.take_zero, setT_nil]; exact World.ownsMap_made _ _ _ _), Lib.hid ((Below.refl _ _).alloc (Nat.le_refl _) _)⟩
  case round =>
    obtain ⟨k, hk, rfl, HO, HB⟩ := hrel
    by_cases hlt : k < n
    · have hseg := sseg_below HSeg.out HB.out rfl
      obtain ⟨gA, oA, rfl, hc⟩ := hseg.addr (by omega)
      have g1 := hc k hlt
      obtain ⟨x, hx⟩ : ∃ x, l.getD k [] = x := ⟨_, rfl⟩
      have HX := Lib.hid (setT_take l k x (by rw [HLen.out]; exact hlt) hx)
      have HKey := Lib.hid (key_str (hx ▸ (HS.out.at k).2))
      rw [hx] at g1
      clear hc hx hseg
      go_wp2_with (first
        | (at_mapUpdate; refine wpList_mapUpdate_own _ rfl _ _ _ 53 rfl 9 54 law_str Try.underlying53 (unitElem (H := Unit)) w.heap.size k _ rfl HO.out (by unfold maxLen; omega) _ _ _ rfl rfl HKey.out _ [] unitElem_mk ?_; intro w1 hown1 hgrow1)
        | go_in)
      go_roundw
      case rel => exact ⟨k + 1, by omega, by go_num, Lib.hid (by rw [HX.out]; exact hown1), Lib.hid (HB.out.grown hgrow1 HB.out.size (fun j hj => by cases hj; exact Nat.le_refl _))⟩
      case measure => simp [intOf]; omega
    · obtain rfl : k = n := by omega
      have HO2 : Hid (wr.ownsMap Try.prog 9 (unitElem (H := Unit)) w.heap.size k (setT l)) := Lib.hid (by
        have := HO.out
        rwa [List.take_of_length_le (Nat.le_of_eq HLen.out)] at this)
      have hsz := HO2.out.size_le
      have HSo := Lib.hid ((callsIn_wide (n := 5)).1 (sorted_keys w.heap.size k (setT l) _ wr HO2.out (by unfold maxLen; omega) (by omega)))
      have HB2 : Hid (Below w.heap.size w (wr.alloc (.cells #[.map (some w.heap.size)] 53))) := Lib.hid (HB.out.alloc HB.out.size _)
      clear hsz HO
      go_wp2_with (first
        | (go_at_call 38; refine (HK.out _ _).mono ?_; rintro e w' ⟨rfl, rfl⟩)
        | (go_at_call 37; refine HSo.out.mono ?_; rintro e w2 ⟨v, ss, rfl, hperm, hrow, hnil, hb2⟩)
        | fail)
      obtain ⟨e1, e2⟩ := sort_words (allB_of HS.out) HO2.out hperm
      rw [e1, e2] at hrow
      obtain ⟨a2, c2, rfl, hs2⟩ := own_strs hrow
      have HF : Hid (TextsX w (wordsF l) (.returned (.slice a2 (wordsF l).length c2)) w2) := Lib.hid ⟨a2, c2, rfl, hs2, HB2.out.trans (below_mono hb2 HB2.out.size)⟩
      clear hs2 hrow hnil hb2 hperm e1 e2
      go_wp2
      go_ret
      exact HF.out
end Go.Proofs.Ytgbpmpeknbaccaa.Tx
