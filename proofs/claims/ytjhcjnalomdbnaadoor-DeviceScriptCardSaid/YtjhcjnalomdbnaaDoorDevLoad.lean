/-
  The device: Load; conversions of strings to bytes.
-/
import Derived.Test.YtjhcjnalomdbnaaDoorDevNew
import Derived.Lib.ConvBytes
namespace Go.Proofs.YtjhcjnalomdbnaaDoor.Dv
open Go.RowKit Bs

/-- []byte(s): new memory. -/
theorem conv_bytes (l : List Int) (hl : IsB l) (hn : l.length ≤ 1000000000) (W : World) : ∃ cap W', (convert 9 68 (.string (strOfNums l))).run Tryd.prog W = .ok (.slice (some ⟨W.heap.size, 0, none⟩) l.length cap) W' ∧
    Reg W' W.heap.size 0 l ∧ Turn W W' nowhere ∧ l.length ≤ cap ∧ cap ≤ maxLen := by
  have h := Lib.run_convert_string_bytes (P := Tryd.prog) W 9 68 5 (strOfNums l) Tryd.underlying9 Tryd.underlying68 Tryd.underlying5
  rw [strOfNums_size] at h
  refine ⟨_, _, h, fun j x hx => ?_, ⟨?_, ?_, ?_, ?_, fun k hk _ => Lib.bytesWorld_at_old W _ _ k hk⟩, grownCap_ge _ _ _ _, grownCap_le_maxLen _ _ _ _ (by unfold maxLen; omega)⟩
  · have hj : j < l.length := (List.getElem?_eq_some_iff.1 hx).1
    have hsz : (strOfNums l).size = l.length := strOfNums_size l
    have h1 := Lib.bytesWorld_cell W 5 (strOfNums l) j (by rw [hsz]; exact hj)
    have h2 := str_data l hl
    have h3 : ((strOfNums l).data.toList.map (fun b => Value.int .u8 (b.toNat : Int)))[j]? = some (.int .u8 x) := by
      rw [h2, List.getElem?_map, hx]; rfl
    have hj2 : j < (strOfNums l).data.toList.length := by
      have : (strOfNums l).data.toList.length = (strOfNums l).size := rfl
      omega
    rw [List.getElem?_map, List.getElem?_eq_getElem hj2] at h3
    rw [Nat.zero_add, h1]
    have e : (strOfNums l).data.toList.getD j 0 = (strOfNums l).data.toList[j] := by rw [List.getD_eq_getElem?_getD, List.getElem?_eq_getElem hj2]; rfl
    rw [e]
    refine ⟨h3, ?_⟩
    unfold World.frozen?
    rw [Lib.bytesWorld_at_new]
    have hs : (Lib.bytesCells W 5 (strOfNums l)).size = (strOfNums l).size + (grownCap W (strOfNums l).size 0 5 - (strOfNums l).size) := by
      unfold Lib.bytesCells
      rw [Array.size_append, Array.size_map, Array.size_replicate]
      rfl
    have hlt : ¬ (Lib.bytesCells W 5 (strOfNums l)).size ≤ j := by omega
    simp [hlt]
  · rfl
  · rfl
  · rfl
  · rw [Lib.bytesWorld_size]; omega

def LoadNo (w : World) (e : Ending) (w' : World) : Prop := e = .returned (.tuple #[.pointer none, .int .i64 2]) ∧ Turn w w' nowhere

set_option maxHeartbeats 1000000 in
theorem load_no (size blocks : Nat) (T : ByteArray) (w : World) (h : geoB size blocks = true) (hT : T.size ≠ size * blocks) :
    Calls Tryd.prog 12 #[.agg #[.int .i64 (size : Int), .int .i64 (blocks : Int)], .string T] w (LoadNo w) := by
  have HE := Lib.hid (show geoE size blocks = 0 by unfold geoE; rw [h]; rfl)
  have hg := of_decide_eq_true h
  have hN : size * blocks ≤ 16777216 := Nat.le_trans (Nat.mul_le_mul (by omega) (by omega) : size * blocks ≤ 4096 * 4096) (by decide)
  have HC := Lib.hid (fun w => check_any size blocks w)
  have HT := Lib.hid ((Turn.alloc w (.cells #[.int .i64 size, .int .i64 blocks] 28) nowhere).trans (Turn.alloc _ (.cells #[.int .i64 size, .int .i64 blocks] 28) nowhere) (fun _ _ h => h))
  have e1 : (size : Int) * (blocks : Int) = ((size * blocks : Nat) : Int) := by rw [Int.natCast_mul]
  have e2 : IntKind.i64.wrap ((size : Int) * (blocks : Int)) = (size : Int) * (blocks : Int) := by rw [e1, IntKind.wrap_i64]; omega
  have e3 : ((T.size : Int) != (size : Int) * (blocks : Int)) = true := bne_iff_ne.2 (by rw [e1]; omega)
  clear h hg e1
  go_enter Tryd.func12, Tryd.ntmps12
  go_wp2_with fail
  refine (HC.out _).mono ?_
  rw [HE.out]
  rintro e w' ⟨rfl, rfl⟩
  go_wp2
  go_ret2
  exact ⟨rfl, HT.out⟩

/-- The blocks of an image. -/
def chunks (size : Nat) : Nat → List Int → List (List Int)
  | 0, _ => []
  | k + 1, l => l.take size :: chunks size k (l.drop size)
theorem chunks_flat (size : Nat) : ∀ (k : Nat) (l : List Int), l.length = size * k → (chunks size k l).flatten = l
  | 0, l, h => by
    have : l = [] := List.eq_nil_of_length_eq_zero (by simpa using h)
    rw [this]; rfl
  | k + 1, l, h => by
    show (l.take size ++ (chunks size k (l.drop size)).flatten) = l
    rw [chunks_flat size k _ (by rw [List.length_drop, h, Nat.mul_succ]; omega), List.take_append_drop]
theorem chunks_len (size : Nat) : ∀ (k : Nat) (l : List Int), (chunks size k l).length = k
  | 0, _ => rfl
  | k + 1, l => by show (chunks size k _).length + 1 = k + 1; rw [chunks_len size k]
theorem chunks_isD (size : Nat) : ∀ (k : Nat) (l : List Int), l.length = size * k → IsB l → IsD size (chunks size k l)
  | 0, _, _, _ => fun _ h => by cases h
  | k + 1, l, h, hB => by
    intro x hx
    rcases List.mem_cons.1 hx with rfl | hx
    · rw [Nat.mul_succ] at h
      exact ⟨by rw [List.length_take]; omega, isB_take hB _⟩
    · exact chunks_isD size k _ (by rw [List.length_drop, h, Nat.mul_succ]; omega) (isB_drop hB _) x hx

def LoadYes (size blocks : Nat) (l : List Int) (w : World) (e : Ending) (w' : World) : Prop :=
  ∃ g b, e = .returned (.tuple #[.pointer (some ⟨g, 0, none⟩), .int .i64 0]) ∧ Dev w' g b (.slice none 0 0) (St.fresh size blocks (chunks size blocks l)) ∧ w.heap.size ≤ g ∧ w.heap.size ≤ b ∧ Turn w w' nowhere

set_option maxHeartbeats 1000000 in
theorem load_yes (size blocks : Nat) (l : List Int) (w : World) (h : geoB size blocks = true) (hB : IsB l) (hl : l.length = size * blocks) :
    Calls Tryd.prog 12 #[.agg #[.int .i64 (size : Int), .int .i64 (blocks : Int)], .string (strOfNums l)] w (LoadYes size blocks l w) := by
  have HE := Lib.hid (show geoE size blocks = 0 by unfold geoE; rw [h]; rfl)
  have hg := of_decide_eq_true h
  have hN : size * blocks ≤ 16777216 := Nat.le_trans (Nat.mul_le_mul (by omega) (by omega) : size * blocks ≤ 4096 * 4096) (by decide)
  have OK : Hid (St.fresh size blocks (chunks size blocks l)).Ok := Lib.hid (fresh_ok (by omega) (by omega) (by omega) (by omega) (by omega) (chunks_isD _ _ _ hl hB) (chunks_len _ _ _))
  have HC := Lib.hid (fun w => check_any size blocks w)
  have ht := ((Turn.alloc w (.cells #[.int .i64 size, .int .i64 blocks] 28) nowhere).trans (Turn.alloc _ (.cells #[.int .i64 size, .int .i64 blocks] 28) nowhere) (fun _ _ h => h))
  have HT := Lib.hid ht
  have e1 : (size : Int) * (blocks : Int) = ((size * blocks : Nat) : Int) := by rw [Int.natCast_mul]
  have e2 : IntKind.i64.wrap ((size : Int) * (blocks : Int)) = (size : Int) * (blocks : Int) := by rw [e1, IntKind.wrap_i64]; omega
  have hcv := conv_bytes l hB (by omega) ((w.alloc (.cells #[.int .i64 (size : Int), .int .i64 (blocks : Int)] 28)).alloc (.cells #[.int .i64 (size : Int), .int .i64 (blocks : Int)] 28))
  rw [hl] at hcv
  have HF := Lib.hid (chunks_flat size blocks l hl)
  obtain ⟨T, hT⟩ : ∃ T, T = strOfNums l := ⟨_, rfl⟩
  have hTs : T.size = size * blocks := by rw [hT, strOfNums_size, hl]
  rw [← hT] at hcv ⊢
  have e3 : ((T.size : Int) != (size : Int) * (blocks : Int)) = false := by rw [e1, hTs]; simp
  obtain ⟨cap, W2, hrun, hreg, ht2, hc1, hc2⟩ := hcv
  rw [World.size_alloc, World.size_alloc] at hrun hreg
  have HR : Hid (Reg W2 (w.heap.size + 1 + 1) 0 (chunks size blocks l).flatten) := Lib.hid (by rw [HF.out]; exact hreg)
  have HT2 := Lib.hid ht2
  have q0 := ht2.cell (p := ⟨w.heap.size, 0, none⟩) (v := .int .i64 (size : Int)) (by simp [go_sem]) id
  have q1 := ht2.cell (p := ⟨w.heap.size, 1, none⟩) (v := .int .i64 (blocks : Int)) (by simp [go_sem]) id
  clear h hg e1 hB hl hT hTs hreg ht2 ht
  go_enter Tryd.func12, Tryd.ntmps12
  go_wp2_with fail
  refine (HC.out _).mono ?_
  rw [HE.out]
  rintro e w' ⟨rfl, rfl⟩
  go_wp2_with fail
  refine (with_any size blocks (w.heap.size + 1 + 1) cap (chunks size blocks l) W2 HR.out hc1 hc2 OK.out).mono ?_
  rintro e w3 ⟨g, rfl, hd, hge, ht3⟩
  have HFI : Hid (LoadYes size blocks l w (.returned (.tuple #[.pointer (some ⟨g, 0, none⟩), .int .i64 0])) w3) := Lib.hid ⟨g, _, rfl, hd, by have := HT.out.size; have := HT2.out.size; omega, by omega, (HT.out.trans HT2.out (fun _ _ h => h)).trans ht3 (fun _ _ h => h)⟩
  clear hd hge ht3
  dsimp only
  go_wp2
  go_ret2
  exact HFI.out
end Go.Proofs.YtjhcjnalomdbnaaDoor.Dv
