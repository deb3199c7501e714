/-
  Plain, Runs, Packed, Put.
-/
import Derived.Test.YteolpjlpjjjchaaInShort
namespace Go.Proofs.Yteolpjlpjjjchaa.In
open Go.RowKit Go.Joins
open Is (IsI)

set_option maxHeartbeats 400000 in
theorem shortest_no (a : Option Addr) (n c kg K : Nat) (w : World) (hn : 4096 < n) :
    Calls Try.prog 24 #[.slice a n c, .slice (some ⟨kg, 0, none⟩) K K] w fun e w' => e = .returned (.tuple #[.slice none 0 0, .int .i64 3]) ∧ w = w' := by
  go_enter Try.func24, Try.ntmps24
  go_wp2
  go_ret2
  exact ⟨rfl, rfl⟩

/-- A result of bytes and an error, the answer plain. -/
def PutE (w : World) (r : Int × List Int) (e : Ending) (w' : World) : Prop := PartE w r.1 r.2 e w'
theorem parte_up {w w1 w' : World} {E : Int} {B : List Int} {e : Ending} (h : PartE w1 E B e w') (hb : Below w.heap.size w w1) : PartE w E B e w' := by
  obtain ⟨a, m, k, he, hm, hs, hb2⟩ := h
  exact ⟨a, m, k, he, hm, hs, hb.trans (below_mono hb2 hb.size)⟩
theorem parte_value {w w' : World} {E : Int} {B : List Int} {e : Ending} (h : PartE w E B e w') : ∃ a m k, e = .returned (.tuple #[.slice a m k, .int .i64 E]) ∧ PartE w E B (.returned (.tuple #[.slice a m k, .int .i64 E])) w' := by
  obtain ⟨a, m, k, he, h⟩ := h
  exact ⟨a, m, k, he, a, m, k, rfl, h⟩

theorem kinds_cells (w : World) (ks : List Nat) (hl : ks.length ≤ 1000) : ∀ (j k : Nat), ks[j]? = some k → (w.alloc (.cells ((ks.map fun k : Nat => (k : Int)).map (Value.int .i64)).toArray 3)).cell? ⟨w.heap.size, j, none⟩ = some (.int .i64 (k : Int)) := by
  intro j k hj
  have h := World.ownsRow_lit (base := w.heap.size) (e := 3) (size := 1) w ((ks.map fun k : Nat => (k : Int)).map (Value.int .i64)).toArray ks.length (Nat.le_refl _) (by unfold maxLen; omega) (by simp)
  have h2 := h.cells (g := w.heap.size) rfl j (.int .i64 (k : Int)) (by simp [hj])
  rwa [Addr.add_lit, Nat.zero_add] at h2

set_option maxRecDepth 100000 in
set_option maxHeartbeats 1000000 in
theorem plain_any (a : Option Addr) (n c : Nat) (l : List Int) (w : World) (hs : Is.Seg w a n c l) (hI : IsI l) :
    Calls Try.prog 14 #[.slice a n c] w (PutE w (tooMany l (encB 1 l))) := by
  have hA : Below w.heap.size w (w.alloc (.cells #[.int .i64 1] 3)) := (Below.refl _ w).alloc (Nat.le_refl _) _
  unfold PutE tooMany
  by_cases hn : 4096 < n
  · rw [if_pos (by rw [hs.len]; exact hn)]
    have H := Lib.hid (shortest_no a n c w.heap.size 1 (w.alloc (.cells #[.int .i64 1] 3)) hn)
    have HF : Hid (PartE w 3 [] (.returned (.tuple #[.slice none 0 0, .int .i64 3])) (w.alloc (.cells #[.int .i64 1] 3))) := Lib.hid ⟨none, 0, 0, rfl, rfl, Bs.Seg.nil _, hA⟩
    go_enter Try.func14, Try.ntmps14
    go_wp2_with fail
    refine H.out.mono ?_
    rintro e w' ⟨rfl, rfl⟩
    go_wp2
    go_ret2
    exact HF.out
  · rw [if_neg (by rw [hs.len]; exact hn)]
    have H := Lib.hid (shortest_any [1] 1 w.heap.size a n c l (w.alloc (.cells #[.int .i64 1] 3)) (iseg_below hs hA rfl) hI (by omega) rfl (by decide) (by decide) (by decide) (kinds_cells w [1] (by decide)))
    have HA := Lib.hid hA
    simp only [List.map_cons, List.map_nil] at H
    rw [best_one] at H
    generalize encB 1 l = B at H ⊢
    clear hs hA hn
    go_enter Try.func14, Try.ntmps14
    go_wp2_with fail
    refine H.out.mono ?_
    rintro e w' hp
    obtain ⟨a', m', k', rfl, hp2⟩ := parte_value (parte_up (w := w) hp HA.out)
    have HF := Lib.hid hp2
    clear hp hp2
    go_wp2
    go_ret2
    exact HF.out

set_option maxRecDepth 100000 in
set_option maxHeartbeats 1000000 in
theorem runs_any (a : Option Addr) (n c : Nat) (l : List Int) (w : World) (hs : Is.Seg w a n c l) (hI : IsI l) :
    Calls Try.prog 10 #[.slice a n c] w (PutE w (tooMany l (encB 2 l))) := by
  have hA : Below w.heap.size w (w.alloc (.cells #[.int .i64 2] 3)) := (Below.refl _ w).alloc (Nat.le_refl _) _
  unfold PutE tooMany
  by_cases hn : 4096 < n
  · rw [if_pos (by rw [hs.len]; exact hn)]
    have H := Lib.hid (shortest_no a n c w.heap.size 1 (w.alloc (.cells #[.int .i64 2] 3)) hn)
    have HF : Hid (PartE w 3 [] (.returned (.tuple #[.slice none 0 0, .int .i64 3])) (w.alloc (.cells #[.int .i64 2] 3))) := Lib.hid ⟨none, 0, 0, rfl, rfl, Bs.Seg.nil _, hA⟩
    go_enter Try.func10, Try.ntmps10
    go_wp2_with fail
    refine H.out.mono ?_
    rintro e w' ⟨rfl, rfl⟩
    go_wp2
    go_ret2
    exact HF.out
  · rw [if_neg (by rw [hs.len]; exact hn)]
    have H := Lib.hid (shortest_any [2] 1 w.heap.size a n c l (w.alloc (.cells #[.int .i64 2] 3)) (iseg_below hs hA rfl) hI (by omega) rfl (by decide) (by decide) (by decide) (kinds_cells w [2] (by decide)))
    have HA := Lib.hid hA
    simp only [List.map_cons, List.map_nil] at H
    rw [best_one] at H
    generalize encB 2 l = B at H ⊢
    clear hs hA hn
    go_enter Try.func10, Try.ntmps10
    go_wp2_with fail
    refine H.out.mono ?_
    rintro e w' hp
    obtain ⟨a', m', k', rfl, hp2⟩ := parte_value (parte_up (w := w) hp HA.out)
    have HF := Lib.hid hp2
    clear hp hp2
    go_wp2
    go_ret2
    exact HF.out

set_option maxRecDepth 100000 in
set_option maxHeartbeats 1000000 in
theorem packed_any (a : Option Addr) (n c : Nat) (l : List Int) (w : World) (hs : Is.Seg w a n c l) (hI : IsI l) :
    Calls Try.prog 17 #[.slice a n c] w (PutE w (tooMany l (encB 3 l))) := by
  have hA : Below w.heap.size w (w.alloc (.cells #[.int .i64 3] 3)) := (Below.refl _ w).alloc (Nat.le_refl _) _
  unfold PutE tooMany
  by_cases hn : 4096 < n
  · rw [if_pos (by rw [hs.len]; exact hn)]
    have H := Lib.hid (shortest_no a n c w.heap.size 1 (w.alloc (.cells #[.int .i64 3] 3)) hn)
    have HF : Hid (PartE w 3 [] (.returned (.tuple #[.slice none 0 0, .int .i64 3])) (w.alloc (.cells #[.int .i64 3] 3))) := Lib.hid ⟨none, 0, 0, rfl, rfl, Bs.Seg.nil _, hA⟩
    go_enter Try.func17, Try.ntmps17
    go_wp2_with fail
    refine H.out.mono ?_
    rintro e w' ⟨rfl, rfl⟩
    go_wp2
    go_ret2
    exact HF.out
  · rw [if_neg (by rw [hs.len]; exact hn)]
    have H := Lib.hid (shortest_any [3] 1 w.heap.size a n c l (w.alloc (.cells #[.int .i64 3] 3)) (iseg_below hs hA rfl) hI (by omega) rfl (by decide) (by decide) (by decide) (kinds_cells w [3] (by decide)))
    have HA := Lib.hid hA
    simp only [List.map_cons, List.map_nil] at H
    rw [best_one] at H
    generalize encB 3 l = B at H ⊢
    clear hs hA hn
    go_enter Try.func17, Try.ntmps17
    go_wp2_with fail
    refine H.out.mono ?_
    rintro e w' hp
    obtain ⟨a', m', k', rfl, hp2⟩ := parte_value (parte_up (w := w) hp HA.out)
    have HF := Lib.hid hp2
    clear hp hp2
    go_wp2
    go_ret2
    exact HF.out

set_option maxRecDepth 100000 in
set_option maxHeartbeats 1000000 in
theorem put_any (a : Option Addr) (n c : Nat) (l : List Int) (w : World) (hs : Is.Seg w a n c l) (hI : IsI l) :
    Calls Try.prog 9 #[.slice a n c] w (PutE w (tooMany l (bestB l))) := by
  have hA : Below w.heap.size w (w.alloc (.cells #[.int .i64 1, .int .i64 2, .int .i64 3] 3)) := (Below.refl _ w).alloc (Nat.le_refl _) _
  unfold PutE tooMany
  by_cases hn : 4096 < n
  · rw [if_pos (by rw [hs.len]; exact hn)]
    have H := Lib.hid (shortest_no a n c w.heap.size 3 (w.alloc (.cells #[.int .i64 1, .int .i64 2, .int .i64 3] 3)) hn)
    have HF : Hid (PartE w 3 [] (.returned (.tuple #[.slice none 0 0, .int .i64 3])) (w.alloc (.cells #[.int .i64 1, .int .i64 2, .int .i64 3] 3))) := Lib.hid ⟨none, 0, 0, rfl, rfl, Bs.Seg.nil _, hA⟩
    go_enter Try.func9, Try.ntmps9
    go_wp2_with fail
    refine H.out.mono ?_
    rintro e w' ⟨rfl, rfl⟩
    go_wp2
    go_ret2
    exact HF.out
  · rw [if_neg (by rw [hs.len]; exact hn)]
    have H := Lib.hid (shortest_any [1, 2, 3] 3 w.heap.size a n c l (w.alloc (.cells #[.int .i64 1, .int .i64 2, .int .i64 3] 3)) (iseg_below hs hA rfl) hI (by omega) rfl (by decide) (by decide) (by decide) (kinds_cells w [1, 2, 3] (by decide)))
    have HA := Lib.hid hA
    simp only [List.map_cons, List.map_nil] at H
    rw [best_three] at H
    generalize bestB l = B at H ⊢
    clear hs hA hn
    go_enter Try.func9, Try.ntmps9
    go_wp2_with fail
    refine H.out.mono ?_
    rintro e w' hp
    obtain ⟨a', m', k', rfl, hp2⟩ := parte_value (parte_up (w := w) hp HA.out)
    have HF := Lib.hid hp2
    clear hp hp2
    go_wp2
    go_ret2
    exact HF.out

end Go.Proofs.Yteolpjlpjjjchaa.In
