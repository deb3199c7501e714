/-
  The document's device: New.
-/
import Derived.Test.YtjhcjnalomdbnaaDoorDevRef6
namespace Go.Proofs.YtjhcjnalomdbnaaDoor.Dv
open Go.RowKit Bs

theorem rnew_no (size blocks : Int) (w : World) (h : geoB size blocks = false) :
    Calls Tryd.prog 23 #[.agg #[.int .i64 size, .int .i64 blocks]] w fun e w' => e = .returned (.tuple #[.pointer none, .int .i64 2]) ∧ Turn w w' nowhere := by
  have HE := Lib.hid (show geoE size blocks = 2 by unfold geoE; rw [h]; rfl)
  have HC := Lib.hid (fun w => rcheck_any size blocks w)
  have HT := Lib.hid (Turn.alloc w (.cells #[.int .i64 size, .int .i64 blocks] 28) nowhere)
  clear h
  go_enter Tryd.func23, Tryd.ntmps23
  go_wp2_with fail
  refine (HC.out _).mono ?_
  rw [HE.out]
  rintro e w' ⟨rfl, t2⟩
  have HT2 := Lib.hid (HT.out.trans t2 (fun _ _ h => h))
  clear t2
  go_wp2
  go_ret2
  exact ⟨rfl, HT2.out⟩

def RNew (w : World) (size blocks : Nat) (e : Ending) (w' : World) : Prop :=
  ∃ g D, e = .returned (.tuple #[.pointer (some ⟨g, 0, none⟩), .int .i64 0]) ∧ Ref w' g D (.slice none 0 0) (St.fresh size blocks (zeros size blocks)) ∧ (∀ k, fpR g D (.slice none 0 0) k → w.heap.size ≤ k) ∧ Turn w w' nowhere

theorem srow_zeros (size k : Nat) : srow (zeros size k) = List.replicate k (.string (strOfNums (rep size 0))) := by simp [srow, zeros]

/-- what New's loop keeps -/
structure Mk (w wr : World) (g : Nat) (D : Value) (size blocks k : Nat) : Prop where
  box : wr.heap[g]? = some (.cells #[.int .i64 (size : Int), .int .i64 (blocks : Int), D, .slice none 0 0, .int .i64 0, .int .i64 (-1)] 61 (0, 0))
  dur : wr.ownsRow w.heap.size 9 1 D k (srow (zeros size k))
  dg : D.ownBlock ≠ some g
  new : w.heap.size ≤ g
  turn : Turn w wr nowhere

theorem Mk.done {w0 w wr : World} {g : Nat} {D : Value} {size blocks : Nat} (h : Mk w wr g D size blocks blocks) (t : Turn w0 w nowhere) (ok : (St.fresh size blocks (zeros size blocks)).Ok) : RNew w0 size blocks (.returned (.tuple #[.pointer (some ⟨g, 0, none⟩), .int .i64 0])) wr :=
  ⟨g, D, rfl, ⟨ok, h.box, ownsRow_mono h.dur (Nat.zero_le _), World.ownsRow_nil _ _ _ _, h.dg, by simp [Value.ownBlock], fun _ _ => by simp [Value.ownBlock]⟩, fun k hk => by
    rcases hk with rfl | hk | hk
    · exact Nat.le_trans t.size h.new
    · exact Nat.le_trans t.size (h.dur.lt k hk).1
    · simp [Value.ownBlock] at hk, t.trans h.turn (fun _ _ h => h)⟩

theorem Mk.cells {w wr : World} {g : Nat} {D : Value} {size blocks k : Nat} (h : Mk w wr g D size blocks k) : wr.cell? ⟨g, 2, none⟩ = some D ∧ wr.frozen? ⟨g, 2, none⟩ = false := by
  refine ⟨?_, by simp [World.frozen?, h.box]⟩
  rw [cell_of_row wr g _ _ _ _ h.box]; rfl

theorem Mk.next {w wr w3 : World} {g : Nat} {D D' : Value} {size blocks k : Nat} {O : Obj} (h : Mk w wr g D size blocks k) (hown : w3.ownsRow w.heap.size 9 1 D' (k + 1) (srow (zeros size k) ++ [.string (strOfNums (rep size 0))]))
    (hgrow : (wr.alloc O).grownBy w3 D.ownBlock) (hat : D'.ownBlock = D.ownBlock ∨ D'.ownBlock = some (wr.alloc O).heap.size) : Mk w (w3.setCell ⟨g, 2, none⟩ D') g D' size blocks (k + 1) := by
  have hgl : g < wr.heap.size := (Array.getElem?_eq_some_iff.1 h.box).1
  have ta : Turn wr (wr.alloc O) nowhere := Turn.alloc _ _ _
  have tg : Turn (wr.alloc O) w3 (fun i => D.ownBlock = some i) := Turn.of_grown hgrow (fun i hi _ => hi)
  have ts : Turn w3 (w3.setCell ⟨g, 2, none⟩ D') (· = g) := Turn.setCell _ _ _ rfl
  have tall : Turn wr (w3.setCell ⟨g, 2, none⟩ D') (fun i => i = g ∨ D.ownBlock = some i) := ((ta.mono (S' := fun i => i = g ∨ D.ownBlock = some i) (fun _ _ e => e.elim)).trans tg (fun i _ e => .inr e)).trans ts (fun i _ e => .inl e)
  have hbox : w3.heap[g]? = wr.heap[g]? := (tg.block g (by rw [World.size_alloc]; omega) h.dg).trans (ta.block g hgl id)
  have hdg : D'.ownBlock ≠ some g := fun e => by
    rcases hat with h1 | h1
    · exact h.dg (by rw [← h1, e])
    · rw [e] at h1; injection h1 with h1; rw [World.size_alloc] at h1; omega
  refine ⟨?_, ?_, hdg, h.new, h.turn.trans tall (fun i hi e => ?_)⟩
  · rw [heap_set (hbox.trans h.box)]
    rfl
  · have := own_turnB hown ts (fun i hi e => hdg (by rw [hi, e]))
    rw [srow_zeros] at this ⊢
    rw [List.replicate_succ']
    exact this
  · rcases e with e | e
    · have := h.new; omega
    · have := (h.dur.lt i e).1; omega

set_option maxRecDepth 100000 in
set_option maxHeartbeats 2000000 in
theorem rnew_yes (size blocks : Nat) (w : World) (h : geoB size blocks = true) :
    Calls Tryd.prog 23 #[.agg #[.int .i64 (size : Int), .int .i64 (blocks : Int)]] w (RNew w size blocks) := by
  have HE := Lib.hid (show geoE size blocks = 0 by unfold geoE; rw [h]; rfl)
  have hg := of_decide_eq_true h
  have OK := Lib.hid (zeros_ok hg)
  obtain ⟨i0, hi, hz0, hz1, hz2⟩ := info_parts info_string
  have HC := Lib.hid (fun w => rcheck_any size blocks w)
  have t1 := Turn.alloc w (.cells #[.int .i64 (size : Int), .int .i64 (blocks : Int)] 28) nowhere
  have g0 : (w.alloc (.cells #[.int .i64 (size : Int), .int .i64 (blocks : Int)] 28)).cell? ⟨w.heap.size, 0, none⟩ = some (.int .i64 (size : Int)) := by simp [go_sem]
  have g1 : (w.alloc (.cells #[.int .i64 (size : Int), .int .i64 (blocks : Int)] 28)).cell? ⟨w.heap.size, 1, none⟩ = some (.int .i64 (blocks : Int)) := by simp [go_sem]
  have hmk := make_bytes size (by omega)
  have hcv : ∀ W : World, (convert 68 9 (.slice (some ⟨W.heap.size, 0, none⟩) size size)).run Tryd.prog (W.alloc (.cells (madeCells (Value.int .u8 0).cells size) 5)) = .ok (.string (strOfNums (rep size 0))) (W.alloc (.cells (madeCells (Value.int .u8 0).cells size) 5)) := fun W => conv_any W.heap.size 0 size size _ _ (reg_made W size) (rep_len _ _)
  obtain ⟨M, hM⟩ : ∃ M, M = madeCells (Value.int .u8 0).cells size := ⟨_, rfl⟩
  rw [← hM] at hmk hcv
  obtain ⟨T, hT⟩ : ∃ T, T = strOfNums (rep size 0) := ⟨_, rfl⟩
  rw [← hT] at hcv
  have HT := Lib.hid hT
  have hbl : blocks ≤ 4096 := by omega
  clear h hM hg hT
  go_enter Tryd.func23, Tryd.ntmps23
  go_wp2_with fail
  generalize w.alloc (.cells #[.int .i64 (size : Int), .int .i64 (blocks : Int)] 28) = w1 at *
  refine (HC.out _).mono ?_
  rw [HE.out]
  rintro e w2 ⟨rfl, t2⟩
  have q0 := t2.cell g0 id
  have q1 := t2.cell g1 id
  have t12 := t1.trans t2 (fun _ _ h => h)
  have HG := Lib.hid (fun W (k : Turn w2 W nowhere) => k.cell q1 id)
  have hgs : w.heap.size < w2.heap.size := World.block_lt_of_cell? _ _ q1
  have h1 := hcv ((w2.alloc (.cells #[.int .i64 (size : Int), .int .i64 (blocks : Int), .slice none 0 0, .slice none 0 0, .int .i64 0, .int .i64 (-1)] 61)))
  rw [World.size_alloc] at h1
  have HM0 : Hid (Mk w2 ((w2.alloc (.cells #[.int .i64 (size : Int), .int .i64 (blocks : Int), .slice none 0 0, .slice none 0 0, .int .i64 0, .int .i64 (-1)] 61)).alloc (.cells M 5)) w2.heap.size (.slice none 0 0) size blocks 0) := Lib.hid (by
    have ta := Turn.alloc w2 (.cells #[.int .i64 (size : Int), .int .i64 (blocks : Int), .slice none 0 0, .slice none 0 0, .int .i64 0, .int .i64 (-1)] 61) nowhere
    have tb := Turn.alloc (w2.alloc (.cells #[.int .i64 (size : Int), .int .i64 (blocks : Int), .slice none 0 0, .slice none 0 0, .int .i64 0, .int .i64 (-1)] 61)) (.cells M 5) nowhere
    refine ⟨?_, World.ownsRow_nil _ _ _ _, by simp [Value.ownBlock], Nat.le_refl _, ta.trans tb (fun _ _ h => h)⟩
    rw [tb.block _ (by rw [World.size_alloc]; omega) id]
    exact heap_alloc_new _ _)
  have HT12 := Lib.hid t12
  have q0a := (Turn.alloc w2 (.cells #[.int .i64 (size : Int), .int .i64 (blocks : Int), .slice none 0 0, .slice none 0 0, .int .i64 0, .int .i64 (-1)] 61) nowhere).cell q0 id
  have HW := Lib.hid hgs
  clear t1 t2 t12 g0 g1 hgs hcv
  go_wp2
  go_loopw [6] (fun iv wr => ∃ (k : Nat) (D : Value), k ≤ blocks ∧ iv = .int .i64 (k : Int) ∧ Hid (Mk w2 wr w2.heap.size D size blocks k)) (fun iv _ => blocks - (intOf iv).toNat)
  case atStart => exact ⟨0, _, Nat.zero_le _, rfl, HM0.out⟩
  case round =>
    obtain ⟨k, D, hk, rfl, HK⟩ := hrel
    have c1 : wr.cell? ⟨w.heap.size, 1, none⟩ = some (.int .i64 (blocks : Int)) := HK.out.turn.cell q1 id
    by_cases hlt : k < blocks
    · obtain ⟨c2, f2⟩ := HK.out.cells
      have hsz : w2.heap.size < wr.heap.size := World.block_lt_of_cell? _ _ c2
      go_wp2_with (first
        | (at_builtin
           refine wpList_append_own_at _ rfl (.tmp 27) (.tmp 29) 59 rfl w2.heap.size 9 i0 (.string ⟨#[]⟩) 1 16 Tryd.underlying59 hi hz0 hz1 hz2 rfl (by omega) D k (srow (zeros size k)) (by rfl) (own_turnB HK.out.dur (Turn.alloc wr (.cells #[.string T] 9) nowhere) (fun _ _ => id)) ⟨wr.heap.size, 0, none⟩ 1 1 [.string T] (by rfl) rfl (by intro j u hu; rw [Addr.add_lit, cell_of_row _ _ _ _ _ _ (heap_alloc_new _ _), Nat.zero_add]; simpa using hu) (by simp [Value.oneCell']) (by unfold maxLen; omega) (by omega) (by rw [World.size_alloc]; have := HK.out.turn.size; omega) ?_
           intro v' w3 hown hgrow hnil hat
           obtain ⟨va, vc, rfl, _, _, _, _⟩ := own_form hown
           have hgp : some w2.heap.size ≠ D.ownBlock := fun e => HK.out.dg e.symm
           have p3c : w3.cell? ⟨w2.heap.size, 2, none⟩ = some D := hgrow.cell ((Turn.alloc wr _ nowhere).cell c2 id) hgp
           have f3c : w3.frozen? ⟨w2.heap.size, 2, none⟩ = false := by
             rw [World.frozen?_of_block (hgrow.block w2.heap.size (by rw [World.size_alloc]; omega) hgp), (Turn.alloc wr _ nowhere).frozen (p := ⟨w2.heap.size, 2, none⟩) hsz id]
             exact f2
           rw [HT.out] at hown hgrow
           have HN := Lib.hid (HK.out.next hown hgrow (by rw [← HT.out]; exact hat))
           clear hown hgrow hnil hat hgp)
        | fail)
      go_wp2
      go_roundw
      case rel => exact ⟨k + 1, _, by omega, by go_num, HN⟩
      case measure => simp [intOf]; omega
    · obtain rfl : k = blocks := by omega
      have HF := Lib.hid (HK.out.done HT12.out OK.out)
      go_wp2
      go_ret2
      exact HF.out
end Go.Proofs.YtjhcjnalomdbnaaDoor.Dv
