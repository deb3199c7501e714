/-
  The device: Read.
-/
import Derived.Test.YtjhcjnalomdbnaaDoorDevBack
namespace Go.Proofs.YtjhcjnalomdbnaaDoor.Dv
open Go.RowKit Go.Shelf Bs

attribute [local go_sem] Oper.semAt_some

theorem getD_rev (l : List (Nat × List Int)) (j : Nat) (hj : j < l.length) : l.reverse[j]? = some (l.getD (l.length - 1 - j) (0, [])) := by
  rw [List.getElem?_reverse hj]
  have h : l.length - 1 - j < l.length := by omega
  simp [List.getD, h]

theorem last_none (s : St) (b : Nat) (h : ∀ j, j < s.pend.length → (fromEnd s.pend j).2.1 ≠ b) : s.last b = s.dur.getD b [] := by
  unfold St.last
  have : s.pend.reverse.find? (fun p => p.1 == b) = none := by
    rw [List.find?_eq_none]
    intro x hx
    obtain ⟨j, hj, rfl⟩ := List.mem_iff_getElem.1 hx
    have hj' : j < s.pend.length := by simpa using hj
    have e := getD_rev s.pend j hj'
    rw [List.getElem?_eq_getElem hj] at e
    have := h j hj'
    unfold fromEnd at this
    rw [Option.some.inj e]
    simpa using this
  rw [this]

theorem last_some (s : St) (b k : Nat) (hk : k < s.pend.length) (h1 : (fromEnd s.pend k).2.1 = b) (h : ∀ j, j < k → (fromEnd s.pend j).2.1 ≠ b) : s.last b = (fromEnd s.pend k).2.2 := by
  unfold St.last
  have : s.pend.reverse.find? (fun p => p.1 == b) = some (s.pend.getD (s.pend.length - 1 - k) (0, [])) := by
    rw [List.find?_eq_some_iff_getElem]
    refine ⟨by unfold fromEnd at h1; simpa using h1, k, by simpa using hk, ?_, fun j hj => ?_⟩
    · have e := getD_rev s.pend k hk
      rw [List.getElem?_eq_getElem (by simpa using hk)] at e
      exact Option.some.inj e
    · have e := getD_rev s.pend j (by omega)
      rw [List.getElem?_eq_getElem (by simp; omega)] at e
      have := h j hj
      unfold fromEnd at this
      rw [Option.some.inj e]
      simpa using this
  rw [this]
  rfl

set_option maxHeartbeats 1000000 in
theorem read_no (g b : Nat) (P : Value) (s : St) (block : Int) (w : World) (h : Dev w g b P s) (h1 : ¬ s.hasB block) :
    Calls Tryd.prog 16 #[.pointer (some ⟨g, 0, none⟩), .int .i64 block] w fun e w' => e = .returned (.tuple #[.string ⟨#[]⟩, .int .i64 2]) ∧ Turn w w' nowhere := by
  have HFI := Lib.hid (fun W (t : Turn w W nowhere) => find_any g b P s block W (h.turn t (fun _ _ => id)))
  have HB : Hid (blockE s block = 2) := Lib.hid (if_neg h1)
  have t3 : ∀ o1 o2 o3, Turn w (((w.alloc o1).alloc o2).alloc o3) nowhere := fun o1 o2 o3 => ((Turn.alloc w o1 nowhere).trans (Turn.alloc _ o2 nowhere) (fun _ _ h => h)).trans (Turn.alloc _ o3 nowhere) (fun _ _ h => h)
  have HT := Lib.hid t3
  clear h h1 t3
  go_enter Tryd.func16, Tryd.ntmps16
  go_wp2_with fail
  refine (HFI.out _ (HT.out _ _ _)).mono ?_
  rw [HB.out]
  rintro e w' ⟨rfl, rfl⟩
  go_wp2
  exact bodyPost_ret (v := .tuple #[.string ⟨#[]⟩, .int .i64 2]) (by simp [results, Tryd.results16, go_sem]) rfl ⟨rfl, HT.out _ _ _⟩

theorem heap_keep {A B : World} {row : Option Nat} {g : Nat} {cs : Array Value} {t : TypeId} {fr : Nat × Nat} (h : A.heap[g]? = some (.cells cs t fr)) (hg : A.grownBy B row) (hr : ∀ r, row = some r → ∃ o : Obj, A.heap[r]? = some o ∧ o.isCells = false) : B.heap[g]? = some (.cells cs t fr) := by
  rw [hg.block g (Array.getElem?_eq_some_iff.1 h).1 (fun e => by obtain ⟨o, ho, hc⟩ := hr g e.symm; rw [h] at ho; cases ho; cases hc)]
  exact h
theorem boxed_keep {A B : World} {row : Option Nat} {g : Nat} {v : Value} {t : TypeId} (h : Boxed A g t v) (hg : A.grownBy B row) (hr : ∀ r, row = some r → ∃ o : Obj, A.heap[r]? = some o ∧ o.isCells = false) : Boxed B g t v := heap_keep h hg hr

/-- what Read's loop keeps -/
def RI (w : World) (Z k : Nat) (pre : List Elem) (W : World) : Prop :=
  ((∀ x ∈ pre, x.2.1 ≠ k) ∧ Z ≤ W.heap.size ∧ Boxed W w.heap.size 3 (.int .i64 (k : Int)) ∧ Boxed W (w.heap.size + 1) 9 (.string ⟨#[]⟩) ∧ Boxed W (w.heap.size + 1 + 1) 24 (.int .i64 0)) ∧ Below w.heap.size w W
def RX (w : World) (k : Nat) (c : Code) (pre : List Elem) (W : World) : Prop :=
  (c = .ret ∧ ∃ ini last, pre = ini ++ [last] ∧ (∀ x ∈ ini, x.2.1 ≠ k) ∧ last.2.1 = k ∧ Boxed W (w.heap.size + 1) 9 (.string (strOfNums last.2.2)) ∧ Boxed W (w.heap.size + 1 + 1) 24 (.int .i64 0)) ∧ Below w.heap.size w W
theorem RI.own (w : World) (Z k B : Nat) (hB : w.heap.size ≤ B) : OwnFrom B (RI w Z k) :=
  OwnFrom.and (Own.from (fun _ _ _ _ hs hg hr => ⟨hs.1, Nat.le_trans hs.2.1 hg.size, boxed_keep hs.2.2.1 hg hr, boxed_keep hs.2.2.2.1 hg hr, boxed_keep hs.2.2.2.2 hg hr⟩) _) (ownFrom_below (Nat.le_refl _) hB)
theorem RX.own (w : World) (k B : Nat) (c : Code) (hB : w.heap.size ≤ B) : OwnFrom B (RX w k c) :=
  OwnFrom.and (Own.from (fun _ _ _ _ hs hg hr => by obtain ⟨h1, ini, last, h2, h3, h4, h5, h6⟩ := hs; exact ⟨h1, ini, last, h2, h3, h4, boxed_keep h5 hg hr, boxed_keep h6 hg hr⟩) _) (ownFrom_below (Nat.le_refl _) hB)

set_option maxRecDepth 100000 in
set_option maxHeartbeats 4000000 in
theorem read_yes (g b : Nat) (P : Value) (s : St) (k : Nat) (w : World) (h : Dev w g b P s) (hk : k < s.blocks) :
    Calls Tryd.prog 16 #[.pointer (some ⟨g, 0, none⟩), .int .i64 (k : Int)] w fun e w' => e = .returned (.tuple #[.string (strOfNums (s.last k)), .int .i64 0]) ∧ Turn w w' nowhere := by
  refine (callsIn_wide (n := 6)).1 ?_
  have HFI := Lib.hid (fun W (t : Turn w W nowhere) => find_any g b P s k W (h.turn t (fun _ _ => id)))
  have HB : Hid (blockE s k = 0) := Lib.hid (if_pos (by unfold St.hasB; omega))
  have t3 : ∀ o1 o2 o3, Turn w (((w.alloc o1).alloc o2).alloc o3) nowhere := fun o1 o2 o3 => ((Turn.alloc w o1 nowhere).trans (Turn.alloc _ o2 nowhere) (fun _ _ h => h)).trans (Turn.alloc _ o3 nowhere) (fun _ _ h => h)
  obtain ⟨c, hc, hm, q0, q1, q2, q3, q4, q5, q6⟩ := h.cells
  have p3 : ∀ o1 o2 o3, (((w.alloc o1).alloc o2).alloc o3).cell? ⟨g, 3, none⟩ = some P := fun o1 o2 o3 => (t3 o1 o2 o3).cell q3 id
  have HT := Lib.hid t3
  have HD := Lib.hid h
  obtain ⟨pa, pc, rfl, _, _, _, _⟩ := own_form h.row
  clear h t3 q0 q1 q2 q3 q4 q5 q6
  refine callsIn_of_wp_marks Tryd.func16 rfl trivial ?_ rfl
  simp only [Tryd.ntmps16, List.size_toArray, List.length_cons, List.length_nil, Nat.reduceAdd, Nat.reduceSub, Array.replicate_succ, Array.replicate_zero, List.push_toArray, List.append_toArray, List.nil_append, List.cons_append]
  gi_wp2_with (first
    | (refine ⟨trivial, ?_⟩; gi_at_call 40; refine (callsIn_wide.2 (HFI.out _ (HT.out _ _ _))).mono ?_; rw [HB.out]; rintro e w' ⟨rfl, rfl⟩)
    | (refine ⟨trivial, ?_⟩; gi_at_call 49; refine (bwd_in Fence.wide _ trivial rfl _ _ _ _).mono ?_; rintro e w' ⟨rfl, rfl⟩)
    | fail)
  have b3 := (((Boxed.new w 3 (.int .i64 (k : Int))).alloc (.cells #[.string ⟨#[]⟩] 9)).alloc (.cells #[.int .i64 0] 24)).alloc (.cells #[.slice pa s.pend.length pc] 45)
  have b4 := ((Boxed.new (w.alloc (.cells #[.int .i64 (k : Int)] 3)) 9 (.string ⟨#[]⟩)).alloc (.cells #[.int .i64 0] 24)).alloc (.cells #[.slice pa s.pend.length pc] 45)
  have b5 := (Boxed.new ((w.alloc (.cells #[.int .i64 (k : Int)] 3)).alloc (.cells #[.string ⟨#[]⟩] 9)) 24 (.int .i64 0)).alloc (.cells #[.slice pa s.pend.length pc] 45)
  have bN := Boxed.new (((w.alloc (.cells #[.int .i64 (k : Int)] 3)).alloc (.cells #[.string ⟨#[]⟩] 9)).alloc (.cells #[.int .i64 0] 24)) 45 (.slice pa s.pend.length pc)
  simp only [World.size_alloc] at b4 b5 bN
  have hT4 : Turn w ((((w.alloc (.cells #[.int .i64 (k : Int)] 3)).alloc (.cells #[.string ⟨#[]⟩] 9)).alloc (.cells #[.int .i64 0] 24)).alloc (.cells #[.slice pa s.pend.length pc] 45)) nowhere := (HT.out _ _ _).trans (Turn.alloc _ _ nowhere) (fun _ _ h => h)
  have hsz : ((((w.alloc (.cells #[.int .i64 (k : Int)] 3)).alloc (.cells #[.string ⟨#[]⟩] 9)).alloc (.cells #[.int .i64 0] 24)).alloc (.cells #[.slice pa s.pend.length pc] 45)).heap.size = w.heap.size + 4 := by simp
  obtain ⟨W0, hW0⟩ : ∃ W0, ((((w.alloc (.cells #[.int .i64 (k : Int)] 3)).alloc (.cells #[.string ⟨#[]⟩] 9)).alloc (.cells #[.int .i64 0] 24)).alloc (.cells #[.slice pa s.pend.length pc] 45)) = W0 := ⟨_, rfl⟩
  rw [hW0] at b3 b4 b5 bN hsz hT4 ⊢
  clear hW0 p3
  have hD0 := HD.out.turn hT4 (fun _ _ => id)
  have hlt0 := HD.out.lt
  have hB0 : Below w.heap.size w W0 := ⟨hT4.os, hT4.tape, hT4.output, hT4.size, fun i hi => hT4.block i hi id⟩
  refine wpIn_rangeFunc_ownH rfl (by omega) (gf := 57) (lb := #[.pointer (some ⟨w.heap.size + 1 + 1 + 1, 0, none⟩)]) rfl trivial (enters_of Tryd.func57 (by kernel_rfl) rfl)
    (bwd_stops Fence.wide _ trivial rfl (by omega) (w.heap.size + 1 + 1 + 1) W0.heap.size (.slice pa s.pend.length pc) s.pend hD0.ok.few W0 (by omega) (Nat.le_refl _) bN.cell hD0.row (fun i hi => by have := hlt0 i (.inr (.inr hi)); omega)) belowK_t (belowK_b (Nat.le_refl _)) (Below.refl _ _) (fun _ => rfl)
    (RI w W0.heap.size k) (RX w k) (RI.own w _ k _ hT4.size) (fun c => RX.own w k _ c hT4.size)
    ⟨⟨(fun _ h => by cases h), Nat.le_refl _, b3, b4, b5⟩, hB0⟩
    (fun x a' W => ∃ Bx, w.heap.size + 1 + 1 + 1 < Bx ∧ W.heap[Bx]? = some (.cells #[.int .i64 (x.2.1 : Int), .string (strOfNums x.2.2)] 66 (0, 0)) ∧ a' = { tmps := #[.pointer (some ⟨g, 0, none⟩), .int .i64 (k : Int), undef, .pointer (some ⟨w.heap.size, 0, none⟩), .pointer (some ⟨w.heap.size + 1, 0, none⟩), .pointer (some ⟨w.heap.size + 1 + 1, 0, none⟩), .int .i64 0, undef, .pointer (some ⟨Bx, 0, none⟩), .pointer (some ⟨g, 0, none⟩), .int .i64 (k : Int), .int .i64 0, .int .i64 0, .bool false, undef, .pointer (some ⟨g, 0, none⟩), .pointer (some ⟨g, 0, none⟩), .pointer (some ⟨g, 3, none⟩), .slice pa s.pend.length pc, .func (.func 57) #[] #[.pointer (some ⟨w.heap.size + 1 + 1 + 1, 0, none⟩)], .int .i64 x.1, .agg #[.int .i64 (x.2.1 : Int), .string (strOfNums x.2.2)], undef, undef, undef, undef, undef, undef, undef, undef, undef, undef], defers := [] })
    (fun x a' _ X Y row hs hg hr => by obtain ⟨Bx, h1, h2, h3⟩ := hs; exact ⟨Bx, h1, heap_keep h2 hg (fun r e => (hr r e).2), h3⟩)
    ?assign ?body ?done ?stop
  case assign =>
    rintro l pre x W K hI hK
    have hz := hI.1.2.1
    unfold encW
    gi_wp2
    exact hK _ _ ((KeepsOthers.alloc _ _).from _) ((Below.refl _ W).alloc hz _) ⟨⟨hI.1.1, Nat.le_trans hz (by simp), hI.1.2.2.1.alloc _, hI.1.2.2.2.1.alloc _, hI.1.2.2.2.2.alloc _⟩, hI.2.alloc hI.2.size _⟩ ⟨W.heap.size, by omega, World.alloc_heap_new W _, rfl⟩
  case body =>
    rintro l pre x a' W hl _ hI ⟨Bx, hBx, hX, rfl⟩ hlt
    have cX0 : W.cell? ⟨Bx, 0, none⟩ = some (.int .i64 (x.2.1 : Int)) := by rw [cell_of_row _ _ _ _ _ _ hX]; rfl
    have cX1 : W.cell? ⟨Bx, 1, none⟩ = some (.string (strOfNums x.2.2)) := by rw [cell_of_row _ _ _ _ _ _ hX]; rfl
    have cB := hI.1.2.2.1.cell
    have cS := hI.1.2.2.2.1.cell
    have fS := hI.1.2.2.2.1.frozen
    have cE := hI.1.2.2.2.2.cell
    have fE := hI.1.2.2.2.2.frozen
    have HI := Lib.hid hI
    clear hI hX
    by_cases hx : x.2.1 = k
    · have e1 : ((x.2.1 : Int) == (k : Int)) = true := beq_iff_eq.2 (by omega)
      have HX := Lib.hid hx
      clear hx
      gi_wp2
      exact ⟨((KeepsOthers.setCell _ _ _).trans (KeepsOthers.setCell _ _ _)).from _, ⟨rfl, pre, x, rfl, HI.out.1.1, HX.out, (HI.out.1.2.2.2.1.set _).other (by omega) _, (HI.out.1.2.2.2.2.other (by omega) _).set _⟩,
        (HI.out.2.setCell (p := ⟨w.heap.size + 1, 0, none⟩) (by simp) _).setCell (p := ⟨w.heap.size + 1 + 1, 0, none⟩) (by simp; omega) _⟩
    · have e1 : ((x.2.1 : Int) == (k : Int)) = false := beq_eq_false_iff_ne.2 (by omega)
      have HX := Lib.hid hx
      clear hx
      gi_wp2
      exact ⟨KeepsFrom.refl _ _, Below.refl _ _, ⟨⟨fun y hy => (List.mem_append.1 hy).elim (HI.out.1.1 y) (fun e => by simp at e; subst e; exact HX.out), HI.out.1.2⟩, HI.out.2⟩⟩
  case done =>
    rintro D ys W hD rfl hI hK
    have cB := hI.1.2.2.1.cell
    have cS := hI.1.2.2.2.1.cell
    have fS := hI.1.2.2.2.1.frozen
    have cE := hI.1.2.2.2.2.cell
    have fE := hI.1.2.2.2.2.frozen
    have hDW := HD.out.turn (Turn.of_below (S := nowhere) hI.2) (fun _ _ => id)
    have HAT := Lib.hid (at_any g b _ s k W hDW hk)
    have hne : ∀ j, j < s.pend.length → (fromEnd s.pend j).2.1 ≠ k := fun j hj => hI.1.1 _ (by simp only [upto, List.mem_map, List.mem_range]; exact ⟨j, hj, rfl⟩)
    have HL := Lib.hid (last_none s k hne)
    have hgd := getD_mem hDW.ok.dblk (b := k) (by rw [hDW.ok.dlen]; exact hk)
    have hreg := hDW.reg.block (n := s.size) (by have := hDW.ok.lo; omega) hDW.ok.dblk k (by rw [hDW.ok.dlen]; exact hk)
    have hcv : ∀ c' m, (convert 68 9 (.slice (some ⟨b, k * s.size, none⟩) s.size c')).run Tryd.prog (W.drewN m) = .ok (.string (strOfNums (s.dur.getD k []))) (W.drewN m) := fun c' m => conv_any b _ _ c' _ (W.drewN m) (hreg.turn (Turn.drewN W m nowhere) id) hgd.1
    have HI := Lib.hid hI
    have HK := Lib.hid hK
    clear hI hK hDW hne hgd hreg hD0 hlt0 b3 b4 b5 bN
    gi_wp2_with fail
    refine ⟨trivial, (callsIn_wide.2 HAT.out).mono ?_⟩
    rintro e w' ⟨c', m, rfl, hc1, hc2, rfl⟩
    have hcv1 := hcv c' m
    clear hcv
    gi_wp2
    obtain ⟨T, hT⟩ : ∃ T, T = strOfNums (s.dur[k]?.getD []) := ⟨_, rfl⟩
    rw [← hT]
    have g4 : Boxed (W.drewN m) (w.heap.size + 1) 9 (.string ⟨#[]⟩) := HI.out.1.2.2.2.1
    have g5 : Boxed (W.drewN m) (w.heap.size + 1 + 1) 24 (.int .i64 0) := HI.out.1.2.2.2.2
    have r4 := ((g4.set (.string T)).other (B' := w.heap.size + 1 + 1) (by omega) (.int .i64 0)).cell
    have r5 := ((g5.other (B' := w.heap.size + 1) (by omega) (.string T)).set (.int .i64 0)).cell
    have hK' := ((KeepsOthers.setCell (W.drewN m) ⟨w.heap.size + 1, 0, none⟩ (.string T)).trans (KeepsOthers.setCell _ ⟨w.heap.size + 1 + 1, 0, none⟩ (.int .i64 0))).same D _ HK.out rfl
    have c4 := cell_kept r4 (grownBy_putObj' _ D (.deferred none)) (fun r e => by cases e; exact ⟨_, hK', rfl⟩)
    have c5 := cell_kept r5 (grownBy_putObj' _ D (.deferred none)) (fun r e => by cases e; exact ⟨_, hK', rfl⟩)
    have hbel := (((Bs.below_drewN m HI.out.2).setCell (p := ⟨w.heap.size + 1, 0, none⟩) (by simp) (.string T)).setCell (p := ⟨w.heap.size + 1 + 1, 0, none⟩) (by simp; omega) (.int .i64 0)).trans (belowK_b (w := w) (Nat.le_refl _) _ D _ (.deferred none) (by omega) hK' rfl rfl)
    refine ⟨by simp, .inl ⟨_, _, rfl, run_takeDeferred hK', ?_⟩⟩
    refine ⟨.tuple #[.string T, .int .i64 0], ?_, ⟨?_, Turn.of_below hbel⟩⟩
    · simp [results, Tryd.f16, go_sem, c4, c5]
    · rw [hT, HL.out]; rfl
  case stop =>
    rintro D c pre W hD ⟨j, hj, rfl⟩ ⟨⟨rfl, ini, last, e1, e2, e3, hb4, hb5⟩, hbw⟩ hK
    gi_wp2
    obtain ⟨j', rfl⟩ : ∃ j', j = j' + 1 := by
      cases j with
      | zero => simp [upto] at e1
      | succ j' => exact ⟨j', rfl⟩
    rw [upto_succ] at e1
    obtain ⟨rfl, e5⟩ := List.append_inj' e1 rfl
    obtain rfl : fromEnd s.pend j' = last := by simpa using e5
    have HL := last_some s k j' (by omega) e3 (fun i hi => e2 _ (by simp only [upto, List.mem_map, List.mem_range]; exact ⟨i, hi, rfl⟩))
    have c4 := cell_kept hb4.cell (grownBy_putObj' _ D (.deferred none)) (fun r e => by cases e; exact ⟨_, hK, rfl⟩)
    have c5 := cell_kept hb5.cell (grownBy_putObj' _ D (.deferred none)) (fun r e => by cases e; exact ⟨_, hK, rfl⟩)
    have hbel := hbw.trans (belowK_b (w := w) (Nat.le_refl _) W D _ (.deferred none) (by omega) hK rfl rfl)
    refine ⟨by simp, .inl ⟨_, _, rfl, run_takeDeferred hK, ?_⟩⟩
    refine ⟨.tuple #[.string (strOfNums (fromEnd s.pend j').2.2), .int .i64 0], ?_, ⟨by rw [HL], Turn.of_below hbel⟩⟩
    simp [results, Tryd.f16, go_sem, c4, c5]
end Go.Proofs.YtjhcjnalomdbnaaDoor.Dv
