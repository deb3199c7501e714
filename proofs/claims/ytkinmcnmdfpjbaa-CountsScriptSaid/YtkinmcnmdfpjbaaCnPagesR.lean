/-
  Pages, one page more: the loop's statement, whatever order it takes.
-/
import Derived.Test.YtkinmcnmdfpjbaaCnRound
import Derived.Test.YtkinmcnmdfpjbaaCnPut
import Derived.Test.YtkinmcnmdfpjbaaCnChunk
import Derived.Test.YtkinmcnmdfpjbaaSSame
import Derived.Laws.AppendOwn
namespace Go.Proofs.Ytkinmcnmdfpjbaa.Cn
open Go.RowKit Bs Dv Gr Dr

/-- append of one value onto an own row that has room: in place -/
theorem run_append_one {P : Program} (w : World) (t ty e : TypeId) (i : TypeInfo) (ht : P.underlying t = some (.slice e)) (hi : P.info? e = some i) (hsize : i.size = 1)
    (base g n S : Nat) (xs : List Value) (x : Value) (hown : w.ownsRow base e 1 (.slice (some ⟨g, 0, none⟩) n S) n xs) (hroom : n + 1 ≤ S) (B c : Nat) (hx : w.cell? ⟨B, 0, none⟩ = some x) (h1 : x.oneCell' = true) :
    ∃ w', (Builtin.append_ #[t, t] ty #[.slice (some ⟨g, 0, none⟩) n S, .slice (some ⟨B, 0, none⟩) 1 c]).run P w = .ok (.slice (some ⟨g, 0, none⟩) (n + 1) S) w' ∧
      w'.ownsRow base e 1 (.slice (some ⟨g, 0, none⟩) (n + 1) S) (n + 1) (xs ++ [x]) ∧ w.grownBy w' (some g) := by
  rcases hown.2 with ⟨e1, _⟩ | ⟨g0, cap, cur, e1, hbg, hg, hnc, hcm, hcs, htake⟩
  · cases e1
  · cases e1
    have hcs' : cur.size = S := by simpa using hcs
    have hr := run_append_room (P := P) w t ty e i ht hi g n S cur hg ⟨B, 0, none⟩ 1 c [x] (by simp [hsize])
      (by
        intro j u hu
        cases j with
        | zero => simp at hu; subst hu; simpa [Addr.add] using hx
        | succ j => simp at hu) (by intro u hu; simp at hu; subst hu; exact h1) hroom (by simp [hsize]; omega)
    refine ⟨_, hr, ⟨by simp [show xs.length = n by simpa using hown.1], .inr ⟨g, S, _, rfl, hbg, setRow_heap w g cur _ e _ hg, hroom, hcm, ?_, ?_⟩⟩, ⟨rfl, rfl, rfl, by simp [World.setRow], fun k _ hk => setRow_other w g k _ (fun e => hk (by rw [e]))⟩⟩
    · simp only [List.size_toArray, List.length_append, List.length_take, List.length_drop, Array.length_toList, hsize, List.length_singleton]
      omega
    · have hx1 : xs.length = n := by simpa using hown.1
      have ht' : cur.toList.take n = xs := by simpa using htake
      simp only [hsize, Nat.mul_one]
      rw [ht', show n + 1 = (xs ++ [x]).length from by simp [hx1]]
      exact List.take_left

theorem wp_store_box {w : World} {o : Oper} {a : Act} {K : Act → World → Prop} {Q : Exit → Act → World → Prop} (hgd : o.dst = none) (x y : Operand) (ho : o.op = .store 37 x y)
    (g : Nat) (hx : a.eval x = .pointer (some ⟨g, 0, none⟩)) (p : Option Addr) (n c : Nat) (hy : a.eval y = .slice p n c) (u : Value) (hb : Boxed w g 37 u)
    (h : K a (w.setCell ⟨g, 0, none⟩ (.slice p n c))) : Oper.wp Try.prog o a w K Q := by
  have e : (execOp a.eval o).run Try.prog w = .ok .skip (w.setCell ⟨g, 0, none⟩ (.slice p n c)) := by
    have c4 := hb.cell
    have f4 := hb.frozen
    generalize a.eval = ev at hx hy ⊢
    simp [go_sem, ho, hx, hy, c4, f4]
  unfold Oper.wp
  rw [e]
  show K (a.put o.dst undef) _
  rw [hgd]
  exact h
theorem wp_append_in {w : World} {o : Oper} {a : Act} {K : Act → World → Prop} {Q : Exit → Act → World → Prop} (s x : Operand) (t : TypeId) (ho : o.op = .call { callee := .builtin .append, args := #[s, x], argTypes := #[t, t] })
    (va vb v : Value) (hs : a.eval s = va) (hx : a.eval x = vb) (w' : World) (hrun : (Builtin.append_ #[t, t] o.type #[va, vb]).run Try.prog w = .ok v w') (h : K (a.put o.dst v) w') : Oper.wp Try.prog o a w K Q := by
  unfold Oper.wp execOp
  simp only [ho, resolve, invoke, builtin, Sem.run_bind, Sem.run_pure, Result.andThen_ok, List.map_toArray, List.map_cons, List.map_nil, hs, hx, hrun]
  exact h
/-- numbers 2 (put), 3 (the literal), 4 (the append), 5 (the store) move memory -/
structure PI (W0 : World) (base PB R cap k : Nat) (xs : List Value) (S : ByteArray) (part : Value) (a0 : Act) (L : Nat → Bool) (a : Act) (W : World) : Prop where
  agr : Agr [25, 26, 27, 28, 29] a0 a
  big : 31 ≤ a0.tmps.size
  v0 : L 0 = true → At a 25 = .slice (some ⟨R, 0, none⟩) k cap
  v1 : L 1 = true → At a 26 = part
  v2 : L 2 = true → At a 27 = .string S
  v3 : L 3 = true → ∃ B, At a 28 = .slice (some ⟨B, 0, none⟩) 1 1 ∧ (L 4 = false → W.cell? ⟨B, 0, none⟩ = some (.string S))
  v4 : L 4 = true → At a 29 = .slice (some ⟨R, 0, none⟩) (k + 1) cap
  turn : Turn W0 W (fun i => i = R ∨ i = PB)
  row : L 4 = false → W.ownsRow base 9 1 (.slice (some ⟨R, 0, none⟩) k cap) k xs
  row2 : L 4 = true → W.ownsRow base 9 1 (.slice (some ⟨R, 0, none⟩) (k + 1) cap) (k + 1) (xs ++ [.string S])
  box : L 5 = false → Boxed W PB 37 (.slice (some ⟨R, 0, none⟩) k cap)
  box2 : L 5 = true → Boxed W PB 37 (.slice (some ⟨R, 0, none⟩) (k + 1) cap)
  o54 : L 5 = true → L 4 = true
  o43 : L 4 = true → L 3 = true
  o40 : L 4 = true → L 0 = true
  o32 : L 3 = true → L 2 = true
section
variable {W0 : World} {base PB R cap k : Nat} {xs : List Value} {S : ByteArray} {part : Value} {a0 : Act} {L : Nat → Bool} {a : Act} {W : World}
theorem upd_no' {L : Nat → Bool} {i j : Nat} (h : upd L i j = false) : L j = false := by
  cases e : L j with
  | false => rfl
  | true => rw [upd_old e] at h; cases h
theorem not_true {b : Bool} (h : b = false) : ¬ b = true := by rw [h]; decide
/-- number 0, 1: a value comes up, memory stays -/
theorem PI.val0 (h : PI W0 base PB R cap k xs S part a0 L a W) : PI W0 base PB R cap k xs S part a0 (upd L 0) (a.put (some 25) (.slice (some ⟨R, 0, none⟩) k cap)) W := by
  have hs : 31 ≤ a.tmps.size := by rw [h.agr.size]; exact h.big
  refine ⟨h.agr.put (by decide) _, h.big, fun _ => At.put_same (by omega), fun p => ?_, fun p => ?_, fun p => ?_, fun p => ?_, h.turn, fun p => h.row (upd_no' p), fun p => h.row2 (upd_not p (by decide)), fun p => h.box (upd_no' p), fun p => h.box2 (upd_not p (by decide)), fun p => upd_old (h.o54 (upd_not p (by decide))), fun p => upd_old (h.o43 (upd_not p (by decide))), fun p => upd_old (h.o40 (upd_not p (by decide))), fun p => upd_old (h.o32 (upd_not p (by decide)))⟩
  · rw [At.put_ne (by decide)]; exact h.v1 (upd_not p (by decide))
  · rw [At.put_ne (by decide)]; exact h.v2 (upd_not p (by decide))
  · rw [At.put_ne (by decide)]
    obtain ⟨B, q1, q2⟩ := h.v3 (upd_not p (by decide))
    exact ⟨B, q1, fun q => q2 (upd_no' q)⟩
  · rw [At.put_ne (by decide)]; exact h.v4 (upd_not p (by decide))
theorem PI.val1 (h : PI W0 base PB R cap k xs S part a0 L a W) : PI W0 base PB R cap k xs S part a0 (upd L 1) (a.put (some 26) part) W := by
  have hs : 31 ≤ a.tmps.size := by rw [h.agr.size]; exact h.big
  refine ⟨h.agr.put (by decide) _, h.big, fun p => ?_, fun _ => At.put_same (by omega), fun p => ?_, fun p => ?_, fun p => ?_, h.turn, fun p => h.row (upd_no' p), fun p => h.row2 (upd_not p (by decide)), fun p => h.box (upd_no' p), fun p => h.box2 (upd_not p (by decide)), fun p => upd_old (h.o54 (upd_not p (by decide))), fun p => upd_old (h.o43 (upd_not p (by decide))), fun p => upd_old (h.o40 (upd_not p (by decide))), fun p => upd_old (h.o32 (upd_not p (by decide)))⟩
  · rw [At.put_ne (by decide)]; exact h.v0 (upd_not p (by decide))
  · rw [At.put_ne (by decide)]; exact h.v2 (upd_not p (by decide))
  · rw [At.put_ne (by decide)]
    obtain ⟨B, q1, q2⟩ := h.v3 (upd_not p (by decide))
    exact ⟨B, q1, fun q => q2 (upd_no' q)⟩
  · rw [At.put_ne (by decide)]; exact h.v4 (upd_not p (by decide))
theorem PI.no4 (h : PI W0 base PB R cap k xs S part a0 L a W) (h3 : L 3 = false) : L 4 = false := by
  cases e : L 4 with
  | false => rfl
  | true => rw [h.o43 e] at h3; cases h3
theorem PI.no5 (h : PI W0 base PB R cap k xs S part a0 L a W) (h4 : L 4 = false) : L 5 = false := by
  cases e : L 5 with
  | false => rfl
  | true => rw [h.o54 e] at h4; cases h4
/-- number 2: put has come back -/
theorem PI.val2 (h : PI W0 base PB R cap k xs S part a0 L a W) (h3 : L 3 = false) {w' : World} (hg : W.grownBy w' none) : PI W0 base PB R cap k xs S part a0 (upd L 2) (a.put (some 27) (.string S)) w' := by
  have hs : 31 ≤ a.tmps.size := by rw [h.agr.size]; exact h.big
  have n4 := h.no4 h3
  have n5 := h.no5 n4
  refine ⟨h.agr.put (by decide) _, h.big, fun p => ?_, fun p => ?_, fun _ => At.put_same (by omega), fun p => absurd (upd_not p (by decide)) (not_true h3), fun p => absurd (upd_not p (by decide)) (not_true n4), h.turn.trans (grown_turn hg) (fun _ _ e => e.elim), fun _ => (h.row n4).kept hg (.inr (fun e => by cases e)), fun p => absurd (upd_not p (by decide)) (not_true n4), fun _ => (h.box n5).kept hg (fun e => by cases e), fun p => absurd (upd_not p (by decide)) (not_true n5), fun p => absurd (upd_not p (by decide)) (not_true n5), fun p => absurd (upd_not p (by decide)) (not_true n4), fun p => absurd (upd_not p (by decide)) (not_true n4), fun p => absurd (upd_not p (by decide)) (not_true h3)⟩
  · rw [At.put_ne (by decide)]; exact h.v0 (upd_not p (by decide))
  · rw [At.put_ne (by decide)]; exact h.v1 (upd_not p (by decide))
/-- number 3: the literal -/
theorem PI.val3 (h : PI W0 base PB R cap k xs S part a0 L a W) (h2 : L 2 = true) (h3 : L 3 = false) : PI W0 base PB R cap k xs S part a0 (upd L 3) (a.put (some 28) (.slice (some ⟨W.heap.size, 0, none⟩) 1 1)) (W.alloc (.cells #[.string S] 9)) := by
  have hs : 31 ≤ a.tmps.size := by rw [h.agr.size]; exact h.big
  have n4 := h.no4 h3
  have n5 := h.no5 n4
  refine ⟨h.agr.put (by decide) _, h.big, fun p => ?_, fun p => ?_, fun p => ?_, fun _ => ⟨W.heap.size, At.put_same (by omega), fun _ => ?_⟩, fun p => absurd (upd_not p (by decide)) (not_true n4), h.turn.trans (Turn.alloc W _ (fun i => i = R ∨ i = PB)) (fun _ _ e => e), fun _ => (h.row n4).alloc _, fun p => absurd (upd_not p (by decide)) (not_true n4), fun _ => (h.box n5).alloc _, fun p => absurd (upd_not p (by decide)) (not_true n5), fun p => absurd (upd_not p (by decide)) (not_true n5), fun p => absurd (upd_not p (by decide)) (not_true n4), fun p => absurd (upd_not p (by decide)) (not_true n4), fun _ => upd_old h2⟩
  · rw [At.put_ne (by decide)]; exact h.v0 (upd_not p (by decide))
  · rw [At.put_ne (by decide)]; exact h.v1 (upd_not p (by decide))
  · rw [At.put_ne (by decide)]; exact h.v2 (upd_not p (by decide))
  · rw [cell_of_row _ _ _ _ _ _ (heap_alloc_new W _)]; rfl
/-- number 4: the append -/
theorem PI.val4 (h : PI W0 base PB R cap k xs S part a0 L a W) (h4 : L 4 = false) (h0 : L 0 = true) (h3 : L 3 = true) (hne : R ≠ PB) {w' : World} (ho : w'.ownsRow base 9 1 (.slice (some ⟨R, 0, none⟩) (k + 1) cap) (k + 1) (xs ++ [.string S])) (hg : W.grownBy w' (some R)) :
    PI W0 base PB R cap k xs S part a0 (upd L 4) (a.put (some 29) (.slice (some ⟨R, 0, none⟩) (k + 1) cap)) w' := by
  have hs : 31 ≤ a.tmps.size := by rw [h.agr.size]; exact h.big
  have n5 := h.no5 h4
  refine ⟨h.agr.put (by decide) _, h.big, fun p => ?_, fun p => ?_, fun p => ?_, fun p => ?_, fun _ => At.put_same (by omega), h.turn.trans (Turn.of_grown hg (S := (· = R)) (fun i e _ => by cases e; rfl)) (fun _ _ e => .inl e), fun p => (by rw [upd_self] at p; cases p), fun _ => ho, fun _ => (h.box n5).kept hg (fun e => hne (by cases e; rfl)), fun p => absurd (upd_not p (by decide)) (not_true n5), fun p => absurd (upd_not p (by decide)) (not_true n5), fun _ => upd_old h3, fun _ => upd_old h0, fun p => upd_old (h.o32 (upd_not p (by decide)))⟩
  · rw [At.put_ne (by decide)]; exact h.v0 (upd_not p (by decide))
  · rw [At.put_ne (by decide)]; exact h.v1 (upd_not p (by decide))
  · rw [At.put_ne (by decide)]; exact h.v2 (upd_not p (by decide))
  · rw [At.put_ne (by decide)]
    obtain ⟨B, q1, q2⟩ := h.v3 h3
    exact ⟨B, q1, fun q => by rw [upd_self] at q; cases q⟩
/-- number 5: the store -/
theorem PI.val5 (h : PI W0 base PB R cap k xs S part a0 L a W) (h4 : L 4 = true) (h5 : L 5 = false) (hne : R ≠ PB) : PI W0 base PB R cap k xs S part a0 (upd L 5) a (W.setCell ⟨PB, 0, none⟩ (.slice (some ⟨R, 0, none⟩) (k + 1) cap)) := by
  refine ⟨h.agr, h.big, fun p => h.v0 (upd_not p (by decide)), fun p => h.v1 (upd_not p (by decide)), fun p => h.v2 (upd_not p (by decide)), fun p => ?_, fun _ => h.v4 h4, h.turn.trans (Turn.setCell W _ _ (S := (· = PB)) rfl) (fun _ _ e => .inr e), fun p => absurd h4 (not_true (upd_no' p)), fun _ => (h.row2 h4).kept (grownBy_setCell' W PB _) (.inr (fun e => hne (by simpa [Value.ownBlock] using e))), fun p => (by rw [upd_self] at p; cases p), fun _ => (h.box h5).set _, fun _ => upd_old h4, fun p => upd_old (h.o43 (upd_not p (by decide))), fun p => upd_old (h.o40 (upd_not p (by decide))), fun p => upd_old (h.o32 (upd_not p (by decide)))⟩
  obtain ⟨B, q1, q2⟩ := h.v3 (upd_not p (by decide))
  exact ⟨B, q1, fun q => absurd (upd_old h4) (not_true q)⟩
end
end Go.Proofs.Ytkinmcnmdfpjbaa.Cn
