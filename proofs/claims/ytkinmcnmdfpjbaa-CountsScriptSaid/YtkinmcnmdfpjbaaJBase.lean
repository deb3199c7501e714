/-
  Slices of numbers with a sign that read as a list (the twin of Base's slices of bytes).
-/
import Derived.Test.YtkinmcnmdfpjbaaBase
namespace Go.Proofs.Ytkinmcnmdfpjbaa.Js
open Go.RowKit
open Bs (grownBy_trans ownsRow_mono)

/-- all are numbers of 64 bits with a sign -/
def IsI (l : List Int) : Prop := ∀ x ∈ l, -9223372036854775808 ≤ x ∧ x ≤ 9223372036854775807

/-- A slice of numbers that reads as the list l. -/
structure Seg (w : World) (a : Option Addr) (n c : Nat) (l : List Int) : Prop where
  len : l.length = n
  le : n ≤ c
  cap : c ≤ maxLen
  nil_ : a = none → n = 0 ∧ c = 0
  at_ : ∀ ad, a = some ad → ∀ j u, (l.map (Value.int .i64))[j]? = some u → w.cell? (ad.add j) = some u

theorem Seg.nil (w : World) : Seg w none 0 0 [] := ⟨rfl, Nat.le_refl _, by unfold maxLen; omega, fun _ => ⟨rfl, rfl⟩, fun _ h => by cases h⟩

/-- A slice of the call's own reads as what it owns. -/
theorem Seg.own {w : World} {base e g n c : Nat} {l : List Int} (h : w.ownsRow base e 1 (.slice (some ⟨g, 0, none⟩) n c) n (l.map (Value.int .i64))) : Seg w (some ⟨g, 0, none⟩) n c l := by
  have hl : l.length = n := by simpa using h.1
  refine ⟨hl, ?_, ?_, fun e => by (cases e), ?_⟩
  · rcases h.2 with ⟨e, _⟩ | ⟨g', cap, cur, e, _, _, h1, h2, _⟩
    · cases e
    · cases e; exact h1
  · rcases h.2 with ⟨e, _⟩ | ⟨g', cap, cur, e, _, _, h1, h2, _⟩
    · cases e
    · cases e; exact h2
  · intro ad had j u hu
    cases had
    exact h.cells rfl j u hu

theorem Seg.kept {w w' : World} {a : Option Addr} {n c : Nat} {l : List Int} (h : Seg w a n c l) {row : Option Nat} (hg : w.grownBy w' row) (hne : ∀ ad, a = some ad → row ≠ some ad.block) : Seg w' a n c l := by
  refine ⟨h.len, h.le, h.cap, h.nil_, fun ad had j u hu => hg.cell (h.at_ ad had j u hu) ?_⟩
  intro e
  have : (ad.add j).block = ad.block := by unfold Addr.add; split <;> rfl
  rw [this] at e
  exact hne ad had e.symm

theorem Seg.grown {w w' : World} {a : Option Addr} {n c : Nat} {l : List Int} (h : Seg w a n c l) (hg : w.grownBy w' none) : Seg w' a n c l := h.kept hg (fun _ _ e => by cases e)

theorem Seg.addr {w : World} {a : Option Addr} {n c : Nat} {l : List Int} (h : Seg w a n c l) (hn : 0 < n) : ∃ g o, a = some ⟨g, o, none⟩ ∧ ∀ j, j < n → w.cell? ⟨g, o + j, none⟩ = some (.int .i64 (l.getD j 0)) := by
  have hl := h.len
  cases a with
  | none => have := h.nil_ rfl; omega
  | some ad =>
    have hc := h.at_ ad rfl
    obtain ⟨g, o, spot⟩ := ad
    have h0 := hc 0 (.int .i64 (l.getD 0 0)) (by simp [List.getD]; rw [List.getElem?_eq_getElem (by omega)]; rfl)
    have hspot : spot = none := by simpa [Addr.add] using World.cell?_spot h0
    subst hspot
    refine ⟨g, o, rfl, fun j hj => ?_⟩
    have h1 := hc j (.int .i64 (l.getD j 0)) (by simp [List.getD]; rw [List.getElem?_eq_getElem (by omega)]; rfl)
    rw [Addr.add_lit] at h1
    exact h1

/-- The first m of what a slice reads. -/
theorem Seg.take {w : World} {a : Option Addr} {n c m : Nat} {l : List Int} (h : Seg w a n c l) (hm : m ≤ n) : Seg w a m c (l.take m) := by
  refine ⟨by rw [List.length_take, h.len]; omega, Nat.le_trans hm h.le, h.cap, fun e => ⟨by have := (h.nil_ e).1; omega, (h.nil_ e).2⟩, fun ad had j u hu => h.at_ ad had j u ?_⟩
  rw [List.map_take] at hu
  have hj : j < m := by
    have := (List.getElem?_eq_some_iff.1 hu).1
    rw [List.length_take] at this
    omega
  rwa [List.getElem?_take_of_lt hj] at hu

/-- What a slice reads from k on. -/
theorem Seg.drop {w : World} {g o n c k : Nat} {l : List Int} (h : Seg w (some ⟨g, o, none⟩) n c l) (hk : k ≤ n) : Seg w (some ⟨g, o + k, none⟩) (n - k) (c - k) (l.drop k) := by
  refine ⟨by rw [List.length_drop, h.len], by have := h.le; omega, by have := h.cap; omega, (fun e => by cases e), fun ad had j u hu => ?_⟩
  cases had
  rw [List.map_drop, List.getElem?_drop] at hu
  have h1 := h.at_ _ rfl (k + j) u hu
  rw [Addr.add_lit] at h1 ⊢
  rw [Nat.add_assoc]
  exact h1

/-- What any slice that is not nil reads from k on. -/
theorem Seg.dropAd {w : World} {x : Addr} {n c k : Nat} {l : List Int} (h : Seg w (some x) n c l) (hk : k ≤ n) : Seg w (some (x.add k)) (n - k) (c - k) (l.drop k) := by
  refine ⟨by rw [List.length_drop, h.len], by have := h.le; omega, by have := h.cap; omega, (fun e => by cases e), fun ad had j u hu => ?_⟩
  cases had
  rw [List.map_drop, List.getElem?_drop] at hu
  rw [Go.Deep.add_add]
  exact h.at_ _ rfl (k + j) u hu
/-- A slice of no numbers. -/
theorem Seg.empty (w : World) (x : Addr) (c : Nat) (hc : c ≤ maxLen) : Seg w (some x) 0 c [] := ⟨rfl, Nat.zero_le _, hc, (fun e => by cases e), fun _ _ j u hu => by simp at hu⟩

/-- 's[k:]' as the walk spells it, s any slice. -/
theorem Seg.from_ {w : World} {a : Option Addr} {n c k : Nat} {l : List Int} (h : Seg w a n c l) (hk : k ≤ n) : Seg w (if c = k then a else Option.map (fun x => x.add k) a) (n - k) (c - k) (l.drop k) := by
  have hle := h.le
  have hl := h.len
  cases a with
  | none =>
    obtain ⟨rfl, rfl⟩ := h.nil_ rfl
    obtain rfl : k = 0 := by omega
    obtain rfl := List.eq_nil_of_length_eq_zero hl
    exact Seg.nil w
  | some x =>
    by_cases e : c = k
    · rw [if_pos e]
      have hz : l.drop k = [] := List.drop_eq_nil_of_le (by omega)
      rw [hz, show n - k = 0 from by omega, show c - k = 0 from by omega]
      exact Seg.empty w x 0 (by unfold maxLen; omega)
    · rw [if_neg e]
      exact h.dropAd hk

/-- An argument's row of numbers, as a slice that reads. -/
theorem Seg.row {w : World} {x : Addr} {n c : Nat} {zs : List Int} (hl : n ≤ c) (hm : c ≤ maxLen) (hz : zs.length = c) (hcell : ∀ i, i < zs.length → w.cell? (x.add i) = some (.int .i64 (zs.getD i 0))) :
    Seg w (some x) n c (zs.take n) := by
  refine ⟨by rw [List.length_take]; omega, hl, hm, (fun e => by cases e), ?_⟩
  intro ad had j u hu
  cases had
  have hj : j < n := by
    have := (List.getElem?_eq_some_iff.1 hu).1
    simp at this
    omega
  rw [hcell j (by omega)]
  rw [List.getElem?_map, List.getElem?_take_of_lt hj] at hu
  simp only [List.getD]
  cases hq : zs[j]? with
  | none => rw [hq] at hu; cases hu
  | some y => rw [hq] at hu; exact hu
theorem isI_row {zs : List Int} (h : ∀ n ∈ zs, (Lit.int .i64 n).wf = true) (n : Nat) : IsI (zs.take n) := by
  intro x hx
  have := h x (List.mem_of_mem_take hx)
  have : -9223372036854775808 ≤ x ∧ x ≤ 9223372036854775807 := by simpa [Lit.wf, IntKind.min, IntKind.max, IntKind.signed, IntKind.bits] using this
  omega

theorem info_int : (Try.prog.info? 3).map (fun i => (i.zero, i.size, i.bytes)) = some (some (.int .i64 0), 1, 8) := by kernel_rfl

/-- What is handed back is new memory that reads as l; nothing that was there has turned. -/
def NewB (w : World) (l : List Int) (e : Ending) (w' : World) : Prop :=
  ∃ g, e = .returned (.slice (some ⟨g, 0, none⟩) l.length l.length) ∧ w'.ownsRow w.heap.size 3 1 (.slice (some ⟨g, 0, none⟩) l.length l.length) l.length (l.map (Value.int .i64)) ∧ w.grownBy w' none

/-- 'append(v, s...)' ONTO A ROW OF THE CALL's OWN THAT IS NOT nil, s any slice of bytes, nil too. -/
theorem wp_append_seg {P : Program} {w : World} {o : Oper} {a : Act} {K : Act → World → Prop} {Q : Exit → Act → World → Prop} (s x : Operand) (t : TypeId)
    (ho : o.op = .call { callee := .builtin .append, args := #[s, x], argTypes := #[t, t] }) (base : Nat) (e : TypeId) (i : TypeInfo) (ht : P.underlying t = some (.slice e)) (hi : P.info? e = some i) (hz : i.zero = some (.int .i64 0)) (hsize : i.size = 1) (hby : i.bytes = 8)
    (g n0 c0 : Nat) (xs : List Value) (hs : a.eval s = .slice (some ⟨g, 0, none⟩) n0 c0) (hown : w.ownsRow base e 1 (.slice (some ⟨g, 0, none⟩) n0 c0) n0 xs)
    (sp : Option Addr) (n c : Nat) (l : List Int) (hx : a.eval x = .slice sp n c) (hseg : Seg w sp n c l) (hbytes : (n0 + n) * 8 ≤ 140737488355328) (hbase : base ≤ w.heap.size)
    (h : ∀ g' c' w', w'.ownsRow base e 1 (.slice (some ⟨g', 0, none⟩) (n0 + n) c') (n0 + n) (xs ++ l.map (Value.int .i64)) → w.grownBy w' (some g) → K (a.put o.dst (.slice (some ⟨g', 0, none⟩) (n0 + n) c')) w') : o.wp P a w K Q := by
  cases sp with
  | none =>
    obtain ⟨rfl, rfl⟩ := hseg.nil_ rfl
    obtain rfl := List.eq_nil_of_length_eq_zero hseg.len
    have hrun := run_append_owned_none (P := P) (w := w) base t o.type e i 1 ht hi _ n0 xs hown
    unfold Oper.wp
    simp [execOp, ho, resolve, invoke, builtin, hs, hx, hrun, Result.andThen]
    exact h g c0 w (by simpa using hown) ⟨rfl, rfl, rfl, Nat.le_refl _, fun _ _ _ => rfl⟩
  | some ad =>
    refine wp_append_own w s x t ho base e i (.int .i64 0) 1 8 ht hi hz hsize hby rfl (by decide) _ n0 xs hs hown ad n c (l.map (Value.int .i64)) hx (by simp [hseg.len]) (hseg.at_ ad rfl) (ints_oneCell _ _) (by unfold maxLen; omega) (by omega) hbase ?_
    intro v' w1 hown1 hg1 hnil
    rcases hown1.2 with ⟨e1, _⟩ | ⟨g', c', cur, e1, _⟩
    · exact absurd (hnil.1 e1).1 (by simp)
    · subst e1
      exact h g' c' w1 hown1 hg1
theorem wpList_append_seg {P : Program} {w : World} {ops : Array Oper} {rest : List Oper} {o : Oper} {a : Act} {Q : Exit → Act → World → Prop} (hgd : o.guard = none) (s x : Operand) (t : TypeId)
    (ho : o.op = .call { callee := .builtin .append, args := #[s, x], argTypes := #[t, t] }) (base : Nat) (e : TypeId) (i : TypeInfo) (ht : P.underlying t = some (.slice e)) (hi : P.info? e = some i) (hz : i.zero = some (.int .i64 0)) (hsize : i.size = 1) (hby : i.bytes = 8)
    (g n0 c0 : Nat) (xs : List Value) (hs : a.eval s = .slice (some ⟨g, 0, none⟩) n0 c0) (hown : w.ownsRow base e 1 (.slice (some ⟨g, 0, none⟩) n0 c0) n0 xs)
    (sp : Option Addr) (n c : Nat) (l : List Int) (hx : a.eval x = .slice sp n c) (hseg : Seg w sp n c l) (hbytes : (n0 + n) * 8 ≤ 140737488355328) (hbase : base ≤ w.heap.size)
    (h : ∀ g' c' w', w'.ownsRow base e 1 (.slice (some ⟨g', 0, none⟩) (n0 + n) c') (n0 + n) (xs ++ l.map (Value.int .i64)) → w.grownBy w' (some g) → wpList P ops Q rest (a.put o.dst (.slice (some ⟨g', 0, none⟩) (n0 + n) c')) w') : wpList P ops Q (o :: rest) a w :=
  wpList_plain hgd fun _ hK => wp_append_seg s x t ho base e i ht hi hz hsize hby g n0 c0 xs hs hown sp n c l hx hseg hbytes hbase fun g' c' w' h1 h2 => hK _ _ (h g' c' w' h1 h2)

/-- A literal of numbers, as a slice that reads. -/
theorem lit_seg (w : World) (l : List Int) (hl : l.length ≤ 1000) : Seg (w.alloc (.cells (l.map (Value.int .i64)).toArray 3)) (some ⟨w.heap.size, 0, none⟩) l.length l.length l := by
  have h := World.ownsRow_lit (base := w.heap.size) (e := 3) (size := 1) w (l.map (Value.int .i64)).toArray l.length (Nat.le_refl _) (by unfold maxLen; omega) (by simp)
  have e : (l.map (Value.int .i64)).toArray.toList = l.map (Value.int .i64) := by simp
  rw [e] at h
  exact Seg.own h

theorem lit_seg_mark (w : World) (l : List Int) (fr : Nat × Nat) (hl : l.length ≤ 1000) : Seg (w.alloc (.cells (l.map (Value.int .i64)).toArray 3 fr)) (some ⟨w.heap.size, 0, none⟩) l.length l.length l := by
  refine ⟨rfl, Nat.le_refl _, by unfold maxLen; omega, (fun e => by cases e), fun ad had j u hu => ?_⟩
  cases had
  rw [Addr.add_lit, World.cell?_alloc_mark]
  simpa using hu

end Go.Proofs.Ytkinmcnmdfpjbaa.Js
