/-
  A region that draws its order, many operations long, guarded: every value is known but one, which a call makes.
-/
import Derived.Test.YtfojkglindpjjaaDoorSuLaw
import Derived.Test.YtfojkglindpjjaaDoorDrawVal
namespace Go.Proofs.YtfojkglindpjjaaDoor.Su
open Go.RowKit Bs Dv Gr Dr

theorem getD_in {S : List Nat} {i : Nat} (hi : i < S.length) : S.getD i 0 ∈ S := by
  rw [List.getD_eq_getElem?_getD, List.getElem?_eq_getElem hi]
  exact List.getElem_mem hi
/-- a guarded operation whose guard's slot bears true -/
theorem StepAt.mkg {P : Program} {ops : Array Oper} {Q : Exit → Act → World → Prop} {md : Region.Mode} {I : (Nat → Bool) → Act → World → Prop} {i : Nat} {o : Oper} {ns : List Nat} (ho : ops[i]? = some o) (hn : needs md o = ns) (j d : Nat) (hg : o.guard = some (j, true))
    (hd : (ops[j]?).bind (·.dst) = some d) (ht : ∀ L a w, (∀ j ∈ ns, L j = true) → I L a w → a.tmps[d]?.getD undef = .bool true)
    (h : ∀ L a w, L i = false → (∀ j ∈ ns, L j = true) → I L a w → o.wp P a w (I (upd L i)) Q) : StepAt P md ops Q I i := by
  intro L a w h0 h1 h2
  have hns : ∀ j ∈ ns, L j = true := fun j hj => h1 o ho j (by rw [hn]; exact hj)
  have hh := ht L a w hns h2
  unfold wpOp
  rw [ho]
  show if Region.wanted o (yielded ops a.tmps) = true then _ else _
  have hw : Region.wanted o (yielded ops a.tmps) = true := by
    unfold Region.wanted
    rw [hg]
    show (yielded ops a.tmps j == some true) = true
    unfold yielded
    rw [hd]
    show ((match a.tmps[d]? with | some (.bool b) => some b | _ => none) == some true) = true
    cases e : a.tmps[d]? with
    | none => rw [e] at hh; cases hh
    | some v => rw [e] at hh; have h3 : v = .bool true := hh; subst h3; rfl
  rw [if_pos hw]
  exact .inl (h L a w h0 hns h2)

/-- Number k's value is made by a call: a slice of one page. -/
structure EI (S : List Nat) (V : Nat → List Value) (k : Nat) (w0 : World) (a0 : Act) (L : Nat → Bool) (x : Act) (W : World) : Prop where
  ex : ∃ g, VI S S (V g) (fun L W => w0.grownBy W none ∧ (L k = true → Ws.Seg W (some ⟨g, 0, none⟩) 1 1 [2])) a0 L x W
section
variable {S : List Nat} {V : Nat → List Value} {k : Nat} {w0 : World} {a0 : Act} {L : Nat → Bool} {x : Act} {W : World}
theorem EI.start (n : Nat) (hn : n ≤ a0.tmps.size) (h : ∀ d ∈ S, d < n) (hg : w0.grownBy W none) : EI S V k w0 a0 (fun _ => false) a0 W := ⟨0, VI.start n hn h ⟨hg, fun h => by cases h⟩⟩
theorem EI.grown (h : EI S V k w0 a0 L x W) : w0.grownBy W none := by
  obtain ⟨g, h⟩ := h.ex
  exact h.mem.1
theorem EI.value (h : EI S V k w0 a0 L x W) (hS : S.Nodup) (i : Nat) (hi : i < S.length) (hk : i ≠ k) {v : Value} (hv : ∀ g, v = (V g).getD i undef) {w' : World} (hg : W.grownBy w' none) : EI S V k w0 a0 (upd L i) (x.put (some (S.getD i 0)) v) w' := by
  obtain ⟨g, h⟩ := h.ex
  exact ⟨g, h.value hS i hi (getD_in hi) (hv g) ⟨grown_then h.mem.1 hg, fun hl => (h.mem.2 (upd_not hl hk.symm)).grown hg⟩⟩
theorem EI.yield (h : EI S V k w0 a0 L x W) (hS : S.Nodup) (i : Nat) (hi : i < S.length) (hk : i ≠ k) {v : Value} (hv : ∀ g, v = (V g).getD i undef) : EI S V k w0 a0 (upd L i) (x.put (some (S.getD i 0)) v) W := h.value hS i hi hk hv (grown_refl _)
theorem EI.get (h : EI S V k w0 a0 L x W) (i : Nat) (hi : i < S.length) {v : Value} (hv : ∀ g, (V g).getD i undef = v) (hl : L i = true) : x.tmps[S.getD i 0]?.getD undef = v := by
  obtain ⟨g, h⟩ := h.ex
  rw [h.get i hi (getD_in hi) hl, hv]
theorem EI.old (h : EI S V k w0 a0 L x W) (d : Nat) (hD : d ∉ S) : x.tmps[d]?.getD undef = a0.tmps[d]?.getD undef := by
  obtain ⟨g, h⟩ := h.ex
  exact h.old d hD
theorem EI.made (h : EI S V k w0 a0 L x W) (hi : k < S.length) (f : Nat → Value) (hv : ∀ g, (V g).getD k undef = f g) (hl : L k = true) : ∃ g, x.tmps[S.getD k 0]?.getD undef = f g ∧ Ws.Seg W (some ⟨g, 0, none⟩) 1 1 [2] := by
  obtain ⟨g, h⟩ := h.ex
  exact ⟨g, by rw [h.get k hi (getD_in hi) hl, hv], h.mem.2 hl⟩
theorem EI.call (h : EI S V k w0 a0 L x W) (hS : S.Nodup) (hi : k < S.length) (h0 : L k = false) (f : Nat → Value) (hV : ∀ g j, j ≠ k → (V g).getD j undef = (V 0).getD j undef) (hf : ∀ g, (V g).getD k undef = f g) {w' : World} {g' : Nat} (hg : W.grownBy w' none)
    (hs : Ws.Seg w' (some ⟨g', 0, none⟩) 1 1 [2]) : EI S V k w0 a0 (upd L k) (x.put (some (S.getD k 0)) (f g')) w' := by
  obtain ⟨g, h⟩ := h.ex
  have h2 : VI S S (V g') (fun L W => w0.grownBy W none ∧ (L k = true → Ws.Seg W (some ⟨g', 0, none⟩) 1 1 [2])) a0 L x W := ⟨h.agr, h.big, fun i hi hd hl => by
    have hne : i ≠ k := fun e => by rw [e, h0] at hl; cases hl
    rw [hV g' i hne, ← hV g i hne]
    exact h.vals i hi hd hl, h.mem.1, fun hl => by rw [h0] at hl; cases hl⟩
  exact ⟨g', h2.value hS k hi (getD_in hi) (hf g').symm ⟨grown_then h.mem.1 hg, fun _ => hs⟩⟩
theorem EI.size (h : EI S V k w0 a0 L x W) : x.tmps.size = a0.tmps.size := by
  obtain ⟨g, h⟩ := h.ex
  exact h.agr.size
theorem EI.defers (h : EI S V k w0 a0 L x W) : x.defers = a0.defers := by
  obtain ⟨g, h⟩ := h.ex
  exact h.agr.defers
end
end Go.Proofs.YtfojkglindpjjaaDoor.Su
