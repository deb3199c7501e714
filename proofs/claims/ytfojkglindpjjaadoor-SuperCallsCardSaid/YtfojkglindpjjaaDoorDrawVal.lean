/-
  A region that draws its order, by an invariant: values in slots, each once it is done, and what is known of memory.
-/
import Derived.Test.YtfojkglindpjjaaDoorDrawn
namespace Go.Proofs.YtfojkglindpjjaaDoor.Dr
open Go.RowKit Go

/-- Operation i's value lies in slot S[i]; a slot outside D bears none. -/
structure VI (D S : List Nat) (V : List Value) (M : (Nat → Bool) → World → Prop) (a0 : Act) (L : Nat → Bool) (a : Act) (w : World) : Prop where
  agr : Agr D a0 a
  big : ∀ d ∈ D, d < a0.tmps.size
  vals : ∀ i, i < S.length → S.getD i 0 ∈ D → L i = true → At a (S.getD i 0) = V.getD i undef
  mem : M L w
theorem VI.start {D S : List Nat} {V : List Value} {M : (Nat → Bool) → World → Prop} {a0 : Act} {w : World} (n : Nat) (hn : n ≤ a0.tmps.size) (h : ∀ d ∈ D, d < n) (hM : M (fun _ => false) w) : VI D S V M a0 (fun _ => false) a0 w :=
  ⟨Agr.refl _ _, fun d hd => Nat.lt_of_lt_of_le (h d hd) hn, (fun _ _ _ h => by cases h), hM⟩
theorem getD_inj {S : List Nat} (hS : S.Nodup) {i j : Nat} (hi : i < S.length) (hj : j < S.length) (h : S.getD i 0 = S.getD j 0) : i = j := by
  simp only [List.getD, List.getElem?_eq_getElem hi, List.getElem?_eq_getElem hj, Option.getD_some] at h
  have hp := List.pairwise_iff_getElem.1 hS
  rcases Nat.lt_trichotomy i j with e | e | e
  · exact absurd h (hp i j hi hj e)
  · exact e
  · exact absurd h.symm (hp j i hj hi e)
/-- A value comes up. -/
theorem VI.value {D S : List Nat} {V : List Value} {M : (Nat → Bool) → World → Prop} {a0 : Act} {L : Nat → Bool} {a : Act} {w w' : World} (h : VI D S V M a0 L a w) (hS : S.Nodup) (i : Nat) (hi : i < S.length) (hD : S.getD i 0 ∈ D) {v : Value} (hv : v = V.getD i undef) (hM : M (upd L i) w') :
    VI D S V M a0 (upd L i) (a.put (some (S.getD i 0)) v) w' := by
  refine ⟨h.agr.put hD v, h.big, fun j hj hjD hl => ?_, hM⟩
  by_cases e : j = i
  · subst e
    rw [At.put_same (by rw [h.agr.size]; exact h.big _ hD), hv]
  · rw [At.put_ne (fun q => e (getD_inj hS hj hi q))]
    exact h.vals j hj hjD (upd_not hl e)
/-- An operation that yields nothing. -/
theorem VI.other {D S : List Nat} {V : List Value} {M : (Nat → Bool) → World → Prop} {a0 : Act} {L : Nat → Bool} {a : Act} {w w' : World} (h : VI D S V M a0 L a w) (i : Nat) (hD : S.getD i 0 ∉ D) (hM : M (upd L i) w') : VI D S V M a0 (upd L i) a w' :=
  ⟨h.agr, h.big, fun j hj hjD hl => h.vals j hj hjD (upd_not hl (fun e => hD (by rw [← e]; exact hjD))), hM⟩
theorem VI.get {D S : List Nat} {V : List Value} {M : (Nat → Bool) → World → Prop} {a0 : Act} {L : Nat → Bool} {a : Act} {w : World} (h : VI D S V M a0 L a w) (i : Nat) (hi : i < S.length) (hD : S.getD i 0 ∈ D) (hl : L i = true) : a.tmps[S.getD i 0]?.getD undef = V.getD i undef := by
  have := h.vals i hi hD hl
  unfold At at this
  rwa [Array.getD_eq_getD_getElem?] at this
theorem VI.old {D S : List Nat} {V : List Value} {M : (Nat → Bool) → World → Prop} {a0 : Act} {L : Nat → Bool} {a : Act} {w : World} (h : VI D S V M a0 L a w) (d : Nat) (hD : d ∉ D) : a.tmps[d]?.getD undef = a0.tmps[d]?.getD undef := by
  rw [h.agr.same d hD]
theorem wp_func_any {P : Program} {Q : Exit → Act → World → Prop} {o : Oper} {a : Act} {w : World} {f : FuncId} {vs : Array Value} {R : Ending → World → Prop} {K : Act → World → Prop} (hy : (execOp a.eval o).run P w = .ok (.enter f vs) w)
    (h : Calls P f vs w R) (hK : ∀ e w', R e w' → ∃ v, e = .returned v ∧ K (a.put o.dst v) w') : o.wp P a w K Q := by
  unfold Oper.wp
  rw [hy]
  exact h.mono fun e w' hr => by
    obtain ⟨v, he, hk⟩ := hK e w' hr
    subst he
    exact hk
end Go.Proofs.YtfojkglindpjjaaDoor.Dr
