/-
  A region that draws its order, in a round of a range over a function: by the plain walk's ways.
-/
import Derived.Test.YtkinmcnmdfpjbaaCnFeed
import Derived.Test.YtkinmcnmdfpjbaaDrawn
import Derived.Deep.RegionLaw
import Derived.OrdersIn
namespace Go.Proofs.Ytkinmcnmdfpjbaa.Cf
open Go.RowKit Go
open Dr (StepAt backB wpAny_inv)
variable {P : Program} {ops : Array Oper} {Q : Exit → Act → World → Prop} {md : Region.Mode}

theorem rows_round {l n : Nat} {row : String} {args : Array Value} {w : World} {R : Value → World → Prop} (h : Rows P row args w R) : RowsIn (Fence.wide.inRound l) n P row args w R :=
  fun c cs _ => let ⟨v, w', r, s⟩ := h c cs; ⟨v, w', r, stepsIn_wide.2 s⟩

/-- An operation that is no defer statement goes in a round as it goes elsewhere. -/
theorem oper_round {l n : Nat} {o : Oper} {a : Act} {w : World} {K K' : Act → World → Prop} (hd : ∀ c, o.op ≠ .defer c) (hK : ∀ a w, K a w → K' a w) (h : o.wp P a w K Q) : o.wpIn (Fence.wide.inRound l) n P a w K' Q := by
  refine Oper.wpIn_mono hK ⟨fun _ _ => trivial, ?_⟩
  rw [show (Fence.wide.inRound l).round = some l from rfl, Oper.semAt_eq _ _ _ hd]
  unfold Oper.wp at h
  generalize (execOp a.eval o).run P w = r at h
  cases r with
  | ok x w' =>
    cases x with
    | enter f args => exact ⟨(fun hh => by cases hh), (callsIn_wide.2 h).inRound l⟩
    | row r args => exact ⟨(fun hh => by cases hh), rows_round h⟩
    | round => exact (h : False).elim
    | value => exact h
    | skip => exact h
    | defer => exact h
    | _ => exact (h : False).elim
  | halt x w' => cases x <;> exact h

theorem any_round {l n : Nat} (hd : ∀ (i : Nat) (o : Oper), ops[i]? = some o → ∀ c : Call, o.op ≠ .defer c) (hL : ¬ LetsOut Q) : ∀ (fuel : Nat) (listed : Array Bool) (a : Act) (w : World),
    wpAny P md ops Q fuel listed a w → wpAnyIn (Fence.wide.inRound l) n P md ops Q fuel listed a w
  | 0, _, _, _, h => h
  | fuel + 1, listed, a, w, h => by
    refine ⟨h.1, fun i hi => ?_⟩
    have h2 := h.2 i hi
    unfold wpOp at h2
    unfold wpOpIn
    cases ho : ops[i]? with
    | none => rw [ho] at h2; exact any_round hd hL fuel _ a w h2
    | some o =>
      rw [ho] at h2
      dsimp only at h2 ⊢
      by_cases hw : Region.wanted o (yielded ops a.tmps) = true
      · rw [if_pos hw] at h2 ⊢
        rcases h2 with h2 | h2
        · exact oper_round (hd i o ho) (fun a w k => any_round hd hL fuel _ a w k) h2
        · exact absurd h2.2 hL
      · rw [if_neg hw] at h2 ⊢
        exact ⟨fun _ _ => trivial, any_round hd hL fuel _ _ w h2⟩

/-- no operation is a defer statement -/
def noDefer (ops : Array Oper) : Bool := ops.toList.all fun o => match o.op with | .defer _ => false | _ => true
theorem noDefer_at {ops : Array Oper} (h : noDefer ops = true) : ∀ (i : Nat) (o : Oper), ops[i]? = some o → ∀ c : Call, o.op ≠ .defer c := by
  intro i o ho c hc
  have hm : o ∈ ops.toList := by
    rw [← Array.getElem?_toList] at ho
    exact List.mem_of_getElem? ho
  have := List.all_eq_true.1 h o hm
  rw [hc] at this
  cases this

/-- **A region in a round, by the plain walk's ways.** -/
theorem region_round {l n id : Nat} {a : Act} {w : World} (hm : P.follows .mixedOrders = true) (hd : noDefer ops = true) (hL : ¬ LetsOut Q)
    (h : wpAny P .any ops Q ops.size (Array.replicate ops.size false) a w.drew) : (Code.region id ops true).wpIn (Fence.wide.inRound l) n P Q a w :=
  wpIn_region_any hm (any_round (noDefer_at hd) hL _ _ _ _ h)


/-- .. by an invariant. -/
theorem region_round_inv {l n id : Nat} {I : (Nat → Bool) → Act → World → Prop} {a : Act} {w : World} (hm : P.follows .mixedOrders = true) (hd : noDefer ops = true) (hL : ¬ LetsOut Q) (hb : backB .any ops = true) (h0 : I (fun _ => false) a w.drew)
    (hstep : ∀ i, i < ops.size → StepAt P .any ops Q I i) (hend : ∀ L a w, (∀ i, i < ops.size → L i = true) → I L a w → Q .normal a w) : (Code.region id ops true).wpIn (Fence.wide.inRound l) n P Q a w := by
  refine region_round hm hd hL ?_
  refine wpAny_inv hb hstep hend _ _ _ _ (by simp) ?_ ?_
  · exact Nat.le_trans List.countP_le_length (by simp)
  · refine cast (congrArg (fun L => I L a w.drew) (funext fun j => ?_)) h0
    rw [Array.getD_eq_getD_getElem?]
    by_cases hj : j < ops.size
    · simp [hj]
    · simp [hj]
theorem region_round_inv_at {l n id : Nat} {I : Act → (Nat → Bool) → Act → World → Prop} {a : Act} {w : World} (hm : P.follows .mixedOrders = true) (hd : noDefer ops = true) (hL : ¬ LetsOut Q) (hb : backB .any ops = true) (h0 : I a (fun _ => false) a w.drew)
    (hstep : ∀ i, i < ops.size → StepAt P .any ops Q (I a) i) (hend : ∀ L a' w, (∀ i, i < ops.size → L i = true) → I a L a' w → Q .normal a' w) : (Code.region id ops true).wpIn (Fence.wide.inRound l) n P Q a w :=
  region_round_inv hm hd hL hb h0 hstep hend
theorem keeps_turn {B : Nat} {W W' : World} {S : Nat → Prop} (h : Dv.Turn W W' S) (hS : ∀ i, S i → i < B) : KeepsFrom B W W' :=
  ⟨h.size, fun k _ hB hk _ => (h.block k (Array.getElem?_eq_some_iff.1 hk).1 (fun e => by have := hS k e; omega)).trans hk⟩
end Go.Proofs.Ytkinmcnmdfpjbaa.Cf
