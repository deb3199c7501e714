/-
  A region that draws its order, by an invariant: each operation, at whatever time its turn comes, keeps what is known of those that are behind.
-/
import Derived.Test.YtkinmcnmdfpjbaaBase
import Derived.Orders
namespace Go.Proofs.Ytkinmcnmdfpjbaa.Dr
open Go.RowKit Go
variable {P : Program} {ops : Array Oper} {Q : Exit → Act → World → Prop} {md : Region.Mode}

/-- what is done, and number i too -/
def upd (L : Nat → Bool) (i : Nat) : Nat → Bool := fun j => L j || j == i
theorem upd_self (L : Nat → Bool) (i : Nat) : upd L i i = true := by simp [upd]
theorem upd_old {L : Nat → Bool} {i j : Nat} (h : L j = true) : upd L i j = true := by simp [upd, h]
theorem upd_not {L : Nat → Bool} {i j : Nat} (h : upd L i j = true) (hne : j ≠ i) : L j = true := by simpa [upd, hne] using h

/-- each operation waits for earlier ones alone -/
def backB (md : Region.Mode) (ops : Array Oper) : Bool := (List.range ops.size).all fun i => ((ops[i]?).map fun o => o.after.all fun e => !Region.binds md e || decide (e.on < i)).getD true
/-- what an operation waits for -/
def needs (md : Region.Mode) (o : Oper) : List Nat := (o.after.toList.filter fun e => Region.binds md e).map (·.on)

/-- Operation i keeps I, whenever it comes up. -/
def StepAt (P : Program) (md : Region.Mode) (ops : Array Oper) (Q : Exit → Act → World → Prop) (I : (Nat → Bool) → Act → World → Prop) (i : Nat) : Prop :=
  ∀ L a w, L i = false → (∀ o, ops[i]? = some o → ∀ j ∈ needs md o, L j = true) → I L a w → wpOp P ops Q i (I (upd L i)) a w

theorem StepAt.mk {I : (Nat → Bool) → Act → World → Prop} {i : Nat} {o : Oper} {ns : List Nat} (ho : ops[i]? = some o) (hn : needs md o = ns) (hg : o.guard = none)
    (h : ∀ L a w, L i = false → (∀ j ∈ ns, L j = true) → I L a w → o.wp P a w (I (upd L i)) Q) : StepAt P md ops Q I i := by
  intro L a w h0 h1 h2
  unfold wpOp
  rw [ho]
  show if Region.wanted o (yielded ops a.tmps) = true then _ else _
  rw [if_pos (by simp [Region.wanted, hg])]
  exact .inl (h L a w h0 (fun j hj => h1 o ho j (by rw [hn]; exact hj)) h2)

theorem back_at (hb : backB md ops = true) {i : Nat} {o : Oper} (ho : ops[i]? = some o) : ∀ e ∈ o.after, Region.binds md e = true → e.on < i := by
  intro e he hbi
  have hlt : i < ops.size := (Array.getElem?_eq_some_iff.1 ho).1
  have h := List.all_eq_true.1 hb i (List.mem_range.2 hlt)
  rw [ho] at h
  simp only [Option.map_some, Option.getD_some, Array.all_eq_true_iff_forall_mem] at h
  have h2 := h e he
  rw [hbi] at h2
  simpa using h2

theorem ready_nil (hb : backB md ops = true) {listed : Array Bool} (hs : listed.size = ops.size) (h : Region.ready md ops listed = []) (i : Nat) : i < ops.size → listed.getD i true = true := by
  induction i using Nat.strongRecOn with
  | ind i ih =>
    intro hi
    cases hl : listed.getD i true with
    | true => rfl
    | false =>
      have hm : i ∈ Region.ready md ops listed := by
        refine mem_ready.2 ⟨hl, ops[i], Array.getElem?_eq_some_iff.2 ⟨hi, rfl⟩, fun e he hbi => ?_⟩
        have hlt := back_at hb (Array.getElem?_eq_some_iff.2 ⟨hi, rfl⟩) e he hbi
        have h1 := ih e.on hlt (by omega)
        rw [Array.getD_eq_getD_getElem?] at h1 ⊢
        rw [Array.getElem?_eq_some_iff.2 ⟨show e.on < listed.size by omega, rfl⟩] at h1 ⊢
        exact h1
      rw [h] at hm
      cases hm

theorem count_less {p q : Nat → Bool} {i : Nat} : ∀ {l : List Nat}, i ∈ l → p i = true → q i = false → (∀ j, q j = true → p j = true) → l.countP q < l.countP p
  | [], h, _, _, _ => by cases h
  | k :: l, h, hp, hq, hpq => by
    have hle : l.countP q ≤ l.countP p := List.countP_mono_left (fun j _ => hpq j)
    by_cases hk : k = i
    · subst hk
      rw [List.countP_cons_of_pos hp, List.countP_cons_of_neg (by simp [hq])]
      omega
    · have hm : i ∈ l := (List.mem_cons.1 h).resolve_left (fun e => hk e.symm)
      have ih := count_less hm hp hq hpq
      rw [List.countP_cons, List.countP_cons]
      have : (if q k = true then 1 else 0) ≤ (if p k = true then 1 else 0) := by
        by_cases h1 : q k = true
        · rw [if_pos h1, if_pos (hpq k h1)]; exact Nat.le_refl _
        · rw [if_neg h1]; exact Nat.zero_le _
      omega

theorem wpAny_inv {I : (Nat → Bool) → Act → World → Prop} (hb : backB md ops = true) (hstep : ∀ i, i < ops.size → StepAt P md ops Q I i)
    (hend : ∀ L a w, (∀ i, i < ops.size → L i = true) → I L a w → Q .normal a w) : ∀ (fuel : Nat) (listed : Array Bool) (a : Act) (w : World), listed.size = ops.size →
    (List.range ops.size).countP (fun i => !listed.getD i true) ≤ fuel → I (fun i => listed.getD i false) a w → wpAny P md ops Q fuel listed a w := by
  have same : ∀ (listed : Array Bool) (i : Nat), listed.size = ops.size → i < ops.size → listed.getD i true = listed.getD i false := fun listed i hs hi => by
    rw [Array.getD_eq_getD_getElem?, Array.getD_eq_getD_getElem?, Array.getElem?_eq_some_iff.2 ⟨show i < listed.size by omega, rfl⟩]
    rfl
  have last : ∀ (listed : Array Bool) (a : Act) (w : World), listed.size = ops.size → I (fun i => listed.getD i false) a w → Region.ready md ops listed = [] → Q .normal a w := fun listed a w hs hI hr =>
    hend _ a w (fun i hi => by rw [← same listed i hs hi]; exact ready_nil hb hs hr i hi) hI
  intro fuel
  induction fuel with
  | zero =>
    intro listed a w hs hc hI
    have hr : Region.ready md ops listed = [] := by
      rw [List.eq_nil_iff_forall_not_mem]
      intro j hj
      obtain ⟨h0, o, ho, _⟩ := mem_ready.1 hj
      have hlt : j < ops.size := (Array.getElem?_eq_some_iff.1 ho).1
      have := List.countP_pos_iff (p := fun i => !listed.getD i true).2 ⟨j, List.mem_range.2 hlt, by simp only [h0, Bool.not_false]⟩
      omega
    exact ⟨hr, last listed a w hs hI hr⟩
  | succ fuel ih =>
    intro listed a w hs hc hI
    refine ⟨last listed a w hs hI, fun i hi => ?_⟩
    obtain ⟨h0, o, ho, hn⟩ := mem_ready.1 hi
    have hlt : i < ops.size := (Array.getElem?_eq_some_iff.1 ho).1
    have h1 := hstep i hlt (fun i => listed.getD i false) a w (by rw [← same listed i hs hlt]; exact h0) (fun o' ho' j hj => by
      rw [ho] at ho'
      obtain rfl := Option.some.inj ho'
      obtain ⟨e, he, rfl⟩ := List.mem_map.1 hj
      obtain ⟨he1, he2⟩ := List.mem_filter.1 he
      exact hn e (Array.mem_toList_iff.1 he1) he2) hI
    refine wpOp_mono (fun a' w' h => ih _ a' w' (by simp [hs]) ?_ ?_) h1
    · have := count_less (p := fun i => !listed.getD i true) (q := fun j => !(listed.setIfInBounds i true).getD j true) (l := List.range ops.size) (List.mem_range.2 hlt) (by simp only [h0, Bool.not_false])
        (by simp [show i < listed.size by omega]) (fun j hj => by
          by_cases e : i = j
          · subst e; simp [show i < listed.size by omega] at hj
          · rw [getD_set_ne true e] at hj; exact hj)
      omega
    · refine cast (congrArg (fun L => I L a' w') (funext fun j => ?_)) h
      by_cases e : i = j
      · subst e
        simp [upd, show i < listed.size by omega]
      · rw [getD_set_ne false e]
        simp [upd, show ¬ j = i from fun h => e h.symm]

/-- **A region that draws its order, by an invariant.** -/
theorem wp_region_inv {I : (Nat → Bool) → Act → World → Prop} {id : Nat} {a : Act} {w : World} (hm : P.follows .mixedOrders = true) (hb : backB .any ops = true) (h0 : I (fun _ => false) a w.drew)
    (hstep : ∀ i, i < ops.size → StepAt P .any ops Q I i) (hend : ∀ L a w, (∀ i, i < ops.size → L i = true) → I L a w → Q .normal a w) : (Code.region id ops true).wp P Q a w := by
  refine wp_region_any hm ?_
  refine wpAny_inv hb hstep hend _ _ _ _ (by simp) ?_ ?_
  · exact Nat.le_trans List.countP_le_length (by simp)
  · refine cast (congrArg (fun L => I L a w.drew) (funext fun j => ?_)) h0
    rw [Array.getD_eq_getD_getElem?]
    by_cases hj : j < ops.size
    · simp [hj]
    · simp [hj]

/-- .. with what the frame was at first. -/
theorem wp_region_inv_at {I : Act → (Nat → Bool) → Act → World → Prop} {id : Nat} {a : Act} {w : World} (hm : P.follows .mixedOrders = true) (hb : backB .any ops = true) (h0 : I a (fun _ => false) a w.drew)
    (hstep : ∀ i, i < ops.size → StepAt P .any ops Q (I a) i) (hend : ∀ L a' w', (∀ i, i < ops.size → L i = true) → I a L a' w' → Q .normal a' w') : (Code.region id ops true).wp P Q a w :=
  wp_region_inv hm hb h0 hstep hend

/-- one after another -/
theorem all_nil {p : Nat → Prop} : ∀ i, i < 0 → p i := fun _ h => by omega
theorem all_snoc {p : Nat → Prop} {n : Nat} (h : ∀ i, i < n → p i) (hn : p n) : ∀ i, i < n + 1 → p i := fun i hi => by
  by_cases e : i = n
  · subst e; exact hn
  · exact h i (by omega)

/-- what a slot holds -/
def At (a : Act) (d : Nat) : Value := a.tmps.getD d undef
theorem eval_at (a : Act) (d : Nat) : a.eval (.tmp d) = At a d := rfl
theorem At.put_same {a : Act} {d : Nat} {v : Value} (h : d < a.tmps.size) : At (a.put (some d) v) d = v := by simp [At, Act.put, h]
theorem At.put_ne {a : Act} {d e : Nat} {v : Value} (h : e ≠ d) : At (a.put (some d) v) e = At a e := by
  unfold At Act.put
  simp only [Array.getD_eq_getD_getElem?, Array.getElem?_setIfInBounds_ne (Ne.symm h)]

/-- a is a0 but for the slots D -/
structure Agr (D : List Nat) (a0 a : Act) : Prop where
  defers : a.defers = a0.defers
  size : a.tmps.size = a0.tmps.size
  same : ∀ j, j ∉ D → a.tmps[j]? = a0.tmps[j]?
theorem Agr.refl (D : List Nat) (a : Act) : Agr D a a := ⟨rfl, rfl, fun _ _ => rfl⟩
theorem Agr.put {D : List Nat} {a0 a : Act} {d : Nat} (h : Agr D a0 a) (hd : d ∈ D) (v : Value) : Agr D a0 (a.put (some d) v) :=
  ⟨h.defers, by rw [← h.size]; simp [Act.put], fun j hj => by
    rw [← h.same j hj]
    exact Array.getElem?_setIfInBounds_ne (fun e => hj (by rw [← e]; exact hd))⟩
theorem Agr.at_ {D : List Nat} {a0 a : Act} {d : Nat} (h : Agr D a0 a) (hd : d ∉ D) : At a d = At a0 d := by
  unfold At
  rw [Array.getD_eq_getD_getElem?, Array.getD_eq_getD_getElem?, h.same d hd]
theorem fold_defers (a : Act) : ∀ (D : List Nat) (b : Act), (D.foldl (fun b d => b.put (some d) (At a d)) b).defers = b.defers
  | [], _ => rfl
  | _ :: D, _ => (fold_defers a D _).trans rfl
theorem fold_at (a : Act) : ∀ (D : List Nat) (b : Act) (j : Nat), (D.foldl (fun b d => b.put (some d) (At a d)) b).tmps[j]? = if j ∈ D then (b.tmps[j]?).map (fun _ => At a j) else b.tmps[j]?
  | [], _, _ => by simp
  | d :: D, b, j => by
    rw [List.foldl_cons, fold_at a D]
    by_cases e : d = j
    · subst e
      by_cases h : d ∈ D
      · rw [if_pos h, if_pos (by simp)]
        simp only [Act.put, Array.getElem?_setIfInBounds_self]
        by_cases hs : d < b.tmps.size
        · simp [hs]
        · simp [hs]
      · rw [if_neg h, if_pos (by simp)]
        simp only [Act.put, Array.getElem?_setIfInBounds_self]
        by_cases hs : d < b.tmps.size
        · simp [hs]
        · simp [hs]
    · have h1 : (b.put (some d) (At a d)).tmps[j]? = b.tmps[j]? := Array.getElem?_setIfInBounds_ne e
      rw [h1]
      by_cases h : j ∈ D
      · rw [if_pos h, if_pos (by simp [h])]
      · rw [if_neg h, if_neg (by simp [h]; exact fun e' => e e'.symm)]
/-- .. so it is a0 with what these slots hold. -/
theorem Agr.form {D : List Nat} {a0 a : Act} (h : Agr D a0 a) : a = D.foldl (fun b d => b.put (some d) (At a d)) a0 := by
  have h1 : a.defers = (D.foldl (fun b d => b.put (some d) (At a d)) a0).defers := by rw [fold_defers, h.defers]
  have h2 : a.tmps = (D.foldl (fun b d => b.put (some d) (At a d)) a0).tmps := by
    refine Array.ext_getElem? fun j => ?_
    rw [fold_at]
    by_cases hj : j ∈ D
    · rw [if_pos hj]
      by_cases hs : j < a.tmps.size
      · have hs0 : j < a0.tmps.size := by rw [← h.size]; exact hs
        simp [At, hs, hs0]
      · have hs0 : ¬ j < a0.tmps.size := by rw [← h.size]; exact hs
        simp [hs, hs0]
    · rw [if_neg hj, h.same j hj]
  generalize D.foldl (fun b d => b.put (some d) (At a d)) a0 = b at *
  cases a; cases b
  simp only at h1 h2
  rw [h1, h2]

theorem wp_yield {o : Oper} {a : Act} {w : World} {v : Value} {K : Act → World → Prop} (hy : (execOp a.eval o).run P w = .ok (.value v) w) (h : K (a.put o.dst v) w) : o.wp P a w K Q := by
  unfold Oper.wp
  rw [hy]
  exact h
theorem wp_made {o : Oper} {a : Act} {w w' : World} {v : Value} {K : Act → World → Prop} (hy : (execOp a.eval o).run P w = .ok (.value v) w') (h : K (a.put o.dst v) w') : o.wp P a w K Q := by
  unfold Oper.wp
  rw [hy]
  exact h
theorem wp_func {o : Oper} {a : Act} {w : World} {f : FuncId} {vs : Array Value} {v : Value} {R : World → Prop} {K : Act → World → Prop} (hy : (execOp a.eval o).run P w = .ok (.enter f vs) w)
    (h : Calls P f vs w fun e w' => e = .returned v ∧ R w') (hK : ∀ w', R w' → K (a.put o.dst v) w') : o.wp P a w K Q := by
  unfold Oper.wp
  rw [hy]
  exact h.mono fun e w' ⟨he, hr⟩ => by subst he; exact hK w' hr
end Go.Proofs.Ytkinmcnmdfpjbaa.Dr
