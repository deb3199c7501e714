/-
  Small callees: the orders' tests, null, empty, num, text, one, the array of comparisons.
-/
import Derived.Test.YtpincfofnlfjiaaZnCmp
namespace Go.Proofs.Ytpincfofnlfjiaa.Zn
open Go.RowKit Bs Dv

theorem ret_boolc {a b : Bool} (h : a = b) : Ending.returned (.bool a) = .returned (.bool b) := by rw [h]
theorem equal_any (o : Int) (w : World) : Calls Try.prog 34 #[.int .i64 o] w fun e w' => e = .returned (.bool (opB 1 o)) ∧ w = w' := by
  go_enter Try.func34, Try.ntmps34
  go_wp2
  go_ret
  exact ⟨ret_bool (by simp [opB]), rfl⟩
theorem different_any (o : Int) (w : World) : Calls Try.prog 35 #[.int .i64 o] w fun e w' => e = .returned (.bool (opB 2 o)) ∧ w = w' := by
  go_enter Try.func35, Try.ntmps35
  go_wp2
  go_ret
  exact ⟨ret_bool (by simp [opB]), rfl⟩
theorem less_any (o : Int) (w : World) : Calls Try.prog 36 #[.int .i64 o] w fun e w' => e = .returned (.bool (opB 3 o)) ∧ w = w' := by
  go_enter Try.func36, Try.ntmps36
  go_wp2
  go_ret
  exact ⟨ret_bool (by simp [opB]), rfl⟩
theorem notMore_any (o : Int) (w : World) : Calls Try.prog 37 #[.int .i64 o] w fun e w' => e = .returned (.bool (opB 4 o)) ∧ w = w' := by
  go_enter Try.func37, Try.ntmps37
  go_wp2
  go_ret
  exact ⟨ret_bool (by simp [opB]), rfl⟩
theorem more_any (o : Int) (w : World) : Calls Try.prog 38 #[.int .i64 o] w fun e w' => e = .returned (.bool (opB 5 o)) ∧ w = w' := by
  go_enter Try.func38, Try.ntmps38
  go_wp2
  go_ret
  exact ⟨ret_bool (by simp [opB]), rfl⟩
theorem notLess_any (o : Int) (w : World) : Calls Try.prog 39 #[.int .i64 o] w fun e w' => e = .returned (.bool (opB 6 o)) ∧ w = w' := by
  go_enter Try.func39, Try.ntmps39
  go_wp2
  go_ret
  exact ⟨ret_bool (by simp [opB]), rfl⟩

theorem null_any (a : Cel) (w : World) : Calls Try.prog 25 #[.agg #[.int .i64 a.k, .int .i64 a.n, .string a.s]] w fun e w' => e = .returned (.bool (a.k == 0)) ∧ w.grownBy w' none := by
  have HG := Lib.hid (grown_alloc w (.cells #[.int .i64 a.k, .int .i64 a.n, .string a.s] 24))
  go_enter Try.func25, Try.ntmps25
  go_wp2
  go_ret
  exact ⟨rfl, HG.out⟩
theorem empty_any (z : Zon) (w : World) : Calls Try.prog 27 #[.agg #[.int .i64 z.cnt, .int .i64 z.nul, .int .i64 z.min.k, .int .i64 z.min.n, .string z.min.s, .int .i64 z.max.k, .int .i64 z.max.n, .string z.max.s]] w fun e w' => e = .returned (.bool (z.cnt == z.nul)) ∧ w.grownBy w' none := by
  have HG := Lib.hid (grown_alloc w (.cells #[.int .i64 z.cnt, .int .i64 z.nul, .int .i64 z.min.k, .int .i64 z.min.n, .string z.min.s, .int .i64 z.max.k, .int .i64 z.max.n, .string z.max.s] 26))
  go_enter Try.func27, Try.ntmps27
  go_wp2
  go_ret
  exact ⟨rfl, HG.out⟩

/-- A struct that a function hands back out of its cell. -/
theorem results_cell_alone {fn : Func} {p : Tmp} {ty : TypeId} (h : fn.results = #[.cell p ty]) (tmps : Array Value) (P : Program) (w : World) :
    (results fn tmps).run P w = ((asAddr (tmps.getD p undef)).run P w).andThen fun a w₁ => (loadVar ty a).run P w₁ := by
  simp only [results, h]
  simp [Sem.run_bind, Result.andThen]
theorem run_results_row {P : Program} {fn : Func} {p : Tmp} {ty : TypeId} (h : fn.results = #[.cell p ty]) (tmps : Array Value) (w : World) (g : Nat) (t : TypeId) (cs : Array Value) (fr : Nat × Nat) (d : TypeDesc)
    (hp : tmps.getD p undef = .pointer (some ⟨g, 0, none⟩)) (hg : w.heap[g]? = some (.cells cs t fr))
    (hu : P.underlying ty = some d) (hd : (match d with | .struct _ | .array _ _ => true | _ => false) = true) (hi : (P.info? ty).map (·.size) = some cs.size) :
    (results fn tmps).run P w = .ok (.agg cs) w := by
  rw [results_cell_alone h, hp]
  simp [asAddr, Result.andThen, run_loadVar_row w g t ty cs fr d hg hu hd hi]
theorem info_zone2 : (Try.prog.info? 26).map (·.size) = some 8 := by kernel_rfl
theorem run_results_zone {fn : Func} {p : Tmp} (h : fn.results = #[.cell p 26]) (tmps : Array Value) (w : World) (g : Nat) (z : Zon) (hp : tmps.getD p undef = .pointer (some ⟨g, 0, none⟩))
    (hg : ZB w g z) : (results fn tmps).run Try.prog w = .ok (.agg #[.int .i64 z.cnt, .int .i64 z.nul, .int .i64 z.min.k, .int .i64 z.min.n, .string z.min.s, .int .i64 z.max.k, .int .i64 z.max.n, .string z.max.s]) w :=
  run_results_row h tmps w g _ _ _ _ hp hg Try.underlying26 rfl info_zone2
theorem wpList_store_zone {w : World} {ops : Array Oper} {rest : List Oper} {o : Oper} {a : Act} {Q : Exit → Act → World → Prop} (hgd : o.guard = none) (x y : Operand) (ho : o.op = .store 26 x y)
    (g : Nat) (hx : a.eval x = .pointer (some ⟨g, 0, none⟩)) (z : Zon) (hy : a.eval y = .agg #[.int .i64 z.cnt, .int .i64 z.nul, .int .i64 z.min.k, .int .i64 z.min.n, .string z.min.s, .int .i64 z.max.k, .int .i64 z.max.n, .string z.max.s]) (q : Zon) (hg : ZB w g q)
    (h : ∀ w', ZB w' g z → Turn w w' (· = g) → wpList Try.prog ops Q rest (a.put o.dst undef) w') : wpList Try.prog ops Q (o :: rest) a w := by
  refine wpList_store_row hgd _ x y ho g _ hx hy _ _ hg info_zone2 rfl (by simp [Value.oneCell']) ?_
  exact h _ (setRow_heap w g _ _ _ _ hg) ⟨rfl, rfl, rfl, by simp [World.setRow], fun k _ hk => setRow_other w g k _ hk⟩
theorem step_store_zone {w : World} {ops : Array Oper} {o : Oper} {a : Act} {K : Act → World → Prop} {Q : Exit → Act → World → Prop} {E : Prop} (hgd : o.guard = none) (x y : Operand) (ho : o.op = .store 26 x y)
    (g : Nat) (hx : a.eval x = .pointer (some ⟨g, 0, none⟩)) (z : Zon) (hy : a.eval y = .agg #[.int .i64 z.cnt, .int .i64 z.nul, .int .i64 z.min.k, .int .i64 z.min.n, .string z.min.s, .int .i64 z.max.k, .int .i64 z.max.n, .string z.max.s]) (q : Zon) (hg : ZB w g q)
    (h : ∀ w', ZB w' g z → Turn w w' (· = g) → K (a.put o.dst undef) w') : if Region.wanted o (yielded ops a.tmps) = true then Oper.wp Try.prog o a w K Q else E := by
  have hw : Region.wanted o (yielded ops a.tmps) = true := by simp [Region.wanted, hgd]
  rw [if_pos hw]
  refine wp_store_row _ x y ho g _ hx hy _ _ hg info_zone2 rfl (by simp [Value.oneCell']) ?_
  exact h _ (setRow_heap w g _ _ _ _ hg) ⟨rfl, rfl, rfl, by simp [World.setRow], fun k _ hk => setRow_other w g k _ hk⟩
/-- A store into a block that was not there at first, as a turn. -/
theorem grown_put {a w w' : World} {g : Nat} (h : a.grownBy w none) (t : Turn w w' (· = g)) (hg : a.heap.size ≤ g) : a.grownBy w' none :=
  ⟨t.os.trans h.os, t.tape.trans h.tape, t.output.trans h.output, Nat.le_trans h.size t.size, fun i hi hn => (t.block i (Nat.lt_of_lt_of_le hi h.size) (fun e => by omega)).trans (h.block i hi hn)⟩
theorem block_not {w w' : World} {g k : Nat} {o : Obj} (h : w.heap[g]? = some o) (t : Turn w w' (· = k)) (hne : g ≠ k) : w'.heap[g]? = some o := block_turn h t hne

theorem num_any (n : Int) (w : World) : Calls Try.prog 10 #[.int .i64 n] w fun e w' => e = .returned (.agg #[.int .i64 1, .int .i64 n, .string ⟨#[]⟩]) ∧ w.grownBy w' none := by
  go_enter Try.func10, Try.ntmps10
  go_wp2
  refine bodyPost_ret (v := .agg #[.int .i64 1, .int .i64 n, .string ⟨#[]⟩]) (run_results_row rfl _ _ w.heap.size _ _ (0, 0) _ rfl (heap_alloc_new _ _) Try.underlying24 rfl info_cell2) rfl ⟨rfl, grown_alloc _ _⟩
theorem text_any (s : ByteArray) (w : World) : Calls Try.prog 11 #[.string s] w fun e w' => e = .returned (.agg #[.int .i64 3, .int .i64 0, .string s]) ∧ w.grownBy w' none := by
  go_enter Try.func11, Try.ntmps11
  go_wp2
  refine bodyPost_ret (v := .agg #[.int .i64 3, .int .i64 0, .string s]) (run_results_row rfl _ _ w.heap.size _ _ (0, 0) _ rfl (heap_alloc_new _ _) Try.underlying24 rfl info_cell2) rfl ⟨rfl, grown_alloc _ _⟩

theorem info_cmps : (Try.prog.info? 51).map (·.size) = some 7 := by kernel_rfl
abbrev opsV : Array Value := #[.nilFunc, .func (.func 34) #[] #[], .func (.func 35) #[] #[], .func (.func 36) #[] #[], .func (.func 37) #[] #[], .func (.func 38) #[] #[], .func (.func 39) #[] #[]]
theorem wpList_store_ops {w : World} {ops : Array Oper} {rest : List Oper} {o : Oper} {a : Act} {Q : Exit → Act → World → Prop} (hgd : o.guard = none) (x y : Operand) (ho : o.op = .store 51 x y)
    (g : Nat) (hx : a.eval x = .pointer (some ⟨g, 0, none⟩)) (hy : a.eval y = .agg opsV) (old : Array Value) (hg : w.heap[g]? = some (.cells old 51 (0, 0))) (hold : old.size = 7)
    (h : ∀ w', w'.heap[g]? = some (.cells opsV 51 (0, 0)) → Turn w w' (· = g) → wpList Try.prog ops Q rest (a.put o.dst undef) w') : wpList Try.prog ops Q (o :: rest) a w := by
  refine wpList_store_row hgd _ x y ho g _ hx hy _ _ hg info_cmps hold (by simp [Value.oneCell']) ?_
  exact h _ (setRow_heap w g _ _ _ _ hg) ⟨rfl, rfl, rfl, by simp [World.setRow], fun k _ hk => setRow_other w g k _ hk⟩
theorem comparisons_any (w : World) : Calls Try.prog 26 #[] w fun e w' => e = .returned (.agg opsV) ∧ w.grownBy w' none := by
  have q := Lib.hid (heap_alloc_new w (.cells #[.nilFunc, .nilFunc, .nilFunc, .nilFunc, .nilFunc, .nilFunc, .nilFunc] 51))
  have HG := Lib.hid (grown_alloc w (.cells #[.nilFunc, .nilFunc, .nilFunc, .nilFunc, .nilFunc, .nilFunc, .nilFunc] 51))
  go_enter Try.func26, Try.ntmps26
  go_wp2_with (first
    | (with_reducible refine wpList_store_ops rfl (.tmp 0) (.tmp 1) rfl w.heap.size rfl rfl _ q.out rfl ?_; intro w2 hq2 ht2)
    | fail)
  refine bodyPost_ret (v := .agg opsV) (run_results_row rfl _ _ _ _ _ (0, 0) _ rfl hq2 Try.underlying51 rfl info_cmps) rfl ⟨rfl, grown_put HG.out ht2 (Nat.le_refl _)⟩

theorem one_any (c : Cel) (w : World) : Calls Try.prog 22 #[.agg #[.int .i64 c.k, .int .i64 c.n, .string c.s]] w fun e w' => e = .returned (.agg #[.int .i64 (oneZ c).cnt, .int .i64 (oneZ c).nul, .int .i64 (oneZ c).min.k, .int .i64 (oneZ c).min.n, .string (oneZ c).min.s, .int .i64 (oneZ c).max.k, .int .i64 (oneZ c).max.n, .string (oneZ c).max.s]) ∧ w.grownBy w' none := by
  have HQ := Lib.hid (CB.new w c)
  have HZ := Lib.hid (ZB.new (w.alloc (.cells #[.int .i64 c.k, .int .i64 c.n, .string c.s] 24)) zeroZ)
  have HG := Lib.hid (grown_then (grown_alloc w (.cells #[.int .i64 c.k, .int .i64 c.n, .string c.s] 24)) (grown_alloc _ (.cells #[.int .i64 zeroZ.cnt, .int .i64 zeroZ.nul, .int .i64 zeroZ.min.k, .int .i64 zeroZ.min.n, .string zeroZ.min.s, .int .i64 zeroZ.max.k, .int .i64 zeroZ.max.n, .string zeroZ.max.s] 26)))
  have HQ2 := Lib.hid (HQ.out.old (grown_alloc _ (.cells #[.int .i64 zeroZ.cnt, .int .i64 zeroZ.nul, .int .i64 zeroZ.min.k, .int .i64 zeroZ.min.n, .string zeroZ.min.s, .int .i64 zeroZ.max.k, .int .i64 zeroZ.max.n, .string zeroZ.max.s] 26)))
  have hsz : (w.alloc (.cells #[.int .i64 c.k, .int .i64 c.n, .string c.s] 24)).heap.size = w.heap.size + 1 := by simp
  rw [hsz] at HZ
  clear hsz
  by_cases hk : c.k = 0
  · have ho : oneZ c = ⟨1, 1, zeroC, zeroC⟩ := by unfold oneZ; rw [if_pos hk]
    have hb : (c.k == 0) = true := beq_iff_eq.2 hk
    have HN := Lib.hid (fun W => (null_any c W).mono fun e w' (h : _ ∧ _) => (show e = .returned (.bool true) ∧ W.grownBy w' none from ⟨by rw [h.1, hb], h.2⟩))
    have HO := Lib.hid ho
    clear hk ho hb
    rw [HO.out]
    go_enter Try.func22, Try.ntmps22
    go_wp2_with fail
    refine (HN.out _).mono ?_
    rintro e w1 ⟨rfl, hg⟩
    have Z1 := Lib.hid (HZ.out.old hg)
    have G1 := Lib.hid (grown_then HG.out hg)
    clear hg
    dsimp only
    go_wp2_with (first
      | (with_reducible refine wpList_store_zone rfl (.tmp 2) (.tmp 5) rfl (w.heap.size + 1) rfl ⟨1, 1, zeroC, zeroC⟩ rfl zeroZ Z1.out ?_; intro w2 hz2 ht2)
      | fail)
    refine bodyPost_ret (run_results_zone rfl _ _ _ _ rfl hz2) rfl ⟨rfl, grown_put G1.out ht2 (by omega)⟩
  · have ho : oneZ c = ⟨1, 0, c, c⟩ := by unfold oneZ; rw [if_neg hk]
    have hb : (c.k == 0) = false := beq_eq_false_iff_ne.2 hk
    have HN := Lib.hid (fun W => (null_any c W).mono fun e w' (h : _ ∧ _) => (show e = .returned (.bool false) ∧ W.grownBy w' none from ⟨by rw [h.1, hb], h.2⟩))
    have HO := Lib.hid ho
    clear hk ho hb
    rw [HO.out]
    go_enter Try.func22, Try.ntmps22
    go_wp2_with fail
    refine (HN.out _).mono ?_
    rintro e w1 ⟨rfl, hg⟩
    have Z1 := Lib.hid (HZ.out.old hg)
    obtain ⟨c0, c1, c2⟩ := (HQ2.out.old hg).cells
    have G1 := Lib.hid (grown_then HG.out hg)
    clear hg
    dsimp only
    go_wp2_with (first
      | (with_reducible refine wpList_store_zone rfl (.tmp 2) (.tmp 8) rfl (w.heap.size + 1) rfl ⟨1, 0, c, c⟩ rfl zeroZ Z1.out ?_; intro w2 hz2 ht2)
      | fail)
    refine bodyPost_ret (run_results_zone rfl _ _ _ _ rfl hz2) rfl ⟨rfl, grown_put G1.out ht2 (by omega)⟩
end Go.Proofs.Ytpincfofnlfjiaa.Zn
