/-
  What the program's and the document's functions do, in memory and as plain functions: ZnCmp, ZnSmall, ZnExact, ZrCell, ZrCheck, ZnCheck.
-/
import Derived.StillTailTactics
import Derived.Laws.BitsAllLaws
import Derived.LoopTactic
import Derived.Test.YtljanfnhmhimiaaGreatSmG

namespace Go.Proofs.YtljanfnhmhimiaaGreat.Zn
open Go.RowKit Bs Dv

theorem nanI_any (x : Int) (w : World) : Calls Tryz.prog 180 #[.int .i64 x] w fun e w' => e = .returned (.bool false) ∧ w = w' := by
  go_enter Tryz.func180, Tryz.ntmps180
  go_wp2
  go_ret
  exact ⟨rfl, rfl⟩
theorem nanJ_any (x : Int) (w : World) : Calls Tryz.prog 189 #[.int .i64 x] w fun e w' => e = .returned (.bool false) ∧ w = w' := by
  go_enter Tryz.func189, Tryz.ntmps189
  go_wp2
  go_ret
  exact ⟨rfl, rfl⟩
theorem cmpI_lt {x y : Int} (h : x < y) : cmpI x y = -1 := if_pos h
theorem cmpI_gt {x y : Int} (h : y < x) : cmpI x y = 1 := by unfold cmpI; rw [if_neg (by omega), if_pos h]
theorem cmpI_eq (x : Int) : cmpI x x = 0 := cmpI_tot.self x
theorem cmpIa_any (x y : Int) (w : World) : Calls Tryz.prog 159 #[.int .i64 x, .int .i64 y] w fun e w' => e = .returned (.int .i64 (cmpI x y)) ∧ w = w' := by
  rcases Int.lt_trichotomy x y with h | h | h
  · go_enter Tryz.func159, Tryz.ntmps159
    go_wp2_with (go_at_call 180; refine (nanI_any _ _).mono ?_; rintro e w' ⟨rfl, rfl⟩)
    go_ret
    exact ⟨ret_int (cmpI_lt h).symm, rfl⟩
  · subst h
    go_enter Tryz.func159, Tryz.ntmps159
    go_wp2_with (go_at_call 180; refine (nanI_any _ _).mono ?_; rintro e w' ⟨rfl, rfl⟩)
    go_ret
    exact ⟨ret_int (cmpI_eq x).symm, rfl⟩
  · have h2 : ¬ x < y := by omega
    go_enter Tryz.func159, Tryz.ntmps159
    go_wp2_with (go_at_call 180; refine (nanI_any _ _).mono ?_; rintro e w' ⟨rfl, rfl⟩)
    go_ret
    exact ⟨ret_int (cmpI_gt h).symm, rfl⟩
theorem cmpJ_any (x y : Int) (w : World) : Calls Tryz.prog 177 #[.int .i64 x, .int .i64 y] w fun e w' => e = .returned (.int .i64 (cmpI x y)) ∧ w = w' := by
  rcases Int.lt_trichotomy x y with h | h | h
  · go_enter Tryz.func177, Tryz.ntmps177
    go_wp2_with (go_at_call 189; refine (nanJ_any _ _).mono ?_; rintro e w' ⟨rfl, rfl⟩)
    go_ret
    exact ⟨ret_int (cmpI_lt h).symm, rfl⟩
  · subst h
    go_enter Tryz.func177, Tryz.ntmps177
    go_wp2_with (go_at_call 189; refine (nanJ_any _ _).mono ?_; rintro e w' ⟨rfl, rfl⟩)
    go_ret
    exact ⟨ret_int (cmpI_eq x).symm, rfl⟩
  · have h2 : ¬ x < y := by omega
    go_enter Tryz.func177, Tryz.ntmps177
    go_wp2_with (go_at_call 189; refine (nanJ_any _ _).mono ?_; rintro e w' ⟨rfl, rfl⟩)
    go_ret
    exact ⟨ret_int (cmpI_gt h).symm, rfl⟩

set_option maxRecDepth 100000 in
theorem cmpStr_any (s t : ByteArray) (w : World) : Calls Tryz.prog 190 #[.string s, .string t] w fun e w' => e = .returned (.int .i64 (cmpS s t)) ∧ w = w' := by
  go_enter Tryz.func190, Tryz.ntmps190
  go_wp2
  rw [run_callFunc_extern Tryz.func198 (by kernel_rfl) (by kernel_rfl) (by kernel_rfl) (e := Extern.BytealgCompare.compare) (by kernel_rfl), Lib.run_compareString]
  simp only [Result.andThen]
  rw [Oper.upon_value]
  go_wp2
  go_ret
  exact ⟨rfl, rfl⟩
theorem cmpS_any (s t : ByteArray) (w : World) : Calls Tryz.prog 178 #[.string s, .string t] w fun e w' => e = .returned (.int .i64 (cmpS s t)) ∧ w = w' := by
  go_enter Tryz.func178, Tryz.ntmps178
  go_wp2_with (go_at_call 190; refine (cmpStr_any _ _ _).mono ?_; rintro e w' ⟨rfl, rfl⟩)
  go_ret
  exact ⟨rfl, rfl⟩

/-- cmp.Or over three numbers. -/
theorem orI1 {x : Int} (h : x ≠ 0) (y z : Int) : orI x y z = x := if_pos h
theorem orI2 {y : Int} (h : y ≠ 0) (z : Int) : orI 0 y z = y := by unfold orI; rw [if_neg (by simp), if_pos h]
theorem orI3 (z : Int) : orI 0 0 z = z := by unfold orI; rw [if_neg (by simp), if_neg (by simp)]
set_option maxHeartbeats 1000000 in
theorem or_any (b : Nat) (x y z : Int) (w : World) (h0 : w.cell? ⟨b, 0, none⟩ = some (.int .i64 x)) (h1 : w.cell? ⟨b, 1, none⟩ = some (.int .i64 y)) (h2 : w.cell? ⟨b, 2, none⟩ = some (.int .i64 z)) :
    Calls Tryz.prog 176 #[.slice (some ⟨b, 0, none⟩) 3 3] w fun e w' => e = .returned (.int .i64 (orI x y z)) ∧ w = w' := by
  have H := Lib.hid (show ∀ k, k < 3 → w.cell? ⟨b, k, none⟩ = some (.int .i64 (if k = 0 then x else if k = 1 then y else z)) from fun k hk => by
    have : k = 0 ∨ k = 1 ∨ k = 2 := by omega
    rcases this with rfl | rfl | rfl
    · exact h0
    · exact h1
    · exact h2)
  clear h0 h1 h2
  go_enter Tryz.func176, Tryz.ntmps176
  go_wp2
  go_loop [8] (fun iv => ∃ k : Nat, iv = .int .i64 k ∧ k ≤ 3 ∧ Hid (orI x y z = (if k = 0 then orI x y z else if k = 1 then orI 0 y z else if k = 2 then orI 0 0 z else 0))) (fun iv => 3 - (intOf iv).toNat)
  case atStart => exact ⟨0, rfl, by omega, Lib.hid rfl⟩
  case round =>
    obtain ⟨k, rfl, hk, HO⟩ := hrel
    by_cases hlt : k < 3
    · have hc := H.out k hlt
      obtain ⟨v, hv⟩ : ∃ v, v = (if k = 0 then x else if k = 1 then y else z) := ⟨_, rfl⟩
      rw [← hv] at hc
      have HV := Lib.hid hv
      clear hv
      by_cases h0 : v = 0
      · subst h0
        have HN : Hid (orI x y z = (if k + 1 = 0 then orI x y z else if k + 1 = 1 then orI 0 y z else if k + 1 = 2 then orI 0 0 z else 0)) := Lib.hid (by
          have h1 := HO.out
          have h2 := HV.out
          have : k = 0 ∨ k = 1 ∨ k = 2 := by omega
          rcases this with rfl | rfl | rfl
          · simp at h2; subst h2; rfl
          · simp at h1 h2; subst h2; rw [h1]; rfl
          · simp at h1 h2; subst h2; rw [h1]; rfl)
        clear HO HV H
        go_wp2
        go_round
        case rel => exact ⟨k + 1, by go_num, by omega, HN⟩
        case measure => simp [intOf]; omega
      · have HN : Hid (orI x y z = v) := Lib.hid (by
          have h1 := HO.out
          have h2 := HV.out
          have : k = 0 ∨ k = 1 ∨ k = 2 := by omega
          rcases this with rfl | rfl | rfl
          · simp at h2; subst h2; exact orI1 h0 _ _
          · simp at h1 h2; subst h2; rw [h1]; exact orI2 h0 _
          · simp at h1 h2; subst h2; rw [h1]; exact orI3 _)
        clear HO HV H
        go_wp2
        go_ret
        exact ⟨ret_int HN.out.symm, rfl⟩
    · obtain rfl : k = 3 := by omega
      have HN : Hid (orI x y z = 0) := Lib.hid (by have h1 := HO.out; simpa using h1)
      clear HO H
      go_wp2
      go_ret
      exact ⟨ret_int HN.out.symm, rfl⟩

set_option maxRecDepth 100000 in
set_option maxHeartbeats 1000000 in
theorem compare_any (a b : Cel) (w : World) : Calls Tryz.prog 149 #[.agg #[.int .i64 a.k, .int .i64 a.n, .string a.s], .agg #[.int .i64 b.k, .int .i64 b.n, .string b.s]] w fun e w' => e = .returned (.int .i64 (cmpC a b)) ∧ w.grownBy w' none := by
  have HK1 := Lib.hid (fun W => (cmpIa_any a.k b.k W).mono fun e w' (h : _ ∧ _) => (show e = .returned (.int .i64 (cmpI a.k b.k)) ∧ w' = W from ⟨h.1, h.2.symm⟩))
  have HK2 := Lib.hid (fun W => (cmpJ_any a.n b.n W).mono fun e w' (h : _ ∧ _) => (show e = .returned (.int .i64 (cmpI a.n b.n)) ∧ w' = W from ⟨h.1, h.2.symm⟩))
  have HK3 := Lib.hid (fun W => (cmpS_any a.s b.s W).mono fun e w' (h : _ ∧ _) => (show e = .returned (.int .i64 (cmpS a.s b.s)) ∧ w' = W from ⟨h.1, h.2.symm⟩))
  go_enter Tryz.func149, Tryz.ntmps149
  go_wp2
  refine wp_region_still_tail 15 (by kernel_rfl) (by kernel_rfl) ?_
  change wpStill _ _ (World.drew _) _ _ _
  simp only [List.take_succ_cons, List.take_zero, List.drop_succ_cons, List.drop_zero]
  obtain ⟨W1, hW1⟩ : ∃ W1, World.drew ((w.alloc (.cells #[.int .i64 a.k, .int .i64 a.n, .string a.s] 24)).alloc (.cells #[.int .i64 b.k, .int .i64 b.n, .string b.s] 24)) = W1 := ⟨_, rfl⟩
  have HG : Hid (w.grownBy W1 none) := Lib.hid (by rw [← hW1]; exact grown_then (grown_then (grown_alloc _ _) (grown_alloc _ _)) (grown_drew _))
  have qa : CB W1 w.heap.size a := by rw [← hW1]; exact (CB.new w a).old (grown_then (grown_alloc _ _) (grown_drew _))
  have qb : CB W1 (w.heap.size + 1) b := by rw [← hW1]; exact (show CB _ (w.heap.size + 1) b from by have := CB.new (w.alloc (.cells #[.int .i64 a.k, .int .i64 a.n, .string a.s] 24)) b; simpa using this).old (grown_drew _)
  have HW := Lib.hid hW1
  rw [hW1]
  clear hW1
  obtain ⟨a0, a1, a2⟩ := qa.cells
  obtain ⟨b0, b1, b2⟩ := qb.cells
  clear qa qb
  still_step
  still_step
  still_step
  still_step
  still_call (HK1.out _)
  still_step
  still_step
  still_step
  still_step
  still_call (HK2.out _)
  still_step
  still_step
  still_step
  still_step
  still_call (HK3.out _)
  refine wpStill_nil ?_
  change wpList _ _ _ _ _ (World.drew _)
  rw [HW.out]
  clear HW
  go_wp2_with fail
  obtain ⟨W2, hW2⟩ : ∃ W2, W1.alloc (.cells #[.int .i64 (cmpI a.k b.k), .int .i64 (cmpI a.n b.n), .int .i64 (cmpS a.s b.s)] 3) = W2 := ⟨_, rfl⟩
  have q := heap_alloc_new W1 (.cells #[.int .i64 (cmpI a.k b.k), .int .i64 (cmpI a.n b.n), .int .i64 (cmpS a.s b.s)] 3)
  rw [hW2] at q ⊢
  have HG2 : Hid (w.grownBy W2 none) := Lib.hid (by rw [← hW2]; exact grown_then HG.out (grown_alloc _ _))
  clear hW2
  refine (or_any _ _ _ _ _ (by rw [cell_of_row W2 _ _ _ _ _ q]; rfl) (by rw [cell_of_row W2 _ _ _ _ _ q]; rfl) (by rw [cell_of_row W2 _ _ _ _ _ q]; rfl)).mono ?_
  rintro e w' ⟨rfl, rfl⟩
  clear q
  dsimp only
  go_wp2
  go_ret
  exact ⟨rfl, HG2.out⟩

set_option maxHeartbeats 1000000 in
theorem Compare_any (a b : Cel) (w : World) : Calls Tryz.prog 113 #[.agg #[.int .i64 a.k, .int .i64 a.n, .string a.s], .agg #[.int .i64 b.k, .int .i64 b.n, .string b.s]] w fun e w' => e = .returned (.int .i64 (cmpC a b)) ∧ w.grownBy w' none := by
  have HG := Lib.hid (grown_then (grown_alloc w (.cells #[.int .i64 a.k, .int .i64 a.n, .string a.s] 24)) (grown_alloc _ (.cells #[.int .i64 b.k, .int .i64 b.n, .string b.s] 24)))
  go_enter Tryz.func113, Tryz.ntmps113
  go_wp2_with fail
  refine (compare_any a b _).mono ?_
  rintro e w' ⟨rfl, hg⟩
  have HG2 := Lib.hid (grown_then HG.out hg)
  clear hg HG
  dsimp only
  go_wp2
  go_ret
  exact ⟨rfl, HG2.out⟩
end Go.Proofs.YtljanfnhmhimiaaGreat.Zn

namespace Go.Proofs.YtljanfnhmhimiaaGreat.Zn
open Go.RowKit Bs Dv

theorem null_any (a : Cel) (w : World) : Calls Tryz.prog 114 #[.agg #[.int .i64 a.k, .int .i64 a.n, .string a.s]] w fun e w' => e = .returned (.bool (a.k == 0)) ∧ w.grownBy w' none := by
  have HG := Lib.hid (grown_alloc w (.cells #[.int .i64 a.k, .int .i64 a.n, .string a.s] 24))
  go_enter Tryz.func114, Tryz.ntmps114
  go_wp2
  go_ret
  exact ⟨rfl, HG.out⟩
theorem empty_any (z : Zon) (w : World) : Calls Tryz.prog 112 #[.agg #[.int .i64 z.cnt, .int .i64 z.nul, .int .i64 z.min.k, .int .i64 z.min.n, .string z.min.s, .int .i64 z.max.k, .int .i64 z.max.n, .string z.max.s]] w fun e w' => e = .returned (.bool (z.cnt == z.nul)) ∧ w.grownBy w' none := by
  have HG := Lib.hid (grown_alloc w (.cells #[.int .i64 z.cnt, .int .i64 z.nul, .int .i64 z.min.k, .int .i64 z.min.n, .string z.min.s, .int .i64 z.max.k, .int .i64 z.max.n, .string z.max.s] 33))
  go_enter Tryz.func112, Tryz.ntmps112
  go_wp2
  go_ret
  exact ⟨rfl, HG.out⟩

/-- A struct that a function hands back out of its cell. -/
theorem results_cell_alone {fn : Func} {p : Tmp} {ty : TypeId} (h : fn.results = #[.cell p ty]) (tmps : Array Value) (P : Program) (w : World) :
    (results fn tmps).run P w = ((asAddr (tmps.getD p undef)).run P w).andThen fun a w₁ => (loadVar ty a).run P w₁ := by
  simp only [results, h]
  simp [Sem.run_bind, Result.andThen]
theorem run_results_row {P : Program} {fn : Func} {p : Tmp} {ty : TypeId} (h : fn.results = #[.cell p ty]) (tmps : Array Value) (w : World) (g : Nat) (t : TypeId) (cs : Array Value) (fr : Nat × Nat) (d : TypeDesc)
    (hp : tmps.getD p undef = .pointer (some ⟨g, 0, none⟩)) (hg : w.heap[g]? = some (.cells cs t fr))
    (hu : P.underlying ty = some d) (hd : (match d with | .struct _ | .array _ _ => true | _ => false) = true) (hi : (P.info? ty).map (·.size) = some cs.size) :
    (results fn tmps).run P w = .ok (.agg cs) w := by
  rw [results_cell_alone h, hp]
  simp [asAddr, Result.andThen, run_loadVar_row w g t ty cs fr d hg hu hd hi]
theorem info_zone2 : (Tryz.prog.info? 33).map (·.size) = some 8 := by kernel_rfl
theorem run_results_zone {fn : Func} {p : Tmp} (h : fn.results = #[.cell p 33]) (tmps : Array Value) (w : World) (g : Nat) (z : Zon) (hp : tmps.getD p undef = .pointer (some ⟨g, 0, none⟩))
    (hg : ZB w g z) : (results fn tmps).run Tryz.prog w = .ok (.agg #[.int .i64 z.cnt, .int .i64 z.nul, .int .i64 z.min.k, .int .i64 z.min.n, .string z.min.s, .int .i64 z.max.k, .int .i64 z.max.n, .string z.max.s]) w :=
  run_results_row h tmps w g _ _ _ _ hp hg Tryz.underlying33 rfl info_zone2
theorem wpList_store_zone {w : World} {ops : Array Oper} {rest : List Oper} {o : Oper} {a : Act} {Q : Exit → Act → World → Prop} (hgd : o.guard = none) (x y : Operand) (ho : o.op = .store 33 x y)
    (g : Nat) (hx : a.eval x = .pointer (some ⟨g, 0, none⟩)) (z : Zon) (hy : a.eval y = .agg #[.int .i64 z.cnt, .int .i64 z.nul, .int .i64 z.min.k, .int .i64 z.min.n, .string z.min.s, .int .i64 z.max.k, .int .i64 z.max.n, .string z.max.s]) (q : Zon) (hg : ZB w g q)
    (h : ∀ w', ZB w' g z → Turn w w' (· = g) → wpList Tryz.prog ops Q rest (a.put o.dst undef) w') : wpList Tryz.prog ops Q (o :: rest) a w := by
  refine wpList_store_row hgd _ x y ho g _ hx hy _ _ hg info_zone2 rfl (by simp [Value.oneCell']) ?_
  exact h _ (setRow_heap w g _ _ _ _ hg) ⟨rfl, rfl, rfl, by simp [World.setRow], fun k _ hk => setRow_other w g k _ hk⟩
/-- A store into a block that was not there at first, as a turn. -/
theorem grown_put {a w w' : World} {g : Nat} (h : a.grownBy w none) (t : Turn w w' (· = g)) (hg : a.heap.size ≤ g) : a.grownBy w' none :=
  ⟨t.os.trans h.os, t.tape.trans h.tape, t.output.trans h.output, Nat.le_trans h.size t.size, fun i hi hn => (t.block i (Nat.lt_of_lt_of_le hi h.size) (fun e => by omega)).trans (h.block i hi hn)⟩
theorem one_any (c : Cel) (w : World) : Calls Tryz.prog 57 #[.agg #[.int .i64 c.k, .int .i64 c.n, .string c.s]] w fun e w' => e = .returned (.agg #[.int .i64 (oneZ c).cnt, .int .i64 (oneZ c).nul, .int .i64 (oneZ c).min.k, .int .i64 (oneZ c).min.n, .string (oneZ c).min.s, .int .i64 (oneZ c).max.k, .int .i64 (oneZ c).max.n, .string (oneZ c).max.s]) ∧ w.grownBy w' none := by
  have HQ := Lib.hid (CB.new w c)
  have HZ := Lib.hid (ZB.new (w.alloc (.cells #[.int .i64 c.k, .int .i64 c.n, .string c.s] 24)) zeroZ)
  have HG := Lib.hid (grown_then (grown_alloc w (.cells #[.int .i64 c.k, .int .i64 c.n, .string c.s] 24)) (grown_alloc _ (.cells #[.int .i64 zeroZ.cnt, .int .i64 zeroZ.nul, .int .i64 zeroZ.min.k, .int .i64 zeroZ.min.n, .string zeroZ.min.s, .int .i64 zeroZ.max.k, .int .i64 zeroZ.max.n, .string zeroZ.max.s] 33)))
  have HQ2 := Lib.hid (HQ.out.old (grown_alloc _ (.cells #[.int .i64 zeroZ.cnt, .int .i64 zeroZ.nul, .int .i64 zeroZ.min.k, .int .i64 zeroZ.min.n, .string zeroZ.min.s, .int .i64 zeroZ.max.k, .int .i64 zeroZ.max.n, .string zeroZ.max.s] 33)))
  have hsz : (w.alloc (.cells #[.int .i64 c.k, .int .i64 c.n, .string c.s] 24)).heap.size = w.heap.size + 1 := by simp
  rw [hsz] at HZ
  clear hsz
  by_cases hk : c.k = 0
  · have ho : oneZ c = ⟨1, 1, zeroC, zeroC⟩ := by unfold oneZ; rw [if_pos hk]
    have hb : (c.k == 0) = true := beq_iff_eq.2 hk
    have HN := Lib.hid (fun W => (null_any c W).mono fun e w' (h : _ ∧ _) => (show e = .returned (.bool true) ∧ W.grownBy w' none from ⟨by rw [h.1, hb], h.2⟩))
    have HO := Lib.hid ho
    clear hk ho hb
    rw [HO.out]
    go_enter Tryz.func57, Tryz.ntmps57
    go_wp2_with fail
    refine (HN.out _).mono ?_
    rintro e w1 ⟨rfl, hg⟩
    have Z1 := Lib.hid (HZ.out.old hg)
    have G1 := Lib.hid (grown_then HG.out hg)
    clear hg
    dsimp only
    go_wp2_with (first
      | (with_reducible refine wpList_store_zone rfl (.tmp 2) (.tmp 5) rfl (w.heap.size + 1) rfl ⟨1, 1, zeroC, zeroC⟩ rfl zeroZ Z1.out ?_; intro w2 hz2 ht2)
      | fail)
    refine bodyPost_ret (run_results_zone rfl _ _ _ _ rfl hz2) rfl ⟨rfl, grown_put G1.out ht2 (by omega)⟩
  · have ho : oneZ c = ⟨1, 0, c, c⟩ := by unfold oneZ; rw [if_neg hk]
    have hb : (c.k == 0) = false := beq_eq_false_iff_ne.2 hk
    have HN := Lib.hid (fun W => (null_any c W).mono fun e w' (h : _ ∧ _) => (show e = .returned (.bool false) ∧ W.grownBy w' none from ⟨by rw [h.1, hb], h.2⟩))
    have HO := Lib.hid ho
    clear hk ho hb
    rw [HO.out]
    go_enter Tryz.func57, Tryz.ntmps57
    go_wp2_with fail
    refine (HN.out _).mono ?_
    rintro e w1 ⟨rfl, hg⟩
    have Z1 := Lib.hid (HZ.out.old hg)
    obtain ⟨c0, c1, c2⟩ := (HQ2.out.old hg).cells
    have G1 := Lib.hid (grown_then HG.out hg)
    clear hg
    dsimp only
    go_wp2_with (first
      | (with_reducible refine wpList_store_zone rfl (.tmp 2) (.tmp 8) rfl (w.heap.size + 1) rfl ⟨1, 0, c, c⟩ rfl zeroZ Z1.out ?_; intro w2 hz2 ht2)
      | fail)
    refine bodyPost_ret (run_results_zone rfl _ _ _ _ rfl hz2) rfl ⟨rfl, grown_put G1.out ht2 (by omega)⟩
end Go.Proofs.YtljanfnhmhimiaaGreat.Zn

namespace Go.Proofs.YtljanfnhmhimiaaGreat.Zn
open Go.RowKit Bs Dv

theorem and_one (n : Int) : bits .and .i64 n 1 = n % 2 := by
  have h1 : (BitVec.ofInt 64 n &&& BitVec.ofInt 64 1).toNat = (n % 2).toNat := by
    rw [BitVec.toNat_and, show (BitVec.ofInt 64 1).toNat = 1 from rfl, Nat.and_one_is_mod, BitVec.toNat_ofInt]
    omega
  have h2 : bits .and .i64 n 1 = IntKind.i64.wrap ((BitVec.ofInt 64 n &&& BitVec.ofInt 64 1).toNat : Int) := rfl
  rw [h2, h1]
  simp [IntKind.wrap, IntKind.bits, IntKind.signed]
  omega

def exactB (c : Cel) : Bool := if c.k = 0 then eqC c zeroC else if c.k = 1 then eqC c ⟨1, c.n, ⟨#[]⟩⟩ else if c.k = 2 then eqC c ⟨2, c.n % 2, ⟨#[]⟩⟩ else if c.k = 3 then eqC c ⟨3, 0, c.s⟩ else false
theorem exact_iff (c : Cel) : exactB c = decide ((c.k = 0 ∧ c.n = 0 ∧ c.s = ⟨#[]⟩) ∨ (c.k = 1 ∧ c.s = ⟨#[]⟩) ∨ (c.k = 2 ∧ (c.n = 0 ∨ c.n = 1) ∧ c.s = ⟨#[]⟩) ∨ (c.k = 3 ∧ c.n = 0)) := by
  unfold exactB
  rw [Bool.eq_iff_iff, decide_eq_true_iff]
  by_cases h0 : c.k = 0
  · rw [if_pos h0]
    unfold eqC
    rw [decide_eq_true_iff]
    show c.k = 0 ∧ c.n = 0 ∧ c.s = ⟨#[]⟩ ↔ _
    constructor
    · exact fun h => .inl h
    · rintro (h | h | h | h)
      · exact h
      · omega
      · omega
      · omega
  · rw [if_neg h0]
    by_cases h1 : c.k = 1
    · rw [if_pos h1]
      unfold eqC
      rw [decide_eq_true_iff]
      constructor
      · exact fun h => .inr (.inl ⟨h1, h.2.2⟩)
      · rintro (h | h | h | h)
        · omega
        · exact ⟨h1, rfl, h.2⟩
        · omega
        · omega
    · rw [if_neg h1]
      by_cases h2 : c.k = 2
      · rw [if_pos h2]
        unfold eqC
        rw [decide_eq_true_iff]
        constructor
        · exact fun h => .inr (.inr (.inl ⟨h2, by have := h.2.1; simp only at this; omega, h.2.2⟩))
        · rintro (h | h | h | h)
          · omega
          · omega
          · exact ⟨h2, by have := h.2.1; simp only; omega, h.2.2⟩
          · omega
      · rw [if_neg h2]
        by_cases h3 : c.k = 3
        · rw [if_pos h3]
          unfold eqC
          rw [decide_eq_true_iff]
          constructor
          · exact fun h => .inr (.inr (.inr ⟨h3, h.2.1⟩))
          · rintro (h | h | h | h)
            · omega
            · omega
            · omega
            · exact ⟨h3, h.2, rfl⟩
        · rw [if_neg h3]
          constructor
          · intro h; cases h
          · rintro (h | h | h | h) <;> omega
theorem cellE_exact (c : Cel) : cellE c = if 65536 < c.s.size then 3 else if exactB c = true then 0 else 2 := by
  unfold cellE
  rw [exact_iff]
  simp only [decide_eq_true_iff]

set_option maxRecDepth 100000 in
set_option maxHeartbeats 2000000 in
theorem exact_any (c : Cel) (w : World) : Calls Tryz.prog 76 #[.agg #[.int .i64 c.k, .int .i64 c.n, .string c.s]] w fun e w' => e = .returned (.bool (exactB c)) ∧ w.grownBy w' none := by
  have HG := Lib.hid (grown_alloc w (.cells #[.int .i64 c.k, .int .i64 c.n, .string c.s] 24))
  obtain ⟨m, hm⟩ : ∃ m, bits .and .i64 c.n 1 = m := ⟨_, rfl⟩
  have HM : Hid (m = c.n % 2) := Lib.hid (by rw [← hm, and_one])
  by_cases h0 : c.k = 0
  · have HE : Hid (exactB c = eqC c ⟨0, 0, ⟨#[]⟩⟩) := Lib.hid (by unfold exactB; rw [if_pos h0]; rfl)
    have n0 : (c.k == 0) = true := beq_iff_eq.2 h0
    have heq := fun W => eql_cell c ⟨0, 0, ⟨#[]⟩⟩ W
    rw [HE.out]
    obtain ⟨r, hr⟩ : ∃ r, r = eqC c ⟨0, 0, ⟨#[]⟩⟩ := ⟨_, rfl⟩
    rw [← hr] at heq ⊢
    clear hr HE h0
    go_enter Tryz.func76, Tryz.ntmps76
    go_wp2
    go_ret
    exact ⟨rfl, HG.out⟩
  ·
    by_cases h1 : c.k = 1
    · have HE : Hid (exactB c = eqC c ⟨1, c.n, ⟨#[]⟩⟩) := Lib.hid (by unfold exactB; rw [if_neg h0]; rw [if_pos h1])
      have n0 : (c.k == 0) = false := beq_eq_false_iff_ne.2 h0
      have n1 : (c.k == 1) = true := beq_iff_eq.2 h1
      have heq := fun W => eql_cell c ⟨1, c.n, ⟨#[]⟩⟩ W
      rw [HE.out]
      obtain ⟨r, hr⟩ : ∃ r, r = eqC c ⟨1, c.n, ⟨#[]⟩⟩ := ⟨_, rfl⟩
      rw [← hr] at heq ⊢
      clear hr HE h0 h1
      go_enter Tryz.func76, Tryz.ntmps76
      go_wp2
      go_ret
      exact ⟨rfl, HG.out⟩
    ·
      by_cases h2 : c.k = 2
      · have HE : Hid (exactB c = eqC c ⟨2, m, ⟨#[]⟩⟩) := Lib.hid (by unfold exactB; rw [if_neg h0]; rw [if_neg h1]; rw [if_pos h2]; rw [HM.out])
        have n0 : (c.k == 0) = false := beq_eq_false_iff_ne.2 h0
        have n1 : (c.k == 1) = false := beq_eq_false_iff_ne.2 h1
        have n2 : (c.k == 2) = true := beq_iff_eq.2 h2
        have heq := fun W => eql_cell c ⟨2, m, ⟨#[]⟩⟩ W
        rw [HE.out]
        obtain ⟨r, hr⟩ : ∃ r, r = eqC c ⟨2, m, ⟨#[]⟩⟩ := ⟨_, rfl⟩
        rw [← hr] at heq ⊢
        clear hr HE h0 h1 h2
        go_enter Tryz.func76, Tryz.ntmps76
        go_wp2
        go_ret
        exact ⟨rfl, HG.out⟩
      ·
        by_cases h3 : c.k = 3
        · have HE : Hid (exactB c = eqC c ⟨3, 0, c.s⟩) := Lib.hid (by unfold exactB; rw [if_neg h0]; rw [if_neg h1]; rw [if_neg h2]; rw [if_pos h3])
          have n0 : (c.k == 0) = false := beq_eq_false_iff_ne.2 h0
          have n1 : (c.k == 1) = false := beq_eq_false_iff_ne.2 h1
          have n2 : (c.k == 2) = false := beq_eq_false_iff_ne.2 h2
          have n3 : (c.k == 3) = true := beq_iff_eq.2 h3
          have heq := fun W => eql_cell c ⟨3, 0, c.s⟩ W
          rw [HE.out]
          obtain ⟨r, hr⟩ : ∃ r, r = eqC c ⟨3, 0, c.s⟩ := ⟨_, rfl⟩
          rw [← hr] at heq ⊢
          clear hr HE h0 h1 h2 h3
          go_enter Tryz.func76, Tryz.ntmps76
          go_wp2
          go_ret
          exact ⟨rfl, HG.out⟩
        · have HE : Hid (exactB c = false) := Lib.hid (by unfold exactB; rw [if_neg h0, if_neg h1, if_neg h2, if_neg h3])
          have n0 : (c.k == 0) = false := beq_eq_false_iff_ne.2 h0
          have n1 : (c.k == 1) = false := beq_eq_false_iff_ne.2 h1
          have n2 : (c.k == 2) = false := beq_eq_false_iff_ne.2 h2
          have n3 : (c.k == 3) = false := beq_eq_false_iff_ne.2 h3
          rw [HE.out]
          clear HE h0 h1 h2 h3
          go_enter Tryz.func76, Tryz.ntmps76
          go_wp2
          go_ret
          exact ⟨rfl, HG.out⟩

set_option maxHeartbeats 2000000 in
theorem Cell_any (c : Cel) (w : World) : Calls Tryz.prog 41 #[.agg #[.int .i64 c.k, .int .i64 c.n, .string c.s]] w fun e w' => e = .returned (.int .i64 (cellE c)) ∧ w.grownBy w' none := by
  have QC := Lib.hid (CB.new w c)
  have HG := Lib.hid (grown_alloc w (.cells #[.int .i64 c.k, .int .i64 c.n, .string c.s] 24))
  by_cases h : 65536 < c.s.size
  · have h' : (65536 : Int) < c.s.size := by omega
    have HE : Hid (cellE c = 3) := Lib.hid (by unfold cellE; rw [if_pos h])
    rw [HE.out]
    clear h HE
    go_enter Tryz.func41, Tryz.ntmps41
    go_wp2
    go_ret
    exact ⟨rfl, HG.out⟩
  · have h' : ¬ (65536 : Int) < c.s.size := by omega
    have HE : Hid (cellE c = if exactB c = true then 0 else 2) := Lib.hid (by rw [cellE_exact, if_neg h])
    have HX := Lib.hid (fun W => exact_any c W)
    rw [HE.out]
    clear h HE
    cases hx : exactB c
    · rw [hx] at HX
      clear hx
      go_enter Tryz.func41, Tryz.ntmps41
      go_wp2_with fail
      refine (HX.out _).mono ?_
      rintro e w1 ⟨rfl, hg⟩
      have G1 := Lib.hid (grown_then HG.out hg)
      clear hg
      dsimp only
      go_wp2
      go_ret
      exact ⟨rfl, G1.out⟩
    · rw [hx] at HX
      clear hx
      go_enter Tryz.func41, Tryz.ntmps41
      go_wp2_with fail
      refine (HX.out _).mono ?_
      rintro e w1 ⟨rfl, hg⟩
      have G1 := Lib.hid (grown_then HG.out hg)
      clear hg
      dsimp only
      go_wp2
      go_ret
      exact ⟨rfl, G1.out⟩
end Go.Proofs.YtljanfnhmhimiaaGreat.Zn

namespace Go.Proofs.YtljanfnhmhimiaaGreat.Zn
open Go.RowKit Bs Dv

theorem two0 (a b : Cel) (W : World) : (Instr.index 193 (.agg #[.int .i64 a.k, .int .i64 a.n, .string a.s, .int .i64 b.k, .int .i64 b.n, .string b.s]) (.int .i64 0)).run Tryz.prog W = .ok (.agg #[.int .i64 a.k, .int .i64 a.n, .string a.s]) W := by kernel_rfl
theorem two1 (a b : Cel) (W : World) : (Instr.index 193 (.agg #[.int .i64 a.k, .int .i64 a.n, .string a.s, .int .i64 b.k, .int .i64 b.n, .string b.s]) (.int .i64 1)).run Tryz.prog W = .ok (.agg #[.int .i64 b.k, .int .i64 b.n, .string b.s]) W := by kernel_rfl

set_option maxRecDepth 100000 in
set_option maxHeartbeats 4000000 in
theorem bounded_any (z : Zon) (kind : Int) (w : World) : Calls Tryz.prog 117 #[.agg #[.int .i64 z.cnt, .int .i64 z.nul, .int .i64 z.min.k, .int .i64 z.min.n, .string z.min.s, .int .i64 z.max.k, .int .i64 z.max.n, .string z.max.s], .int .i64 kind] w fun e w' =>
    e = .returned (.bool (boundB z kind)) ∧ w.grownBy w' none := by
  have Z0 := Lib.hid (ZB.new w z)
  have G0 := Lib.hid (grown_alloc w (.cells #[.int .i64 z.cnt, .int .i64 z.nul, .int .i64 z.min.k, .int .i64 z.min.n, .string z.min.s, .int .i64 z.max.k, .int .i64 z.max.n, .string z.max.s] 33))
  have i0 := two0 z.min z.max
  have i1 := two1 z.min z.max
  have HC := Lib.hid (fun W => Cell_any z.min W)
  have HD := Lib.hid (fun W => Cell_any z.max W)
  have HK := Lib.hid (fun W => Compare_any z.min z.max W)
  obtain ⟨b, hb⟩ : ∃ b, b = boundB z kind := ⟨_, rfl⟩
  have hb2 := hb
  unfold boundB at hb
  rw [← hb2]
  clear hb2
  obtain ⟨x, hx⟩ : ∃ x, x = cellE z.min := ⟨_, rfl⟩
  obtain ⟨y, hy⟩ : ∃ y, y = cellE z.max := ⟨_, rfl⟩
  obtain ⟨o, ho⟩ : ∃ o, o = cmpC z.min z.max := ⟨_, rfl⟩
  rw [← hx] at HC hb
  rw [← hy] at HD hb
  rw [← ho] at HK hb
  clear hx hy ho
  by_cases h1 : z.min.k = kind
  · have q1 : (z.min.k != kind) = false := by rw [h1]; exact bne_self_eq_false _
    by_cases h2 : x = 0
    · have q2 : (x != 0) = false := by rw [h2]; rfl
      by_cases h3 : z.max.k = kind
      · have q3 : (z.max.k != kind) = false := by rw [h3]; exact bne_self_eq_false _
        by_cases h4 : y = 0
        · have q4 : (y != 0) = false := by rw [h4]; rfl
          have hb3 : b = decide (o ≤ 0) := by rw [hb]; exact decide_eq_decide.2 ⟨fun h => h.2.2, fun h => ⟨⟨h1, h2⟩, ⟨h3, h4⟩, h⟩⟩
          rw [hb3]
          clear h1 h2 h3 h4 hb hb3
          go_enter Tryz.func117, Tryz.ntmps117
          go_wp2
          refine wp_loop_rounds 3 ?_
          rw [rounds_succ]
          go_wp2_with fail
          refine (HC.out _).mono ?_
          rintro e w1 ⟨rfl, hg⟩
          have G1 := Lib.hid (grown_then (grown_then G0.out (grown_alloc _ _)) hg)
          have Z1 := Lib.hid ((Z0.out.old (grown_alloc _ _)).old hg)
          clear hg
          dsimp only
          go_wp2_with fail
          rw [rounds_succ]
          go_wp2_with fail
          refine (HD.out _).mono ?_
          rintro e w2 ⟨rfl, hg⟩
          have G2 := Lib.hid (grown_then (grown_then G1.out (grown_alloc _ _)) hg)
          have Z2 := Lib.hid ((Z1.out.old (grown_alloc _ _)).old hg)
          clear hg
          dsimp only
          obtain ⟨z0, z1, ⟨z2, z3, z4⟩, z5, z6, z7⟩ := Z2.out.cells
          go_wp2_with fail
          rw [rounds_succ]
          go_wp2_with fail
          refine (HK.out _).mono ?_
          rintro e w3 ⟨rfl, hg⟩
          have G3 := Lib.hid (grown_then G2.out hg)
          clear hg
          dsimp only
          go_wp2
          go_ret
          exact ⟨rfl, G3.out⟩
        · have q4 : (y != 0) = true := bne_iff_ne.2 h4
          have hb3 : b = false := by rw [hb]; exact decide_eq_false fun h => h4 h.2.1.2
          rw [hb3]
          clear h1 h2 h3 h4 hb hb3
          go_enter Tryz.func117, Tryz.ntmps117
          go_wp2
          refine wp_loop_rounds 3 ?_
          rw [rounds_succ]
          go_wp2_with fail
          refine (HC.out _).mono ?_
          rintro e w1 ⟨rfl, hg⟩
          have G1 := Lib.hid (grown_then (grown_then G0.out (grown_alloc _ _)) hg)
          have Z1 := Lib.hid ((Z0.out.old (grown_alloc _ _)).old hg)
          clear hg
          dsimp only
          go_wp2_with fail
          rw [rounds_succ]
          go_wp2_with fail
          refine (HD.out _).mono ?_
          rintro e w2 ⟨rfl, hg⟩
          have G2 := Lib.hid (grown_then (grown_then G1.out (grown_alloc _ _)) hg)
          have Z2 := Lib.hid ((Z1.out.old (grown_alloc _ _)).old hg)
          clear hg
          dsimp only
          go_wp2
          go_ret
          exact ⟨rfl, G2.out⟩
      · have q3 : (z.max.k != kind) = true := bne_iff_ne.2 h3
        have hb3 : b = false := by rw [hb]; exact decide_eq_false fun h => h3 h.2.1.1
        rw [hb3]
        clear h1 h2 h3 hb hb3
        go_enter Tryz.func117, Tryz.ntmps117
        go_wp2
        refine wp_loop_rounds 3 ?_
        rw [rounds_succ]
        go_wp2_with fail
        refine (HC.out _).mono ?_
        rintro e w1 ⟨rfl, hg⟩
        have G1 := Lib.hid (grown_then (grown_then G0.out (grown_alloc _ _)) hg)
        have Z1 := Lib.hid ((Z0.out.old (grown_alloc _ _)).old hg)
        clear hg
        dsimp only
        go_wp2_with fail
        rw [rounds_succ]
        go_wp2
        go_ret
        exact ⟨rfl, grown_then G1.out (grown_alloc _ _)⟩
    · have q2 : (x != 0) = true := bne_iff_ne.2 h2
      have hb3 : b = false := by rw [hb]; exact decide_eq_false fun h => h2 h.1.2
      rw [hb3]
      clear h1 h2 hb hb3
      go_enter Tryz.func117, Tryz.ntmps117
      go_wp2
      refine wp_loop_rounds 3 ?_
      rw [rounds_succ]
      go_wp2_with fail
      refine (HC.out _).mono ?_
      rintro e w1 ⟨rfl, hg⟩
      have G1 := Lib.hid (grown_then (grown_then G0.out (grown_alloc _ _)) hg)
      have Z1 := Lib.hid ((Z0.out.old (grown_alloc _ _)).old hg)
      clear hg
      dsimp only
      go_wp2
      go_ret
      exact ⟨rfl, G1.out⟩
  · have q1 : (z.min.k != kind) = true := bne_iff_ne.2 h1
    have hb3 : b = false := by rw [hb]; exact decide_eq_false fun h => h1 h.1.1
    rw [hb3]
    clear h1 hb hb3
    go_enter Tryz.func117, Tryz.ntmps117
    go_wp2
    refine wp_loop_rounds 3 ?_
    rw [rounds_succ]
    go_wp2
    go_ret
    exact ⟨rfl, grown_then G0.out (grown_alloc _ _)⟩

set_option maxRecDepth 100000 in
set_option maxHeartbeats 4000000 in
theorem Check_any (z : Zon) (kind : Int) (w : World) : Calls Tryz.prog 62 #[.agg #[.int .i64 z.cnt, .int .i64 z.nul, .int .i64 z.min.k, .int .i64 z.min.n, .string z.min.s, .int .i64 z.max.k, .int .i64 z.max.n, .string z.max.s], .int .i64 kind] w fun e w' =>
    e = .returned (.int .i64 (checkE z kind)) ∧ w.grownBy w' none := by
  have Z0 := Lib.hid (ZB.new w z)
  have G0 := Lib.hid (grown_alloc w (.cells #[.int .i64 z.cnt, .int .i64 z.nul, .int .i64 z.min.k, .int .i64 z.min.n, .string z.min.s, .int .i64 z.max.k, .int .i64 z.max.n, .string z.max.s] 33))
  obtain ⟨r, hr⟩ : ∃ r, r = checkE z kind := ⟨_, rfl⟩
  have HR := Lib.hid hr
  rw [← hr]
  clear hr
  by_cases hk : kind ≠ 1 ∧ kind ≠ 2 ∧ kind ≠ 3
  · have q1 : (kind != 1) = true := bne_iff_ne.2 hk.1
    have q2 : (kind != 2) = true := bne_iff_ne.2 hk.2.1
    have q3 : (kind != 3) = true := bne_iff_ne.2 hk.2.2
    have hr : r = 2 := by rw [HR.out]; unfold checkE; rw [if_pos hk]
    rw [hr]
    clear hr hk HR
    go_enter Tryz.func62, Tryz.ntmps62
    go_wp2
    go_ret
    exact ⟨rfl, G0.out⟩
  · have HB := Lib.hid (fun W => bounded_any z kind W)
    have hk' : kind = 1 ∨ kind = 2 ∨ kind = 3 := by omega
    by_cases h0 : z.nul < 0
    · have hr : r = 2 := by rw [HR.out]; unfold checkE; rw [if_neg hk, if_pos (.inl h0)]
      rw [hr]
      clear hr hk HR HB
      rcases hk' with rfl | rfl | rfl
      all_goals
        go_enter Tryz.func62, Tryz.ntmps62
        go_wp2
        go_ret
        exact ⟨rfl, G0.out⟩
    · by_cases h1 : z.cnt < z.nul
      · have hr : r = 2 := by rw [HR.out]; unfold checkE; rw [if_neg hk, if_pos (.inr h1)]
        rw [hr]
        clear hr hk HR HB
        rcases hk' with rfl | rfl | rfl
        all_goals
          go_enter Tryz.func62, Tryz.ntmps62
          go_wp2
          go_ret
          exact ⟨rfl, G0.out⟩
      · have hn : ¬ (z.nul < 0 ∨ z.cnt < z.nul) := by omega
        by_cases h2 : z.cnt = z.nul
        · have q4 : (z.cnt == z.nul) = true := beq_iff_eq.2 h2
          have HM := Lib.hid (fun W => (empty_any z W).mono fun e w' (h : _ ∧ _) => (show e = .returned (.bool true) ∧ W.grownBy w' none from ⟨by rw [h.1, q4], h.2⟩))
          have n1 := fun W => neq_cell z.min ⟨0, 0, ⟨#[]⟩⟩ W
          have n2 := fun W => neq_cell z.max ⟨0, 0, ⟨#[]⟩⟩ W
          cases e1 : eqC z.min ⟨0, 0, ⟨#[]⟩⟩
          · have hr : r = 2 := by rw [HR.out]; unfold checkE; rw [if_neg hk, if_neg hn, if_pos ⟨h2, .inl e1⟩]
            rw [hr]
            simp only [e1, Bool.not_false] at n1
            clear hr hk HR HB hn h2 q4 e1 n2
            rcases hk' with rfl | rfl | rfl
            all_goals
              go_enter Tryz.func62, Tryz.ntmps62
              go_wp2_with fail
              refine (HM.out _).mono ?_
              rintro e w1 ⟨rfl, hg⟩
              have G1 := Lib.hid (grown_then G0.out hg)
              have Z1 := Lib.hid (Z0.out.old hg)
              clear hg
              obtain ⟨z0, z1, ⟨z2, z3, z4⟩, z5, z6, z7⟩ := Z1.out.cells
              dsimp only
              go_wp2
              go_ret
              exact ⟨rfl, G1.out⟩
          · simp only [e1, Bool.not_true] at n1
            cases e2 : eqC z.max ⟨0, 0, ⟨#[]⟩⟩
            · have hr : r = 2 := by rw [HR.out]; unfold checkE; rw [if_neg hk, if_neg hn, if_pos ⟨h2, .inr e2⟩]
              rw [hr]
              simp only [e2, Bool.not_false] at n2
              clear hr hk HR HB hn h2 q4 e1 e2
              rcases hk' with rfl | rfl | rfl
              all_goals
                go_enter Tryz.func62, Tryz.ntmps62
                go_wp2_with fail
                refine (HM.out _).mono ?_
                rintro e w1 ⟨rfl, hg⟩
                have G1 := Lib.hid (grown_then G0.out hg)
                have Z1 := Lib.hid (Z0.out.old hg)
                clear hg
                obtain ⟨z0, z1, ⟨z2, z3, z4⟩, z5, z6, z7⟩ := Z1.out.cells
                dsimp only
                go_wp2
                go_ret
                exact ⟨rfl, G1.out⟩
            · have hr : r = 0 := by
                rw [HR.out]
                unfold checkE
                rw [if_neg hk, if_neg hn, if_neg, if_neg]
                · exact fun h => h.1 h2
                · rintro ⟨_, h | h⟩
                  · have h : eqC z.min ⟨0, 0, ⟨#[]⟩⟩ = false := h
                    rw [e1] at h; cases h
                  · have h : eqC z.max ⟨0, 0, ⟨#[]⟩⟩ = false := h
                    rw [e2] at h; cases h
              rw [hr]
              simp only [e2, Bool.not_true] at n2
              clear hr hk HR HB hn h2 q4 e1 e2
              rcases hk' with rfl | rfl | rfl
              all_goals
                go_enter Tryz.func62, Tryz.ntmps62
                go_wp2_with fail
                refine (HM.out _).mono ?_
                rintro e w1 ⟨rfl, hg⟩
                have G1 := Lib.hid (grown_then G0.out hg)
                have Z1 := Lib.hid (Z0.out.old hg)
                clear hg
                obtain ⟨z0, z1, ⟨z2, z3, z4⟩, z5, z6, z7⟩ := Z1.out.cells
                dsimp only
                go_wp2_with fail
                refine (HM.out _).mono ?_
                rintro e w2 ⟨rfl, hg⟩
                have G2 := Lib.hid (grown_then G1.out hg)
                have Z2 := Lib.hid (Z1.out.old hg)
                clear hg
                obtain ⟨z0, z1, ⟨z2, z3, z4⟩, z5, z6, z7⟩ := Z2.out.cells
                dsimp only
                go_wp2
                go_ret
                exact ⟨rfl, G2.out⟩
        · have q4 : (z.cnt == z.nul) = false := beq_eq_false_iff_ne.2 h2
          have HM := Lib.hid (fun W => (empty_any z W).mono fun e w' (h : _ ∧ _) => (show e = .returned (.bool false) ∧ W.grownBy w' none from ⟨by rw [h.1, q4], h.2⟩))
          cases e1 : boundB z kind
          · have hr : r = 2 := by rw [HR.out]; unfold checkE; rw [if_neg hk, if_neg hn, if_neg (fun h => h2 h.1), if_pos ⟨h2, e1⟩]
            rw [hr]
            rw [e1] at HB
            clear hr hk HR hn h2 q4 e1
            rcases hk' with rfl | rfl | rfl
            all_goals
              go_enter Tryz.func62, Tryz.ntmps62
              go_wp2_with fail
              refine (HM.out _).mono ?_
              rintro e w1 ⟨rfl, hg⟩
              have G1 := Lib.hid (grown_then G0.out hg)
              have Z1 := Lib.hid (Z0.out.old hg)
              clear hg
              obtain ⟨z0, z1, ⟨z2, z3, z4⟩, z5, z6, z7⟩ := Z1.out.cells
              dsimp only
              go_wp2_with fail
              refine (HM.out _).mono ?_
              rintro e w2 ⟨rfl, hg⟩
              have G2 := Lib.hid (grown_then G1.out hg)
              have Z2 := Lib.hid (Z1.out.old hg)
              clear hg
              obtain ⟨z0, z1, ⟨z2, z3, z4⟩, z5, z6, z7⟩ := Z2.out.cells
              dsimp only
              go_wp2_with fail
              refine (HB.out _).mono ?_
              rintro e w3 ⟨rfl, hg⟩
              have G3 := Lib.hid (grown_then G2.out hg)
              have Z3 := Lib.hid (Z2.out.old hg)
              clear hg
              obtain ⟨z0, z1, ⟨z2, z3, z4⟩, z5, z6, z7⟩ := Z3.out.cells
              dsimp only
              go_wp2
              go_ret
              exact ⟨rfl, G3.out⟩
          · have hr : r = 0 := by rw [HR.out]; unfold checkE; rw [if_neg hk, if_neg hn, if_neg (fun h => h2 h.1), if_neg (fun h => by rw [e1] at h; cases h.2)]
            rw [hr]
            rw [e1] at HB
            clear hr hk HR hn h2 q4 e1
            rcases hk' with rfl | rfl | rfl
            all_goals
              go_enter Tryz.func62, Tryz.ntmps62
              go_wp2_with fail
              refine (HM.out _).mono ?_
              rintro e w1 ⟨rfl, hg⟩
              have G1 := Lib.hid (grown_then G0.out hg)
              have Z1 := Lib.hid (Z0.out.old hg)
              clear hg
              obtain ⟨z0, z1, ⟨z2, z3, z4⟩, z5, z6, z7⟩ := Z1.out.cells
              dsimp only
              go_wp2_with fail
              refine (HM.out _).mono ?_
              rintro e w2 ⟨rfl, hg⟩
              have G2 := Lib.hid (grown_then G1.out hg)
              have Z2 := Lib.hid (Z1.out.old hg)
              clear hg
              obtain ⟨z0, z1, ⟨z2, z3, z4⟩, z5, z6, z7⟩ := Z2.out.cells
              dsimp only
              go_wp2_with fail
              refine (HB.out _).mono ?_
              rintro e w3 ⟨rfl, hg⟩
              have G3 := Lib.hid (grown_then G2.out hg)
              have Z3 := Lib.hid (Z2.out.old hg)
              clear hg
              obtain ⟨z0, z1, ⟨z2, z3, z4⟩, z5, z6, z7⟩ := Z3.out.cells
              dsimp only
              go_wp2
              go_ret
              exact ⟨rfl, G3.out⟩
end Go.Proofs.YtljanfnhmhimiaaGreat.Zn
