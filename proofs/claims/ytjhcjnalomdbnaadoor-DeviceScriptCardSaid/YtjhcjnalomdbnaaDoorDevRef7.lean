/-
  The document's device: Same.
-/
import Derived.Test.YtjhcjnalomdbnaaDoorDevRef5
import Derived.Laws.StructEq
import Derived.BigQuiet
namespace Go.Proofs.YtjhcjnalomdbnaaDoor.Dv
open Go.RowKit Bs

theorem WSeg.frm {w : World} {pa : Option Addr} {n c : Nat} {l : List (Nat × List Int)} (h : WSeg w pa n c l) (hn : n ≠ 0) : ∃ B O, pa = some ⟨B, O, none⟩ ∧ ∀ k, k < n → w.cell? ⟨B, O + k * 2, none⟩ = some (.int .i64 ((l.getD k (0, [])).1 : Int)) ∧ w.cell? ⟨B, O + k * 2 + 1, none⟩ = some (.string (strOfNums (l.getD k (0, [])).2)) := by
  cases pa with
  | none => exact absurd (h.nil_ rfl).1 hn
  | some ad =>
    have hl := h.len
    have h0 := spot_none (h.at_ ad rfl 0 _ (wrow_at l 0 (by omega)).1)
    obtain ⟨B, O, sp⟩ := ad
    have : sp = none := h0
    subst this
    refine ⟨B, O, rfl, fun k hk => ?_⟩
    have h1 := wrow_at l k (by omega)
    have h2 := h.at_ _ rfl _ _ h1.1
    have h3 := h.at_ _ rfl _ _ h1.2
    rw [Addr.add_lit, Nat.mul_comm] at h2
    rw [Addr.add_lit, Nat.mul_comm, ← Nat.add_assoc] at h3
    exact ⟨h2, h3⟩

theorem neq_write_same (x : Int) (T : ByteArray) (w : World) : (binOp .neq 66 (.agg #[.int .i64 x, .string T]) (.agg #[.int .i64 x, .string T])).run Tryd.prog w = .ok (.bool false) w := by
  have hF : (Tryd.prog.fieldsOf 66).toList.map (fun f => (f.type, f.offset, decide (f.name ≠ "_"))) = [(3, 0, true), (9, 1, true)] := by kernel_rfl
  obtain ⟨f1, f2, hf, e1, e2, e3, e4, e5, e6⟩ : ∃ f1 f2 : Field, (Tryd.prog.fieldsOf 66).toList = [f1, f2] ∧ f1.type = 3 ∧ f1.offset = 0 ∧ f1.name ≠ "_" ∧ f2.type = 9 ∧ f2.offset = 1 ∧ f2.name ≠ "_" := by
    revert hF
    generalize (Tryd.prog.fieldsOf 66).toList = l
    intro hF
    rcases l with _ | ⟨f1, _ | ⟨f2, _ | ⟨f3, r⟩⟩⟩
    · cases hF
    · simp only [List.map_cons, List.map_nil, List.cons.injEq] at hF
      exact absurd hF.2 (by simp)
    · simp only [List.map_cons, List.map_nil, List.cons.injEq, Prod.mk.injEq, decide_eq_true_eq, and_true] at hF
      exact ⟨f1, f2, rfl, hF.1.1, hF.1.2.1, hF.1.2.2, hF.2.1, hF.2.2.1, hF.2.2.2⟩
    · simp only [List.map_cons, List.cons.injEq] at hF
      exact absurd hF.2.2 (by simp)
  have hu : Tryd.prog.underlying 66 = some (.struct (Tryd.prog.fieldsOf 66)) := by kernel_rfl
  rw [run_neq_struct, run_equalIn_struct w 9999 _ _ _ hu (by kernel_rfl), hf]
  simp [Op.eqFields, e1, e2, e3, e4, e5, e6, part, run_equalIn_int _ _ _ _ _ _ _ Tryd.underlying3, run_equalIn_string _ _ _ _ _ Tryd.underlying9, go_sem]

set_option maxRecDepth 100000 in
set_option maxHeartbeats 2000000 in
theorem rsame_yes (a a' : Option Addr) (n c c' : Nat) (l : List (Nat × List Int)) (w : World) (h : WSeg w a n c l) (h' : WSeg w a' n c' l) (hn : n ≤ 1000000) :
    Calls Tryd.prog 36 #[.slice a n c, .slice a' n c'] w fun e w' => e = .returned (.bool true) ∧ Turn w w' nowhere := by
  by_cases h0 : n = 0
  · subst h0
    clear h h' hn
    go_enter Tryd.func36, Tryd.ntmps36
    go_wp2
    refine wp_loop_rounds 1 ?_
    rw [rounds_succ]
    go_wp2
    go_ret
    exact ⟨rfl, Turn.refl _ _⟩
  · obtain ⟨B, O, rfl, h1⟩ := h.frm h0
    obtain ⟨B', O', rfl, h2⟩ := h'.frm h0
    have H1 := Lib.hid h1
    have H2 := Lib.hid h2
    have en : ((n : Int) != (n : Int)) = false := by simp
    have HEQ := Lib.hid neq_write_same
    clear h h' h1 h2 h0
    go_enter Tryd.func36, Tryd.ntmps36
    go_wp2
    go_loopw [5] (fun iv wr => ∃ k : Nat, k ≤ n ∧ iv = .int .i64 (k : Int) ∧ Hid (Turn w wr nowhere)) (fun iv _ => n - (intOf iv).toNat)
    case atStart => exact ⟨0, Nat.zero_le _, rfl, Turn.refl _ _⟩
    case round =>
      obtain ⟨k, hk, rfl, HT⟩ := hrel
      by_cases hlt : k < n
      · obtain ⟨x, hx⟩ : ∃ x, x = (((l.getD k (0, [])).1 : Nat) : Int) := ⟨_, rfl⟩
        obtain ⟨T, hT⟩ : ∃ T, T = strOfNums (l.getD k (0, [])).2 := ⟨_, rfl⟩
        have a0 := HT.out.cell (H1.out k hlt).1 id
        have a1 := HT.out.cell (H1.out k hlt).2 id
        have b0 := HT.out.cell (H2.out k hlt).1 id
        have b1 := HT.out.cell (H2.out k hlt).2 id
        rw [← hx] at a0 b0
        rw [← hT] at a1 b1
        have he := HEQ.out x T
        have p0 : (0 : Int) ≤ (k : Int) := by omega
        have p1 : (k : Int) < (n : Int) := by omega
        clear hx hT
        go_wp2_with fail
        go_quiet (fail)
        go_wp2
        go_roundw
        case rel => exact ⟨k + 1, by omega, by go_num, HT.out.trans (Turn.drewN _ _ nowhere) (fun _ _ h => h)⟩
        case measure => simp [intOf]; omega
      · obtain rfl : k = n := by omega
        go_wp2
        go_ret
        exact ⟨rfl, HT.out⟩
end Go.Proofs.YtjhcjnalomdbnaaDoor.Dv
