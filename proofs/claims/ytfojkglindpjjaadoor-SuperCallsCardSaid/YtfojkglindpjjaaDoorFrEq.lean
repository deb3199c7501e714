/-
  Frames compared.
-/
import Derived.Test.YtfojkglindpjjaaDoorFrKind
import Derived.Laws.StructEq
namespace Go.Proofs.YtfojkglindpjjaaDoor.Fr
open Go.RowKit Bs Dv

/-- are two frames the same? -/
def fB (x g : Int) (s : ByteArray) (y h : Int) (t : ByteArray) : Bool := decide (x = y ∧ g = h ∧ s = t)
theorem toList_ne {s t : ByteArray} (h : ¬ s = t) : (s.toList == t.toList) = false := by
  refine beq_eq_false_iff_ne.2 fun e => h ?_
  rw [ByteArray.toList_eq, ByteArray.toList_eq] at e
  apply ByteArray.ext
  exact Array.ext' e

theorem equal_fm (d : Nat) (x g : Int) (s : ByteArray) (y h : Int) (t : ByteArray) (w : World) :
    (Op.equalIn (d + 2) 41 (.agg #[.int .u8 x, .int .u64 g, .string s]) (.agg #[.int .u8 y, .int .u64 h, .string t])).run Tryd.prog w = .ok (fB x g s y h t) w := by
  have hF : (Tryd.prog.fieldsOf 41).toList.map (fun f => (f.type, f.offset, decide (f.name ≠ "_"))) = [(5, 0, true), (23, 1, true), (9, 2, true)] := by kernel_rfl
  obtain ⟨f1, f2, f3, hf, e1, e2, e3, e4, e5, e6, e7, e8, e9⟩ : ∃ f1 f2 f3 : Field, (Tryd.prog.fieldsOf 41).toList = [f1, f2, f3] ∧ f1.type = 5 ∧ f1.offset = 0 ∧ f1.name ≠ "_" ∧ f2.type = 23 ∧ f2.offset = 1 ∧ f2.name ≠ "_" ∧ f3.type = 9 ∧ f3.offset = 2 ∧ f3.name ≠ "_" := by
    revert hF
    generalize (Tryd.prog.fieldsOf 41).toList = l
    intro hF
    rcases l with _ | ⟨f1, _ | ⟨f2, _ | ⟨f3, _ | ⟨f4, r⟩⟩⟩⟩
    · cases hF
    · simp only [List.map_cons, List.map_nil, List.cons.injEq] at hF
      exact absurd hF.2 (by simp)
    · simp only [List.map_cons, List.map_nil, List.cons.injEq] at hF
      exact absurd hF.2.2 (by simp)
    · simp only [List.map_cons, List.map_nil, List.cons.injEq, Prod.mk.injEq, decide_eq_true_eq, and_true] at hF
      exact ⟨f1, f2, f3, rfl, hF.1.1, hF.1.2.1, hF.1.2.2, hF.2.1.1, hF.2.1.2.1, hF.2.1.2.2, hF.2.2.1, hF.2.2.2.1, hF.2.2.2.2⟩
    · simp only [List.map_cons, List.cons.injEq] at hF
      exact absurd hF.2.2.2 (by simp)
  have hu : Tryd.prog.underlying 41 = some (.struct (Tryd.prog.fieldsOf 41)) := by kernel_rfl
  rw [run_equalIn_struct w (d + 1) _ _ _ hu (by kernel_rfl), hf]
  by_cases h1 : x = y
  · subst h1
    by_cases h2 : g = h
    · subst h2
      by_cases h3 : s = t
      · subst h3
        simp [Op.eqFields, e1, e2, e3, e4, e5, e6, e7, e8, e9, part, run_equalIn_int _ _ _ _ _ _ _ Tryd.underlying5, run_equalIn_int _ _ _ _ _ _ _ Tryd.underlying23, run_equalIn_string _ _ _ _ _ Tryd.underlying9, go_sem, fB]
      · have h4 := toList_ne h3
        simp [Op.eqFields, e1, e2, e3, e4, e5, e6, e7, e8, e9, part, run_equalIn_int _ _ _ _ _ _ _ Tryd.underlying5, run_equalIn_int _ _ _ _ _ _ _ Tryd.underlying23, run_equalIn_string _ _ _ _ _ Tryd.underlying9, go_sem, fB, h3, h4]
    · simp [Op.eqFields, e1, e2, e3, e4, e5, e6, part, run_equalIn_int _ _ _ _ _ _ _ Tryd.underlying5, run_equalIn_int _ _ _ _ _ _ _ Tryd.underlying23, go_sem, fB, h2]
  · simp [Op.eqFields, e1, e2, e3, part, run_equalIn_int _ _ _ _ _ _ _ Tryd.underlying5, go_sem, fB, h1]

theorem eql_fm (x g : Int) (s : ByteArray) (y h : Int) (t : ByteArray) (w : World) : (binOp .eql 41 (.agg #[.int .u8 x, .int .u64 g, .string s]) (.agg #[.int .u8 y, .int .u64 h, .string t])).run Tryd.prog w = .ok (.bool (fB x g s y h t)) w := by
  rw [run_eql_struct, equal_fm 9998]
  rfl
theorem neq_fm (x g : Int) (s : ByteArray) (y h : Int) (t : ByteArray) (w : World) : (binOp .neq 41 (.agg #[.int .u8 x, .int .u64 g, .string s]) (.agg #[.int .u8 y, .int .u64 h, .string t])).run Tryd.prog w = .ok (.bool (!fB x g s y h t)) w := by
  rw [run_neq_struct, equal_fm 9998]
  rfl

theorem fB_same (x g : Int) (s : ByteArray) : fB x g s x g s = true := decide_eq_true ⟨rfl, rfl, rfl⟩
theorem fB_iff {f h : Fm} (hf : FmOk f) (hh : FmOk h) : fB f.1 f.2.1 (strOfNums f.2.2) h.1 h.2.1 (strOfNums h.2.2) = decide (f = h) := by
  unfold fB
  refine decide_eq_decide.2 ⟨fun ⟨a, b, c⟩ => ?_, fun e => by rw [e]; exact ⟨rfl, rfl, rfl⟩⟩
  obtain ⟨f1, f2, f3⟩ := f
  obtain ⟨h1, h2, h3⟩ := h
  simp only at a b c
  have e : f3 = h3 := str_inj hf.2.2 hh.2.2 c
  rw [a, b, e]
end Go.Proofs.YtfojkglindpjjaaDoor.Fr
