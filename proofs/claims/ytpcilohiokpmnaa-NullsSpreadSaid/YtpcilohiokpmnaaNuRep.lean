/-
  One flag over and over: slices.Repeat (and math/bits.Mul, at 1).
-/
import Derived.Test.YtpcilohiokpmnaaNuForm
import Derived.Laws.CopyOwn
import Derived.Laws.OwnMore
import Derived.Deep.RegionLaw
import Derived.Deep.DeepMust
import Derived.Laws.BitsAllLaws
namespace Go.Proofs.Ytpcilohiokpmnaa.Nu
open Go.RowKit

theorem maskC (a : Nat) (ha : a < 4294967296) : bits .and .u64 (a : Int) 4294967295 = (a : Int) := by
  have h := bits_and_u64_nat a 4294967295 (by omega) (by omega)
  have e : a &&& 4294967295 = a % 4294967296 := Nat.and_two_pow_sub_one_eq_mod a 32
  rw [e, Nat.mod_eq_of_lt ha] at h
  exact h

set_option maxRecDepth 100000 in
set_option maxHeartbeats 1000000 in
theorem mul64_any (C : Nat) (hC : C ≤ 65536) (w : World) :
    Calls Try.prog 69 #[.int .u64 1, .int .u64 C] w fun e w' => e = .returned (.tuple #[.int .u64 0, .int .u64 C]) ∧ w = w' := by
  have e1 : bits .and .u64 (1 : Int) 4294967295 = 1 := maskC 1 (by decide)
  have e2 := maskC C (by omega)
  have e3 : (C : Int) / 4294967296 = 0 := by omega
  have e4 : bits .and .u64 (0 : Int) 4294967295 = 0 := maskC 0 (by decide)
  go_enter Try.func69, Try.ntmps69
  go_wp2
  go_ret2
  exact ⟨rfl, rfl⟩

set_option maxHeartbeats 400000 in
theorem mul_any (C : Nat) (hC : C ≤ 65536) (w : World) :
    Calls Try.prog 64 #[.int .u64 1, .int .u64 C] w fun e w' => e = .returned (.tuple #[.int .u64 0, .int .u64 C]) ∧ w = w' := by
  have H := Lib.hid (mul64_any C hC w)
  go_enter Try.func64, Try.ntmps64
  go_wp2_with fail
  refine H.out.mono ?_
  rintro e w' ⟨rfl, rfl⟩
  dsimp only
  go_wp2
  go_ret2
  exact ⟨rfl, rfl⟩

def roomB (S : Nat) : Array Value := madeCells (Value.bool false).cells S
/-- the first m are v, the others false -/
def fillV (m C : Nat) (v : Bool) : List Value := (List.replicate m v ++ List.replicate (C - m) false).map Value.bool
theorem fillV_len (m C : Nat) (v : Bool) (h : m ≤ C) : (fillV m C v).length = C := by simp [fillV, Nat.add_sub_cancel' h]
theorem fillV_full (C : Nat) (v : Bool) : fillV C C v = (List.replicate C v).map Value.bool := by simp [fillV]
theorem fillV_splice (m C q : Nat) (v : Bool) (h : m + q ≤ C) : splice (fillV m C v) m (List.replicate q (Value.bool v)) = fillV (m + q) C v := by
  unfold splice fillV
  simp only [List.map_append, List.map_replicate, List.length_replicate]
  rw [List.take_left' (by simp), List.drop_append, List.drop_eq_nil_of_le (by rw [List.length_replicate]; omega), List.nil_append, List.length_replicate, List.drop_replicate, ← List.append_assoc, List.replicate_append_replicate]
  congr 2
  omega
theorem roomB_list (S : Nat) : (roomB S).toList = fillV 0 S false := by
  rw [show fillV 0 S false = List.replicate S (Value.bool false) from by simp [fillV]]
  exact toList_madeCells_one _ _
theorem fillV_zero (C : Nat) (v u : Bool) : fillV 0 C v = fillV 0 C u := by simp [fillV]
theorem make_fullB (S : Nat) (hS : S ≤ 1000000) (W : World) : (Instr.makeSlice 43 (.int .i64 (S : Int)) (.int .i64 (S : Int))).run Try.prog W = .ok (.slice (some ⟨W.heap.size, 0, none⟩) S S) (W.alloc (.cells (roomB S) 4)) := by
  obtain ⟨i0, hi, hz0, hz1, hz2⟩ := info_parts Bl.info_bool
  have h := run_make (P := Try.prog) W 43 4 i0 (.bool false) Try.underlying43 hi hz0 .i64 .i64 (S : Int) (S : Int) (by omega) (by omega) (by rw [hz2]; omega) (by omega)
  rw [hz1, Int.toNat_natCast, Nat.mul_one] at h
  exact h
/-- what a row's own block reads at its start -/
theorem fillV_cells {w : World} {G m C q : Nat} {v : Bool} (h : w.heap[G]? = some (.cells (fillV m C v).toArray 4 (0, 0))) (hq : q ≤ m) : ∀ j u, (List.replicate q (Value.bool v))[j]? = some u → w.cell? ((⟨G, 0, none⟩ : Addr).add j) = some u := by
  intro j u hu
  rw [List.getElem?_replicate] at hu
  split at hu
  · rename_i hj
    rw [Addr.add_lit, ← Option.some.inj hu, Nat.zero_add]
    unfold World.cell?
    rw [show (⟨G, j, none⟩ : Addr).block = G from rfl, h]
    simp only [List.getElem?_toArray]
    unfold fillV
    rw [List.map_append, List.getElem?_append_left (by simp; omega)]
    simp [List.getElem?_replicate]; omega
  · cases hu

set_option maxRecDepth 100000 in
set_option maxHeartbeats 600000 in
theorem repeat_any (xb C : Nat) (v : Bool) (w : World) (C1 : 1 ≤ C) (hC : C ≤ 65536) (hx : w.cell? ⟨xb, 0, none⟩ = some (.bool v)) :
    Calls Try.prog 56 #[.slice (some ⟨xb, 0, none⟩) 1 1, .int .i64 C] w fun e w' =>
      e = .returned (.slice (some ⟨w.heap.size, 0, none⟩) C C) ∧ w'.ownsRow w.heap.size 4 1 (.slice (some ⟨w.heap.size, 0, none⟩) C C) C ((List.replicate C v).map Value.bool) ∧ Below w.heap.size w w' := by
  have hsz : (Try.prog.info? 4).map (·.size) = some 1 := by kernel_rfl
  have HM := Lib.hid (mul_any C hC w)
  have hmk := make_fullB C (by omega)
  have h0 : (w.alloc (.cells (roomB C) 4)).heap[w.heap.size]? = some (.cells (fillV 0 C v).toArray 4 (0, 0)) := by
    have : (fillV 0 C v).toArray = roomB C := by rw [fillV_zero C v false, ← roomB_list]
    rw [this]
    exact heap_alloc_new w _
  have H0 := Lib.hid h0
  have hx1 : (w.alloc (.cells (roomB C) 4)).cell? ⟨xb, 0, none⟩ = some (.bool v) := (World.grownBy_alloc w _ none).cell hx (by simp)
  have HX1 := Lib.hid hx1
  have HG : Hid (Below w.heap.size w (w.alloc (.cells (roomB C) 4))) := Lib.hid ((Below.refl _ w).alloc (Nat.le_refl _) _)
  have HW1 : Hid (∀ j u, ([Value.bool v] : List Value)[j]? = some u → (w.alloc (.cells (roomB C) 4)).cell? ((⟨xb, 0, none⟩ : Addr).add j) = some u) := Lib.hid (by
    intro j u hu
    match j, hu with
    | 0, hu => simp at hu; subst hu; rw [Addr.add_lit]; exact hx1)
  have HF1 : Hid (splice (fillV 0 C v) 0 [Value.bool v] = fillV 1 C v) := Lib.hid (by have := fillV_splice 0 C 1 v (by omega); simpa using this)
  have HN1 : Hid (([Value.bool v] : List Value).length = Nat.min 1 C) := Lib.hid (by simp [Nat.min_def]; omega)
  have HT1 : Hid (0 + ([Value.bool v] : List Value).length ≤ (fillV 0 C v).length) := Lib.hid (by rw [fillV_len 0 C v (by omega)]; simp; omega)
  have HV1 : Hid (∀ x ∈ ([Value.bool v] : List Value), x.oneCell' = true) := Lib.hid (by simp [Value.oneCell'])
  clear h0 hx hx1
  go_enter Try.func56, Try.ntmps56
  go_wp2_with (first
    | (go_at_call 64; refine HM.out.mono ?_; rintro e w' ⟨rfl, rfl⟩)
    | (show wpList _ _ _ ((⟨some 33, _, _, _, _, _⟩ : Oper) :: _) _ _
       go_must (refine wpList_copy_splice rfl (.tmp 31) (.tmp 32) 43 43 rfl 4 Try.underlying43 hsz (some ⟨w.heap.size, 0, none⟩) (some ⟨xb, 0, none⟩) C C 1 1 rfl rfl w.heap.size 0 (fillV 0 C v) 4 H0.out [.bool v] HN1.out (fun _ => ⟨rfl, ⟨xb, 0, none⟩, rfl, HW1.out⟩) HT1.out HV1.out w.heap.size w HG.out (Nat.le_refl _) ?_)
       intro w1 hg1 hb1)
    | fail)
  have hg1 : w1.heap[w.heap.size]? = some (.cells (fillV 1 C v).toArray 4 (0, 0)) := by have := hg1.out; rwa [HF1.out] at this
  have HG1 := Lib.hid hg1
  have HB1 := Lib.hid hb1
  clear hg1 hb1
  go_loopw [8] (fun sn wr => ∃ m : Nat, 1 ≤ m ∧ m ≤ C ∧ sn = .int .i64 m ∧ Hid (wr.heap[w.heap.size]? = some (.cells (fillV m C v).toArray 4 (0, 0))) ∧ Hid (Below w.heap.size w wr)) (fun sn _ => C - (intOf sn).toNat)
  case atStart => exact ⟨1, Nat.le_refl _, C1, rfl, HG1, HB1⟩
  case round =>
    obtain ⟨m, m1, mC, rfl, HG, HB⟩ := hrel
    by_cases hlt : m < C
    · obtain ⟨q, hq⟩ : ∃ q, min m (C - m) = q := ⟨_, rfl⟩
      have q1 : 1 ≤ q := by omega
      have hmq : m + q ≤ C := by omega
      have HF := Lib.hid (fillV_splice m C q v hmq)
      have HW := Lib.hid (fillV_cells (q := q) HG.out (by omega))
      have hN : (List.replicate q (Value.bool v)).length = Nat.min m (C - m) := by rw [List.length_replicate]; exact hq.symm
      have hT : m + (List.replicate q (Value.bool v)).length ≤ (fillV m C v).length := by rw [List.length_replicate, fillV_len m C v mC]; exact hmq
      have hV : ∀ x ∈ List.replicate q (Value.bool v), x.oneCell' = true := fun x hx => by rw [List.eq_of_mem_replicate hx]; rfl
      have hL : (List.replicate q (Value.bool v)).length = q := List.length_replicate
      obtain ⟨R, hR⟩ : ∃ R, List.replicate q (Value.bool v) = R := ⟨_, rfl⟩
      rw [hR] at HF HW hN hT hV hL
      have HN := Lib.hid hN
      have HT := Lib.hid hT
      have HV := Lib.hid hV
      have HL := Lib.hid hL
      have hne : ¬ C = m := by omega
      clear hN hT hV hL hR hq
      have HGd : Hid (wr.drew.heap[w.heap.size]? = some (.cells (fillV m C v).toArray 4 (0, 0))) := Lib.hid HG.out
      have HWd : Hid (∀ j u, R[j]? = some u → wr.drew.cell? ((⟨w.heap.size, 0, none⟩ : Addr).add j) = some u) := Lib.hid HW.out
      have HBd : Hid (Below w.heap.size w wr.drew) := Lib.hid HB.out.drew
      go_wp2
      go_region_law (first
        | (refine step_copy_splice (by rfl) (.tmp 41) (.tmp 44) 43 43 (by rfl) 4 Try.underlying43 hsz (some ⟨w.heap.size, m, none⟩) (some ⟨w.heap.size, 0, none⟩) (C - m) (C - m) m C (by simp [go_sem]) (by simp [go_sem]) w.heap.size m (fillV m C v) 4 (by exact HGd.out) R HN.out (by exact fun _ => ⟨rfl, ⟨w.heap.size, 0, none⟩, rfl, HWd.out⟩) HT.out HV.out w.heap.size w (by exact HBd.out) (Nat.le_refl _) ?_; intro w2 hg2 hb2)
        | fail)
      have hg3 : Hid (w2.heap[w.heap.size]? = some (.cells (fillV (m + q) C v).toArray 4 (0, 0))) := Lib.hid (by rw [← HF.out]; exact hg2.out)
      have hb3 := Lib.hid hb2
      have hwr : IntKind.i64.wrap ((m : Int) + (q : Int)) = ((m + q : Nat) : Int) := by
        rw [IntKind.wrap_i64]
        first | omega | (split <;> omega)
      rw [HL.out, hwr]
      clear hg2 hb2 hwr
      go_simp
      go_roundw
      case rel => exact ⟨.int .i64 ((m : Int) + (q : Int)), _, _, _, _, _, _, _, _, _, _, _, _, _, ⟨m + q, by omega, hmq, by rw [Int.natCast_add], hg3, hb3⟩, rfl⟩
      case measure => simp [intOf]; omega
    · obtain rfl : m = C := by omega
      have HF : Hid (wr.ownsRow w.heap.size 4 1 (.slice (some ⟨w.heap.size, 0, none⟩) m m) m ((List.replicate m v).map Value.bool)) := by
        rw [← fillV_full]
        refine Lib.hid ⟨by rw [fillV_len m m v (Nat.le_refl _), Nat.mul_one], .inr ⟨w.heap.size, m, _, rfl, Nat.le_refl _, HG.out, Nat.le_refl _, by unfold maxLen; omega, by simp [fillV_len m m v], ?_⟩⟩
        simp only [Nat.mul_one]
        exact List.take_of_length_le (by rw [fillV_len m m v (Nat.le_refl _)]; exact Nat.le_refl _)
      go_wp2
      go_ret
      exact ⟨rfl, HF.out, HB.out⟩
end Go.Proofs.Ytpcilohiokpmnaa.Nu
