/-
  What the program's and the document's functions do, in memory and as plain functions: NuRep, NuGetP, NuGet.
-/
import Derived.Laws.CopyOwn
import Derived.Laws.OwnMore
import Derived.Deep.RegionLaw
import Derived.Deep.DeepMust
import Derived.Laws.BitsAllLaws
import Derived.Test.YtljanfnhmhimiaaGreatSmE
import Derived.Test.YtljanfnhmhimiaaGreatSmH
import Derived.Test.YtljanfnhmhimiaaGreatSmV

namespace Go.Proofs.YtljanfnhmhimiaaGreat.Nu
open Go.RowKit

theorem maskC (a : Nat) (ha : a < 4294967296) : bits .and .u64 (a : Int) 4294967295 = (a : Int) := by
  have h := bits_and_u64_nat a 4294967295 (by omega) (by omega)
  have e : a &&& 4294967295 = a % 4294967296 := Nat.and_two_pow_sub_one_eq_mod a 32
  rw [e, Nat.mod_eq_of_lt ha] at h
  exact h

set_option maxRecDepth 100000 in
set_option maxHeartbeats 1000000 in
theorem mul64_any (C : Nat) (hC : C ≤ 65536) (w : World) :
    Calls Tryz.prog 192 #[.int .u64 1, .int .u64 C] w fun e w' => e = .returned (.tuple #[.int .u64 0, .int .u64 C]) ∧ w = w' := by
  have e1 : bits .and .u64 (1 : Int) 4294967295 = 1 := maskC 1 (by decide)
  have e2 := maskC C (by omega)
  have e3 : (C : Int) / 4294967296 = 0 := by omega
  have e4 : bits .and .u64 (0 : Int) 4294967295 = 0 := maskC 0 (by decide)
  go_enter Tryz.func192, Tryz.ntmps192
  go_wp2
  go_ret2
  exact ⟨rfl, rfl⟩

set_option maxHeartbeats 400000 in
theorem mul_any (C : Nat) (hC : C ≤ 65536) (w : World) :
    Calls Tryz.prog 179 #[.int .u64 1, .int .u64 C] w fun e w' => e = .returned (.tuple #[.int .u64 0, .int .u64 C]) ∧ w = w' := by
  have H := Lib.hid (mul64_any C hC w)
  go_enter Tryz.func179, Tryz.ntmps179
  go_wp2_with fail
  refine H.out.mono ?_
  rintro e w' ⟨rfl, rfl⟩
  dsimp only
  go_wp2
  go_ret2
  exact ⟨rfl, rfl⟩

def roomB (S : Nat) : Array Value := madeCells (Value.bool false).cells S
/-- the first m are v, the others false -/
def fillV (m C : Nat) (v : Bool) : List Value := (List.replicate m v ++ List.replicate (C - m) false).map Value.bool
theorem fillV_len (m C : Nat) (v : Bool) (h : m ≤ C) : (fillV m C v).length = C := by simp [fillV, Nat.add_sub_cancel' h]
theorem fillV_full (C : Nat) (v : Bool) : fillV C C v = (List.replicate C v).map Value.bool := by simp [fillV]
theorem fillV_splice (m C q : Nat) (v : Bool) (h : m + q ≤ C) : splice (fillV m C v) m (List.replicate q (Value.bool v)) = fillV (m + q) C v := by
  unfold splice fillV
  simp only [List.map_append, List.map_replicate, List.length_replicate]
  rw [List.take_left' (by simp), List.drop_append, List.drop_eq_nil_of_le (by rw [List.length_replicate]; omega), List.nil_append, List.length_replicate, List.drop_replicate, ← List.append_assoc, List.replicate_append_replicate]
  congr 2
  omega
theorem roomB_list (S : Nat) : (roomB S).toList = fillV 0 S false := by
  rw [show fillV 0 S false = List.replicate S (Value.bool false) from by simp [fillV]]
  exact toList_madeCells_one _ _
theorem fillV_zero (C : Nat) (v u : Bool) : fillV 0 C v = fillV 0 C u := by simp [fillV]
theorem make_fullB (S : Nat) (hS : S ≤ 1000000) (W : World) : (Instr.makeSlice 90 (.int .i64 (S : Int)) (.int .i64 (S : Int))).run Tryz.prog W = .ok (.slice (some ⟨W.heap.size, 0, none⟩) S S) (W.alloc (.cells (roomB S) 4)) := by
  obtain ⟨i0, hi, hz0, hz1, hz2⟩ := info_parts Bl.info_bool
  have h := run_make (P := Tryz.prog) W 90 4 i0 (.bool false) Tryz.underlying90 hi hz0 .i64 .i64 (S : Int) (S : Int) (by omega) (by omega) (by rw [hz2]; omega) (by omega)
  rw [hz1, Int.toNat_natCast, Nat.mul_one] at h
  exact h
/-- what a row's own block reads at its start -/
theorem fillV_cells {w : World} {G m C q : Nat} {v : Bool} (h : w.heap[G]? = some (.cells (fillV m C v).toArray 4 (0, 0))) (hq : q ≤ m) : ∀ j u, (List.replicate q (Value.bool v))[j]? = some u → w.cell? ((⟨G, 0, none⟩ : Addr).add j) = some u := by
  intro j u hu
  rw [List.getElem?_replicate] at hu
  split at hu
  · rename_i hj
    rw [Addr.add_lit, ← Option.some.inj hu, Nat.zero_add]
    unfold World.cell?
    rw [show (⟨G, j, none⟩ : Addr).block = G from rfl, h]
    simp only [List.getElem?_toArray]
    unfold fillV
    rw [List.map_append, List.getElem?_append_left (by simp; omega)]
    simp [List.getElem?_replicate]; omega
  · cases hu

set_option maxRecDepth 100000 in
set_option maxHeartbeats 600000 in
theorem repeat_any (xb C : Nat) (v : Bool) (w : World) (C1 : 1 ≤ C) (hC : C ≤ 65536) (hx : w.cell? ⟨xb, 0, none⟩ = some (.bool v)) :
    Calls Tryz.prog 150 #[.slice (some ⟨xb, 0, none⟩) 1 1, .int .i64 C] w fun e w' =>
      e = .returned (.slice (some ⟨w.heap.size, 0, none⟩) C C) ∧ w'.ownsRow w.heap.size 4 1 (.slice (some ⟨w.heap.size, 0, none⟩) C C) C ((List.replicate C v).map Value.bool) ∧ Below w.heap.size w w' := by
  have hsz : (Tryz.prog.info? 4).map (·.size) = some 1 := by kernel_rfl
  have HM := Lib.hid (mul_any C hC w)
  have hmk := make_fullB C (by omega)
  have h0 : (w.alloc (.cells (roomB C) 4)).heap[w.heap.size]? = some (.cells (fillV 0 C v).toArray 4 (0, 0)) := by
    have : (fillV 0 C v).toArray = roomB C := by rw [fillV_zero C v false, ← roomB_list]
    rw [this]
    exact heap_alloc_new w _
  have H0 := Lib.hid h0
  have hx1 : (w.alloc (.cells (roomB C) 4)).cell? ⟨xb, 0, none⟩ = some (.bool v) := (World.grownBy_alloc w _ none).cell hx (by simp)
  have HX1 := Lib.hid hx1
  have HG : Hid (Below w.heap.size w (w.alloc (.cells (roomB C) 4))) := Lib.hid ((Below.refl _ w).alloc (Nat.le_refl _) _)
  have HW1 : Hid (∀ j u, ([Value.bool v] : List Value)[j]? = some u → (w.alloc (.cells (roomB C) 4)).cell? ((⟨xb, 0, none⟩ : Addr).add j) = some u) := Lib.hid (by
    intro j u hu
    match j, hu with
    | 0, hu => simp at hu; subst hu; rw [Addr.add_lit]; exact hx1)
  have HF1 : Hid (splice (fillV 0 C v) 0 [Value.bool v] = fillV 1 C v) := Lib.hid (by have := fillV_splice 0 C 1 v (by omega); simpa using this)
  have HN1 : Hid (([Value.bool v] : List Value).length = Nat.min 1 C) := Lib.hid (by simp [Nat.min_def]; omega)
  have HT1 : Hid (0 + ([Value.bool v] : List Value).length ≤ (fillV 0 C v).length) := Lib.hid (by rw [fillV_len 0 C v (by omega)]; simp; omega)
  have HV1 : Hid (∀ x ∈ ([Value.bool v] : List Value), x.oneCell' = true) := Lib.hid (by simp [Value.oneCell'])
  clear h0 hx hx1
  go_enter Tryz.func150, Tryz.ntmps150
  go_wp2_with (first
    | (go_at_call 179; refine HM.out.mono ?_; rintro e w' ⟨rfl, rfl⟩)
    | (show wpList _ _ _ ((⟨some 33, _, _, _, _, _⟩ : Oper) :: _) _ _
       go_must (refine wpList_copy_splice rfl (.tmp 31) (.tmp 32) 90 90 rfl 4 Tryz.underlying90 hsz (some ⟨w.heap.size, 0, none⟩) (some ⟨xb, 0, none⟩) C C 1 1 rfl rfl w.heap.size 0 (fillV 0 C v) 4 H0.out [.bool v] HN1.out (fun _ => ⟨rfl, ⟨xb, 0, none⟩, rfl, HW1.out⟩) HT1.out HV1.out w.heap.size w HG.out (Nat.le_refl _) ?_)
       intro w1 hg1 hb1)
    | fail)
  have hg1 : w1.heap[w.heap.size]? = some (.cells (fillV 1 C v).toArray 4 (0, 0)) := by have := hg1.out; rwa [HF1.out] at this
  have HG1 := Lib.hid hg1
  have HB1 := Lib.hid hb1
  clear hg1 hb1
  go_loopw [8] (fun sn wr => ∃ m : Nat, 1 ≤ m ∧ m ≤ C ∧ sn = .int .i64 m ∧ Hid (wr.heap[w.heap.size]? = some (.cells (fillV m C v).toArray 4 (0, 0))) ∧ Hid (Below w.heap.size w wr)) (fun sn _ => C - (intOf sn).toNat)
  case atStart => exact ⟨1, Nat.le_refl _, C1, rfl, HG1, HB1⟩
  case round =>
    obtain ⟨m, m1, mC, rfl, HG, HB⟩ := hrel
    by_cases hlt : m < C
    · obtain ⟨q, hq⟩ : ∃ q, min m (C - m) = q := ⟨_, rfl⟩
      have q1 : 1 ≤ q := by omega
      have hmq : m + q ≤ C := by omega
      have HF := Lib.hid (fillV_splice m C q v hmq)
      have HW := Lib.hid (fillV_cells (q := q) HG.out (by omega))
      have hN : (List.replicate q (Value.bool v)).length = Nat.min m (C - m) := by rw [List.length_replicate]; exact hq.symm
      have hT : m + (List.replicate q (Value.bool v)).length ≤ (fillV m C v).length := by rw [List.length_replicate, fillV_len m C v mC]; exact hmq
      have hV : ∀ x ∈ List.replicate q (Value.bool v), x.oneCell' = true := fun x hx => by rw [List.eq_of_mem_replicate hx]; rfl
      have hL : (List.replicate q (Value.bool v)).length = q := List.length_replicate
      obtain ⟨R, hR⟩ : ∃ R, List.replicate q (Value.bool v) = R := ⟨_, rfl⟩
      rw [hR] at HF HW hN hT hV hL
      have HN := Lib.hid hN
      have HT := Lib.hid hT
      have HV := Lib.hid hV
      have HL := Lib.hid hL
      have hne : ¬ C = m := by omega
      clear hN hT hV hL hR hq
      have HGd : Hid (wr.drew.heap[w.heap.size]? = some (.cells (fillV m C v).toArray 4 (0, 0))) := Lib.hid HG.out
      have HWd : Hid (∀ j u, R[j]? = some u → wr.drew.cell? ((⟨w.heap.size, 0, none⟩ : Addr).add j) = some u) := Lib.hid HW.out
      have HBd : Hid (Below w.heap.size w wr.drew) := Lib.hid HB.out.drew
      go_wp2
      go_region_law (first
        | (refine step_copy_splice (by rfl) (.tmp 41) (.tmp 44) 90 90 (by rfl) 4 Tryz.underlying90 hsz (some ⟨w.heap.size, m, none⟩) (some ⟨w.heap.size, 0, none⟩) (C - m) (C - m) m C (by simp [go_sem]) (by simp [go_sem]) w.heap.size m (fillV m C v) 4 (by exact HGd.out) R HN.out (by exact fun _ => ⟨rfl, ⟨w.heap.size, 0, none⟩, rfl, HWd.out⟩) HT.out HV.out w.heap.size w (by exact HBd.out) (Nat.le_refl _) ?_; intro w2 hg2 hb2)
        | fail)
      have hg3 : Hid (w2.heap[w.heap.size]? = some (.cells (fillV (m + q) C v).toArray 4 (0, 0))) := Lib.hid (by rw [← HF.out]; exact hg2.out)
      have hb3 := Lib.hid hb2
      have hwr : IntKind.i64.wrap ((m : Int) + (q : Int)) = ((m + q : Nat) : Int) := by
        rw [IntKind.wrap_i64]
        first | omega | (split <;> omega)
      rw [HL.out, hwr]
      clear hg2 hb2 hwr
      go_simp
      go_roundw
      case rel => exact ⟨.int .i64 ((m : Int) + (q : Int)), _, _, _, _, _, _, _, _, _, _, _, _, _, ⟨m + q, by omega, hmq, by rw [Int.natCast_add], hg3, hb3⟩, rfl⟩
      case measure => simp [intOf]; omega
    · obtain rfl : m = C := by omega
      have HF : Hid (wr.ownsRow w.heap.size 4 1 (.slice (some ⟨w.heap.size, 0, none⟩) m m) m ((List.replicate m v).map Value.bool)) := by
        rw [← fillV_full]
        refine Lib.hid ⟨by rw [fillV_len m m v (Nat.le_refl _), Nat.mul_one], .inr ⟨w.heap.size, m, _, rfl, Nat.le_refl _, HG.out, Nat.le_refl _, by unfold maxLen; omega, by simp [fillV_len m m v], ?_⟩⟩
        simp only [Nat.mul_one]
        exact List.take_of_length_le (by rw [fillV_len m m v (Nat.le_refl _)]; exact Nat.le_refl _)
      go_wp2
      go_ret
      exact ⟨rfl, HF.out, HB.out⟩
end Go.Proofs.YtljanfnhmhimiaaGreat.Nu

namespace Go.Proofs.YtljanfnhmhimiaaGreat.Nu
open Go.RowKit
open Dv (Turn nowhere)
open Pk (Turn.then getR sizeN Fit)
open Oct (Rd ReadN ReadV ReadB)
open In (At turn_read turn_row turn_more)

set_option maxRecDepth 100000 in
set_option maxHeartbeats 400000 in
theorem bytes_more (b g : Nat) (l : List Int) (n : Nat) (w : World) (h : Rd w b g l) (hn : l.length < n) :
    Calls Tryz.prog 63 #[.pointer (some ⟨b, 0, none⟩), .int .i64 n] w fun e w' => e = .returned (.tuple #[.slice none 0 0, .int .i64 7]) ∧ w = w' := by
  obtain ⟨o, c, h0, hle, hc, hj⟩ := h.cells
  have HV := Lib.hid (Oct.valid_yes b w h.self)
  clear hj
  go_enter Tryz.func63, Tryz.ntmps63
  go_wp2_with (first
    | (go_at_call 118; refine HV.out.mono ?_; rintro e w' ⟨rfl, rfl⟩)
    | fail)
  go_ret2
  exact ⟨rfl, rfl⟩

set_option maxRecDepth 100000 in
set_option maxHeartbeats 600000 in
theorem repeat_zero (xb : Nat) (v : Bool) (w : World) :
    Calls Tryz.prog 150 #[.slice (some ⟨xb, 0, none⟩) 1 1, .int .i64 0] w fun e w' =>
      e = .returned (.slice (some ⟨w.heap.size, 0, none⟩) 0 0) ∧ w'.ownsRow w.heap.size 4 1 (.slice (some ⟨w.heap.size, 0, none⟩) 0 0) 0 ((List.replicate 0 v).map Value.bool) ∧ Below w.heap.size w w' := by
  have hsz : (Tryz.prog.info? 4).map (·.size) = some 1 := by kernel_rfl
  have HM : Hid (Calls Tryz.prog 179 #[.int .u64 1, .int .u64 0] w fun e w' => e = .returned (.tuple #[.int .u64 0, .int .u64 0]) ∧ w = w') := Lib.hid (mul_any 0 (by decide) w)
  have hr0 : roomB 0 = #[] := by apply Array.eq_empty_of_size_eq_zero; exact size_madeCells _ _
  have hmk : ∀ W : World, (Instr.makeSlice 90 (.int .i64 0) (.int .i64 0)).run Tryz.prog W = .ok (.slice (some ⟨W.heap.size, 0, none⟩) 0 0) (W.alloc (.cells #[] 4)) := fun W => by
    have := make_fullB 0 (by decide) W
    rw [hr0] at this
    exact this
  have H0 := Lib.hid (show (w.alloc (.cells #[] 4)).heap[w.heap.size]? = some (.cells ([] : List Value).toArray 4 (0, 0)) from heap_alloc_new w _)
  have HG : Hid (Below w.heap.size w (w.alloc (.cells #[] 4))) := Lib.hid ((Below.refl _ w).alloc (Nat.le_refl _) _)
  have HW1 : Hid (∀ j u, ([] : List Value)[j]? = some u → (w.alloc (.cells #[] 4)).cell? ((⟨xb, 0, none⟩ : Addr).add j) = some u) := Lib.hid (by intro j u hu; simp at hu)
  clear hr0
  go_enter Tryz.func150, Tryz.ntmps150
  go_wp2_with (first
    | (go_at_call 179; refine HM.out.mono ?_; rintro e w' ⟨rfl, rfl⟩)
    | (show wpList _ _ _ ((⟨some 33, _, _, _, _, _⟩ : Oper) :: _) _ _
       go_must (refine wpList_copy_splice rfl (.tmp 31) (.tmp 32) 90 90 rfl 4 Tryz.underlying90 hsz (some ⟨w.heap.size, 0, none⟩) (some ⟨xb, 0, none⟩) 0 0 1 1 rfl rfl w.heap.size 0 [] 4 H0.out [] rfl (fun _ => ⟨rfl, ⟨xb, 0, none⟩, rfl, HW1.out⟩) (Nat.le_refl _) (fun _ h => by cases h) w.heap.size w HG.out (Nat.le_refl _) ?_)
       intro w1 hg1 hb1)
    | fail)
  have HB1 := Lib.hid hb1
  have HO : Hid (w1.ownsRow w.heap.size 4 1 (.slice (some ⟨w.heap.size, 0, none⟩) 0 0) 0 ((List.replicate 0 v).map Value.bool)) := Lib.hid ⟨rfl, .inr ⟨w.heap.size, 0, _, rfl, Nat.le_refl _, hg1.out, Nat.le_refl _, by unfold maxLen; omega, rfl, rfl⟩⟩
  clear hg1 hb1
  refine wp_loop_rounds 1 ?_
  rw [rounds_succ]
  go_wp2
  go_ret
  exact ⟨rfl, HO.out, HB1.out⟩

theorem rep_any (xb C : Nat) (v : Bool) (w : World) (hC : C ≤ 65536) (hx : w.cell? ⟨xb, 0, none⟩ = some (.bool v)) :
    Calls Tryz.prog 150 #[.slice (some ⟨xb, 0, none⟩) 1 1, .int .i64 C] w fun e w' =>
      e = .returned (.slice (some ⟨w.heap.size, 0, none⟩) C C) ∧ Bl.Seg w' (some ⟨w.heap.size, 0, none⟩) C C (List.replicate C v) ∧ Turn w w' nowhere := by
  by_cases h : 1 ≤ C
  · exact (repeat_any xb C v w h hC hx).mono fun e w' ⟨h1, h2, h3⟩ => ⟨h1, Bl.Seg.own h2, turn_below h3⟩
  · obtain rfl : C = 0 := by omega
    exact (repeat_zero xb v w).mono fun e w' ⟨h1, h2, h3⟩ => ⟨h1, Bl.Seg.own h2, turn_below h3⟩

/-- flags, and what is left; or an error -/
def KX (b g : Nat) (w : World) (r : Option (List Bool × List Int)) (e : Ending) (w' : World) : Prop :=
  Turn w w' (At b) ∧ w.heap.size ≤ w'.heap.size ∧ match r with
    | some (l, rest) => ∃ a c, e = .returned (.tuple #[.slice a l.length c, .int .i64 0]) ∧ Bl.Seg w' a l.length c l ∧ Rd w' b g rest
    | none => ∃ E : Int, E ≠ 0 ∧ e = .returned (.tuple #[.slice none 0 0, .int .i64 E])

theorem sizeF_one {n : Nat} (h : n ≤ 65536) : Pk.sizeF (n : Int) 1 = (sizeN n 1 : Int) := by
  unfold Pk.sizeF
  rw [if_pos ((Pk.canB_iff _ _).2 (by omega))]
  rfl
def roomF (S : Nat) : Array Value := madeCells (Value.bool false).cells S
theorem roomF_size (S : Nat) : (roomF S).size = S := size_madeCells _ _
theorem make_roomF (S : Nat) (hS : S ≤ 1000000) (W : World) : (Instr.makeSlice 90 (.int .i64 0) (.int .i64 (S : Int))).run Tryz.prog W = .ok (.slice (some ⟨W.heap.size, 0, none⟩) 0 S) (W.alloc (.cells (roomF S) 4)) := by
  obtain ⟨i0, hi, hz0, hz1, hz2⟩ := info_parts Bl.info_bool
  have h := run_make (P := Tryz.prog) W 90 4 i0 (.bool false) Tryz.underlying90 hi hz0 .i64 .i64 0 (S : Int) (by omega) (by omega) (by rw [hz2]; omega) (by omega)
  rw [hz1, Int.toNat_natCast, Nat.mul_one] at h
  exact h

set_option maxRecDepth 100000 in
set_option maxHeartbeats 2000000 in
theorem getPacked_any (b g n : Nat) (bs : List Int) (w : World) (h : Rd w b g bs) (hb : Oct.IsB bs) (hn : n ≤ 4096) :
    Calls Tryz.prog 151 #[.pointer (some ⟨b, 0, none⟩), .int .i64 n] w (KX b g w (rdP n bs)) := by
  have HSz : Hid (Calls Tryz.prog 85 #[.int .i64 n, .int .i64 1] w fun e w' => e = .returned (.int .i64 (sizeN n 1 : Int)) ∧ w = w') := Lib.hid (by
    have := Pk.size_any (n : Int) 1 w
    rwa [sizeF_one (by omega)] at this)
  have hsz := sizeN_le (n := n) (by omega)
  unfold rdP
  obtain ⟨S, hS⟩ : ∃ S, sizeN n 1 = S := ⟨_, rfl⟩
  rw [hS] at HSz hsz ⊢
  clear hS
  by_cases hl : bs.length < S
  · rw [if_pos hl]
    have HBy := Lib.hid (bytes_more b g bs S w h hl)
    clear h hb hl
    go_enter Tryz.func151, Tryz.ntmps151
    go_wp2_with (first
      | (go_at_call 85; refine HSz.out.mono ?_; rintro e w' ⟨rfl, rfl⟩)
      | fail)
    refine HBy.out.mono ?_
    rintro e w1 ⟨rfl, rfl⟩
    have HF : Hid (KX b g w none (.returned (.tuple #[.slice none 0 0, .int .i64 7])) w) := Lib.hid ⟨Turn.refl _ _, Nat.le_refl _, 7, by decide, rfl⟩
    dsimp only
    go_wp2
    go_ret2
    exact HF.out
  · rw [if_neg hl]
    have HBy := Lib.hid (Oct.bytes_yes b g bs S w h (by omega) (by omega))
    have hfit : Fit 8 (bs.take S) := Pk.fit_isB (fun x hx => hb x (List.mem_of_mem_take hx))
    have htl : (bs.take S).length = S := by rw [List.length_take]; omega
    obtain ⟨T, hT⟩ : ∃ T, bs.take S = T := ⟨_, rfl⟩
    obtain ⟨r, hr⟩ : ∃ r, bs.drop S = r := ⟨_, rfl⟩
    rw [hT] at HBy hfit htl ⊢
    rw [hr] at HBy ⊢
    have HFit := Lib.hid hfit
    have HTl := Lib.hid htl
    have hbl : b < w.heap.size := World.block_lt_of_cell? w _ h.self
    have HBL := Lib.hid hbl
    clear h hb hl hT hr hfit htl hbl
    have HGet := Lib.hid (fun a c W hs => Pk.get_any a S c T (n : Int) 1 W hs HFit.out)
    unfold Pk.GetX at HGet
    obtain ⟨E, L, hE⟩ : ∃ E L, getR T (n : Int) 1 = (E, L) := ⟨_, _, rfl⟩
    have hno := Pk.get_no T (n : Int) 1
    have hput := Pk.put_get T (n : Int) 1 HFit.out
    rw [hE] at HGet hno hput ⊢
    dsimp only at HGet hno hput ⊢
    clear hE
    by_cases he : E = 0
    · subst he
      obtain ⟨-, hp2, -, hp4⟩ := hput rfl
      have hLn : L.length = n := by omega
      have HLn := Lib.hid hLn
      have HU := Lib.hid hp4
      rw [hLn] at HGet
      rw [if_neg (by simp)]
      clear hno hput hp2 hp4 hLn
      obtain ⟨i0, hi, hz0, hz1, hz2⟩ := info_parts Bl.info_bool
      have hmk := make_roomF n (by omega)
      go_enter Tryz.func151, Tryz.ntmps151
      go_wp2_with (first
        | (go_at_call 85; refine HSz.out.mono ?_; rintro e w' ⟨rfl, rfl⟩)
        | fail)
      refine HBy.out.mono ?_
      rintro e w1 hrb
      obtain ⟨y, p, rfl, hp, hown, hg1, hr1⟩ := hrb.value
      obtain rfl : p = S := by rw [hp, HTl.out]
      have HG1 := Lib.hid (HGet.out _ _ w1 (Bs.Seg.own hown))
      have HT1 : Hid (Turn w w1 (At b)) := Lib.hid (turn_read hg1)
      have HR1 := Lib.hid hr1
      have HZ1 := Lib.hid hg1.size
      clear hrb hp hown hg1 hr1
      dsimp only
      go_wp2_with fail
      refine HG1.out.mono ?_
      rintro e w2 ⟨a2, c2, rfl, hs2, hg2⟩
      have HT2 : Hid (Turn w w2 (At b)) := Lib.hid (turn_more HT1.out (Pk.turn_of hg2) (fun i h => h.elim))
      have HR2 : Hid (Rd w2 b g r) := Lib.hid (In.Turn.rd (Pk.turn_of hg2) HR1.out id id)
      have HZ2 := Lib.hid (Nat.le_trans HZ1.out hg2.size)
      have HS2 := Lib.hid hs2
      clear hs2 hg2 HG1
      have h0 := World.ownsRow_made (base := w2.heap.size) (e := 4) (size := 1) w2 (roomF n) n (Nat.le_refl _) (by unfold maxLen; omega) (by rw [roomF_size, Nat.mul_one])
      have HO0 : Hid ((w2.alloc (.cells (roomF n) 4)).ownsRow w2.heap.size 4 1 (.slice (some ⟨w2.heap.size, 0, none⟩) 0 n) 0 ((backL (L.take 0)).map Value.bool)) := Lib.hid h0
      have HB0 : Hid (Below w2.heap.size w2 (w2.alloc (.cells (roomF n) 4))) := Lib.hid ((Below.refl _ w2).alloc (Nat.le_refl _) _)
      clear h0
      dsimp only
      go_wp2
      go_loopw [9, 35] (fun so si wr => ∃ k : Nat, k ≤ n ∧ si = .int .i64 k ∧ so = .slice (some ⟨w2.heap.size, 0, none⟩) k n ∧ Hid (wr.ownsRow w2.heap.size 4 1 (.slice (some ⟨w2.heap.size, 0, none⟩) k n) k ((backL (L.take k)).map Value.bool)) ∧ Hid (Below w2.heap.size w2 wr)) (fun _ si _ => n - (intOf si).toNat)
      case atStart => exact ⟨0, Nat.zero_le _, rfl, rfl, HO0, HB0⟩
      case round =>
        obtain ⟨k, hk, rfl, rfl, HO, HB⟩ := hrel
        by_cases hlt : k < n
        · obtain ⟨gl, ol, rfl, hc⟩ := (HS2.out.grown (Dv.Turn.grown (turn_below HB.out))).addr (by omega)
          have hck := hc k hlt
          have hkL : k < L.length := by rw [HLn.out]; exact hlt
          have hbk : backL (L.take (k + 1)) = backL (L.take k) ++ [decide (L.getD k 0 = 1)] := by
            rw [List.take_succ_eq_append_getElem hkL]
            unfold backL
            rw [List.map_append, List.map_cons, List.map_nil, List.getD_eq_getElem?_getD, List.getElem?_eq_getElem hkL]
            rfl
          have HBk := Lib.hid hbk
          obtain ⟨z, hz⟩ : ∃ z, L.getD k 0 = z := ⟨_, rfl⟩
          rw [hz] at hck HBk
          obtain ⟨d, hd⟩ : ∃ d, decide (z = 1) = d := ⟨_, rfl⟩
          have hzd : (z == 1) = d := by rw [← hd]; exact rfl
          rw [hd] at HBk
          clear hc hz hbk hd
          go_wp2_with (first
            | (at_builtin; refine wpList_append_fits _ rfl (.tmp 39) (.tmp 42) 90 rfl w2.heap.size 4 i0 1 Tryz.underlying90 hi hz1 w2.heap.size k n _ rfl (HO.out.alloc _) ⟨wr.heap.size, 0, none⟩ 1 1 [.bool d] rfl rfl (by intro t u ht; match t, ht with | 0, ht => simp at ht; subst ht; exact Pk.cell_new wr _ _) (by intro u hu; simp at hu; subst hu; rfl) (by omega) ?_; intro w3 hown3 hgrow3)
            | fail)
          go_roundw
          case rel =>
            refine ⟨k + 1, by omega, by go_num, rfl, Lib.hid ?_, Lib.hid ((HB.out.alloc HB.out.size _).grown hgrow3 (by have := HB.out.size; simp; omega) (fun j e => by cases e; exact Nat.le_refl _))⟩
            rw [HBk.out, List.map_append]
            exact hown3
          case measure => simp [intOf]; omega
        · obtain rfl : k = n := by omega
          have HF : Hid (KX b g w (some (backL L, r)) (.returned (.tuple #[.slice (some ⟨w2.heap.size, 0, none⟩) k k, .int .i64 0])) wr) := Lib.hid (by
            have hO := HO.out
            rw [List.take_of_length_le (Nat.le_of_eq HLn.out)] at hO
            have hl : (backL L).length = k := by rw [back_len, HLn.out]
            refine ⟨turn_more HT2.out (turn_below HB.out) (fun i h => h.elim), Nat.le_trans HZ2.out HB.out.size, _, k, by rw [hl], ?_, In.Turn.rd (turn_below HB.out) HR2.out id id⟩
            rw [hl]
            exact Bl.Seg.own hO)
          go_wp2
          go_ret2
          exact HF.out
    · have hL0 := hno he
      subst hL0
      rw [if_pos he]
      have he0 : (E == 0) = false := beq_eq_false_iff_ne.2 he
      have he1 : (E != 0) = true := bne_iff_ne.2 he
      have HEn := Lib.hid he
      clear hno hput he
      go_enter Tryz.func151, Tryz.ntmps151
      go_wp2_with (first
        | (go_at_call 85; refine HSz.out.mono ?_; rintro e w' ⟨rfl, rfl⟩)
        | fail)
      refine HBy.out.mono ?_
      rintro e w1 hrb
      obtain ⟨y, p, rfl, hp, hown, hg1, hr1⟩ := hrb.value
      obtain rfl : p = S := by rw [hp, HTl.out]
      have HG1 := Lib.hid (HGet.out _ _ w1 (Bs.Seg.own hown))
      have HT1 : Hid (Turn w w1 (At b)) := Lib.hid (turn_read hg1)
      have HZ1 := Lib.hid hg1.size
      clear hrb hp hown hg1 hr1
      dsimp only
      go_wp2_with fail
      refine HG1.out.mono ?_
      rintro e w2 ⟨a2, c2, rfl, hs2, hg2⟩
      have HF : Hid (KX b g w none (.returned (.tuple #[.slice none 0 0, .int .i64 E])) w2) := Lib.hid ⟨turn_more HT1.out (Pk.turn_of hg2) (fun i h => h.elim), Nat.le_trans HZ1.out hg2.size, E, HEn.out, rfl⟩
      clear hs2 hg2 HG1
      dsimp only
      go_wp2
      go_ret2
      exact HF.out

set_option maxRecDepth 100000 in
set_option maxHeartbeats 2000000 in
theorem get_kind (b g n : Nat) (k : Int) (bs : List Int) (w : World) (h : Rd w b g bs) (hb : Oct.IsB bs) (hn : n ≤ 4096) :
    Calls Tryz.prog 116 #[.pointer (some ⟨b, 0, none⟩), .int .i64 n, .int .u64 k] w (KX b g w (rdK n k bs)) := by
  unfold rdK
  by_cases h01 : k = 0 ∨ k = 1
  · rw [if_pos h01]
    obtain ⟨d, hd⟩ : ∃ d, decide (k = 1) = d := ⟨_, rfl⟩
    have hkd : (k == 1) = d := by rw [← hd]; rfl
    rw [hd]
    have HR := Lib.hid h
    have HRep := Lib.hid (fun W (hx : World.cell? W ⟨w.heap.size, 0, none⟩ = some (.bool d)) => rep_any w.heap.size n d W (by omega) hx)
    clear h hb hd
    have fin : Hid (∀ w1, Bl.Seg w1 (some ⟨w.heap.size + 1, 0, none⟩) n n (List.replicate n d) → Turn (w.alloc (.cells #[.bool d] 4)) w1 nowhere → KX b g w (some (List.replicate n d, bs)) (.returned (.tuple #[.slice (some ⟨w.heap.size + 1, 0, none⟩) n n, .int .i64 0])) w1) := Lib.hid fun w1 hs ht => by
      have hT := Turn.then (Turn.alloc w (.cells #[.bool d] 4) nowhere) ht
      exact ⟨turn_below (below_turn hT) |> fun t => ⟨t.os, t.tape, t.output, t.size, fun i hi _ => t.block i hi id⟩, hT.size, _, n, by rw [List.length_replicate], by rw [List.length_replicate]; exact hs, In.Turn.rd hT HR.out id id⟩
    have hcn := Pk.cell_new w (.bool d) 4
    have HRep1 := Lib.hid (HRep.out _ hcn)
    rw [World.size_alloc] at HRep1
    clear hcn
    rcases h01 with rfl | rfl
    · obtain rfl : d = false := by rw [← hkd]; rfl
      go_enter Tryz.func116, Tryz.ntmps116
      go_wp2_with fail
      refine HRep1.out.mono ?_
      rintro e w1 ⟨rfl, hs, ht⟩
      have HF := Lib.hid (fin.out w1 hs ht)
      clear hs ht
      dsimp only
      go_wp2
      go_ret2
      exact HF.out
    · obtain rfl : d = true := by rw [← hkd]; rfl
      go_enter Tryz.func116, Tryz.ntmps116
      go_wp2_with fail
      refine HRep1.out.mono ?_
      rintro e w1 ⟨rfl, hs, ht⟩
      have HF := Lib.hid (fin.out w1 hs ht)
      clear hs ht
      dsimp only
      go_wp2
      go_ret2
      exact HF.out
  · rw [if_neg h01]
    have h0 : (k == 0) = false := beq_eq_false_iff_ne.2 (fun e => h01 (.inl e))
    have h1 : (k == 1) = false := beq_eq_false_iff_ne.2 (fun e => h01 (.inr e))
    by_cases h2 : k = 2
    · subst h2
      rw [if_pos rfl]
      have HP := Lib.hid (getPacked_any b g n bs w h hb hn)
      obtain ⟨X, hX⟩ : ∃ X, rdP n bs = X := ⟨_, rfl⟩
      rw [hX] at HP ⊢
      clear h hb h01 hX
      go_enter Tryz.func116, Tryz.ntmps116
      go_wp2_with fail
      refine HP.out.mono ?_
      rintro e w1 ⟨hT, hz, hx⟩
      cases X with
      | none =>
        obtain ⟨E, hE, rfl⟩ := hx
        have HF : Hid (KX b g w none (.returned (.tuple #[.slice none 0 0, .int .i64 E])) w1) := Lib.hid ⟨hT, hz, E, hE, rfl⟩
        clear hT hz hE
        dsimp only
        go_wp2
        go_ret2
        exact HF.out
      | some q =>
        obtain ⟨l, rest⟩ := q
        obtain ⟨a5, c5, rfl, hs5, hr5⟩ := hx
        have HF : Hid (KX b g w (some (l, rest)) (.returned (.tuple #[.slice a5 l.length c5, .int .i64 0])) w1) := Lib.hid ⟨hT, hz, a5, c5, rfl, hs5, hr5⟩
        obtain ⟨m, hm⟩ : ∃ m, l.length = m := ⟨_, rfl⟩
        rw [hm] at HF ⊢
        clear hT hz hs5 hr5 hm
        dsimp only
        go_wp2
        go_ret2
        exact HF.out
    · rw [if_neg h2]
      have e2 : (k == 2) = false := beq_eq_false_iff_ne.2 h2
      have HF : Hid (KX b g w none (.returned (.tuple #[.slice none 0 0, .int .i64 4])) w) := Lib.hid ⟨Turn.refl _ _, Nat.le_refl _, 4, by decide, rfl⟩
      clear h hb h01 h2
      go_enter Tryz.func116, Tryz.ntmps116
      go_wp2
      go_ret2
      exact HF.out
end Go.Proofs.YtljanfnhmhimiaaGreat.Nu

namespace Go.Proofs.YtljanfnhmhimiaaGreat.Nu
open Go.RowKit
open Dv (Turn nowhere)
open Pk (Turn.then)
open Oct (Rd ReadN ReadV readV ofB)
open In (At turn_read turn_more turn_up new_any oseg below_grown)

/-- flags, how many bytes, an error: the answer plain -/
def GetX (w : World) (m : Nat) (L : List Bool) (z E : Int) (e : Ending) (w' : World) : Prop :=
  ∃ a k, e = .returned (.tuple #[.slice a m k, .int .i64 z, .int .i64 E]) ∧ Bl.Seg w' a m k L ∧ Turn w w' nowhere
theorem getx_bad {w w' : World} (h : Below w.heap.size w w') : GetX w 0 [] 0 4 (.returned (.tuple #[.slice none 0 0, .int .i64 0, .int .i64 4])) w' := ⟨none, 0, rfl, Bl.Seg.nil w', turn_below h⟩

set_option maxRecDepth 100000 in
set_option maxHeartbeats 2000000 in
/-- the number of flags can't be read, or is too great -/
theorem get_count (a : Option Addr) (n c : Nat) (bs : List Int) (w : World) (hs : Bs.Seg w a n c bs) (hb : Oct.IsB bs) (hn : n ≤ 100000000) (hc : readC bs = none) :
    Calls Tryz.prog 58 #[.slice a n c] w (GetX w 0 [] 0 4) := by
  have HNew := Lib.hid (new_any a n c bs w (oseg hs) (by omega))
  have HB := Lib.hid hb
  have hbad : ¬ (readV 0 0 bs).2.1 = 0 ∨ 4096 < (readV 0 0 bs).1 := by
    unfold readC at hc
    split at hc
    · rename_i h; exact h
    · cases hc
  obtain ⟨v, er, nn, hv⟩ : ∃ v er nn, readV 0 0 bs = (v, er, nn) := ⟨_, _, _, rfl⟩
  have HVe := Lib.hid hv
  have hv0 : er = 0 → 0 ≤ v := fun h0 => by subst h0; exact (In.var_readV bs hb v nn hv).1
  rw [hv] at hbad
  dsimp only at hbad
  clear hs hb hn hc hv
  by_cases he : er = 0
  · subst he
    have h4 : 4096 < v := by simpa using hbad
    have hv1 := hv0 rfl
    clear hbad hv0
    go_enter Tryz.func58, Tryz.ntmps58
    go_wp2_with fail
    refine HNew.out.mono ?_
    rintro e w1 ⟨b, g, rfl, hb0, hg0, hb1, hg1, hrd, hgr⟩
    have HVar := Lib.hid (Oct.var_any b g bs w1 hrd HB.out)
    unfold ReadV at HVar
    rw [HVe.out] at HVar
    have HB1 : Hid (Below w.heap.size w w1) := Lib.hid (below_grown hgr (Nat.le_refl _))
    have HB0 := Lib.hid hb0
    clear hb0 hg0 hb1 hg1 hrd hgr
    dsimp only at HVar
    dsimp only
    go_wp2_with fail
    refine HVar.out.mono ?_
    rintro e w2 ⟨rfl, hg2, hr2⟩
    have HF : Hid (GetX w 0 [] 0 4 (.returned (.tuple #[.slice none 0 0, .int .i64 0, .int .i64 4])) w2) := Lib.hid (getx_bad (turn_up HB1.out (turn_read hg2) HB0.out))
    clear hg2 hr2 HVar
    dsimp only
    go_wp2
    go_ret3
    exact HF.out
  · have he1 : (er != 0) = true := bne_iff_ne.2 he
    have he2 : (er == 0) = false := beq_eq_false_iff_ne.2 he
    clear hbad hv0
    go_enter Tryz.func58, Tryz.ntmps58
    go_wp2_with fail
    refine HNew.out.mono ?_
    rintro e w1 ⟨b, g, rfl, hb0, hg0, hb1, hg1, hrd, hgr⟩
    have HVar := Lib.hid (Oct.var_any b g bs w1 hrd HB.out)
    unfold ReadV at HVar
    rw [HVe.out] at HVar
    have HB1 : Hid (Below w.heap.size w w1) := Lib.hid (below_grown hgr (Nat.le_refl _))
    have HB0 := Lib.hid hb0
    clear hb0 hg0 hb1 hg1 hrd hgr
    dsimp only at HVar
    dsimp only
    go_wp2_with fail
    refine HVar.out.mono ?_
    rintro e w2 ⟨rfl, hg2, hr2⟩
    have HF : Hid (GetX w 0 [] 0 4 (.returned (.tuple #[.slice none 0 0, .int .i64 0, .int .i64 4])) w2) := Lib.hid (getx_bad (turn_up HB1.out (turn_read hg2) HB0.out))
    clear hg2 hr2 HVar
    dsimp only
    go_wp2
    go_ret3
    exact HF.out

set_option maxRecDepth 100000 in
set_option maxHeartbeats 4000000 in
/-- behind the number of flags -/
theorem get_more (a : Option Addr) (n c : Nat) (bs : List Int) (m : Nat) (r : List Int) (w : World) (hs : Bs.Seg w a n c bs) (hb : Oct.IsB bs) (hn : n ≤ 100000000) (hc : readC bs = some (m, r)) (M : Nat) (L : List Bool) (z E : Int) (hR : resN bs (getN bs) = (L, z, E)) (hM : L.length = M) :
    Calls Tryz.prog 58 #[.slice a n c] w (GetX w M L z E) := by
  have HNew := Lib.hid (new_any a n c bs w (oseg hs) (by omega))
  have HB := Lib.hid hb
  have hlen := hs.len
  obtain ⟨hm, hbe⟩ := readC_some hb hc
  have hrB : Oct.IsB r := isB_right (hbe ▸ hb)
  have hrl : r.length ≤ n := by
    have := congrArg List.length hbe
    rw [List.length_append] at this
    omega
  have hV : ∃ nn, readV 0 0 bs = ((m : Int), 0, nn) ∧ bs.drop nn = r := by
    refine ⟨(Oct.varB 9 (m : Int)).length, ?_, ?_⟩
    · rw [hbe]; exact In.readV_var m r (by omega)
    · rw [hbe]; exact In.drop_var m r
  obtain ⟨nn, hv, hd⟩ := hV
  have HVar : Hid (∀ b g W, Rd W b g bs → Calls Tryz.prog 115 #[.pointer (some ⟨b, 0, none⟩)] W fun e w' => e = .returned (.tuple #[.int .u64 (m : Int), .int .i64 0]) ∧ W.grownBy w' (some b) ∧ Rd w' b g r) := Lib.hid fun b g W h => by
    have := Oct.var_any b g bs W h HB.out
    unfold ReadV at this
    rw [hv] at this
    dsimp only at this
    rw [hd] at this
    exact this
  unfold getN rdN at hR
  rw [hc] at hR
  have hm4 : ¬ (4096 : Int) < (m : Int) := by omega
  have hwm : IntKind.i64.wrap (m : Int) = (m : Int) := by rw [IntKind.wrap_i64]; omega
  clear hv hd hc hbe
  match r, hrB, hrl, hR, HVar with
  | [], _, _, hR, HVar =>
    simp only [resN, Prod.mk.injEq] at hR
    obtain ⟨rfl, rfl, rfl⟩ := hR
    obtain rfl : M = 0 := by rw [← hM]; rfl
    clear hs hb hM
    go_enter Tryz.func58, Tryz.ntmps58
    go_wp2_with fail
    refine HNew.out.mono ?_
    rintro e w1 ⟨b, g, rfl, hb0, hg0, hb1, hg1, hrd, hgr⟩
    have HVar1 := Lib.hid (HVar.out b g w1 hrd)
    have HB1 : Hid (Below w.heap.size w w1) := Lib.hid (below_grown hgr (Nat.le_refl _))
    have HB0 := Lib.hid hb0
    clear hb0 hg0 hb1 hg1 hrd hgr
    dsimp only
    go_wp2_with fail
    refine HVar1.out.mono ?_
    rintro e w2 ⟨rfl, hg2, hr2⟩
    have HNum := Lib.hid (Oct.number_more b g [] 1 w2 hr2 (by decide) (by decide) (by decide))
    have HF : Hid (GetX w 0 [] 0 4 (.returned (.tuple #[.slice none 0 0, .int .i64 0, .int .i64 4])) w2) := Lib.hid (getx_bad (turn_up HB1.out (turn_read hg2) HB0.out))
    clear hg2 hr2 HVar1
    dsimp only
    go_wp2_with fail
    refine HNum.out.mono ?_
    rintro e w3 ⟨rfl, rfl⟩
    dsimp only
    go_wp2
    go_ret3
    exact HF.out
  | k :: r, hrB, hrl, hR, HVar =>
    have hk := hrB k (by simp)
    have hr2B : Oct.IsB r := fun x hx => hrB x (by simp [hx])
    have HRB := Lib.hid hrB
    simp only at hR
    have HKd := Lib.hid (fun b g W h => get_kind b g m k r W h hr2B hm)
    obtain ⟨X, hX⟩ : ∃ X, rdK m k r = X := ⟨_, rfl⟩
    rw [hX] at hR HKd
    have HX := Lib.hid hX
    clear hs hb hX hr2B
    have hwk : IntKind.u64.wrap k = k := by rw [IntKind.wrap_u64]; omega
    go_enter Tryz.func58, Tryz.ntmps58
    go_wp2_with fail
    refine HNew.out.mono ?_
    rintro e w1 ⟨b, g, rfl, hb0, hg0, hb1, hg1, hrd, hgr⟩
    have HVar1 := Lib.hid (HVar.out b g w1 hrd)
    have HB1 : Hid (Below w.heap.size w w1) := Lib.hid (below_grown hgr (Nat.le_refl _))
    have HB0 := Lib.hid hb0
    clear hb0 hg0 hb1 hg1 hrd hgr
    dsimp only
    go_wp2_with fail
    refine HVar1.out.mono ?_
    rintro e w2 ⟨rfl, hg2, hr2⟩
    have HNum : Hid (Calls Tryz.prog 94 #[.pointer (some ⟨b, 0, none⟩), .int .i64 1] w2 (ReadN b g w2 k r)) := Lib.hid (by
      have := Oct.number_yes b g (k :: r) 1 w2 hr2 HRB.out (by decide) (by decide) (by simp)
      rwa [show ofB ((k :: r).take 1) = k from by simp [ofB]] at this)
    unfold ReadN at HNum
    have HB2 : Hid (Below w.heap.size w w2) := Lib.hid (turn_up HB1.out (turn_read hg2) HB0.out)
    clear hg2 hr2 HVar1
    dsimp only
    go_wp2_with fail
    refine HNum.out.mono ?_
    rintro e w3 ⟨rfl, hg3, hr3⟩
    have HK3 := Lib.hid (HKd.out b g w3 hr3)
    have HB3 : Hid (Below w.heap.size w w3) := Lib.hid (turn_up HB2.out (turn_read hg3) HB0.out)
    clear hg3 hr3 HNum
    dsimp only
    go_wp2_with fail
    refine HK3.out.mono ?_
    rintro e w4 ⟨hT4, -, hx⟩
    have HB4 : Hid (Below w.heap.size w w4) := Lib.hid (turn_up HB3.out hT4 HB0.out)
    clear hT4
    cases X with
    | none =>
      obtain ⟨E1, hE1, rfl⟩ := hx
      simp only [resN, Prod.mk.injEq] at hR
      obtain ⟨rfl, rfl, rfl⟩ := hR
      obtain rfl : M = 0 := by rw [← hM]; rfl
      have HF : Hid (GetX w 0 [] 0 4 (.returned (.tuple #[.slice none 0 0, .int .i64 0, .int .i64 4])) w4) := Lib.hid (getx_bad HB4.out)
      have hEb : (E1 != 0) = true := bne_iff_ne.2 hE1
      clear hM
      dsimp only
      go_wp2_with fail
      go_ret3
      exact HF.out
    | some q =>
      obtain ⟨l, rest⟩ := q
      obtain ⟨a4, c4, rfl, hs4, hr4⟩ := hx
      have HForm := Lib.hid (form_any a4 l.length c4 l w4 hs4)
      have hfl := formN_le l
      obtain ⟨f, hf⟩ : ∃ f, formN l = f := ⟨_, rfl⟩
      obtain ⟨p, hp⟩ : ∃ p, l.length = p := ⟨_, rfl⟩
      have hwf : IntKind.u64.wrap (f : Int) = (f : Int) := by rw [IntKind.wrap_u64]; omega
      simp only at hR
      rw [hf] at HForm hR hfl
      rw [hp] at HForm hs4 ⊢
      have HS4 := Lib.hid hs4
      have HR4 := Lib.hid hr4
      have HP := Lib.hid hp
      by_cases hfk : (f : Int) = k
      · rw [if_pos hfk] at hR
        simp only [resN, Prod.mk.injEq] at hR
        obtain ⟨rfl, hz, rfl⟩ := hR
        obtain rfl : p = M := by rw [← hM, HP.out]
        have hfk1 : ((f : Int) != k) = false := by rw [hfk]; exact bne_self_eq_false k
        have hrl2 : rest.length ≤ n := by
          have h1 := HX.out
          unfold rdK at h1
          split at h1
          · cases h1; simp at hrl; omega
          · split at h1
            · unfold rdP at h1
              split at h1
              · cases h1
              · split at h1
                · cases h1
                · cases h1; rw [List.length_drop]; simp at hrl; omega
            · cases h1
        obtain ⟨t, ht⟩ : ∃ t, rest.length = t := ⟨_, rfl⟩
        rw [hlen, ht] at hz
        rw [ht] at hrl2
        have HLf := Lib.hid (fun W h => Oct.left_yes b g rest W h)
        rw [ht] at HLf
        have hws : IntKind.i64.wrap ((n : Int) - (t : Int)) = z := by rw [IntKind.wrap_i64]; omega
        have HZ := Lib.hid hz
        clear hs4 hr4 hp hM hf hfk hz ht hlen
        dsimp only
        go_wp2_with fail
        refine HForm.out.mono ?_
        rintro e w5 ⟨rfl, hT5⟩
        have HL5 := Lib.hid (HLf.out w5 (In.Turn.rd hT5 HR4.out id id))
        have HF : Hid (GetX w p l z 0 (.returned (.tuple #[.slice a4 p c4, .int .i64 z, .int .i64 0])) w5) := Lib.hid ⟨a4, c4, rfl, bseg_stay HS4.out hT5, Turn.then (turn_below HB4.out) hT5⟩
        clear hT5 HForm
        dsimp only
        go_wp2_with (first
          | (go_at_call 64; refine HL5.out.mono ?_; rintro e w' ⟨rfl, rfl⟩)
          | fail)
        go_ret3
        exact HF.out
      · rw [if_neg hfk] at hR
        simp only [resN, Prod.mk.injEq] at hR
        obtain ⟨rfl, rfl, rfl⟩ := hR
        obtain rfl : M = 0 := by rw [← hM]; rfl
        have hfk1 : ((f : Int) != k) = true := bne_iff_ne.2 hfk
        clear hs4 hr4 hp hM hf hfk
        dsimp only
        go_wp2_with fail
        refine HForm.out.mono ?_
        rintro e w5 ⟨rfl, hT5⟩
        have HF : Hid (GetX w 0 [] 0 4 (.returned (.tuple #[.slice none 0 0, .int .i64 0, .int .i64 4])) w5) := Lib.hid (getx_bad (below_turn (Turn.then (turn_below HB4.out) hT5)))
        clear hT5 HForm
        dsimp only
        go_wp2
        go_ret3
        exact HF.out

/-- Get, in the laws' form. -/
theorem got_form {bs : List Int} {L : List Bool} {z E : Int} {m : Nat} (hR : resN bs (getN bs) = (L, z, E)) (hm : L.length = m) (hb : Oct.IsB bs) (hn : bs.length ≤ 100000000) (a : Option Addr) (n c : Nat) (W : World) (hs : Bs.Seg W a n c bs) :
    Calls Tryz.prog 58 #[.slice a n c] W (GetX W m L z E) := by
  have hl := hs.len
  cases hc : readC bs with
  | none =>
    have h := hR
    unfold getN rdN at h
    rw [hc] at h
    simp only [resN, Prod.mk.injEq] at h
    obtain ⟨rfl, rfl, rfl⟩ := h
    obtain rfl : m = 0 := by rw [← hm]; rfl
    exact get_count a n c bs W hs hb (by omega) hc
  | some p =>
    obtain ⟨k, r⟩ := p
    exact get_more a n c bs k r W hs hb (by omega) hc m L z E hR hm
end Go.Proofs.YtljanfnhmhimiaaGreat.Nu
