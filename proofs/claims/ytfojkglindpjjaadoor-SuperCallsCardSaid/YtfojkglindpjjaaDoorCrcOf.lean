/-
  Table: the program's and the document's; Of.
-/
import Derived.Test.YtfojkglindpjjaaDoorCrcTab
import Derived.Laws.ResultCell
namespace Go.Proofs.YtfojkglindpjjaaDoor.Crc
open Go.RowKit Bs

theorem halve_int (v : Nat) (h : v < 4294967296) : bits BinOp.and IntKind.u32 (v : Int) 1 = ((v % 2 : Nat) : Int) ∧ bits BinOp.xor IntKind.u32 ((v : Int) / 2) 2197175160 = ((v / 2 ^^^ poly : Nat) : Int) := by
  refine ⟨?_, ?_⟩
  · have := u32_and_nat v 1 h (by decide)
    rw [nat_mask1] at this
    exact this
  · exact u32_xor_nat (v / 2) poly (by omega) (by decide)

set_option maxHeartbeats 400000 in
theorem halve_any (v : Nat) (w : World) (h : v < 4294967296) :
    Calls Tryd.prog 67 #[.int .u32 v] w fun e w' => e = .returned (.int .u32 (halve v)) ∧ w = w' := by
  obtain ⟨e1, e2⟩ := halve_int v h
  have HE := Lib.hid e2
  by_cases h2 : v % 2 = 1
  · have HV : Hid (halve v = v / 2 ^^^ poly) := if_pos h2
    have hb : (((v % 2 : Nat) : Int) == 1) = true := by simp; omega
    clear e2
    go_enter Tryd.func67, Tryd.ntmps67
    go_wp2

    go_ret
    exact ⟨ret_int (by rw [HV.out]; exact HE.out), rfl⟩
  · have HV : Hid (halve v = v / 2) := if_neg h2
    have hb : (((v % 2 : Nat) : Int) == 1) = false := by simp; omega
    clear e2
    go_enter Tryd.func67, Tryd.ntmps67
    go_wp2
    go_ret
    exact ⟨ret_int (by rw [HV.out]; omega), rfl⟩

theorem halves_last (n v : Nat) : halves (n + 1) v = halve (halves n v) := halves_add n 1 v
/-- the table's first k entries -/
def part (k i : Nat) : Nat := if i < k then entry i else 0
theorem tab_start : tab (part 0) = tab fun _ => 0 := by
  have : part 0 = fun _ => 0 := by funext i; simp [part]
  rw [this]
theorem tabN_one (n : Nat) (t : Nat → Nat) : (tabN n t).all (·.oneCell') = true := by
  rw [Array.all_eq_true_iff_forall_mem]
  intro v hv
  simp [tabN] at hv
  obtain ⟨i, _, rfl⟩ := hv
  rfl
theorem tab_one (t : Nat → Nat) : (tab t).all (·.oneCell') = true := tabN_one 256 t
theorem tabN_congr (n : Nat) (t u : Nat → Nat) (h : ∀ i, i < n → t i = u i) : tabN n t = tabN n u := by
  unfold tabN
  congr 1
  refine List.map_congr_left fun i hi => ?_
  rw [h i (List.mem_range.1 hi)]
theorem tab_last : tab (part 256) = tab entry := tabN_congr 256 _ _ fun _ hi => if_pos hi
theorem tabN_set (n : Nat) (k : Nat) : (tabN n (part k)).setIfInBounds k (.int .u32 (entry k : Int)) = tabN n (part (k + 1)) := by
  apply Array.ext
  · simp [tabN]
  · intro i h1 h2
    have hi : i < n := by simpa [tabN] using h2
    rw [Array.getElem_setIfInBounds (by simpa [tabN] using hi)]
    by_cases e : k = i
    · subst e
      simp [tabN, part]
    · rw [if_neg e]
      have : (i < k + 1) = (i < k) := by apply propext; omega
      simp [tabN, part, this]
theorem tab_set (k : Nat) : (tab (part k)).setIfInBounds k (.int .u32 (halves 8 k : Int)) = tab (part (k + 1)) := tabN_set 256 k

set_option maxRecDepth 100000 in
set_option maxHeartbeats 400000 in
theorem table_any (w : World) :
    Calls Tryd.prog 64 #[] w fun e w' => e = .returned (.agg (tab entry)) ∧ w.grownBy w' none := by
  have hz : ∀ w : World, (zeroValue 78).run Tryd.prog w = .ok (.agg (tab (part 0))) w := fun _ => by rw [tab_start]; kernel_rfl
  go_enter Tryd.func64, Tryd.ntmps64
  go_wp2
  go_loopw [4] (fun i wr => ∃ k : Nat, k ≤ 256 ∧ i = .int .i64 k ∧ wr = (w.alloc (.cells (tab (part 0)) 78)).alloc (.cells (tab (part k)) 78)) (fun i _ => 256 - (intOf i).toNat)
  case atStart => exact ⟨0, Nat.zero_le _, rfl, rfl⟩
  case round =>
    obtain ⟨k, hk, rfl, rfl⟩ := hrel
    by_cases hlt : k < 256
    · have hd : decide ((k : Int) < 256) = true := by simp; omega
      go_wp2
      go_loop [3, 9] (fun v j => ∃ m : Nat, m ≤ 8 ∧ j = .int .i64 m ∧ v = .int .u32 (halves m k)) (fun _ j => 8 - (intOf j).toNat)
      case atStart => exact ⟨0, Nat.zero_le _, rfl, rfl⟩
      case round =>
        obtain ⟨m, hm, rfl, rfl⟩ := hrel
        have hv : halves m k < 4294967296 := halves_lt m k (by omega)
        by_cases hm8 : m < 8
        · have HL := Lib.hid (halves_last m k)
          go_wp2_with (go_at_call 67; refine (halve_any _ _ hv).mono ?_; rintro e w' ⟨rfl, rfl⟩)
          go_round
          case rel => exact ⟨m + 1, by omega, by go_num, by rw [HL.out]⟩
          case measure => simp [intOf]; omega
        · obtain rfl : m = 8 := by omega
          have hg := tab_get (part k) k hlt
          have HS := Lib.hid (tab_set k)
          go_wp2
          exact ⟨⟨k + 1, by omega, by go_num, by rw [HS.out]⟩, by simp [intOf]; omega⟩
    · obtain rfl : k = 256 := by omega
      have HI := Lib.hid (info_tab entry)
      have H1 := Lib.hid (heap_alloc2_new w (.cells (tab (part 0)) 78) (.cells (tab (part 256)) 78))
      have H0 := Lib.hid (heap_alloc2_old w (.cells (tab (part 0)) 78) (.cells (tab (part 256)) 78))
      have hg : w.grownBy (((w.alloc (.cells (tab (part 0)) 78)).alloc (.cells (tab entry) 78)).setRow w.heap.size (tab entry)) none :=
        ⟨rfl, rfl, rfl, by simp; omega, fun k hk _ => by rw [setRow_other _ _ _ _ (by omega), heap_alloc_old _ _ (by simp; omega), heap_alloc_old _ _ hk]⟩
      have HG := Lib.hid hg
      have HR := Lib.hid (setRow_heap _ w.heap.size _ (tab entry) _ _ H0.out)
      rw [tab_last] at *
      clear hg
      go_wp2_with (first
        | (refine wpList_load_row rfl _ _ rfl (w.heap.size + 1) rfl _ (tab entry) _ _ H1.out Tryd.underlying78 rfl HI.out ?_)
        | (refine wpList_store_row rfl _ _ _ rfl w.heap.size (tab entry) rfl rfl _ (tab (part 0)) H0.out HI.out (by rw [tab_size, tab_size]) (tab_one _) ?_)
        | fail)
      refine bodyPost_ret (v := .agg (tab entry)) ?_ rfl ⟨rfl, HG.out⟩
      exact results_cell_row rfl _ _ w.heap.size _ _ _ _ rfl HR.out Tryd.underlying78 rfl HI.out
set_option maxRecDepth 100000 in
set_option maxHeartbeats 400000 in
theorem rtable_any (w : World) :
    Calls Tryd.prog 48 #[] w fun e w' => e = .returned (.agg (tab entry)) ∧ w.grownBy w' none := by
  have hz : ∀ w : World, (zeroValue 78).run Tryd.prog w = .ok (.agg (tab (part 0))) w := fun _ => by rw [tab_start]; kernel_rfl
  go_enter Tryd.func48, Tryd.ntmps48
  go_wp2
  go_loopw [2] (fun i wr => ∃ k : Nat, k ≤ 256 ∧ i = .int .i64 k ∧ wr = (w.alloc (.cells (tab (part 0)) 78)).alloc (.cells (tab (part k)) 78)) (fun i _ => 256 - (intOf i).toNat)
  case atStart => exact ⟨0, Nat.zero_le _, rfl, rfl⟩
  case round =>
    obtain ⟨k, hk, rfl, rfl⟩ := hrel
    by_cases hlt : k < 256
    · have hd : decide ((k : Int) < 256) = true := by simp; omega
      go_wp2
      go_loop [3, 4] (fun v j => ∃ m : Nat, m ≤ 8 ∧ j = .int .i64 m ∧ v = .int .u32 (halves m k)) (fun _ j => 8 - (intOf j).toNat)
      case atStart => exact ⟨0, Nat.zero_le _, rfl, rfl⟩
      case round =>
        obtain ⟨m, hm, rfl, rfl⟩ := hrel
        have hv : halves m k < 4294967296 := halves_lt m k (by omega)
        by_cases hm8 : m < 8
        · obtain ⟨_, e2⟩ := halve_int (halves m k) hv
          have HE := Lib.hid e2
          have HL := Lib.hid (halves_last m k)
          clear e2
          generalize halves m k = v at hv HE HL
          by_cases h2 : v % 2 = 1
          · have HV : Hid (halve v = v / 2 ^^^ poly) := if_pos h2
            have hb : ((v : Int) % 2 == 1) = true := by simp; omega
            go_wp2
            go_round
            case rel => exact ⟨m + 1, by omega, by go_num, by rw [HL.out, HV.out, HE.out]⟩
            case measure => simp [intOf]; omega
          · have HV : Hid (halve v = v / 2) := if_neg h2
            have hb : ((v : Int) % 2 == 1) = false := by simp; omega
            go_wp2
            go_round
            case rel => exact ⟨m + 1, by omega, by go_num, by rw [HL.out, HV.out]; go_num⟩
            case measure => simp [intOf]; omega
        · obtain rfl : m = 8 := by omega
          have hg := tab_get (part k) k hlt
          have HS := Lib.hid (tab_set k)
          go_wp2
          exact ⟨⟨k + 1, by omega, by go_num, by rw [HS.out]⟩, by simp [intOf]; omega⟩
    · obtain rfl : k = 256 := by omega
      have HI := Lib.hid (info_tab entry)
      have H1 := Lib.hid (heap_alloc2_new w (.cells (tab (part 0)) 78) (.cells (tab (part 256)) 78))
      have H0 := Lib.hid (heap_alloc2_old w (.cells (tab (part 0)) 78) (.cells (tab (part 256)) 78))
      have hg : w.grownBy (((w.alloc (.cells (tab (part 0)) 78)).alloc (.cells (tab entry) 78)).setRow w.heap.size (tab entry)) none :=
        ⟨rfl, rfl, rfl, by simp; omega, fun k hk _ => by rw [setRow_other _ _ _ _ (by omega), heap_alloc_old _ _ (by simp; omega), heap_alloc_old _ _ hk]⟩
      have HG := Lib.hid hg
      have HR := Lib.hid (setRow_heap _ w.heap.size _ (tab entry) _ _ H0.out)
      rw [tab_last] at *
      clear hg
      go_wp2_with (first
        | (refine wpList_load_row rfl _ _ rfl (w.heap.size + 1) rfl _ (tab entry) _ _ H1.out Tryd.underlying78 rfl HI.out ?_)
        | (refine wpList_store_row rfl _ _ _ rfl w.heap.size (tab entry) rfl rfl _ (tab (part 0)) H0.out HI.out (by rw [tab_size, tab_size]) (tab_one _) ?_)
        | fail)
      refine bodyPost_ret (v := .agg (tab entry)) ?_ rfl ⟨rfl, HG.out⟩
      exact results_cell_row rfl _ _ w.heap.size _ _ _ _ rfl HR.out Tryd.underlying78 rfl HI.out

set_option maxRecDepth 100000 in
set_option maxHeartbeats 400000 in
theorem of_any (a : Option Addr) (n c : Nat) (l : List Int) (w : World) (hs : Seg w a n c l) (hb : Bs.IsB l) :
    Calls Tryd.prog 52 #[.slice a n c] w fun e w' => e = .returned (.int .u32 (crc l)) ∧ w.grownBy w' none := by
  have HB := Lib.hid hb
  have HS := Lib.hid hs
  clear hb hs
  go_enter Tryd.func52, Tryd.ntmps52
  go_wp2_with fail
  refine (table_any w).mono ?_
  rintro e w1 ⟨rfl, hg1⟩
  have H1 := Lib.hid hg1
  clear hg1
  go_wp2_with fail
  refine (sum_any entry a n c l w1 (HS.out.grown H1.out) HB.out entry_lt).mono ?_
  rintro e w2 ⟨rfl, hg2⟩
  have H2 := Lib.hid (grownBy_trans H1.out hg2 (fun _ e => by cases e))
  clear hg2
  go_wp2
  go_ret
  exact ⟨rfl, H2.out⟩

set_option maxRecDepth 100000 in
set_option maxHeartbeats 400000 in
theorem rof_any (a : Option Addr) (n c : Nat) (l : List Int) (w : World) (hs : Seg w a n c l) (hb : Bs.IsB l) :
    Calls Tryd.prog 31 #[.slice a n c] w fun e w' => e = .returned (.int .u32 (crc l)) ∧ w.grownBy w' none := by
  have HB := Lib.hid hb
  have HS := Lib.hid hs
  clear hb hs
  go_enter Tryd.func31, Tryd.ntmps31
  go_wp2_with fail
  refine (rtable_any w).mono ?_
  rintro e w1 ⟨rfl, hg1⟩
  have H1 := Lib.hid hg1
  clear hg1
  go_wp2_with fail
  refine (rsum_any entry a n c l w1 (HS.out.grown H1.out) HB.out entry_lt).mono ?_
  rintro e w2 ⟨rfl, hg2⟩
  have H2 := Lib.hid (grownBy_trans H1.out hg2 (fun _ e => by cases e))
  clear hg2
  go_wp2
  go_ret
  exact ⟨rfl, H2.out⟩
end Go.Proofs.YtfojkglindpjjaaDoor.Crc
