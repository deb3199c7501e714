/-
  cut, set, isZero.
-/
import Derived.Test.YtfojkglindpjjaaDoorMemLib
import Derived.Test.YtfojkglindpjjaaDoorOctF
import Derived.Test.YtfojkglindpjjaaDoorFrNum
import Derived.BigRegion
import Derived.Test.YtfojkglindpjjaaDoorRes
namespace Go.Proofs.YtfojkglindpjjaaDoor.Fr
open Go.RowKit Bs Dv

/-- the parts of a block of n bytes that lies in block g -/
def partsV (g n : Nat) : Array Value := #[.slice (some ⟨g, 0, none⟩) 1 1, .slice (some ⟨g, 1, none⟩) 1 1, .slice (some ⟨g, 2, none⟩) 2 2, .slice (some ⟨g, 4, none⟩) 8 8,
  .slice (some ⟨g, 12, none⟩) (n - 16) (n - 16), .slice (some ⟨g, 0, none⟩) (n - 4) (n - 4), .slice (some ⟨g, n - 4, none⟩) 4 4]

set_option maxHeartbeats 1000000 in
theorem cut_any (g n c : Nat) (w : World) (hn : 128 ≤ n) (hc : n ≤ c) (h4 : n ≤ 4096) :
    Calls Tryd.prog 50 #[.slice (some ⟨g, 0, none⟩) n c] w fun e w' => e = .returned (.agg (partsV g n)) ∧ w.grownBy w' none := by
  go_enter Tryd.func50, Tryd.ntmps50
  go_wp2
  have HV : Hid (#[Value.slice (some ⟨g, 0, none⟩) 1 1, .slice (some ⟨g, 1, none⟩) 1 1, .slice (some ⟨g, 2, none⟩) 2 2, .slice (some ⟨g, 4, none⟩) 8 8,
      .slice (some ⟨g, 12, none⟩) (n - 4 - 12) (n - 4 - 12), .slice (some ⟨g, 0, none⟩) (n - 4) (n - 4), .slice (some ⟨g, n - 4, none⟩) (n - (n - 4)) (n - (n - 4))] = partsV g n) := Lib.hid (by
    unfold partsV
    rw [show n - 4 - 12 = n - 16 from by omega, show n - (n - 4) = 4 from by omega])
  go_region
  rw [HV.out]
  have hi : (Tryd.prog.info? 83).map (·.size) = some (partsV g n).size := by kernel_rfl
  have hg := World.grownBy_alloc w (.cells (partsV g n) 83) none
  have hh : (w.alloc (.cells (partsV g n) 83)).drew.heap[w.heap.size]? = some (.cells (partsV g n) 83 (0, 0)) := heap_alloc_new w _
  have HG := Lib.hid hg
  have HI := Lib.hid hi
  have HH := Lib.hid hh
  clear hg hi hh
  generalize w.alloc (.cells (partsV g n) 83) = w1 at HG HH
  go_wp2
  refine bodyPost_ret (v := .agg (partsV g n)) ?_ rfl ⟨rfl, ⟨HG.out.os, HG.out.tape, HG.out.output, HG.out.size, HG.out.block⟩⟩
  exact results_cell_row rfl _ _ w.heap.size _ _ _ _ rfl HH.out Tryd.underlying83 rfl HI.out

/-- Every byte is 0. -/
def zB (l : List Int) : Bool := l.all (· == 0)
theorem zB_yes {l : List Int} (h : ∀ x ∈ l, x = 0) : zB l = true := List.all_eq_true.2 fun x hx => by simpa using h x hx
theorem zB_no {l : List Int} (k : Nat) (hk : k < l.length) (h : ¬ l.getD k 0 = 0) : zB l = false := by
  rw [List.getD_eq_getElem?_getD, List.getElem?_eq_getElem hk] at h
  refine Bool.eq_false_iff.2 fun e => h ?_
  have := List.all_eq_true.1 e _ (List.getElem_mem hk)
  simpa using this

theorem zero_snoc {l : List Int} {k : Nat} (hk : k < l.length) (h : ∀ x ∈ l.take k, x = 0) (h2 : l.getD k 0 = 0) : ∀ x ∈ l.take (k + 1), x = 0 := by
  intro x hx
  rw [List.take_succ_eq_append_getElem hk] at hx
  rcases List.mem_append.1 hx with h1 | h1
  · exact h x h1
  · rw [List.getD_eq_getElem?_getD, List.getElem?_eq_getElem hk] at h2
    simp at h1 h2
    omega

set_option maxHeartbeats 400000 in
theorem isZero_any (a : Option Addr) (n c : Nat) (l : List Int) (w : World) (hs : Seg w a n c l) :
    Calls Tryd.prog 65 #[.slice a n c] w fun e w' => e = .returned (.bool (zB l)) ∧ w = w' := by
  by_cases hn : n = 0
  · subst hn
    obtain rfl := List.eq_nil_of_length_eq_zero hs.len
    go_enter Tryd.func65, Tryd.ntmps65
    go_wp2
    refine wp_loop_rounds 1 ?_
    rw [rounds_succ]
    go_wp2
    go_ret
    exact ⟨rfl, rfl⟩
  · obtain ⟨g, o, rfl, k0⟩ := hs.addr (by omega)
    have hm := hs.cap
    have hle := hs.le
    have HL := Lib.hid hs.len
    unfold maxLen at hm
    have K0 := Lib.hid k0
    clear k0 hs
    go_enter Tryd.func65, Tryd.ntmps65
    go_wp2
    go_loop [7] (fun i => ∃ k : Nat, k ≤ n ∧ i = .int .i64 k ∧ Hid (∀ x ∈ l.take k, x = 0)) (fun i => n - (intOf i).toNat)
    case atStart => exact ⟨0, Nat.zero_le _, rfl, by simp [Hid]⟩
    case round =>
      obtain ⟨k, hk, rfl, HZ⟩ := hrel
      by_cases hlt : k < n
      · have q1 := K0.out k hlt
        by_cases hz : l.getD k 0 = 0
        · have HS := Lib.hid (zero_snoc (by rw [HL.out]; exact hlt) HZ.out hz)
          rw [hz] at q1
          clear hz
          go_wp2
          go_round
          case rel => exact ⟨k + 1, by omega, by go_num, HS⟩
          case measure => simp [intOf]; omega
        · have HN := Lib.hid (zB_no k (by rw [HL.out]; exact hlt) hz)
          generalize l.getD k 0 = x at q1 hz
          have e1 : (x != 0) = true := bne_iff_ne.2 hz
          clear hz
          go_wp2
          go_ret
          exact ⟨ret_bool HN.out.symm, rfl⟩
      · obtain rfl : k = n := by omega
        have HY := Lib.hid (zB_yes (l := l) (by
          have h := HZ.out
          rwa [List.take_of_length_le (Nat.le_of_eq HL.out)] at h))
        go_wp2
        go_ret
        exact ⟨ret_bool HY.out.symm, rfl⟩
end Go.Proofs.YtfojkglindpjjaaDoor.Fr
