/-
  The program's counts in memory: a struct, its row; what looks at one block, and what changes one.
-/
import Derived.Test.YtkinmcnmdfpjbaaCnRefT
import Derived.LaidEqlPtr
namespace Go.Proofs.Ytkinmcnmdfpjbaa.Cn
open Go.RowKit Bs Dv Gr

/-- the program's counts: a struct at g, its row at h -/
structure CC (w : World) (g h cap : Nat) (size : Int) (N : List Int) : Prop where
  box : w.heap[g]? = some (.cells #[.int .i64 size, .int .i64 (N.length : Int), .slice (some ⟨h, 0, none⟩) N.length cap, .pointer (some ⟨g, 0, none⟩)] 73 (0, 0))
  row : ∀ j, j < N.length → w.cell? ⟨h, j, none⟩ = some (.int .u16 (N.getD j 0)) ∧ w.frozen? ⟨h, j, none⟩ = false
  ne : g ≠ h
  le : N.length ≤ cap
  capm : cap ≤ maxLen
  small : N.length ≤ 4096
  lt : h < w.heap.size

theorem CC.turn {w w' : World} {g h cap : Nat} {size : Int} {N : List Int} {S : Nat → Prop} (hc : CC w g h cap size N) (t : Turn w w' S) (hg : ¬ S g) (hh : ¬ S h) : CC w' g h cap size N := by
  refine ⟨?_, fun j hj => ?_, hc.ne, hc.le, hc.capm, hc.small, Nat.lt_of_lt_of_le hc.lt t.size⟩
  · rw [t.block g (Array.getElem?_eq_some_iff.1 hc.box).1 hg]; exact hc.box
  · obtain ⟨h1, h2⟩ := hc.row j hj
    exact ⟨t.cell h1 hh, (t.frozen (p := ⟨h, j, none⟩) (World.block_lt_of_cell? w _ h1) hh).trans h2⟩
theorem CC.old {w w' : World} {g h cap : Nat} {size : Int} {N : List Int} (hc : CC w g h cap size N) (k : w.grownBy w' none) : CC w' g h cap size N := hc.turn (grown_turn k) id id
theorem CC.glt {w : World} {g h cap : Nat} {size : Int} {N : List Int} (hc : CC w g h cap size N) : g < w.heap.size := (Array.getElem?_eq_some_iff.1 hc.box).1
theorem CC.cells {w : World} {g h cap : Nat} {size : Int} {N : List Int} (hc : CC w g h cap size N) : w.cell? ⟨g, 0, none⟩ = some (.int .i64 size) ∧ w.cell? ⟨g, 1, none⟩ = some (.int .i64 (N.length : Int)) ∧
    w.cell? ⟨g, 2, none⟩ = some (.slice (some ⟨h, 0, none⟩) N.length cap) ∧ w.cell? ⟨g, 3, none⟩ = some (.pointer (some ⟨g, 0, none⟩)) := by
  refine ⟨?_, ?_, ?_, ?_⟩ <;> rw [cell_of_row _ _ _ _ _ _ hc.box] <;> rfl
theorem CC.set {w : World} {g h cap : Nat} {size : Int} {N : List Int} (hc : CC w g h cap size N) (k : Nat) (x : Int) (hk : k < N.length) : CC (w.setCell ⟨h, k, none⟩ (.int .u16 x)) g h cap size (N.set k x) ∧ Turn w (w.setCell ⟨h, k, none⟩ (.int .u16 x)) (· = h) := by
  have ht := Turn.setCell w ⟨h, k, none⟩ (.int .u16 x) (S := (· = h)) rfl
  refine ⟨⟨?_, fun j hj => ?_, hc.ne, by rw [List.length_set]; exact hc.le, hc.capm, by rw [List.length_set]; exact hc.small, Nat.lt_of_lt_of_le hc.lt ht.size⟩, ht⟩
  · rw [List.length_set, ht.block g (Array.getElem?_eq_some_iff.1 hc.box).1 hc.ne]
    exact hc.box
  · rw [List.length_set] at hj
    rw [getD_set N k x j hk]
    have hfr : (w.setCell ⟨h, k, none⟩ (.int .u16 x)).frozen? ⟨h, j, none⟩ = w.frozen? ⟨h, j, none⟩ := World.frozen?_setCells h [.int .u16 x] k w _
    refine ⟨?_, hfr.trans (hc.row j hj).2⟩
    by_cases e : j = k
    · subst e
      rw [if_pos rfl]
      have h3 := World.cell?_setCells_in h [.int .u16 x] j w (fun i hi => by
        obtain rfl : i = 0 := by simpa using hi
        rw [Nat.add_zero, (hc.row j hj).1]; rfl) 0 (by simp)
      exact h3.trans rfl
    · rw [if_neg e]
      exact (World.cell?_setCells_out h [.int .u16 x] k w ⟨h, j, none⟩ (fun _ _ => by show j < k ∨ k + [Value.int .u16 x].length ≤ j; simp; omega)).trans (hc.row j hj).1

theorem info_counts : (Try.prog.info? 73).isSome = true := by kernel_rfl
theorem eql_counts (a : Addr) (w : World) : (binOp .eql 23 (.pointer (some a)) (.pointer (some a))).run Try.prog w = .ok (.bool true) w := by
  obtain ⟨j, hj⟩ := Option.isSome_iff_exists.1 info_counts
  exact run_eql_ptr_same w a Try.underlying23 hj

theorem valid_yes (g : Nat) (w : World) (h : w.cell? ⟨g, 3, none⟩ = some (.pointer (some ⟨g, 0, none⟩))) :
    Calls Try.prog 38 #[.pointer (some ⟨g, 0, none⟩)] w fun e w' => e = .returned (.bool true) ∧ w = w' := by
  have he := eql_counts ⟨g, 0, none⟩
  go_enter Try.func38, Try.ntmps38
  go_wp2
  go_ret
  exact ⟨rfl, rfl⟩
theorem valid_nil (w : World) : Calls Try.prog 38 #[.pointer none] w fun e w' => e = .returned (.bool false) ∧ w = w' := by
  go_enter Try.func38, Try.ntmps38
  go_wp2
  go_ret
  exact ⟨rfl, rfl⟩

theorem has_any (g h cap : Nat) (size : Int) (N : List Int) (n : Nat) (w : World) (hc : CC w g h cap size N) (hn : n < 4294967296) :
    Calls Try.prog 46 #[.pointer (some ⟨g, 0, none⟩), .int .u32 (n : Int)] w fun e w' => e = .returned (.bool (decide (n < N.length))) ∧ w = w' := by
  have c2 := hc.cells.2.2.1
  have hs := hc.small
  have e1 : IntKind.u64.wrap (N.length : Int) = (N.length : Int) := by rw [IntKind.wrap_u64]; omega
  have e2 : IntKind.u64.wrap (n : Int) = (n : Int) := by rw [IntKind.wrap_u64]; omega
  obtain ⟨L, hL⟩ : ∃ L, N.length = L := ⟨_, rfl⟩
  rw [hL] at c2 hs e1 ⊢
  clear hL hc
  have q2 : decide ((n : Int) < (L : Int)) = decide (n < L) := decide_eq_decide.2 (by omega)
  obtain ⟨b, hb⟩ : ∃ b, decide (n < L) = b := ⟨_, rfl⟩
  rw [hb] at q2 ⊢
  go_enter Try.func46, Try.ntmps46
  go_wp2
  go_ret
  exact ⟨rfl, rfl⟩

set_option maxHeartbeats 1000000 in
theorem get_any (g h cap : Nat) (size : Int) (N : List Int) (n : Nat) (w : World) (hc : CC w g h cap size N) (hn : n < 4294967296) (hcn : IsC N) :
    Calls Try.prog 18 #[.pointer (some ⟨g, 0, none⟩), .int .u32 (n : Int)] w fun e w' => e = .returned (.int .i64 (N.getD n 0)) ∧ w = w' := by
  have HV := Lib.hid (valid_yes g w hc.cells.2.2.2)
  have HE := Lib.hid (has_any g h cap size N n w hc hn)
  have c2 := hc.cells.2.2.1
  have hle := hc.le
  by_cases h2 : n < N.length
  · rw [decide_eq_true h2] at HE
    have hcell := (hc.row n h2).1
    have hxr := hcn (N.getD n 0) (by rw [List.getD_eq_getElem?_getD, List.getElem?_eq_getElem h2]; exact List.getElem_mem h2)
    obtain ⟨x, hx⟩ : ∃ x, N.getD n 0 = x := ⟨_, rfl⟩
    obtain ⟨L, hL⟩ : ∃ L, N.length = L := ⟨_, rfl⟩
    rw [hx] at hcell hxr ⊢
    rw [hL] at c2 h2 hle
    have e1 : IntKind.i64.wrap x = x := IntWalk.i64_in _ (by omega)
    clear hc hx hL hxr hcn
    go_enter Try.func18, Try.ntmps18
    go_wp2_with (first | (go_at_call 38; refine HV.out.mono ?_; rintro e w' ⟨rfl, rfl⟩) | (go_at_call 46; refine HE.out.mono ?_; rintro e w' ⟨rfl, rfl⟩) | fail)
    go_ret
    exact ⟨rfl, rfl⟩
  · rw [decide_eq_false h2] at HE
    have hx : N.getD n 0 = 0 := by rw [List.getD_eq_getElem?_getD, List.getElem?_eq_none (by omega)]; rfl
    rw [hx]
    clear hc hx c2 hle h2 hcn
    go_enter Try.func18, Try.ntmps18
    go_wp2_with (first | (go_at_call 38; refine HV.out.mono ?_; rintro e w' ⟨rfl, rfl⟩) | (go_at_call 46; refine HE.out.mono ?_; rintro e w' ⟨rfl, rfl⟩) | fail)
    go_ret
    exact ⟨rfl, rfl⟩
theorem get_nil (n : Int) (w : World) : Calls Try.prog 18 #[.pointer none, .int .u32 n] w fun e w' => e = .returned (.int .i64 0) ∧ w = w' := by
  have HV := Lib.hid (valid_nil w)
  go_enter Try.func18, Try.ntmps18
  go_wp2_with (first | (go_at_call 38; refine HV.out.mono ?_; rintro e w' ⟨rfl, rfl⟩) | fail)
  go_ret
  exact ⟨rfl, rfl⟩

/-- used's error -/
def usedE (N : List Int) (n : Nat) : Int := if ¬ (2 ≤ n ∧ n < N.length) then 2 else if N.getD n 0 = 0 then 8 else 0
set_option maxHeartbeats 1000000 in
theorem used_any (g h cap : Nat) (size : Int) (N : List Int) (n : Nat) (w : World) (hc : CC w g h cap size N) (hn : n < 4294967296) :
    Calls Try.prog 40 #[.pointer (some ⟨g, 0, none⟩), .int .u32 (n : Int)] w fun e w' => e = .returned (.tuple #[.pointer (if usedE N n = 0 then some ⟨h, n, none⟩ else none), .int .i64 (usedE N n)]) ∧ w = w' := by
  have HV := Lib.hid (valid_yes g w hc.cells.2.2.2)
  have HE := Lib.hid (has_any g h cap size N n w hc hn)
  have c2 := hc.cells.2.2.1
  have hle := hc.le
  by_cases h1 : 2 ≤ n
  · have q1 : decide ((n : Int) < 2) = false := decide_eq_false (by omega)
    by_cases h2 : n < N.length
    · rw [decide_eq_true h2] at HE
      have hcell := (hc.row n h2).1
      have HU : Hid (usedE N n = if N.getD n 0 = 0 then 8 else 0) := Lib.hid (if_neg (fun k => k ⟨h1, h2⟩))
      obtain ⟨E, hE⟩ : ∃ E, usedE N n = E := ⟨_, rfl⟩
      obtain ⟨x, hx⟩ : ∃ x, N.getD n 0 = x := ⟨_, rfl⟩
      obtain ⟨L, hL⟩ : ∃ L, N.length = L := ⟨_, rfl⟩
      rw [hx] at hcell HU
      rw [hE] at HU ⊢
      rw [hL] at c2 h2 hle
      clear hc hx hL hE
      by_cases h0 : x = 0
      · have hE : E = 8 := by rw [HU.out, if_pos h0]
        rw [if_neg (by rw [hE]; decide)]
        subst hE
        have q3 : (x == 0) = true := beq_iff_eq.2 h0
        clear h0 HU
        go_enter Try.func40, Try.ntmps40
        go_wp2_with (first | (go_at_call 38; refine HV.out.mono ?_; rintro e w' ⟨rfl, rfl⟩) | (go_at_call 46; refine HE.out.mono ?_; rintro e w' ⟨rfl, rfl⟩) | fail)
        go_ret2
        exact ⟨rfl, rfl⟩
      · have hE : E = 0 := by rw [HU.out, if_neg h0]
        rw [if_pos hE]
        subst hE
        have q3 : (x == 0) = false := beq_eq_false_iff_ne.2 h0
        clear h0 HU
        go_enter Try.func40, Try.ntmps40
        go_wp2_with (first | (go_at_call 38; refine HV.out.mono ?_; rintro e w' ⟨rfl, rfl⟩) | (go_at_call 46; refine HE.out.mono ?_; rintro e w' ⟨rfl, rfl⟩) | fail)
        go_ret2
        exact ⟨rfl, rfl⟩
    · rw [decide_eq_false h2] at HE
      have hE : usedE N n = 2 := if_pos (fun k => h2 k.2)
      rw [hE]
      clear hc hE c2 hle h2
      go_enter Try.func40, Try.ntmps40
      go_wp2_with (first | (go_at_call 38; refine HV.out.mono ?_; rintro e w' ⟨rfl, rfl⟩) | (go_at_call 46; refine HE.out.mono ?_; rintro e w' ⟨rfl, rfl⟩) | fail)
      go_ret2
      exact ⟨rfl, rfl⟩
  · have q1 : decide ((n : Int) < 2) = true := decide_eq_true (by omega)
    have hE : usedE N n = 2 := if_pos (fun k => h1 k.1)
    rw [hE]
    clear hc hE c2 hle h1
    go_enter Try.func40, Try.ntmps40
    go_wp2_with (first | (go_at_call 38; refine HV.out.mono ?_; rintro e w' ⟨rfl, rfl⟩) | fail)
    go_ret2
    exact ⟨rfl, rfl⟩
theorem used_nil (n : Int) (w : World) : Calls Try.prog 40 #[.pointer none, .int .u32 n] w fun e w' => e = .returned (.tuple #[.pointer none, .int .i64 1]) ∧ w = w' := by
  have HV := Lib.hid (valid_nil w)
  go_enter Try.func40, Try.ntmps40
  go_wp2_with (first | (go_at_call 38; refine HV.out.mono ?_; rintro e w' ⟨rfl, rfl⟩) | fail)
  go_ret2
  exact ⟨rfl, rfl⟩

theorem add_nil (n : Int) (w : World) : Calls Try.prog 14 #[.pointer none, .int .u32 n] w fun e w' => e = .returned (.int .i64 1) ∧ w = w' := by
  have HV := Lib.hid (used_nil n w)
  go_enter Try.func14, Try.ntmps14
  go_wp2_with (first | (go_at_call 40; refine HV.out.mono ?_; rintro e w' ⟨rfl, rfl⟩) | fail)
  go_ret
  exact ⟨rfl, rfl⟩
set_option maxHeartbeats 1000000 in
theorem add_any (g h cap : Nat) (size : Int) (N : List Int) (n : Nat) (w : World) (hc : CC w g h cap size N) (hn : n < 4294967296) (hcn : IsC N) :
    Calls Try.prog 14 #[.pointer (some ⟨g, 0, none⟩), .int .u32 (n : Int)] w fun e w' => e = .returned (.int .i64 (addE N n)) ∧ CC w' g h cap size (addN N n) ∧ Turn w w' (· = h) := by
  have HU := Lib.hid (used_any g h cap size N n w hc hn)
  have HC := Lib.hid hc
  by_cases h1 : usedE N n = 0
  · rw [if_pos h1, h1] at HU
    have h2 : 2 ≤ n ∧ n < N.length := Classical.byContradiction fun k => by unfold usedE at h1; rw [if_pos k] at h1; cases h1
    have h3 : ¬ N.getD n 0 = 0 := fun k => by unfold usedE at h1; rw [if_neg (fun q => q h2), if_pos k] at h1; cases h1
    obtain ⟨hcell, hfr⟩ := hc.row n h2.2
    have hx := hcn (N.getD n 0) (by rw [List.getD_eq_getElem?_getD, List.getElem?_eq_getElem h2.2]; exact List.getElem_mem h2.2)
    have HE : Hid (addE N n = if N.getD n 0 = 65535 then 12 else 0) := Lib.hid (by unfold addE; rw [if_neg (fun k => k h2), if_neg h3])
    have HN : Hid (addE N n = 0 → addN N n = N.set n (N.getD n 0 + 1)) := Lib.hid (fun k => if_pos k)
    have HN2 : Hid (addE N n ≠ 0 → addN N n = N) := Lib.hid (fun k => if_neg k)
    have HS2 := Lib.hid (hc.set n (N.getD n 0 + 1) h2.2)
    obtain ⟨x, hxx⟩ : ∃ x, N.getD n 0 = x := ⟨_, rfl⟩
    rw [hxx] at hcell hx HE HN HS2
    obtain ⟨E, hE⟩ : ∃ E, addE N n = E := ⟨_, rfl⟩
    rw [hE] at HE HN HN2 ⊢
    obtain ⟨R, hR⟩ : ∃ R, addN N n = R := ⟨_, rfl⟩
    rw [hR] at HN HN2 ⊢
    clear hc h1 h2 h3 hxx hE hR hcn
    by_cases h4 : x = 65535
    · have hE : E = 12 := by rw [HE.out, if_pos h4]
      have hR : R = N := HN2.out (by rw [hE]; decide)
      subst hE hR
      have q2 : (x == 65535) = true := beq_iff_eq.2 h4
      clear h4 HE HN HN2 HS2 hx
      go_enter Try.func14, Try.ntmps14
      go_wp2_with fail
      refine HU.out.mono ?_
      rintro e w' ⟨rfl, rfl⟩
      dsimp only
      go_wp2
      go_ret
      exact ⟨rfl, HC.out, Turn.refl _ _⟩
    · have hE : E = 0 := by rw [HE.out, if_neg h4]
      have hR : R = N.set n (x + 1) := HN.out hE
      subst hE
      rw [hR]
      have q2 : (x == 65535) = false := beq_eq_false_iff_ne.2 h4
      have e1 : IntKind.u16.wrap (x + 1) = x + 1 := by rw [IntKind.wrap_u16]; omega
      clear h4 HE HN HN2 hx hR
      go_enter Try.func14, Try.ntmps14
      go_wp2_with fail
      refine HU.out.mono ?_
      rintro e w' ⟨rfl, rfl⟩
      dsimp only
      go_wp2
      go_ret
      exact ⟨rfl, HS2.out⟩
  · rw [if_neg h1] at HU
    have hA : addE N n = usedE N n := by
      unfold addE usedE at *
      by_cases k : ¬ (2 ≤ n ∧ n < N.length)
      · rw [if_pos k, if_pos k]
      · rw [if_neg k] at h1
        rw [if_neg k, if_neg k]
        by_cases k2 : N.getD n 0 = 0
        · rw [if_pos k2, if_pos k2]
        · rw [if_neg k2] at h1; exact absurd rfl h1
    have hR : addN N n = N := if_neg (by rw [hA]; exact h1)
    rw [hA, hR]
    obtain ⟨E, hE⟩ : ∃ E, usedE N n = E := ⟨_, rfl⟩
    rw [hE] at HU h1 ⊢
    have q1 : (E != 0) = true := bne_iff_ne.2 h1
    clear hc h1 hA hR hE hcn
    go_enter Try.func14, Try.ntmps14
    go_wp2_with fail
    refine HU.out.mono ?_
    rintro e w' ⟨rfl, rfl⟩
    dsimp only
    go_wp2
    go_ret
    exact ⟨rfl, HC.out, Turn.refl _ _⟩
set_option maxHeartbeats 1000000 in
theorem sub_any (g h cap : Nat) (size : Int) (N : List Int) (n : Nat) (w : World) (hc : CC w g h cap size N) (hn : n < 4294967296) (hcn : IsC N) :
    Calls Try.prog 15 #[.pointer (some ⟨g, 0, none⟩), .int .u32 (n : Int)] w fun e w' => e = .returned (.tuple #[.int .i64 (subV N n), .int .i64 (subE N n)]) ∧ CC w' g h cap size (subN N n) ∧ Turn w w' (· = h) := by
  have HU := Lib.hid (used_any g h cap size N n w hc hn)
  have HC := Lib.hid hc
  have hse : subE N n = usedE N n := rfl
  by_cases h1 : usedE N n = 0
  · rw [if_pos h1, h1] at HU
    have h2 : 2 ≤ n ∧ n < N.length := Classical.byContradiction fun k => by unfold usedE at h1; rw [if_pos k] at h1; cases h1
    have h3 : ¬ N.getD n 0 = 0 := fun k => by unfold usedE at h1; rw [if_neg (fun q => q h2), if_pos k] at h1; cases h1
    obtain ⟨hcell, hfr⟩ := hc.row n h2.2
    have hx := hcn (N.getD n 0) (by rw [List.getD_eq_getElem?_getD, List.getElem?_eq_getElem h2.2]; exact List.getElem_mem h2.2)
    have hE : subE N n = 0 := hse.trans h1
    have hV : subV N n = N.getD n 0 - 1 := if_pos hE
    have hR : subN N n = N.set n (N.getD n 0 - 1) := if_pos hE
    rw [hE, hV, hR]
    have HS2 := Lib.hid (hc.set n (N.getD n 0 - 1) h2.2)
    have hc2 := (HS2.out.1.row n (by rw [List.length_set]; exact h2.2)).1
    rw [getD_set N n _ n h2.2, if_pos rfl] at hc2
    obtain ⟨x, hxx⟩ : ∃ x, N.getD n 0 = x := ⟨_, rfl⟩
    rw [hxx] at hcell hx HS2 h3 hc2 ⊢
    have e1 : IntKind.u16.wrap (x - 1) = x - 1 := by rw [IntKind.wrap_u16]; omega
    have e2 : IntKind.i64.wrap (x - 1) = x - 1 := IntWalk.i64_in _ (by omega)
    clear hc h1 h2 h3 hxx hE hR hV hcn hse hx
    go_enter Try.func15, Try.ntmps15
    go_wp2_with fail
    refine HU.out.mono ?_
    rintro e w' ⟨rfl, rfl⟩
    dsimp only
    go_wp2
    go_ret2
    exact ⟨rfl, HS2.out⟩
  · rw [if_neg h1] at HU
    have hV : subV N n = 0 := if_neg (by rw [hse]; exact h1)
    have hR : subN N n = N := if_neg (by rw [hse]; exact h1)
    rw [hse, hV, hR]
    obtain ⟨E, hE⟩ : ∃ E, usedE N n = E := ⟨_, rfl⟩
    rw [hE] at HU h1 ⊢
    have q1 : (E != 0) = true := bne_iff_ne.2 h1
    clear hc h1 hR hE hcn hse hV
    go_enter Try.func15, Try.ntmps15
    go_wp2_with fail
    refine HU.out.mono ?_
    rintro e w' ⟨rfl, rfl⟩
    dsimp only
    go_wp2
    go_ret2
    exact ⟨rfl, HC.out, Turn.refl _ _⟩
end Go.Proofs.Ytkinmcnmdfpjbaa.Cn
