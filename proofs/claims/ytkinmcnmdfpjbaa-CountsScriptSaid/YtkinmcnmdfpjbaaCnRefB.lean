/-
  The document's counts in memory: Add, Sub, Used.
-/
import Derived.Test.YtkinmcnmdfpjbaaCnRef
import Derived.Test.YtkinmcnmdfpjbaaCnTake
namespace Go.Proofs.Ytkinmcnmdfpjbaa.Cn
open Go.RowKit Bs Dv

theorem RC.set {w : World} {g h cap : Nat} {size : Int} {N : List Int} (hc : RC w g h cap size N) (k : Nat) (x : Int) (hk : k < N.length) : RC (w.setCell ⟨h, k, none⟩ (.int .i64 x)) g h cap size (N.set k x) ∧ Turn w (w.setCell ⟨h, k, none⟩ (.int .i64 x)) (· = h) := by
  have ht := Turn.setCell w ⟨h, k, none⟩ (.int .i64 x) (S := (· = h)) rfl
  refine ⟨⟨?_, fun j hj => ?_, hc.ne, by rw [List.length_set]; exact hc.le, by rw [List.length_set]; exact hc.small⟩, ht⟩
  · rw [List.length_set, ht.block g (Array.getElem?_eq_some_iff.1 hc.box).1 hc.ne]
    exact hc.box
  · rw [List.length_set] at hj
    rw [getD_set N k x j hk]
    have hfr : (w.setCell ⟨h, k, none⟩ (.int .i64 x)).frozen? ⟨h, j, none⟩ = w.frozen? ⟨h, j, none⟩ := World.frozen?_setCells h [.int .i64 x] k w _
    refine ⟨?_, hfr.trans (hc.row j hj).2⟩
    by_cases e : j = k
    · subst e
      rw [if_pos rfl]
      have h3 := World.cell?_setCells_in h [.int .i64 x] j w (fun i hi => by
        obtain rfl : i = 0 := by simpa using hi
        rw [Nat.add_zero, (hc.row j hj).1]; rfl) 0 (by simp)
      exact h3.trans rfl
    · rw [if_neg e]
      exact (World.cell?_setCells_out h [.int .i64 x] k w ⟨h, j, none⟩ (fun _ _ => by show j < k ∨ k + [Value.int .i64 x].length ≤ j; simp; omega)).trans (hc.row j hj).1

/-- Add's error -/
def addE (N : List Int) (n : Nat) : Int := if ¬ (2 ≤ n ∧ n < N.length) then 2 else if N.getD n 0 = 0 then 8 else if N.getD n 0 = 65535 then 12 else 0
def addN (N : List Int) (n : Nat) : List Int := if addE N n = 0 then N.set n (N.getD n 0 + 1) else N

set_option maxHeartbeats 1000000 in
theorem radd_any (g h cap : Nat) (size : Int) (N : List Int) (n : Nat) (w : World) (hc : RC w g h cap size N) (hn : n < 4294967296) (hcn : IsC N) :
    Calls Try.prog 24 #[.pointer (some ⟨g, 0, none⟩), .int .u32 (n : Int)] w fun e w' => e = .returned (.int .i64 (addE N n)) ∧ RC w' g h cap size (addN N n) ∧ Turn w w' (· = h) := by
  have HM := Lib.hid (rmay_any g h cap size N n w hc (by omega))
  have c2 : w.cell? ⟨g, 2, none⟩ = some (.slice (some ⟨h, 0, none⟩) N.length cap) := by rw [cell_of_row _ _ _ _ _ _ hc.box]; rfl
  have HC := Lib.hid hc
  have hle := hc.le
  have hs := hc.small
  have HS := Lib.hid (fun x (hk : n < N.length) => hc.set n x hk)
  by_cases h1 : 2 ≤ n ∧ n < N.length
  · have h2 : (2 : Int) ≤ (n : Int) ∧ (n : Int) < (N.length : Int) := by omega
    rw [decide_eq_true h2] at HM
    obtain ⟨hcell, hfr⟩ := hc.row n h1.2
    have hx := hcn (N.getD n 0) (by rw [List.getD_eq_getElem?_getD, List.getElem?_eq_getElem h1.2]; exact List.getElem_mem h1.2)
    have HE : Hid (addE N n = if N.getD n 0 = 0 then 8 else if N.getD n 0 = 65535 then 12 else 0) := Lib.hid (if_neg (fun k => k h1))
    have HN : Hid (addE N n = 0 → addN N n = N.set n (N.getD n 0 + 1)) := Lib.hid (fun k => if_pos k)
    have HN2 : Hid (addE N n ≠ 0 → addN N n = N) := Lib.hid (fun k => if_neg k)
    have HS2 := Lib.hid (HS.out (N.getD n 0 + 1) h1.2)
    have hlt := h1.2
    obtain ⟨x, hxx⟩ : ∃ x, N.getD n 0 = x := ⟨_, rfl⟩
    rw [hxx] at hcell hx HE HN HS2
    obtain ⟨E, hE⟩ : ∃ E, addE N n = E := ⟨_, rfl⟩
    rw [hE] at HE HN HN2 ⊢
    obtain ⟨R, hR⟩ : ∃ R, addN N n = R := ⟨_, rfl⟩
    rw [hR] at HN HN2 ⊢
    obtain ⟨L, hL⟩ : ∃ L, N.length = L := ⟨_, rfl⟩
    rw [hL] at c2 hlt hle
    clear hc h1 h2 hxx hE hR HS hcn hL hs
    by_cases h3 : x = 0
    · have hE : E = 8 := by rw [HE.out, if_pos h3]
      have hR : R = N := HN2.out (by rw [hE]; decide)
      subst hE hR
      have q1 : (x == 0) = true := beq_iff_eq.2 h3
      clear h3 HE HN HN2 HS2 hx
      go_enter Try.func24, Try.ntmps24
      go_wp2_with fail
      refine HM.out.mono ?_
      rintro e w' ⟨rfl, rfl⟩
      dsimp only
      go_wp2
      go_ret
      exact ⟨rfl, HC.out, Turn.refl _ _⟩
    · have q1 : (x == 0) = false := beq_eq_false_iff_ne.2 h3
      by_cases h4 : x = 65535
      · have hE : E = 12 := by rw [HE.out, if_neg h3, if_pos h4]
        have hR : R = N := HN2.out (by rw [hE]; decide)
        subst hE hR
        have q2 : (x == 65535) = true := beq_iff_eq.2 h4
        clear h3 h4 HE HN HN2 HS2 hx
        go_enter Try.func24, Try.ntmps24
        go_wp2_with fail
        refine HM.out.mono ?_
        rintro e w' ⟨rfl, rfl⟩
        dsimp only
        go_wp2
        go_ret
        exact ⟨rfl, HC.out, Turn.refl _ _⟩
      · have hE : E = 0 := by rw [HE.out, if_neg h3, if_neg h4]
        have hR : R = N.set n (x + 1) := HN.out hE
        subst hE
        rw [hR]
        have q2 : (x == 65535) = false := beq_eq_false_iff_ne.2 h4
        have e1 : IntKind.i64.wrap (x + 1) = x + 1 := IntWalk.i64_in _ (by omega)
        clear h3 h4 HE HN HN2 hx hR
        go_enter Try.func24, Try.ntmps24
        go_wp2_with fail
        refine HM.out.mono ?_
        rintro e w' ⟨rfl, rfl⟩
        dsimp only
        go_wp2
        go_ret
        exact ⟨rfl, HS2.out⟩
  · have h2 : ¬ ((2 : Int) ≤ (n : Int) ∧ (n : Int) < (N.length : Int)) := by omega
    rw [decide_eq_false h2] at HM
    have hE : addE N n = 2 := if_pos h1
    have hR : addN N n = N := if_neg (by rw [hE]; decide)
    rw [hE, hR]
    clear hc h1 h2 hE hR HS hcn hs
    go_enter Try.func24, Try.ntmps24
    go_wp2_with fail
    refine HM.out.mono ?_
    rintro e w' ⟨rfl, rfl⟩
    dsimp only
    go_wp2
    go_ret
    exact ⟨rfl, HC.out, Turn.refl _ _⟩

set_option maxHeartbeats 1000000 in
theorem rused_any (g h cap : Nat) (size : Int) (N : List Int) (w : World) (hc : RC w g h cap size N) :
    Calls Try.prog 30 #[.pointer (some ⟨g, 0, none⟩)] w fun e w' => e = .returned (.int .i64 (usedC N : Int)) ∧ w' = w := by
  have c2 : w.cell? ⟨g, 2, none⟩ = some (.slice (some ⟨h, 0, none⟩) N.length cap) := by rw [cell_of_row _ _ _ _ _ _ hc.box]; rfl
  have hle := hc.le
  have hs := hc.small
  have HR := Lib.hid hc.row
  have HU := Lib.hid (fun i (hi : i < N.length) => used_take N i hi)
  have HF : Hid (usedC (N.take N.length) = usedC N) := Lib.hid (by rw [List.take_of_length_le (Nat.le_refl _)])
  have HB : Hid (∀ i, usedC (N.take i) ≤ 4096) := Lib.hid (fun i => by
    have h1 : usedC (N.take i) ≤ (N.take i).length := List.countP_le_length
    rw [List.length_take] at h1
    omega)
  obtain ⟨L, hL⟩ : ∃ L, N.length = L := ⟨_, rfl⟩
  rw [hL] at c2 hle hs HR HU HF
  clear hc hL
  go_enter Try.func30, Try.ntmps30
  go_wp2
  go_loopw [3, 4] (fun s3 s4 wr => ∃ i : Nat, i ≤ L ∧ s4 = .int .i64 i ∧ s3 = .int .i64 (usedC (N.take i) : Int) ∧ w = wr) (fun _ s4 _ => L - (intOf s4).toNat)
  case atStart => exact ⟨0, Nat.zero_le _, rfl, rfl, rfl⟩
  case round =>
    obtain ⟨i, hi, rfl, rfl, rfl⟩ := hrel
    have hb := HB.out i
    by_cases hlt : i < L
    · have hq : decide (i < L) = true := decide_eq_true hlt
      have hcell := (HR.out i hlt).1
      have HUi := Lib.hid (HU.out i hlt)
      obtain ⟨x, hx⟩ : ∃ x, N.getD i 0 = x := ⟨_, rfl⟩
      rw [hx] at hcell HUi
      obtain ⟨u, hu⟩ : ∃ u, usedC (N.take i) = u := ⟨_, rfl⟩
      rw [hu] at HUi hb
      rw [hu]
      clear hx hu
      by_cases h0 : 0 < x
      · have q0 : decide (0 < x) = true := decide_eq_true h0
        have HV : Hid (usedC (N.take (i + 1)) = u + 1) := Lib.hid (by rw [HUi.out, if_pos h0])
        clear h0 HUi
        go_wp2
        go_roundw
        case rel => exact ⟨i + 1, by omega, by go_num, by rw [HV.out]; go_num, trivial⟩
        case measure => simp [intOf]; omega
      · have q0 : decide (0 < x) = false := decide_eq_false h0
        have HV : Hid (usedC (N.take (i + 1)) = u) := Lib.hid (by rw [HUi.out, if_neg h0]; rfl)
        clear h0 HUi
        go_wp2
        go_roundw
        case rel => exact ⟨i + 1, by omega, by go_num, by rw [HV.out], trivial⟩
        case measure => simp [intOf]; omega
    · have hq : decide (i < L) = false := decide_eq_false hlt
      obtain rfl : i = L := by omega
      rw [HF.out]
      go_wp2
      go_ret
      exact ⟨rfl, rfl⟩

/-- Sub's answer: what is left, the error -/
def subE (N : List Int) (n : Nat) : Int := if ¬ (2 ≤ n ∧ n < N.length) then 2 else if N.getD n 0 = 0 then 8 else 0
def subN (N : List Int) (n : Nat) : List Int := if subE N n = 0 then N.set n (N.getD n 0 - 1) else N
def subV (N : List Int) (n : Nat) : Int := if subE N n = 0 then N.getD n 0 - 1 else 0

set_option maxHeartbeats 1000000 in
theorem rsub_any (g h cap : Nat) (size : Int) (N : List Int) (n : Nat) (w : World) (hc : RC w g h cap size N) (hn : n < 4294967296) (hcn : IsC N) :
    Calls Try.prog 25 #[.pointer (some ⟨g, 0, none⟩), .int .u32 (n : Int)] w fun e w' => e = .returned (.tuple #[.int .i64 (subV N n), .int .i64 (subE N n)]) ∧ RC w' g h cap size (subN N n) ∧ Turn w w' (· = h) := by
  have HM := Lib.hid (rmay_any g h cap size N n w hc (by omega))
  have c2 : w.cell? ⟨g, 2, none⟩ = some (.slice (some ⟨h, 0, none⟩) N.length cap) := by rw [cell_of_row _ _ _ _ _ _ hc.box]; rfl
  have HC := Lib.hid hc
  have hle := hc.le
  have HS := Lib.hid (fun x (hk : n < N.length) => hc.set n x hk)
  by_cases h1 : 2 ≤ n ∧ n < N.length
  · have h2 : (2 : Int) ≤ (n : Int) ∧ (n : Int) < (N.length : Int) := by omega
    rw [decide_eq_true h2] at HM
    obtain ⟨hcell, hfr⟩ := hc.row n h1.2
    have hx := hcn (N.getD n 0) (by rw [List.getD_eq_getElem?_getD, List.getElem?_eq_getElem h1.2]; exact List.getElem_mem h1.2)
    have HE : Hid (subE N n = if N.getD n 0 = 0 then 8 else 0) := Lib.hid (if_neg (fun k => k h1))
    have HN : Hid (subE N n = 0 → subN N n = N.set n (N.getD n 0 - 1) ∧ subV N n = N.getD n 0 - 1) := Lib.hid (fun k => ⟨if_pos k, if_pos k⟩)
    have HN2 : Hid (subE N n ≠ 0 → subN N n = N ∧ subV N n = 0) := Lib.hid (fun k => ⟨if_neg k, if_neg k⟩)
    have HS2 := Lib.hid (HS.out (N.getD n 0 - 1) h1.2)
    have hlt := h1.2
    obtain ⟨x, hxx⟩ : ∃ x, N.getD n 0 = x := ⟨_, rfl⟩
    rw [hxx] at hcell hx HE HN HS2
    obtain ⟨E, hE⟩ : ∃ E, subE N n = E := ⟨_, rfl⟩
    rw [hE] at HE HN HN2 ⊢
    obtain ⟨R, hR⟩ : ∃ R, subN N n = R := ⟨_, rfl⟩
    rw [hR] at HN HN2 ⊢
    obtain ⟨V, hV⟩ : ∃ V, subV N n = V := ⟨_, rfl⟩
    rw [hV] at HN HN2 ⊢
    obtain ⟨L, hL⟩ : ∃ L, N.length = L := ⟨_, rfl⟩
    rw [hL] at c2 hlt hle
    clear hc h1 h2 hxx hE hR hV HS hcn hL
    by_cases h3 : x = 0
    · have hE : E = 8 := by rw [HE.out, if_pos h3]
      obtain ⟨hR, hV⟩ := HN2.out (by rw [hE]; decide)
      subst hE hR hV
      have q1 : (x == 0) = true := beq_iff_eq.2 h3
      clear h3 HE HN HN2 HS2 hx
      go_enter Try.func25, Try.ntmps25
      go_wp2_with fail
      refine HM.out.mono ?_
      rintro e w' ⟨rfl, rfl⟩
      dsimp only
      go_wp2
      go_ret2
      exact ⟨rfl, HC.out, Turn.refl _ _⟩
    · have q1 : (x == 0) = false := beq_eq_false_iff_ne.2 h3
      have hE : E = 0 := by rw [HE.out, if_neg h3]
      obtain ⟨hR, hV⟩ := HN.out hE
      subst hE hV
      rw [hR]
      have e1 : IntKind.i64.wrap (x - 1) = x - 1 := IntWalk.i64_in _ (by omega)
      have c3 : (w.setCell ⟨h, n, none⟩ (.int .i64 (x - 1))).cell? ⟨g, 2, none⟩ = some (.slice (some ⟨h, 0, none⟩) L cap) := HS2.out.2.cell c2 (fun e => HC.out.ne e)
      clear h3 HE HN HN2 hx hR
      go_enter Try.func25, Try.ntmps25
      go_wp2_with fail
      refine HM.out.mono ?_
      rintro e w' ⟨rfl, rfl⟩
      dsimp only
      go_wp2
      go_ret2
      exact ⟨rfl, HS2.out⟩
  · have h2 : ¬ ((2 : Int) ≤ (n : Int) ∧ (n : Int) < (N.length : Int)) := by omega
    rw [decide_eq_false h2] at HM
    have hE : subE N n = 2 := if_pos h1
    have hR : subN N n = N := if_neg (by rw [hE]; decide)
    have hV : subV N n = 0 := if_neg (by rw [hE]; decide)
    rw [hE, hR, hV]
    clear hc h1 h2 hE hR hV HS hcn
    go_enter Try.func25, Try.ntmps25
    go_wp2_with fail
    refine HM.out.mono ?_
    rintro e w' ⟨rfl, rfl⟩
    dsimp only
    go_wp2
    go_ret2
    exact ⟨rfl, HC.out, Turn.refl _ _⟩
end Go.Proofs.Ytkinmcnmdfpjbaa.Cn
