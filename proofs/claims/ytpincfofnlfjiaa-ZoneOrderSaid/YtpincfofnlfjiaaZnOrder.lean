/-
  ZoneOrder: cells are in one order; each is so to another one by just three comparisons, or by none.
-/
import Derived.Test.YtpincfofnlfjiaaZnLives
import Derived.Test.YtpincfofnlfjiaaZnGrow
namespace Go.Proofs.Ytpincfofnlfjiaa.Zn
open Go.RowKit Bs Dv

/-- how many comparisons ahead of the k-th hold -/
def cO (a b : Cel) : Nat → Nat
  | 0 => 0
  | k + 1 => cO a b k + if 1 ≤ k ∧ isB (k : Int) a b = true then 1 else 0
theorem cO_le (a b : Cel) : ∀ k, cO a b k ≤ k
  | 0 => Nat.le_refl _
  | k + 1 => by have := cO_le a b k; unfold cO; split <;> omega
theorem cO_seven (a b : Cel) : cO a b 7 = (if isB 1 a b = true then 1 else 0) + (if isB 2 a b = true then 1 else 0) + (if isB 3 a b = true then 1 else 0) + (if isB 4 a b = true then 1 else 0) + (if isB 5 a b = true then 1 else 0) + (if isB 6 a b = true then 1 else 0) := by
  simp [cO]

/-- what two cells are to each other, each way -/
def OrdTab (s t : Bool) (x v : Int) (n : Nat) (r q4 q3 q1 q5 p3 : Bool) : Prop :=
  ((s = true ∧ t = true) ∧ n = 3 ∧ ((x = -1 ∧ v = 1 ∧ r = false ∧ q4 = true ∧ q3 = true ∧ q1 = false ∧ q5 = false ∧ p3 = false) ∨
    (x = 0 ∧ v = 0 ∧ r = true ∧ q4 = true ∧ q3 = false ∧ q1 = true ∧ q5 = false ∧ p3 = false) ∨ (x = 1 ∧ v = -1 ∧ r = false ∧ q4 = false ∧ q3 = false ∧ q1 = false ∧ q5 = true ∧ p3 = true))) ∨
  (((s = false) ∨ (s = true ∧ t = false)) ∧ n = 0 ∧ q4 = false ∧ q3 = false ∧ q1 = false ∧ q5 = false ∧ p3 = false ∧
    ((x = -1 ∧ v = 1 ∧ r = false) ∨ (x = 0 ∧ v = 0 ∧ r = true) ∨ (x = 1 ∧ v = -1 ∧ r = false)))
theorem ord_tab (a b : Cel) : OrdTab (a.k == b.k) (a.k != 0) (cmpC a b) (cmpC b a) (cO a b 7) (eqC a b) (isB 4 a b) (isB 3 a b) (isB 1 a b) (isB 5 a b) (isB 3 b a) := by
  have h1 := cmpC_tot.anti b a
  have h2 := cmpC_tot.range a b
  have h3 := eqC_zero a b
  rw [cO_seven]
  by_cases hk : a.k = b.k
  · by_cases h0 : a.k = 0
    · right
      refine ⟨.inr ⟨beq_iff_eq.2 hk, by rw [h0]; rfl⟩, ?_⟩
      rw [isB_null h0, isB_null h0, isB_null h0, isB_null h0, isB_null h0, isB_null h0, isB_null (show b.k = 0 by omega)]
      refine ⟨rfl, rfl, rfl, rfl, rfl, rfl, ?_⟩
      rcases h2 with e | e | e <;> rw [h1, ← h3, e] <;> simp
    · left
      refine ⟨⟨beq_iff_eq.2 hk, bne_iff_ne.2 h0⟩, ?_⟩
      rw [isB_yes h0 hk, isB_yes h0 hk, isB_yes h0 hk, isB_yes h0 hk, isB_yes h0 hk, isB_yes h0 hk, isB_yes (show b.k ≠ 0 by omega) hk.symm]
      rcases h2 with e | e | e <;> rw [h1, ← h3, e] <;> simp [opB]
  · right
    refine ⟨.inl (beq_eq_false_iff_ne.2 hk), ?_⟩
    rw [isB_kind hk, isB_kind hk, isB_kind hk, isB_kind hk, isB_kind hk, isB_kind hk, isB_kind (fun e => hk e.symm)]
    refine ⟨rfl, rfl, rfl, rfl, rfl, rfl, ?_⟩
    rcases h2 with e | e | e <;> rw [h1, ← h3, e] <;> simp

theorem ord_yz (a b c : Cel) : 0 < cmpC a b ∨ (cmpC a b = 0 ∧ cmpC a c = cmpC b c) ∨ (cmpC a b < 0 ∧ (0 < cmpC b c ∨ cmpC a c ≤ 0)) := by
  rcases Int.lt_trichotomy (cmpC a b) 0 with h | h | h
  · refine .inr (.inr ⟨h, ?_⟩)
    by_cases hy : 0 < cmpC b c
    · exact .inl hy
    · exact .inr (cmpC_tot.trans a b c (by omega) (by omega))
  · exact .inr (.inl ⟨h, by rw [(cmpC_tot.zero a b).1 h]⟩)
  · exact .inl h

/-- the tests on three orders, decided -/
theorem yz_cases {x y z : Int} (h : 0 < x ∨ (x = 0 ∧ z = y) ∨ (x < 0 ∧ (0 < y ∨ z ≤ 0))) : 0 < x ∨ (x ≤ 0 ∧ (z == y) = true ∧ decide (0 < y) = true) ∨ (x ≤ 0 ∧ (z == y) = true ∧ decide (0 < y) = false ∧ decide (z ≤ 0) = true) ∨ (x < 0 ∧ decide (0 < y) = true) ∨ (x < 0 ∧ decide (0 < y) = false ∧ decide (z ≤ 0) = true) := by
  rcases h with h | ⟨h, e⟩ | ⟨h, h2⟩
  · exact .inl h
  · by_cases hy : 0 < y
    · exact .inr (.inl ⟨by omega, beq_iff_eq.2 e, decide_eq_true hy⟩)
    · exact .inr (.inr (.inl ⟨by omega, beq_iff_eq.2 e, decide_eq_false hy, decide_eq_true (by omega)⟩))
  · by_cases hy : 0 < y
    · exact .inr (.inr (.inr (.inl ⟨h, decide_eq_true hy⟩)))
    · exact .inr (.inr (.inr (.inr ⟨h, decide_eq_false hy, decide_eq_true (by omega)⟩)))

set_option maxRecDepth 100000 in
set_option maxHeartbeats 8000000 in
theorem order_any (a b c : Cel) (w : World) :
    Calls Try.prog 4 #[.agg #[.int .i64 a.k, .int .i64 a.n, .string a.s], .agg #[.int .i64 b.k, .int .i64 b.n, .string b.s], .agg #[.int .i64 c.k, .int .i64 c.n, .string c.s]] w fun e w' => e = .returned (.bool true) ∧ Below w.heap.size w w' := by
  obtain ⟨W0, hW0⟩ : ∃ W0, ((w.alloc (.cells #[.int .i64 a.k, .int .i64 a.n, .string a.s] 24)).alloc (.cells #[.int .i64 b.k, .int .i64 b.n, .string b.s] 24)).alloc (.cells #[.int .i64 c.k, .int .i64 c.n, .string c.s] 24) = W0 := ⟨_, rfl⟩
  have G0 : Hid (w.grownBy W0 none) := Lib.hid (by rw [← hW0]; exact grown_then (grown_then (grown_alloc _ _) (grown_alloc _ _)) (grown_alloc _ _))
  have A0 : Hid (CB W0 w.heap.size a) := Lib.hid (by rw [← hW0]; exact ((CB.new w a).old (grown_alloc _ _)).old (grown_alloc _ _))
  have B0 : Hid (CB W0 (w.heap.size + 1) b) := Lib.hid (by
    have h := CB.new (w.alloc (.cells #[.int .i64 a.k, .int .i64 a.n, .string a.s] 24)) b
    rw [World.size_alloc] at h
    rw [← hW0]; exact h.old (grown_alloc _ _))
  have C0 : Hid (CB W0 (w.heap.size + 1 + 1) c) := Lib.hid (by
    have h := CB.new ((w.alloc (.cells #[.int .i64 a.k, .int .i64 a.n, .string a.s] 24)).alloc (.cells #[.int .i64 b.k, .int .i64 b.n, .string b.s] 24)) c
    rw [World.size_alloc, World.size_alloc] at h
    rw [← hW0]; exact h)
  have HW0 := Lib.hid hW0
  clear hW0
  have HT := ord_tab a b
  have HYZ := Lib.hid (ord_yz a b c)
  have heq := fun W => eql_cell a b W
  obtain ⟨x, hx⟩ : ∃ x, x = cmpC a b := ⟨_, rfl⟩
  obtain ⟨v, hv⟩ : ∃ v, v = cmpC b a := ⟨_, rfl⟩
  obtain ⟨y, hy⟩ : ∃ y, y = cmpC b c := ⟨_, rfl⟩
  obtain ⟨z, hz⟩ : ∃ z, z = cmpC a c := ⟨_, rfl⟩
  obtain ⟨r, hr⟩ : ∃ r, r = eqC a b := ⟨_, rfl⟩
  obtain ⟨q4, h4⟩ : ∃ q, q = isB 4 a b := ⟨_, rfl⟩
  obtain ⟨q3, h3⟩ : ∃ q, q = isB 3 a b := ⟨_, rfl⟩
  obtain ⟨q1, h1⟩ : ∃ q, q = isB 1 a b := ⟨_, rfl⟩
  obtain ⟨q5, h5⟩ : ∃ q, q = isB 5 a b := ⟨_, rfl⟩
  obtain ⟨p3, h6⟩ : ∃ q, q = isB 3 b a := ⟨_, rfl⟩
  obtain ⟨s, hs⟩ : ∃ q, (a.k == b.k) = q := ⟨_, rfl⟩
  obtain ⟨t, ht⟩ : ∃ q, (a.k != 0) = q := ⟨_, rfl⟩
  have HAB := Lib.hid (fun W => Compare_any a b W)
  have HBA := Lib.hid (fun W => Compare_any b a W)
  have HBC := Lib.hid (fun W => Compare_any b c W)
  have HAC := Lib.hid (fun W => Compare_any a c W)
  have I4 := Lib.hid (fun W => Is_any 4 a b W)
  have I3 := Lib.hid (fun W => Is_any 3 a b W)
  have I1 := Lib.hid (fun W => Is_any 1 a b W)
  have I5 := Lib.hid (fun W => Is_any 5 a b W)
  have J3 := Lib.hid (fun W => Is_any 3 b a W)
  rw [← hx] at HAB HT HYZ
  rw [← hv] at HBA HT
  rw [← hy] at HBC HYZ
  rw [← hz] at HAC HYZ
  rw [← hr] at HT
  simp only [← hr] at heq
  rw [← h4] at I4 HT
  rw [← h3] at I3 HT
  rw [← h1] at I1 HT
  rw [← h5] at I5 HT
  rw [← h6] at J3 HT
  rw [hs, ht] at HT
  have HS := Lib.hid hs
  have HTT := Lib.hid ht
  have HEQ := Lib.hid heq
  have HTAB := Lib.hid HT
  clear hx hv hy hz hr h4 h3 h1 h5 h6 hs ht heq HT
  go_enter Try.func4, Try.ntmps4
  go_wp2_with fail
  rw [HW0.out]
  refine (lives_any _).mono ?_
  rintro e w1 ⟨rfl, hg⟩
  have G1 := Lib.hid (grown_then G0.out hg)
  have A1 := Lib.hid (A0.out.old hg)
  have B1 := Lib.hid (B0.out.old hg)
  have C1 := Lib.hid (C0.out.old hg)
  clear hg A0 B0 C0 HW0
  dsimp only
  go_wp2_with fail
  obtain ⟨a0, a1, a2⟩ := A1.out.gw
  obtain ⟨b0, b1, b2⟩ := B1.out.gw
  obtain ⟨c0, c1, c2⟩ := C1.out.gw
  refine wp_region_grow (by kernel_rfl) ?_
  repeat (go_big_quiet_step (first | (go_at_call 14; with_reducible exact Calls.grow_of (HAB.out _)) | (go_at_call 14; with_reducible exact Calls.grow_of (HBC.out _)) | (go_at_call 14; with_reducible exact Calls.grow_of (HAC.out _)) | fail))
  refine wpQuiet_nil ?_
  rintro _ ⟨p, rfl⟩
  have GD := Lib.hid p.grown
  clear a0 a1 a2 b0 b1 b2 c0 c1 c2
  go_wp2
  go_loopw [10, 11] (fun nv iv wx => ∃ k : Nat, iv = .int .i64 k ∧ 1 ≤ k ∧ k ≤ 7 ∧ nv = .int .i64 (cO a b k : Nat) ∧ w1.grownBy wx none) (fun _ iv _ => 7 - (intOf iv).toNat)
  case atStart => exact ⟨1, rfl, Nat.le_refl _, by omega, rfl, GD.out⟩
  case round =>
    obtain ⟨k, rfl, hk1, hk7, rfl, hg⟩ := hrel
    have GC := Lib.hid hg
    clear hg
    obtain ⟨a0, a1, a2⟩ := (A1.out.old GC.out).cells
    obtain ⟨b0, b1, b2⟩ := (B1.out.old GC.out).cells
    by_cases hlt : k < 7
    · have hc := cO_le a b k
      have HN : Hid (cO a b (k + 1) = cO a b k + if isB (k : Int) a b = true then 1 else 0) := Lib.hid (by rw [cO]; simp [hk1])
      have HI := Lib.hid (fun W => Is_any (k : Int) a b W)
      obtain ⟨q, hq⟩ : ∃ q, q = isB (k : Int) a b := ⟨_, rfl⟩
      obtain ⟨m, hm⟩ : ∃ m, m = cO a b k := ⟨_, rfl⟩
      rw [← hq] at HN HI
      rw [← hm] at HN hc ⊢
      clear hq hm
      have hlt6 : (k : Int) ≤ 6 := by omega
      cases q
      · have HN2 : Hid (cO a b (k + 1) = m) := Lib.hid (by rw [HN.out]; simp)
        clear HN
        go_wp2_with fail
        refine (HI.out _).mono ?_
        rintro e wk ⟨rfl, hg⟩
        have GC := Lib.hid (grown_then GC.out hg)
        clear hg
        dsimp only
        go_wp2
        go_roundw
        case rel => exact ⟨k + 1, by go_num, by omega, by omega, by rw [HN2.out], GC.out⟩
        case measure => simp [intOf]; omega
      · have HN2 : Hid (cO a b (k + 1) = m + 1) := Lib.hid (by rw [HN.out]; simp)
        clear HN
        go_wp2_with fail
        refine (HI.out _).mono ?_
        rintro e wk ⟨rfl, hg⟩
        have GC := Lib.hid (grown_then GC.out hg)
        clear hg
        dsimp only
        go_wp2
        go_roundw
        case rel => exact ⟨k + 1, by go_num, by omega, by omega, by rw [HN2.out]; go_num, GC.out⟩
        case measure => simp [intOf]; omega
    · obtain rfl : k = 7 := by omega
      clear hlt hk1 hk7
      obtain ⟨m, hm⟩ : ∃ m, m = cO a b 7 := ⟨_, rfl⟩
      rw [← hm] at HTAB ⊢
      clear hm
      have hs := HS.out
      have ht := HTT.out
      have heq := HEQ.out
      clear HS HTT HEQ HAB HBC HAC
      have AR := Lib.hid (A1.out.old GC.out)
      have BR := Lib.hid (B1.out.old GC.out)
      have GF := Lib.hid (grown_then G1.out GC.out)
      clear a0 a1 a2 b0 b1 b2 A1 B1 C1 GD GC G0 G1
      obtain ⟨a0, a1, a2⟩ := AR.out.cells
      obtain ⟨b0, b1, b2⟩ := BR.out.cells
      have HY3 := yz_cases HYZ.out
      clear HYZ
      cases s
      · have HTF : Hid (m = 0 ∧ q4 = false ∧ q3 = false ∧ q1 = false ∧ q5 = false ∧ p3 = false ∧ ((x = -1 ∧ v = 1 ∧ r = false) ∨ (x = 0 ∧ v = 0 ∧ r = true) ∨ (x = 1 ∧ v = -1 ∧ r = false))) := Lib.hid (by
          rcases HTAB.out with ⟨⟨h, _⟩, _⟩ | ⟨_, h⟩
          · cases h
          · exact h)
        clear HTAB
        go_wp2_with fail
        simp only [List.append]
        refine wp_region_grow (by kernel_rfl) ?_
        clear a0 a1 a2 b0 b1 b2 hs ht
        obtain ⟨a0, a1, a2⟩ := AR.out.gw
        obtain ⟨b0, b1, b2⟩ := BR.out.gw
        rcases HTF.out with ⟨rfl, rfl, rfl, rfl, rfl, rfl, ⟨rfl, rfl, rfl⟩ | ⟨rfl, rfl, rfl⟩ | ⟨rfl, rfl, rfl⟩⟩
        all_goals
          rcases HY3 with hyz | ⟨hyz, hzy, hy⟩ | ⟨hyz, hzy, hy, hz⟩ | ⟨hyz, hy⟩ | ⟨hyz, hy, hz⟩
          all_goals first
            | (exfalso; revert hyz; decide)
            | (clear HTF hyz
               repeat (go_big_quiet_step (first | (go_at_call 14; with_reducible exact Calls.grow_of (HBA.out _)) | (go_at_call 15; with_reducible exact Calls.grow_of (I4.out _)) | (go_at_call 15; with_reducible exact Calls.grow_of (I3.out _)) | (go_at_call 15; with_reducible exact Calls.grow_of (I1.out _)) | (go_at_call 15; with_reducible exact Calls.grow_of (I5.out _)) | (go_at_call 15; with_reducible exact Calls.grow_of (J3.out _)) | fail))
               refine wpQuiet_nil ?_
               rintro _ ⟨p, rfl⟩
               go_wp2
               go_ret
               exact ⟨rfl, below_of (grown_then GF.out p.grown)⟩)
            | fail
      · have HTF : Hid ((t = true ∧ m = 3 ∧ ((x = -1 ∧ v = 1 ∧ r = false ∧ q4 = true ∧ q3 = true ∧ q1 = false ∧ q5 = false ∧ p3 = false) ∨
            (x = 0 ∧ v = 0 ∧ r = true ∧ q4 = true ∧ q3 = false ∧ q1 = true ∧ q5 = false ∧ p3 = false) ∨ (x = 1 ∧ v = -1 ∧ r = false ∧ q4 = false ∧ q3 = false ∧ q1 = false ∧ q5 = true ∧ p3 = true))) ∨
            (t = false ∧ m = 0 ∧ q4 = false ∧ q3 = false ∧ q1 = false ∧ q5 = false ∧ p3 = false ∧ ((x = -1 ∧ v = 1 ∧ r = false) ∨ (x = 0 ∧ v = 0 ∧ r = true) ∨ (x = 1 ∧ v = -1 ∧ r = false)))) := Lib.hid (by
          rcases HTAB.out with ⟨⟨_, h⟩, h2⟩ | ⟨h | ⟨_, h⟩, h2⟩
          · exact .inl ⟨h, h2⟩
          · cases h
          · exact .inr ⟨h, h2⟩)
        clear HTAB
        go_wp2_with fail
        simp only [List.append]
        refine wp_region_grow (by kernel_rfl) ?_
        clear a0 a1 a2 b0 b1 b2 hs ht
        obtain ⟨a0, a1, a2⟩ := AR.out.gw
        obtain ⟨b0, b1, b2⟩ := BR.out.gw
        rcases HTF.out with ⟨rfl, rfl, ⟨rfl, rfl, rfl, rfl, rfl, rfl, rfl, rfl⟩ | ⟨rfl, rfl, rfl, rfl, rfl, rfl, rfl, rfl⟩ | ⟨rfl, rfl, rfl, rfl, rfl, rfl, rfl, rfl⟩⟩ | ⟨rfl, rfl, rfl, rfl, rfl, rfl, rfl, ⟨rfl, rfl, rfl⟩ | ⟨rfl, rfl, rfl⟩ | ⟨rfl, rfl, rfl⟩⟩
        all_goals
          rcases HY3 with hyz | ⟨hyz, hzy, hy⟩ | ⟨hyz, hzy, hy, hz⟩ | ⟨hyz, hy⟩ | ⟨hyz, hy, hz⟩
          all_goals first
            | (exfalso; revert hyz; decide)
            | (clear HTF hyz
               repeat (go_big_quiet_step (first | (go_at_call 14; with_reducible exact Calls.grow_of (HBA.out _)) | (go_at_call 15; with_reducible exact Calls.grow_of (I4.out _)) | (go_at_call 15; with_reducible exact Calls.grow_of (I3.out _)) | (go_at_call 15; with_reducible exact Calls.grow_of (I1.out _)) | (go_at_call 15; with_reducible exact Calls.grow_of (I5.out _)) | (go_at_call 15; with_reducible exact Calls.grow_of (J3.out _)) | fail))
               refine wpQuiet_nil ?_
               rintro _ ⟨p, rfl⟩
               go_wp2
               go_ret
               exact ⟨rfl, below_of (grown_then GF.out p.grown)⟩)
            | fail
end Go.Proofs.Ytpincfofnlfjiaa.Zn
