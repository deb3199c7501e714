/-
  exact and Cell: may a cell be?
-/
import Derived.Test.YtpincfofnlfjiaaZnSmall
import Derived.Laws.BitsAllLaws
namespace Go.Proofs.Ytpincfofnlfjiaa.Zn
open Go.RowKit Bs Dv

theorem and_one (n : Int) : bits .and .i64 n 1 = n % 2 := by
  have h1 : (BitVec.ofInt 64 n &&& BitVec.ofInt 64 1).toNat = (n % 2).toNat := by
    rw [BitVec.toNat_and, show (BitVec.ofInt 64 1).toNat = 1 from rfl, Nat.and_one_is_mod, BitVec.toNat_ofInt]
    omega
  have h2 : bits .and .i64 n 1 = IntKind.i64.wrap ((BitVec.ofInt 64 n &&& BitVec.ofInt 64 1).toNat : Int) := rfl
  rw [h2, h1]
  simp [IntKind.wrap, IntKind.bits, IntKind.signed]
  omega

def exactB (c : Cel) : Bool := if c.k = 0 then eqC c zeroC else if c.k = 1 then eqC c ⟨1, c.n, ⟨#[]⟩⟩ else if c.k = 2 then eqC c ⟨2, c.n % 2, ⟨#[]⟩⟩ else if c.k = 3 then eqC c ⟨3, 0, c.s⟩ else false
theorem exact_iff (c : Cel) : exactB c = decide ((c.k = 0 ∧ c.n = 0 ∧ c.s = ⟨#[]⟩) ∨ (c.k = 1 ∧ c.s = ⟨#[]⟩) ∨ (c.k = 2 ∧ (c.n = 0 ∨ c.n = 1) ∧ c.s = ⟨#[]⟩) ∨ (c.k = 3 ∧ c.n = 0)) := by
  unfold exactB
  rw [Bool.eq_iff_iff, decide_eq_true_iff]
  by_cases h0 : c.k = 0
  · rw [if_pos h0]
    unfold eqC
    rw [decide_eq_true_iff]
    show c.k = 0 ∧ c.n = 0 ∧ c.s = ⟨#[]⟩ ↔ _
    constructor
    · exact fun h => .inl h
    · rintro (h | h | h | h)
      · exact h
      · omega
      · omega
      · omega
  · rw [if_neg h0]
    by_cases h1 : c.k = 1
    · rw [if_pos h1]
      unfold eqC
      rw [decide_eq_true_iff]
      constructor
      · exact fun h => .inr (.inl ⟨h1, h.2.2⟩)
      · rintro (h | h | h | h)
        · omega
        · exact ⟨h1, rfl, h.2⟩
        · omega
        · omega
    · rw [if_neg h1]
      by_cases h2 : c.k = 2
      · rw [if_pos h2]
        unfold eqC
        rw [decide_eq_true_iff]
        constructor
        · exact fun h => .inr (.inr (.inl ⟨h2, by have := h.2.1; simp only at this; omega, h.2.2⟩))
        · rintro (h | h | h | h)
          · omega
          · omega
          · exact ⟨h2, by have := h.2.1; simp only; omega, h.2.2⟩
          · omega
      · rw [if_neg h2]
        by_cases h3 : c.k = 3
        · rw [if_pos h3]
          unfold eqC
          rw [decide_eq_true_iff]
          constructor
          · exact fun h => .inr (.inr (.inr ⟨h3, h.2.1⟩))
          · rintro (h | h | h | h)
            · omega
            · omega
            · omega
            · exact ⟨h3, h.2, rfl⟩
        · rw [if_neg h3]
          constructor
          · intro h; cases h
          · rintro (h | h | h | h) <;> omega
theorem cellE_exact (c : Cel) : cellE c = if 65536 < c.s.size then 3 else if exactB c = true then 0 else 2 := by
  unfold cellE
  rw [exact_iff]
  simp only [decide_eq_true_iff]

set_option maxRecDepth 100000 in
set_option maxHeartbeats 2000000 in
theorem exact_any (c : Cel) (w : World) : Calls Try.prog 23 #[.agg #[.int .i64 c.k, .int .i64 c.n, .string c.s]] w fun e w' => e = .returned (.bool (exactB c)) ∧ w.grownBy w' none := by
  have HG := Lib.hid (grown_alloc w (.cells #[.int .i64 c.k, .int .i64 c.n, .string c.s] 24))
  obtain ⟨m, hm⟩ : ∃ m, bits .and .i64 c.n 1 = m := ⟨_, rfl⟩
  have HM : Hid (m = c.n % 2) := Lib.hid (by rw [← hm, and_one])
  by_cases h0 : c.k = 0
  · have HE : Hid (exactB c = eqC c ⟨0, 0, ⟨#[]⟩⟩) := Lib.hid (by unfold exactB; rw [if_pos h0]; rfl)
    have n0 : (c.k == 0) = true := beq_iff_eq.2 h0
    have heq := fun W => eql_cell c ⟨0, 0, ⟨#[]⟩⟩ W
    rw [HE.out]
    obtain ⟨r, hr⟩ : ∃ r, r = eqC c ⟨0, 0, ⟨#[]⟩⟩ := ⟨_, rfl⟩
    rw [← hr] at heq ⊢
    clear hr HE h0
    go_enter Try.func23, Try.ntmps23
    go_wp2
    go_ret
    exact ⟨rfl, HG.out⟩
  ·
    by_cases h1 : c.k = 1
    · have HE : Hid (exactB c = eqC c ⟨1, c.n, ⟨#[]⟩⟩) := Lib.hid (by unfold exactB; rw [if_neg h0]; rw [if_pos h1])
      have n0 : (c.k == 0) = false := beq_eq_false_iff_ne.2 h0
      have n1 : (c.k == 1) = true := beq_iff_eq.2 h1
      have heq := fun W => eql_cell c ⟨1, c.n, ⟨#[]⟩⟩ W
      rw [HE.out]
      obtain ⟨r, hr⟩ : ∃ r, r = eqC c ⟨1, c.n, ⟨#[]⟩⟩ := ⟨_, rfl⟩
      rw [← hr] at heq ⊢
      clear hr HE h0 h1
      go_enter Try.func23, Try.ntmps23
      go_wp2
      go_ret
      exact ⟨rfl, HG.out⟩
    ·
      by_cases h2 : c.k = 2
      · have HE : Hid (exactB c = eqC c ⟨2, m, ⟨#[]⟩⟩) := Lib.hid (by unfold exactB; rw [if_neg h0]; rw [if_neg h1]; rw [if_pos h2]; rw [HM.out])
        have n0 : (c.k == 0) = false := beq_eq_false_iff_ne.2 h0
        have n1 : (c.k == 1) = false := beq_eq_false_iff_ne.2 h1
        have n2 : (c.k == 2) = true := beq_iff_eq.2 h2
        have heq := fun W => eql_cell c ⟨2, m, ⟨#[]⟩⟩ W
        rw [HE.out]
        obtain ⟨r, hr⟩ : ∃ r, r = eqC c ⟨2, m, ⟨#[]⟩⟩ := ⟨_, rfl⟩
        rw [← hr] at heq ⊢
        clear hr HE h0 h1 h2
        go_enter Try.func23, Try.ntmps23
        go_wp2
        go_ret
        exact ⟨rfl, HG.out⟩
      ·
        by_cases h3 : c.k = 3
        · have HE : Hid (exactB c = eqC c ⟨3, 0, c.s⟩) := Lib.hid (by unfold exactB; rw [if_neg h0]; rw [if_neg h1]; rw [if_neg h2]; rw [if_pos h3])
          have n0 : (c.k == 0) = false := beq_eq_false_iff_ne.2 h0
          have n1 : (c.k == 1) = false := beq_eq_false_iff_ne.2 h1
          have n2 : (c.k == 2) = false := beq_eq_false_iff_ne.2 h2
          have n3 : (c.k == 3) = true := beq_iff_eq.2 h3
          have heq := fun W => eql_cell c ⟨3, 0, c.s⟩ W
          rw [HE.out]
          obtain ⟨r, hr⟩ : ∃ r, r = eqC c ⟨3, 0, c.s⟩ := ⟨_, rfl⟩
          rw [← hr] at heq ⊢
          clear hr HE h0 h1 h2 h3
          go_enter Try.func23, Try.ntmps23
          go_wp2
          go_ret
          exact ⟨rfl, HG.out⟩
        · have HE : Hid (exactB c = false) := Lib.hid (by unfold exactB; rw [if_neg h0, if_neg h1, if_neg h2, if_neg h3])
          have n0 : (c.k == 0) = false := beq_eq_false_iff_ne.2 h0
          have n1 : (c.k == 1) = false := beq_eq_false_iff_ne.2 h1
          have n2 : (c.k == 2) = false := beq_eq_false_iff_ne.2 h2
          have n3 : (c.k == 3) = false := beq_eq_false_iff_ne.2 h3
          rw [HE.out]
          clear HE h0 h1 h2 h3
          go_enter Try.func23, Try.ntmps23
          go_wp2
          go_ret
          exact ⟨rfl, HG.out⟩

set_option maxHeartbeats 2000000 in
theorem Cell_any (c : Cel) (w : World) : Calls Try.prog 12 #[.agg #[.int .i64 c.k, .int .i64 c.n, .string c.s]] w fun e w' => e = .returned (.int .i64 (cellE c)) ∧ w.grownBy w' none := by
  have QC := Lib.hid (CB.new w c)
  have HG := Lib.hid (grown_alloc w (.cells #[.int .i64 c.k, .int .i64 c.n, .string c.s] 24))
  by_cases h : 65536 < c.s.size
  · have h' : (65536 : Int) < c.s.size := by omega
    have HE : Hid (cellE c = 3) := Lib.hid (by unfold cellE; rw [if_pos h])
    rw [HE.out]
    clear h HE
    go_enter Try.func12, Try.ntmps12
    go_wp2
    go_ret
    exact ⟨rfl, HG.out⟩
  · have h' : ¬ (65536 : Int) < c.s.size := by omega
    have HE : Hid (cellE c = if exactB c = true then 0 else 2) := Lib.hid (by rw [cellE_exact, if_neg h])
    have HX := Lib.hid (fun W => exact_any c W)
    rw [HE.out]
    clear h HE
    cases hx : exactB c
    · rw [hx] at HX
      clear hx
      go_enter Try.func12, Try.ntmps12
      go_wp2_with fail
      refine (HX.out _).mono ?_
      rintro e w1 ⟨rfl, hg⟩
      have G1 := Lib.hid (grown_then HG.out hg)
      clear hg
      dsimp only
      go_wp2
      go_ret
      exact ⟨rfl, G1.out⟩
    · rw [hx] at HX
      clear hx
      go_enter Try.func12, Try.ntmps12
      go_wp2_with fail
      refine (HX.out _).mono ?_
      rintro e w1 ⟨rfl, hg⟩
      have G1 := Lib.hid (grown_then HG.out hg)
      clear hg
      dsimp only
      go_wp2
      go_ret
      exact ⟨rfl, G1.out⟩
end Go.Proofs.Ytpincfofnlfjiaa.Zn
