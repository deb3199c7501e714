/-
  The document's device: Read, Flush.
-/
import Derived.Test.YtjhcjnalomdbnaaDoorDevRef3
namespace Go.Proofs.YtjhcjnalomdbnaaDoor.Dv
open Go.RowKit Bs

theorem own_some {w : World} {base e size n c : Nat} {a : Option Addr} {xs : List Value} (h : w.ownsRow base e size (.slice a n c) n xs) (hn : 0 < n) : ∃ p, a = some ⟨p, 0, none⟩ := by
  obtain ⟨g, c', e, _⟩ := own_open h hn
  cases e
  exact ⟨g, rfl⟩

theorem srow_at (d : List (List Int)) (k : Nat) (hk : k < d.length) : (srow d)[k]? = some (.string (strOfNums (d.getD k []))) := by
  simp [srow, List.getD, hk]

theorem rread_last (s : St) (b k : Nat) (hk : k < s.pend.length) (h1 : (s.pend.getD k (0, [])).1 = b) (h : ∀ j, k < j → j < s.pend.length → (s.pend.getD j (0, [])).1 ≠ b) : s.last b = (s.pend.getD k (0, [])).2 := by
  have e : s.pend.length - 1 - (s.pend.length - 1 - k) = k := by omega
  have h2 := last_some s b (s.pend.length - 1 - k) (by omega) (by unfold fromEnd; rw [e]; exact h1) (fun j hj => by unfold fromEnd; exact h _ (by omega) (by omega))
  unfold fromEnd at h2
  rw [e] at h2
  exact h2
theorem rread_none (s : St) (b : Nat) (h : ∀ j, j < s.pend.length → (s.pend.getD j (0, [])).1 ≠ b) : s.last b = s.dur.getD b [] :=
  last_none s b (fun j hj => by unfold fromEnd; exact h _ (by omega))

theorem ret_rd {a b : ByteArray} {x : Int} (h : a = b) : Ending.returned (.tuple #[.string a, .int .i64 x]) = .returned (.tuple #[.string b, .int .i64 x]) := by rw [h]

set_option maxRecDepth 100000 in
set_option maxHeartbeats 2000000 in
theorem rread_any (g : Nat) (D P : Value) (s : St) (block : Int) (w : World) (h : Ref w g D P s) :
    Calls Tryd.prog 29 #[.pointer (some ⟨g, 0, none⟩), .int .i64 block] w fun e w' => e = .returned (.tuple #[.string (strOfNums (s.read block).1), .int .i64 (s.read block).2]) ∧ w = w' := by
  obtain ⟨q0, q1, q2, q3, q4, q5⟩ := h.cells
  by_cases h1 : block < 0
  · have HE : Hid (s.read block = ([], 2)) := Lib.hid (by unfold St.read; rw [if_neg (by unfold St.hasB; omega)])
    rw [HE.out]
    clear h
    go_enter Tryd.func29, Tryd.ntmps29
    go_wp2
    go_ret2
    exact ⟨rfl, rfl⟩
  · by_cases h2 : (s.blocks : Int) ≤ block
    · have HE : Hid (s.read block = ([], 2)) := Lib.hid (by unfold St.read; rw [if_neg (by unfold St.hasB; omega)])
      rw [HE.out]
      clear h
      go_enter Tryd.func29, Tryd.ntmps29
      go_wp2
      go_ret2
      exact ⟨rfl, rfl⟩
    · obtain ⟨k, rfl⟩ := Int.eq_ofNat_of_zero_le (show 0 ≤ block by omega)
      have hk : k < s.blocks := by omega
      have HE : Hid (s.read (k : Int) = (s.last k, 0)) := Lib.hid (by unfold St.read; rw [if_pos (by unfold St.hasB; omega), Int.toNat_natCast])
      rw [HE.out]
      obtain ⟨pa, pc, rfl, _, _, _, _⟩ := own_form h.row
      obtain ⟨da, dc, rfl, _, _, _, _⟩ := own_form h.dur
      obtain ⟨db, rfl⟩ := own_some h.dur (by omega)
      have hfew := h.ok.few
      have cD : w.cell? ⟨db, k, none⟩ = some (.string (strOfNums (s.dur.getD k []))) := by
        have := h.dur.cells (g := db) rfl k _ (srow_at s.dur k (by rw [h.ok.dlen]; exact hk))
        rwa [Addr.add_lit, Nat.zero_add] at this
      obtain ⟨T, hT⟩ : ∃ T, T = strOfNums (s.dur.getD k []) := ⟨_, rfl⟩
      rw [← hT] at cD
      have HT := Lib.hid hT
      have HP := Lib.hid h.row
      obtain ⟨n, hn⟩ : ∃ n, n = s.pend.length := ⟨_, rfl⟩
      have HN := Lib.hid hn
      rw [← hn] at hfew q3
      clear h hT hn
      have p1 : (0 : Int) ≤ (k : Int) := by omega
      have p2 : (k : Int) < (s.blocks : Int) := by omega
      go_enter Tryd.func29, Tryd.ntmps29
      go_wp2
      go_loop [6] (fun iv => ∃ m : Nat, m ≤ n ∧ iv = .int .i64 ((m : Int) - 1) ∧ Hid (∀ j, m ≤ j → j < n → (s.pend.getD j (0, [])).1 ≠ k)) (fun iv => (intOf iv + 1).toNat)
      case atStart => exact ⟨n, Nat.le_refl _, rfl, fun j h1 h2 => by omega⟩
      case round =>
        obtain ⟨m, hm, rfl, HR⟩ := hrel
        cases m with
        | zero =>
          have HL := Lib.hid (rread_none s k (fun j hj => HR.out j (Nat.zero_le _) (by rw [HN.out]; exact hj)))
          go_wp2
          go_ret2
          exact ⟨ret_rd (by rw [HL.out, HT.out]), rfl⟩
        | succ j =>
          have hjs : j < s.pend.length := by have := HN.out; omega
          have hrow := HP.out
          obtain ⟨p, rfl⟩ := own_some hrow (by omega)
          have hat := wrow_at s.pend j hjs
          rw [Nat.mul_comm] at hat
          obtain ⟨⟨x1, x2⟩, hqq⟩ : ∃ q : Nat × List Int, s.pend.getD j (0, []) = q := ⟨_, rfl⟩
          rw [hqq] at hat
          have c0 : w.cell? ⟨p, j * 2, none⟩ = some (.int .i64 (x1 : Int)) := by
            have := hrow.cells (g := p) rfl (j * 2) _ hat.1
            rwa [Addr.add_lit, Nat.zero_add] at this
          have c1 : w.cell? ⟨p, j * 2 + 1, none⟩ = some (.string (strOfNums x2)) := by
            have := hrow.cells (g := p) rfl (j * 2 + 1) _ hat.2
            rwa [Addr.add_lit, Nat.zero_add] at this
          have e0 : ((j + 1 : Nat) : Int) - 1 = (j : Int) := by omega
          rw [e0]
          have p3 : (0 : Int) ≤ (j : Int) := by omega
          have p4 : (j : Int) < (n : Int) := by omega
          obtain ⟨T2, hT2⟩ : ∃ T2, T2 = strOfNums x2 := ⟨_, rfl⟩
          rw [← hT2] at c1
          have HT2 := Lib.hid hT2
          have HQ := Lib.hid hqq
          clear hrow hat hqq hT2 e0
          by_cases hx : x1 = k
          · subst hx
            have HL : Hid (s.last x1 = x2) := Lib.hid (by
              have := rread_last s x1 j hjs (by rw [HQ.out]) (fun i h1 h2 => HR.out i (by omega) (by rw [HN.out]; exact h2))
              rw [this, HQ.out])
            clear hjs
            go_wp2
            go_ret2
            exact ⟨ret_rd (by rw [HL.out, HT2.out]), rfl⟩
          · have e1 : ((x1 : Int) == (k : Int)) = false := beq_eq_false_iff_ne.2 (by omega)
            have HR2 : Hid (∀ i, j ≤ i → i < n → (s.pend.getD i (0, [])).1 ≠ k) := Lib.hid (fun i h1 h2 => by
              by_cases e : i = j
              · subst e; rw [HQ.out]; exact hx
              · exact HR.out i (by omega) h2)
            clear hx hjs
            go_wp2
            go_round
            case rel => exact ⟨j, by omega, rfl, HR2⟩
            case measure => simp [intOf]
end Go.Proofs.YtjhcjnalomdbnaaDoor.Dv
