/-
  The document's reader: Var.
-/
import Derived.Test.YtpcilohiokpmnaaRRead
namespace Go.Proofs.Ytpcilohiokpmnaa.In
open Go.RowKit Go.Joins
open Oct (readV ofB VInv)
open Dv (Turn nowhere)

theorem and127_fin : ∀ x : Fin 256, bits .and .u8 ((x.val : Nat) : Int) 127 = ((x.val : Nat) : Int) % 128 := by decide +kernel
theorem and127 (x : Int) (h0 : 0 ≤ x) (h1 : x < 256) : bits .and .u8 x 127 = x % 128 := by
  obtain ⟨n, rfl⟩ : ∃ n : Nat, x = (n : Int) := ⟨x.toNat, by omega⟩
  exact and127_fin ⟨n, by omega⟩

/-- What Var of the document answers. -/
def RVarX (b g : Nat) (w : World) (l : List Int) (e : Ending) (w' : World) : Prop := RRead b g w (readV 0 0 l).1 (readV 0 0 l).2.1 (l.drop (readV 0 0 l).2.2) e w'
theorem RVarX.err {b g : Nat} {w : World} {l : List Int} {x : Int} (hr : readV 0 0 l = (0, x, 0)) (h : RR w b g l) : RVarX b g w l (.returned (.tuple #[.int .u64 0, .int .i64 x])) w := by
  unfold RVarX
  rw [hr]
  exact ⟨rfl, Turn.refl _ _, h⟩

set_option maxRecDepth 100000 in
set_option maxHeartbeats 2000000 in
theorem rvar_any (b g : Nat) (l : List Int) (w : World) (h : RR w b g l) (hb : Oct.IsB l) :
    Calls Try.prog 38 #[.pointer (some ⟨b, 0, none⟩)] w (RVarX b g w l) := by
  obtain ⟨o, c, h0, hle, hc, hj⟩ := h.cells
  have hf := h.free
  have HNext := Lib.hid (fun n hn v hv => RR.next (n := n) h h0 hle hc hj hn v hv)
  unfold maxLen at hc
  have HJ := Lib.hid hj
  have HI := Lib.hid (fun k acc (hi : VInv l k acc) (hk : k < l.length) => hi.round hk hb)
  have HE := Lib.hid (fun acc (hi : VInv l l.length acc) => hi.end)
  have HT : Hid (∀ v, Turn w (w.setCell ⟨b, 0, none⟩ v) (At b)) := Lib.hid (fun v => Turn.setCell w ⟨b, 0, none⟩ v rfl)
  have H := Lib.hid h
  obtain ⟨n, hn⟩ : ∃ n, n = l.length := ⟨_, rfl⟩
  have HN := Lib.hid hn
  rw [← hn] at h0 hle HNext
  clear hj hb h hn
  go_enter Try.func38, Try.ntmps38
  go_wp2
  go_loop [4, 5] (fun sv si => ∃ (k : Nat) (acc : Int), k ≤ 10 ∧ si = .int .i64 k ∧ sv = .int .u64 acc ∧ Hid ((k ≤ 9 ∧ k ≤ n ∧ VInv l k acc) ∨ (k = 10 ∧ readV 0 0 l = (0, 4, 0)))) (fun _ si => 10 - (intOf si).toNat)
  case atStart => exact ⟨0, 0, by decide, rfl, rfl, Lib.hid (.inl ⟨by decide, Nat.zero_le _, VInv.start l⟩)⟩
  case round =>
    obtain ⟨k, acc, hk, rfl, rfl, HA⟩ := hrel
    rcases HA.out with ⟨k9, kn, hA⟩ | ⟨rfl, hr⟩
    · have HV := Lib.hid hA
      have hk10 : (k : Int) < 10 := by omega
      clear hA HA
      by_cases hlt : k < n
      · obtain ⟨x0, x1, a0, hA, hrest⟩ := HI.out k acc HV.out (by have := HN.out; omega)
        have g1 := HJ.out k (by have := HN.out; omega)
        obtain ⟨x, hx⟩ : ∃ x, x = l.getD k 0 := ⟨_, rfl⟩
        rw [← hx] at x0 x1 hA hrest g1
        have hand := and127 x x0 x1
        clear hx
        by_cases cA : k = 9 ∧ 1 < x % 128
        · have HF := Lib.hid (hA ⟨cA.1, by omega⟩)
          obtain ⟨rfl, cx⟩ := cA
          clear hA hrest
          go_wp2
          go_ret2
          exact RVarX.err HF.out H.out
        · by_cases cB : 128 ≤ x
          · by_cases e9 : k = 9
            · subst e9
              have y1 : ¬ 1 < x % 128 := fun h => cA ⟨rfl, h⟩
              have HF := Lib.hid (hA ⟨rfl, by omega⟩)
              have yb : 0 ≤ x % 128 ∧ x % 128 < 128 := by omega
              obtain ⟨y, hy⟩ : ∃ y, x % 128 = y := ⟨_, rfl⟩
              rw [hy] at hand y1 yb
              have hlt128 : ¬ x < 128 := by omega
              clear hA hrest cA hy
              go_wp2
              go_round
              case rel => exact ⟨10, _, by decide, by go_num, rfl, Lib.hid (.inr ⟨rfl, HF.out⟩)⟩
              case measure => simp [intOf]
            · obtain ⟨y0, y1, ho, hB, hC, hD⟩ := hrest (fun h => e9 h.1)
              have HBv := Lib.hid (hB cB)
              have k9' : ((k : Int) == 9) = false := by simp; omega
              have hlt128 : ¬ x < 128 := by omega
              have hk8 : k ≤ 8 := by omega
              clear hA hrest hB hC hD cA e9
              go_wp2
              go_round
              case rel => exact ⟨k + 1, acc + x % 128 * 2 ^ (7 * k), by omega, by go_num, rfl, Lib.hid (.inl ⟨by omega, by omega, HBv.out⟩)⟩
              case measure => simp [intOf]; omega
          · have hyx : x % 128 = x := by omega
            have hlt128 : x < 128 := by omega
            have cA2 : ¬ (k = 9 ∧ 1 < x) := fun h => cA ⟨h.1, by omega⟩
            obtain ⟨y0, y1, ho, hB, hC, hD⟩ := hrest cA2
            rw [hyx] at hand y0 y1 ho hD
            have HC2 := Lib.hid hC
            have HD := Lib.hid hD
            clear hA hrest hB hC hD cA hyx
            have hand0 : bits .and .u8 0 127 = 0 := and127 0 (by decide) (by decide)
            by_cases cz : x = 0 ∧ 0 < k
            · have HF := Lib.hid (HC2.out cz)
              have xz : (x == 0) = true := by simp; omega
              have kp : (0 : Int) < (k : Int) := by omega
              have ho0 : bits BinOp.or IntKind.u64 acc 0 = acc := by rw [cz.1] at ho; simpa using ho
              by_cases e9 : k = 9
              · have k9' : ((k : Int) == 9) = true := by simp; omega
                have x1' : ¬ 1 < x := by omega
                clear cA2 cz e9
                go_wp2
                go_ret2
                exact RVarX.err HF.out H.out
              · have k9' : ((k : Int) == 9) = false := by simp; omega
                clear cA2 cz e9
                go_wp2
                go_ret2
                exact RVarX.err HF.out H.out
            · have HF := Lib.hid (HD.out (by omega) cz)
              by_cases e9 : k = 9
              · have x1' : ¬ 1 < x := fun h => cA2 ⟨e9, h⟩
                have xz : (x == 0) = false := by simp; omega
                have k9' : ((k : Int) == 9) = true := by simp; omega
                clear cA2 cz e9
                by_cases hcn : c = k + 1
                · obtain rfl : n = k + 1 := by omega
                  subst hcn
                  have HR : Hid (RVarX b g w l (.returned (.tuple #[.int .u64 (acc + x * 2 ^ (7 * k)), .int .i64 0])) (w.setCell ⟨b, 0, none⟩ (.slice (some ⟨g, o, none⟩) (k + 1 - (k + 1)) (k + 1 - (k + 1))))) := Lib.hid (by
                    unfold RVarX
                    rw [HF.out]
                    exact ⟨rfl, HT.out _, HNext.out (k + 1) (Nat.le_refl _) _ (by rw [if_pos rfl])⟩)
                  rw [Nat.sub_self] at HR
                  go_wp2
                  go_ret2
                  exact HR.out
                · have HR : Hid (RVarX b g w l (.returned (.tuple #[.int .u64 (acc + x * 2 ^ (7 * k)), .int .i64 0])) (w.setCell ⟨b, 0, none⟩ (.slice (some ⟨g, o + (k + 1), none⟩) (n - (k + 1)) (c - (k + 1))))) := Lib.hid (by
                    unfold RVarX
                    rw [HF.out]
                    exact ⟨rfl, HT.out _, HNext.out (k + 1) (by omega) _ (by rw [if_neg hcn])⟩)
                  go_wp2
                  go_ret2
                  exact HR.out
              · have k9' : ((k : Int) == 9) = false := by simp; omega
                by_cases ez : x = 0
                · have xz : (x == 0) = true := by simp; omega
                  have kp : (k : Int) ≤ 0 := by omega
                  have kp2 : decide ((0 : Int) < (k : Int)) = false := by simp; omega
                  have ho0 : bits BinOp.or IntKind.u64 acc 0 = acc := by rw [ez] at ho; simpa using ho
                  have HF2 : Hid (readV 0 0 l = (acc, 0, k + 1)) := Lib.hid (by have := HF.out; rw [ez] at this; simpa using this)
                  clear cA2 cz e9
                  by_cases hcn : c = k + 1
                  · obtain rfl : n = k + 1 := by omega
                    subst hcn
                    have HR : Hid (RVarX b g w l (.returned (.tuple #[.int .u64 acc, .int .i64 0])) (w.setCell ⟨b, 0, none⟩ (.slice (some ⟨g, o, none⟩) (k + 1 - (k + 1)) (k + 1 - (k + 1))))) := Lib.hid (by
                      unfold RVarX
                      rw [HF2.out]
                      exact ⟨rfl, HT.out _, HNext.out (k + 1) (Nat.le_refl _) _ (by rw [if_pos rfl])⟩)
                    rw [Nat.sub_self] at HR
                    go_wp2
                    go_ret2
                    exact HR.out
                  · have HR : Hid (RVarX b g w l (.returned (.tuple #[.int .u64 acc, .int .i64 0])) (w.setCell ⟨b, 0, none⟩ (.slice (some ⟨g, o + (k + 1), none⟩) (n - (k + 1)) (c - (k + 1))))) := Lib.hid (by
                      unfold RVarX
                      rw [HF2.out]
                      exact ⟨rfl, HT.out _, HNext.out (k + 1) (by omega) _ (by rw [if_neg hcn])⟩)
                    go_wp2
                    go_ret2
                    exact HR.out
                · have xz : (x == 0) = false := by simp; omega
                  clear cA2 cz e9
                  by_cases hcn : c = k + 1
                  · obtain rfl : n = k + 1 := by omega
                    subst hcn
                    have HR : Hid (RVarX b g w l (.returned (.tuple #[.int .u64 (acc + x * 2 ^ (7 * k)), .int .i64 0])) (w.setCell ⟨b, 0, none⟩ (.slice (some ⟨g, o, none⟩) (k + 1 - (k + 1)) (k + 1 - (k + 1))))) := Lib.hid (by
                      unfold RVarX
                      rw [HF.out]
                      exact ⟨rfl, HT.out _, HNext.out (k + 1) (Nat.le_refl _) _ (by rw [if_pos rfl])⟩)
                    rw [Nat.sub_self] at HR
                    go_wp2
                    go_ret2
                    exact HR.out
                  · have HR : Hid (RVarX b g w l (.returned (.tuple #[.int .u64 (acc + x * 2 ^ (7 * k)), .int .i64 0])) (w.setCell ⟨b, 0, none⟩ (.slice (some ⟨g, o + (k + 1), none⟩) (n - (k + 1)) (c - (k + 1))))) := Lib.hid (by
                      unfold RVarX
                      rw [HF.out]
                      exact ⟨rfl, HT.out _, HNext.out (k + 1) (by omega) _ (by rw [if_neg hcn])⟩)
                    go_wp2
                    go_ret2
                    exact HR.out
      · obtain rfl : k = n := by omega
        have HF := Lib.hid (HE.out acc (by rw [← HN.out]; exact HV.out))
        have hk10' : k < 10 := by omega
        clear hlt kn hk10
        go_wp2
        go_ret2
        exact RVarX.err HF.out H.out
    · have HF := Lib.hid hr
      clear hr HA
      go_wp2
      go_ret2
      exact RVarX.err HF.out H.out
theorem turn_own {a w w' : World} {b : Nat} {row : Option Nat} (h : Turn a w (At b)) (k : w.grownBy w' row) (hr : ∀ i, row = some i → a.heap.size ≤ i) : Turn a w' (At b) :=
  turn_more h (Turn.of_grown (S := fun i => a.heap.size ≤ i) k (fun i e _ => hr i e)) (fun _ hi => .inr hi)
theorem RR.own {w w' : World} {b g N : Nat} {l : List Int} {row : Option Nat} (h : RR w b g l) (k : w.grownBy w' row) (hr : ∀ i, row = some i → N ≤ i) (hb : b < N) (hg : g < N) : RR w' b g l :=
  h.turn (Turn.of_grown (S := fun i => N ≤ i) k (fun i e _ => hr i e)) (Nat.not_le.2 hb) (Nat.not_le.2 hg)
theorem own_turnV {w w' : World} {base e s n b : Nat} {V : Value} {xs : List Value} (h : w.ownsRow base e s V n xs) (k : Turn w w' (At b)) (hb : b < base) : w'.ownsRow base e s V n xs := by
  refine ⟨h.1, ?_⟩
  rcases h.2 with h' | ⟨g', cap, cur, e1, hb', hgg, rest⟩
  · exact .inl h'
  · exact .inr ⟨g', cap, cur, e1, hb', (k.block g' (Array.getElem?_eq_some_iff.1 hgg).1 (by unfold At; omega)).trans hgg, rest⟩
/-- What eight bytes tell, or that there are no more. -/
theorem rnumber8_any (b g : Nat) (l : List Int) (w : World) (h : RR w b g l) (hb : Oct.IsB l) : ∃ v E r, (8 ≤ l.length → v = ofB (l.take 8) ∧ E = 0 ∧ r = l.drop 8) ∧ (l.length < 8 → E = 7) ∧
    Calls Try.prog 39 #[.pointer (some ⟨b, 0, none⟩), .int .i64 8] w (RRead b g w v E r) := by
  by_cases h8 : l.length < 8
  · exact ⟨0, 7, l, fun h => by omega, fun _ => rfl, rnumber_more b g l 8 w h (by decide) (by decide) h8⟩
  · exact ⟨_, 0, _, fun _ => ⟨rfl, rfl, rfl⟩, fun h => by omega, rnumber_yes b g l 8 w h hb (by decide) (by decide) (by omega)⟩

end Go.Proofs.Ytpcilohiokpmnaa.In
