/-
  CrcLinear: of three texts as long.
-/
import Derived.Test.YtdkcieojfkfaiaaCrcBehind
namespace Go.Proofs.Ytdkcieojfkfaiaa.Crc
open Go.RowKit Bs

set_option maxRecDepth 100000 in
set_option maxHeartbeats 1000000 in
theorem linear_law (a0 : Option Addr) (n0 c0 : Nat) (l0 : List Int) (a1 : Option Addr) (n1 c1 : Nat) (l1 : List Int) (a2 : Option Addr) (n2 c2 : Nat) (l2 : List Int) (w : World) (h0 : Seg w a0 n0 c0 l0) (b0 : Bs.IsB l0) (h1 : Seg w a1 n1 c1 l1) (b1 : Bs.IsB l1) (h2 : Seg w a2 n2 c2 l2) (b2 : Bs.IsB l2) :
    Calls Try.prog 7 #[.slice a0 n0 c0, .slice a1 n1 c1, .slice a2 n2 c2] w fun e w' => e = .returned (.bool true) ∧ Below w.heap.size w w' := by
  obtain ⟨i0, hi, hz0, hz1, hz2⟩ := info_parts info_u8
  have H0 := Lib.hid h0
  have H1 := Lib.hid h1
  have H2 := Lib.hid h2
  have B0 := Lib.hid b0
  have B1 := Lib.hid b1
  have B2 := Lib.hid b2
  clear h0 h1 h2 b0 b1 b2
  obtain ⟨N, hN, k0, k1, k2⟩ : ∃ N : Nat, (if (n2 : Int) < (if n1 < n0 then (n1 : Int) else (n0 : Int)) then (n2 : Int) else (if n1 < n0 then (n1 : Int) else (n0 : Int))) = (N : Int) ∧ N ≤ n0 ∧ N ≤ n1 ∧ N ≤ n2 := by
    refine ⟨min (min n0 n1) n2, ?_, by omega, by omega, by omega⟩
    split <;> split <;> omega
  by_cases h3 : 300 < N
  · go_enter Try.func7, Try.ntmps7
    go_wp2_with fail
    refine (lives_any w).mono ?_
    rintro e w1 ⟨rfl, hg1⟩
    have HG := Lib.hid (below_of hg1)
    clear hg1
    go_wp2
    go_ret
    exact ⟨rfl, HG.out⟩
  · have h4 : (N : Int) ≤ 300 := by omega
    clear h3
    go_enter Try.func7, Try.ntmps7
    go_wp2_with fail
    refine (lives_any w).mono ?_
    rintro e w1 ⟨rfl, hg1⟩
    have T1 := Lib.hid hg1
    clear hg1
    go_wp2_with (first
      | (refine wpList_make_full _ rfl _ _ 26 rfl w1.heap.size 5 i0 (.int .u8 0) 1 Try.underlying26 hi hz0 hz1 _ _ _ _ N rfl rfl rfl rfl (by rw [hz2]; omega) (by unfold maxLen; omega) (Nat.le_refl _) ?_; intro w2 hown hg; have O2 := Lib.hid hown; have D2 := Lib.hid hg; clear hown hg)
      | fail)
    have hz0' : (madeCells (Value.int .u8 0).cells (N * 1)).toList = (List.replicate N (0 : Int)).map (Value.int .u8) := by
      rw [List.map_replicate, Nat.mul_one]
      exact toList_madeCells_one _ _
    rw [hz0'] at O2
    clear hz0'
    go_loopw [9] (fun i wr => ∃ (k : Nat) (zs : List Int), k ≤ N ∧ i = .int .i64 k ∧ Hid (wr.ownsRow w1.heap.size 5 1 (.slice (some ⟨w1.heap.size, 0, none⟩) N N) N (zs.map (Value.int .u8)) ∧ w1.grownBy wr none ∧ Bs.IsB zs ∧ ∀ j, j < k → zs.getD j 0 = xor3 l0 l1 l2 j)) (fun i _ => N - (intOf i).toNat)
    case atStart => exact ⟨0, List.replicate N 0, Nat.zero_le _, rfl, O2.out, D2.out, (fun x hx => by rw [List.eq_of_mem_replicate hx]; decide), (fun j hj => absurd hj (Nat.not_lt_zero j))⟩
    case round =>
      obtain ⟨k, zs, hk, rfl, HR⟩ := hrel
      by_cases hlt : k < N
      · have TR := Lib.hid (grownBy_trans T1.out HR.out.2.1 (fun _ e => by cases e))
        have hzl : zs.length = N := by simpa using HR.out.1.1
        obtain ⟨g0, o0, rfl, q0⟩ := (H0.out.grown TR.out).addr (by omega)
        obtain ⟨g1, o1, rfl, q1⟩ := (H1.out.grown TR.out).addr (by omega)
        obtain ⟨g2, o2, rfl, q2⟩ := (H2.out.grown TR.out).addr (by omega)
        have f0 := q0 k (by omega)
        have f1 := q1 k (by omega)
        have f2 := q2 k (by omega)
        have r0 := isB_getD B0.out k
        have r1 := isB_getD B1.out k
        have r2 := isB_getD B2.out k
        have hcell := HR.out.1.cellAt k (by omega)
        rw [List.getElem?_map, List.getElem?_eq_getElem (by omega)] at hcell
        simp only [Option.map_some] at hcell
        have hfree := HR.out.1.frozenAt k
        have HS := Lib.hid (HR.out.1.stored k)
        have HX : Hid (xor3 l0 l1 l2 k = (((l0.getD k 0).toNat ^^^ (l1.getD k 0).toNat ^^^ (l2.getD k 0).toNat : Nat) : Int)) := rfl
        clear q0 q1 q2
        generalize l0.getD k 0 = p0 at f0 r0 HX
        generalize l1.getD k 0 = p1 at f1 r1 HX
        generalize l2.getD k 0 = p2 at f2 r2 HX
        have e1 := u8_xor p0 p1 r0.1 r0.2 r1.1 r1.2
        have y1 : p0.toNat ^^^ p1.toNat < 256 := Nat.xor_lt_two_pow (n := 8) (by omega) (by omega)
        have e2 := u8_xor ((p0.toNat ^^^ p1.toNat : Nat) : Int) p2 (by omega) (by omega) r2.1 r2.2
        rw [Int.toNat_natCast] at e2
        have y2 : p0.toNat ^^^ p1.toNat ^^^ p2.toNat < 256 := Nat.xor_lt_two_pow (n := 8) y1 (by omega)
        generalize p0.toNat ^^^ p1.toNat ^^^ p2.toNat = y at e2 y2 HX
        generalize p0.toNat ^^^ p1.toNat = x at e1 e2 y1
        generalize zs[k] = z0 at hcell
        go_wp2
        go_region
        all_goals
          go_wp2
          refine ⟨⟨k + 1, zs.set k (y : Int), by omega, by go_num, ⟨?_, ?_, ?_, ?_⟩⟩, by simp [intOf]; omega⟩
          · rw [List.map_set]
            exact (HS.out _).1
          · have hg := grownBy_trans HR.out.2.1 (HS.out (.int .u8 (y : Int))).2 (fun i e => by cases e; exact Nat.le_refl _)
            exact ⟨hg.os, hg.tape, hg.output, hg.size, hg.block⟩
          · intro x hx
            rcases List.mem_or_eq_of_mem_set hx with h | h
            · exact HR.out.2.2.1 x h
            · rw [h]; omega
          · intro j hj
            rw [List.getD_eq_getElem?_getD, List.getElem?_set]
            by_cases e : k = j
            · subst e
              rw [if_pos rfl, if_pos (by omega), HX.out]
              rfl
            · rw [if_neg e, ← List.getD_eq_getElem?_getD]
              exact HR.out.2.2.2 j (by omega)
      · obtain rfl : k = N := by omega
        have TR := Lib.hid (grownBy_trans T1.out HR.out.2.1 (fun _ e => by cases e))
        have SX := Lib.hid (Seg.own HR.out.1)
        have S0 := Lib.hid ((H0.out.grown TR.out).take k0)
        have S1 := Lib.hid ((H1.out.grown TR.out).take k1)
        have S2 := Lib.hid ((H2.out.grown TR.out).take k2)
        have hq : crc zs = crc (l0.take k) ^^^ crc (l1.take k) ^^^ crc (l2.take k) := by
          have e : ∀ l : List Int, k ≤ l.length → (l.take k).length = k := fun l hl => by rw [List.length_take]; omega
          have e0 := e l0 (by rw [H0.out.len]; exact k0)
          have e1 := e l1 (by rw [H1.out.len]; exact k1)
          have e2 := e l2 (by rw [H2.out.len]; exact k2)
          have b : ∀ l : List Int, Bs.IsB l → Bs.IsB (l.take k) := fun l hl x hx => hl x (List.mem_of_mem_take hx)
          have ez : zs.length = k := by simpa using HR.out.1.1
          have et : ∀ (l : List Int) (i : Nat), i < k → (l.take k).getD i 0 = l.getD i 0 := fun l i hi => by
            rw [List.getD_eq_getElem?_getD, List.getD_eq_getElem?_getD, List.getElem?_take_of_lt hi]
          refine linear _ _ _ (b l0 B0.out) (b l1 B1.out) (b l2 B2.out) zs HR.out.2.2.1 (by omega) (by omega) (by omega) ?_
          refine num_xor3 _ _ _ zs (b l0 B0.out) (b l1 B1.out) (b l2 B2.out) (by omega) (by omega) (by omega) fun i hi => ?_
          rw [HR.out.2.2.2 i (by omega)]
          unfold xor3
          rw [et l0 i (by omega), et l1 i (by omega), et l2 i (by omega)]
        have Bz := Lib.hid HR.out.2.2.1
        have C0 : Hid (Bs.IsB (l0.take k)) := fun x hx => B0.out x (List.mem_of_mem_take hx)
        have C1 : Hid (Bs.IsB (l1.take k)) := fun x hx => B1.out x (List.mem_of_mem_take hx)
        have C2 : Hid (Bs.IsB (l2.take k)) := fun x hx => B2.out x (List.mem_of_mem_take hx)
        have x1 := u32_xor_nat _ _ (crc_lt _ C0.out) (crc_lt _ C1.out)
        have x2 := u32_xor_nat _ _ (Nat.xor_lt_two_pow (n := 32) (crc_lt _ C0.out) (crc_lt _ C1.out)) (crc_lt _ C2.out)
        rw [← hq] at x2
        have x3 : ((crc zs : Int) == (crc zs : Int)) = true := beq_self_eq_true _
        have p0 : (k : Int) ≤ (c0 : Int) := by have := H0.out.le; omega
        have p1 : (k : Int) ≤ (c1 : Int) := by have := H1.out.le; omega
        have p2 : (k : Int) ≤ (c2 : Int) := by have := H2.out.le; omega
        have GD : Hid (wr.grownBy wr.drew none) := Lib.hid ⟨rfl, rfl, rfl, Nat.le_refl _, fun _ _ _ => rfl⟩
        clear hq hN
        go_wp2_with fail
        go_region_held3 (fun _ => True) (trivial)
          (first
            | (go_at_call 12; (with_reducible refine (of_any _ _ _ zs _ (SX.out.grown GD.out) Bz.out).mono ?_); rintro e w3 ⟨rfl, hg3⟩; have G3 := Lib.hid (grownBy_trans GD.out hg3 (fun _ e => by cases e)); clear hg3)
            | (go_at_call 12; (with_reducible refine (of_any _ _ _ (l0.take k) _ (S0.out.grown G3.out) C0.out).mono ?_); rintro e w4 ⟨rfl, hg3⟩; have G4 := Lib.hid (grownBy_trans G3.out hg3 (fun _ e => by cases e)); clear hg3)
            | (go_at_call 12; (with_reducible refine (of_any _ _ _ (l1.take k) _ (S1.out.grown G4.out) C1.out).mono ?_); rintro e w5 ⟨rfl, hg3⟩; have G5 := Lib.hid (grownBy_trans G4.out hg3 (fun _ e => by cases e)); clear hg3)
            | (go_at_call 12; (with_reducible refine (of_any _ _ _ (l2.take k) _ (S2.out.grown G5.out) C2.out).mono ?_); rintro e w6 ⟨rfl, hg3⟩; have G6 := Lib.hid (grownBy_trans G5.out hg3 (fun _ e => by cases e)); clear hg3)
            | fail)
        have HF := Lib.hid (below_of (grownBy_trans TR.out G6.out (fun _ e => by cases e)))
        go_wp2
        go_ret
        exact ⟨rfl, HF.out⟩
end Go.Proofs.Ytdkcieojfkfaiaa.Crc
