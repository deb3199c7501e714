/-
  Columns as runs read again: getRuns.
-/
import Derived.Test.YteolpjlpjjjchaaInRep
namespace Go.Proofs.Yteolpjlpjjjchaa.In
open Go.RowKit Go.Joins
open Is (IsI)
open Oct (Rd ReadN ReadV readV ofB)
open Dv (Turn nowhere)

theorem last_at (acc : List Int) (k : Nat) (h : acc.length = k + 1) : acc.getLast? = some (acc.getD k 0) := by
  rw [List.getLast?_eq_getElem?, h, Nat.add_sub_cancel, List.getD_eq_getElem?_getD, List.getElem?_eq_getElem (by omega)]; rfl
theorem own_cell {w : World} {base n c g : Nat} {l : List Int} (h : w.ownsRow base 2 1 (.slice (some ⟨g, 0, none⟩) n c) n (l.map (Value.int .i64))) (k : Nat) (hk : k < l.length) : w.cell? ⟨g, k, none⟩ = some (.int .i64 (l.getD k 0)) := by
  have h2 := h.cells (g := g) rfl k (.int .i64 (l.getD k 0)) (by simp [List.getD, hk])
  rwa [Addr.add_lit, Nat.zero_add] at h2
theorem turn_below {w w' : World} {S : Nat → Prop} (h : Below w.heap.size w w') : Turn w w' S := ⟨h.os, h.tape, h.output, h.size, fun i hi _ => h.block i hi⟩
theorem own_below {w w' : World} {base e s n : Nat} {v : Value} {xs : List Value} (h : w.ownsRow base e s v n xs) (hb : Below w.heap.size w w') : w'.ownsRow base e s v n xs :=
  own_grown h (Bs.grown_of hb)

set_option maxRecDepth 100000 in
set_option maxHeartbeats 2000000 in
theorem getRuns_any (b g n : Nat) (bs : List Int) (w : World) (h : Rd w b g bs) (hg : g < w.heap.size) (hb : Oct.IsB bs) (hn : n ≤ 65536) :
    Calls Try.prog 52 #[.pointer (some ⟨b, 0, none⟩), .int .i64 n] w (GetsX b g w (decR true n none n bs)) := by
  obtain ⟨i0, hi, hz0, hz1, hz2⟩ := info_parts Is.info_i64
  have hbl : b < w.heap.size := World.block_lt_of_cell? w _ h.self
  have HBL := Lib.hid hbl
  have HGL := Lib.hid hg
  have hmk := make_roomI n (by omega)
  have h0 := World.ownsRow_made (base := w.heap.size) (e := 2) (size := 1) w (roomI n) n (Nat.le_refl _) (by unfold maxLen; omega) (by rw [roomI_size, Nat.mul_one])
  have HO0 := Lib.hid h0
  have HT0 : Hid (Turn w (w.alloc (.cells (roomI n) 2)) (At b)) := Lib.hid (Turn.alloc w _ _)
  have HR0 : Hid (Rd (w.alloc (.cells (roomI n) 2)) b g bs) := Lib.hid (Turn.rd (Turn.alloc w _ nowhere) h id id)
  have HE0 : Hid (∃ f, n ≤ f ∧ decR true n none n bs = (decR true f ([] : List Int).getLast? n bs).map (fun p => (([] : List Int) ++ p.1, p.2))) := Lib.hid ⟨n, Nat.le_refl _, by simp⟩
  have HB0 := Lib.hid hb
  obtain ⟨X, hX⟩ : ∃ X, X = decR true n none n bs := ⟨_, rfl⟩
  rw [← hX] at HE0 ⊢
  clear h0 h hg hb hbl hX
  go_enter Try.func52, Try.ntmps52
  go_wp2
  go_loopg [6] n (fun gh so wr => ∃ (k : Nat) (acc rest : List Int), k + gh = n ∧ so = .slice (some ⟨w.heap.size, 0, none⟩) k n ∧ Hid (wr.ownsRow w.heap.size 2 1 (.slice (some ⟨w.heap.size, 0, none⟩) k n) k (acc.map (Value.int .i64))) ∧
      Hid (Rd wr b g rest) ∧ Hid (Oct.IsB rest) ∧ Hid (∃ f, gh ≤ f ∧ X = (decR true f acc.getLast? gh rest).map (fun p => (acc ++ p.1, p.2))) ∧ Hid (Turn w wr (At b)) ∧ Hid (w.heap.size < wr.heap.size))
  case atStart => exact ⟨0, [], bs, by omega, rfl, HO0, HR0, HB0, HE0, HT0, Lib.hid (by simp)⟩
  case round =>
    obtain ⟨k, acc, rest, hk, rfl, HO, HR, HB, HE, HT, HL⟩ := hrel
    have hal : acc.length = k := by have := HO.out.1; rw [List.length_map] at this; omega
    cases gk with
    | zero =>
      obtain rfl : k = n := by omega
      have HF : Hid (GetsX b g w X (.returned (.tuple #[.slice (some ⟨w.heap.size, 0, none⟩) k k, .int .i64 0])) wr) := Lib.hid (by
        obtain ⟨f, _, hd⟩ := HE.out
        have hd2 : X = some (acc, rest) := by rw [hd, decR_zero]; simp
        rw [hd2]
        refine ⟨HT.out, _, k, by rw [hal], ?_, HR.out⟩
        rw [hal]
        exact Is.Seg.own HO.out)
      clear hal
      go_wp2
      go_ret2
      exact HF.out
    | succ m =>
      obtain ⟨f1, hf1, hd⟩ := HE.out
      obtain ⟨f, rfl⟩ : ∃ f', f1 = f' + 1 := ⟨f1 - 1, by omega⟩
      have hstep := decR_step true f m acc rest X hd
      have hf : m ≤ f := by omega
      clear hd hf1
      have HV := Lib.hid (Oct.var_any b g rest wr HR.out HB.out)
      unfold ReadV at HV
      have hrd := var_readV rest HB.out
      obtain ⟨q, er, nn, hq⟩ : ∃ q er nn, readV 0 0 rest = (q, er, nn) := ⟨_, _, _, rfl⟩
      rw [hq] at hstep HV
      have hrd := hrd q nn
      rw [hq] at hrd
      dsimp only at hstep HV
      obtain ⟨rest2, hrest2⟩ : ∃ r, r = rest.drop nn := ⟨_, rfl⟩
      have HB2 : Hid (Oct.IsB rest2) := Lib.hid (by rw [hrest2]; exact isB_drop HB.out nn)
      rw [← hrest2] at hstep HV
      clear hq hrest2
      by_cases her : er = 0
      · subst her
        have hrd := hrd rfl
        obtain ⟨q0, q1, -⟩ := hrd
        by_cases h8 : rest2.length < 8
        · have HX := Lib.hid (hstep.2.1 rfl h8)
          have H8 := Lib.hid h8
          clear hstep h8
          go_wp2_with fail
          refine HV.out.mono ?_
          rintro e w1 ⟨rfl, hg1, hr1⟩
          have HN := Lib.hid (Oct.number_more b g rest2 8 w1 hr1 (by decide) (by decide) (by have := H8.out; omega))
          have HF : Hid (GetsX b g w X (.returned (.tuple #[.slice none 0 0, .int .i64 7])) w1) := Lib.hid (by
            rw [HX.out]
            exact ⟨turn_more HT.out (turn_read hg1) (fun i e => .inl e), 7, by decide, rfl⟩)
          clear hg1 hr1
          go_wp2_with fail
          refine HN.out.mono ?_
          rintro e w' ⟨rfl, rfl⟩
          dsimp only
          go_wp2
          go_ret2
          exact HF.out
        · have h8' : 8 ≤ rest2.length := by omega
          have hs3 := hstep.2.2 rfl h8'
          have hz := ofB_bd8 (rest2.take 8) (isB_take HB2.out 8) (by rw [List.length_take]; omega)
          have HNum : Hid (∀ w1, Rd w1 b g rest2 → _) := Lib.hid (fun w1 hr => Oct.number_yes b g rest2 8 w1 hr HB2.out (by decide) (by decide) h8')
          unfold ReadN at HNum
          obtain ⟨z, hze⟩ : ∃ z, ofB (rest2.take 8) = z := ⟨_, rfl⟩
          obtain ⟨rest3, hr3⟩ : ∃ r, r = rest2.drop 8 := ⟨_, rfl⟩
          have HB3 : Hid (Oct.IsB rest3) := Lib.hid (by rw [hr3]; exact isB_drop HB2.out 8)
          rw [hze] at hz hs3 HNum
          rw [← hr3] at hs3 HNum
          rw [← wrap_sg z hz.1 hz.2] at hs3
          obtain ⟨M, hM⟩ : ∃ M, M = m + 1 := ⟨_, rfl⟩
          rw [← hM] at hs3
          have M1 : 1 ≤ M := by omega
          have Mn : M + k = n := by omega
          obtain ⟨z', hz'⟩ : ∃ z', wrap64 z = z' := ⟨_, rfl⟩
          rw [hz'] at hs3
          have HK : Hid (∀ wx : World, Rd wx b g rest → True) := Lib.hid (fun _ _ => trivial)
          by_cases hbad : q < 1 ∨ (M : Int) < q ∨ (true = true ∧ acc.getLast? = some z')
          · have HX := Lib.hid (hs3.1 hbad)
            have hcs : (q = 0 ∨ ((q == 0) = false ∧ decide ((M : Int) < q) = true) ∨ ((q == 0) = false ∧ decide ((M : Int) < q) = false ∧ acc.getLast? = some z')) := by
              by_cases h1 : q < 1
              · exact .inl (by omega)
              · have h2 : (q == 0) = false := by simp; omega
                by_cases h3 : (M : Int) < q
                · exact .inr (.inl ⟨h2, decide_eq_true h3⟩)
                · exact .inr (.inr ⟨h2, decide_eq_false h3, (hbad.resolve_left h1).resolve_left h3 |>.2⟩)
            clear hze hr3 hstep h8 h8' hz hs3 hbad
            go_wp2_with fail
            refine HV.out.mono ?_
            rintro e w1 ⟨rfl, hg1, hr1⟩
            have HT1 : Hid (Turn w w1 (At b)) := Lib.hid (turn_more HT.out (turn_read hg1) (fun i e => .inl e))
            have HO1 : Hid (w1.ownsRow w.heap.size 2 1 (.slice (some ⟨w.heap.size, 0, none⟩) k n) k (acc.map (Value.int .i64))) := Lib.hid (own_at HO.out hg1 (by have := HBL.out; omega))
            have HN := HNum.out w1 hr1
            clear hg1 hr1
            go_wp2_with fail
            refine HN.mono ?_
            rintro e w2 ⟨rfl, hg2, hr2⟩
            have HF : Hid (GetsX b g w X (.returned (.tuple #[.slice none 0 0, .int .i64 4])) w2) := Lib.hid (by
              rw [HX.out]
              exact ⟨turn_more HT1.out (turn_read hg2) (fun i e => .inl e), 4, by decide, rfl⟩)
            have HO2 : Hid (w2.ownsRow w.heap.size 2 1 (.slice (some ⟨w.heap.size, 0, none⟩) k n) k (acc.map (Value.int .i64))) := Lib.hid (own_at HO1.out hg2 (by have := HBL.out; omega))
            clear hg2 hr2 HN HV HNum
            rcases Nat.eq_zero_or_pos k with hk0 | hk0
            · subst hk0
              obtain rfl : M = n := by omega
              obtain rfl := List.eq_nil_of_length_eq_zero hal
              clear hal hk hM M1 Mn hf
              rcases hcs with rfl | ⟨c1, c2⟩ | ⟨_, _, c3⟩
              · go_wp2
                go_ret2
                exact HF.out
              · go_wp2
                go_ret2
                exact HF.out
              · cases c3
            · obtain ⟨j, hj⟩ : ∃ j, k = j + 1 := ⟨k - 1, by omega⟩
              have hcell := own_cell HO2.out j (by omega)
              have hlast := last_at acc j (by omega)
              rw [hlast] at hcs
              obtain ⟨y, hy⟩ : ∃ y, acc.getD j 0 = y := ⟨_, rfl⟩
              rw [hy] at hcell hcs
              have hMe : (n : Int) - (k : Int) = (M : Int) := by omega
              have hM0 : M ≤ 65536 := by omega
              have hj1 : (k : Int) - 1 = (j : Int) := by omega
              have hj2 : j < k := by omega
              have hj3 : IntKind.i64.wrap (j : Int) = (j : Int) := by rw [IntKind.wrap_i64]; first | omega | (split <;> omega)
              clear hlast hy hal hk hM M1 Mn hf hj hn
              rcases hcs with rfl | ⟨c1, c2⟩ | ⟨c1, c2, c3⟩
              · obtain ⟨B, hB⟩ : ∃ B, (y == z') = B := ⟨_, rfl⟩
                go_wp2
                simp [Oper.wp, go_sem, hj2]
                go_wp2
                go_ret2
                exact HF.out
              · obtain ⟨B, hB⟩ : ∃ B, (y == z') = B := ⟨_, rfl⟩
                go_wp2
                simp [Oper.wp, go_sem, hj2]
                go_wp2
                go_ret2
                exact HF.out
              · obtain rfl : y = z' := Option.some.inj c3
                clear c3
                go_wp2
                simp [Oper.wp, go_sem, hj2]
                go_wp2
                go_ret2
                exact HF.out
          · have hX := hs3.2 hbad
            obtain ⟨C, rfl⟩ : ∃ C : Nat, q = (C : Int) := ⟨q.toNat, by omega⟩
            rw [Int.toNat_natCast] at hX
            have C1 : 1 ≤ C := by omega
            have CM : C ≤ M := by omega
            have hlt : acc.getLast? ≠ some z' := fun e => hbad (.inr (.inr ⟨rfl, e⟩))
            have HE2 : Hid (∃ f, M - C ≤ f ∧ X = (decR true f (acc ++ List.replicate C z').getLast? (M - C) rest3).map (fun p => ((acc ++ List.replicate C z') ++ p.1, p.2))) := Lib.hid ⟨f, by omega, hX⟩
            have HLT := Lib.hid hlt
            have HC1 : Hid (1 ≤ C ∧ C ≤ M ∧ 1 ≤ M ∧ M + k = n) := Lib.hid ⟨C1, CM, M1, Mn⟩
            clear hze hr3 hstep h8 h8' hz hs3 hbad hX hlt q0 q1 C1 CM M1 Mn hM hf
            go_wp2_with fail
            refine HV.out.mono ?_
            rintro e w1 ⟨rfl, hg1, hr1⟩
            have HT1 : Hid (Turn w w1 (At b)) := Lib.hid (turn_more HT.out (turn_read hg1) (fun i e => .inl e))
            have HO1 : Hid (w1.ownsRow w.heap.size 2 1 (.slice (some ⟨w.heap.size, 0, none⟩) k n) k (acc.map (Value.int .i64))) := Lib.hid (own_at HO.out hg1 (by have := HBL.out; omega))
            have HL1 : Hid (w.heap.size < w1.heap.size) := Lib.hid (Nat.lt_of_lt_of_le HL.out hg1.size)
            have HN := HNum.out w1 hr1
            clear hg1 hr1
            go_wp2_with fail
            refine HN.mono ?_
            rintro e w2 ⟨rfl, hg2, hr2⟩
            have HT2 : Hid (Turn w w2 (At b)) := Lib.hid (turn_more HT1.out (turn_read hg2) (fun i e => .inl e))
            have HO2 : Hid (w2.ownsRow w.heap.size 2 1 (.slice (some ⟨w.heap.size, 0, none⟩) k n) k (acc.map (Value.int .i64))) := Lib.hid (own_at HO1.out hg2 (by have := HBL.out; omega))
            have HL2 : Hid (w.heap.size < w2.heap.size) := Lib.hid (Nat.lt_of_lt_of_le HL1.out hg2.size)
            have HRd2 := Lib.hid hr2
            obtain ⟨C1, CM, M1, Mn⟩ := HC1.out
            have HRep := repeat_any w2.heap.size C z' (w2.alloc (.cells #[.int .i64 z'] 2)) C1 (by omega) (by have := Pk.cell_new w2 (.int .i64 z') 2; exact this)
            have hTA : Turn w2 (w2.alloc (.cells #[.int .i64 z'] 2)) (At b) := Turn.alloc _ _ _
            have hRA : Rd (w2.alloc (.cells #[.int .i64 z'] 2)) b g rest3 := Turn.rd (Turn.alloc w2 _ nowhere) hr2 id id
            have hOA := HO2.out.alloc (.cells #[.int .i64 z'] 2)
            obtain ⟨W1, hW1⟩ : ∃ W1, w2.alloc (.cells #[.int .i64 z'] 2) = W1 := ⟨_, rfl⟩
            rw [hW1] at HRep hTA hRA hOA
            have HW1 := Lib.hid hW1
            have HRA := Lib.hid hRA
            have HOA := Lib.hid hOA
            have HTA : Hid (Turn w W1 (At b)) := Lib.hid (turn_more HT2.out hTA (fun i e => .inl e))
            have HLA : Hid (w.heap.size < W1.heap.size) := Lib.hid (Nat.lt_of_lt_of_le HL2.out hTA.size)
            have HRep := Lib.hid HRep
            have HRL : Hid ((List.replicate C (Value.int .i64 z')).length = C * 1) := Lib.hid (by simp)
            have HR1 : Hid (∀ u ∈ List.replicate C (Value.int .i64 z'), u.oneCell' = true) := Lib.hid (fun u hu => by rw [List.eq_of_mem_replicate hu]; rfl)
            clear hg2 hr2 HN HV HNum hTA hRA hOA
            have hcq : ((C : Int) == 0) = false := by simp; omega
            have hcM : decide ((M : Int) < (C : Int)) = false := decide_eq_false (by omega)
            have hkC : k + C ≤ n := by omega
            have hC0 : C ≤ 65536 := by omega
            have HGk : Hid (k + C + (M - C) = n) := Lib.hid (by omega)
            have HGe : Hid (M - C + C = M) := Lib.hid (by omega)
            rcases Nat.eq_zero_or_pos k with hk0 | hk0
            · subst hk0
              obtain rfl : M = n := by omega
              obtain rfl := List.eq_nil_of_length_eq_zero hal
              clear hal M1 Mn CM
              go_wp2_with (first
                | (go_at_call 63
                   refine HRep.out.mono ?_
                   rintro e w4 ⟨rfl, hown4, hbel4⟩
                   have HO4 : Hid (w4.ownsRow w.heap.size 2 1 (.slice (some ⟨w.heap.size, 0, none⟩) 0 M) 0 (([] : List Int).map (Value.int .i64))) := Lib.hid (own_below HOA.out hbel4)
                   have HC4 : Hid (∀ t u, (List.replicate C (Value.int .i64 z'))[t]? = some u → w4.cell? ((⟨W1.heap.size, 0, none⟩ : Addr).add t) = some u) := Lib.hid (fun t u ht => hown4.cells (g := W1.heap.size) rfl t u (by rw [List.map_replicate]; exact ht))
                   have HT4 : Hid (Turn w w4 (At b)) := Lib.hid (turn_more HTA.out (turn_below hbel4) (fun i e => .inl e))
                   have HR4 : Hid (Rd w4 b g rest3) := Lib.hid (Turn.rd (turn_below (S := nowhere) hbel4) HRA.out id id)
                   have HL4 : Hid (w.heap.size < w4.heap.size) := Lib.hid (Nat.lt_of_lt_of_le HLA.out hbel4.size)
                   clear hown4 hbel4)
                | (at_builtin; refine wpList_append_fits _ rfl (.tmp 61) (.tmp 67) 27 rfl w.heap.size 2 i0 1 Try.underlying27 hi hz1 w.heap.size 0 M _ rfl HO4.out ⟨W1.heap.size, 0, none⟩ C C (List.replicate C (.int .i64 z')) rfl HRL.out HC4.out HR1.out hkC ?_; intro w5 hown5 hgrow5)
                | fail)
              have HO5 : Hid (w5.ownsRow w.heap.size 2 1 (.slice (some ⟨w.heap.size, 0, none⟩) (0 + C) M) (0 + C) (([] ++ List.replicate C z').map (Value.int .i64))) := Lib.hid (by rw [List.map_append, List.map_replicate]; exact hown5)
              have HR5 : Hid (Rd w5 b g rest3) := Lib.hid (Turn.rd (turn_row hgrow5) HR4.out (by have := HBL.out; unfold At; omega) (by have := HGL.out; unfold At; omega))
              have HT5 : Hid (Turn w w5 (At b)) := Lib.hid (turn_more HT4.out (turn_row hgrow5) (fun i e => .inr (by unfold At at e; omega)))
              have HL5 : Hid (w.heap.size < w5.heap.size) := Lib.hid (Nat.lt_of_lt_of_le HL4.out hgrow5.size)
              clear hown5 hgrow5
              go_roundg (M - C)
              case rel => exact ⟨C, [] ++ List.replicate C z', rest3, by have := HGk.out; omega, rfl, by rw [Nat.zero_add] at HO5; exact HO5, HR5, HB3, HE2, HT5, HL5⟩
              case measure => omega
            · obtain ⟨j, hj⟩ : ∃ j, k = j + 1 := ⟨k - 1, by omega⟩
              have hcell := own_cell HO2.out j (by omega)
              have hlast := last_at acc j (by omega)
              have hlt := HLT.out
              rw [hlast] at hlt
              obtain ⟨y, hy⟩ : ∃ y, acc.getD j 0 = y := ⟨_, rfl⟩
              rw [hy] at hcell hlt
              have hB : (y == z') = false := by simpa using fun e => hlt (by rw [e])
              have hMe : (n : Int) - (k : Int) = (M : Int) := by omega
              have hM0 : M ≤ 65536 := by omega
              have hj1 : (k : Int) - 1 = (j : Int) := by omega
              have hj2 : j < k := by omega
              have hj3 : IntKind.i64.wrap (j : Int) = (j : Int) := by rw [IntKind.wrap_i64]; first | omega | (split <;> omega)
              clear hlast hy hal M1 Mn hj hn hlt CM
              go_wp2
              simp [Oper.wp, go_sem, hj2]
              go_wp2_with (first
                | (go_at_call 63
                   refine HRep.out.mono ?_
                   rintro e w4 ⟨rfl, hown4, hbel4⟩
                   have HO4 : Hid (w4.ownsRow w.heap.size 2 1 (.slice (some ⟨w.heap.size, 0, none⟩) k n) k (acc.map (Value.int .i64))) := Lib.hid (own_below HOA.out hbel4)
                   have HC4 : Hid (∀ t u, (List.replicate C (Value.int .i64 z'))[t]? = some u → w4.cell? ((⟨W1.heap.size, 0, none⟩ : Addr).add t) = some u) := Lib.hid (fun t u ht => hown4.cells (g := W1.heap.size) rfl t u (by rw [List.map_replicate]; exact ht))
                   have HT4 : Hid (Turn w w4 (At b)) := Lib.hid (turn_more HTA.out (turn_below hbel4) (fun i e => .inl e))
                   have HR4 : Hid (Rd w4 b g rest3) := Lib.hid (Turn.rd (turn_below (S := nowhere) hbel4) HRA.out id id)
                   have HL4 : Hid (w.heap.size < w4.heap.size) := Lib.hid (Nat.lt_of_lt_of_le HLA.out hbel4.size)
                   clear hown4 hbel4)
                | (at_builtin; refine wpList_append_fits _ rfl (.tmp 61) (.tmp 67) 27 rfl w.heap.size 2 i0 1 Try.underlying27 hi hz1 w.heap.size k n _ rfl HO4.out ⟨W1.heap.size, 0, none⟩ C C (List.replicate C (.int .i64 z')) rfl HRL.out HC4.out HR1.out hkC ?_; intro w5 hown5 hgrow5)
                | fail)
              have HO5 : Hid (w5.ownsRow w.heap.size 2 1 (.slice (some ⟨w.heap.size, 0, none⟩) (k + C) n) (k + C) ((acc ++ List.replicate C z').map (Value.int .i64))) := Lib.hid (by rw [List.map_append, List.map_replicate]; exact hown5)
              have HR5 : Hid (Rd w5 b g rest3) := Lib.hid (Turn.rd (turn_row hgrow5) HR4.out (by have := HBL.out; unfold At; omega) (by have := HGL.out; unfold At; omega))
              have HT5 : Hid (Turn w w5 (At b)) := Lib.hid (turn_more HT4.out (turn_row hgrow5) (fun i e => .inr (by unfold At at e; omega)))
              have HL5 : Hid (w.heap.size < w5.heap.size) := Lib.hid (Nat.lt_of_lt_of_le HL4.out hgrow5.size)
              clear hown5 hgrow5
              go_roundg (M - C)
              case rel => exact ⟨k + C, acc ++ List.replicate C z', rest3, HGk.out, rfl, HO5, HR5, HB3, HE2, HT5, HL5⟩
              case measure => omega
      · have HX := Lib.hid (hstep.1 her)
        have hb : (er == 0) = false := by simpa using her
        have HER := Lib.hid her
        clear hstep her hrd
        go_wp2_with fail
        refine HV.out.mono ?_
        rintro e w1 ⟨rfl, hg1, hr1⟩
        have HF : Hid (GetsX b g w X (.returned (.tuple #[.slice none 0 0, .int .i64 er])) w1) := Lib.hid (by
          rw [HX.out]
          exact ⟨turn_more HT.out (turn_read hg1) (fun i e => .inl e), er, HER.out, rfl⟩)
        clear hg1 hr1
        dsimp only
        go_wp2
        go_ret2
        exact HF.out
end Go.Proofs.Yteolpjlpjjjchaa.In
