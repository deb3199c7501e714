/-
  The document's device: Rot.
-/
import Derived.Test.YtjhcjnalomdbnaaDoorDevRef5
import Derived.Test.YtjhcjnalomdbnaaDoorDevRotLaw
namespace Go.Proofs.YtjhcjnalomdbnaaDoor.Dv
open Go.RowKit Bs

def RRot (g : Nat) (D P : Value) (s : St) (block bit : Int) (mask : Nat) (w : World) (e : Ending) (w' : World) : Prop :=
  (¬ rotOk s block bit mask ∧ e = .returned (.int .i64 2) ∧ w = w') ∨ (rotOk s block bit mask ∧ e = .returned (.int .i64 0) ∧ Ref w' g D P (s.rot block bit mask) ∧ Turn w w' (fpR g D P))

theorem rrot_no {g : Nat} {D P : Value} {s : St} {block bit : Int} {mask : Nat} {w : World} (h : ¬ rotOk s block bit mask) : RRot g D P s block bit mask w (.returned (.int .i64 2)) w := .inl ⟨h, rfl, rfl⟩

theorem rrot_yes {g d dc p q : Nat} {P : Value} {s : St} {mask : Nat} {nl : List Int} {w w3 : World} (hro : s.rot (p : Int) (q : Int) mask = { s with dur := s.dur.set p nl }) (hok : rotOk s (p : Int) (q : Int) mask) (h : Ref w3 g (.slice (some ⟨d, 0, none⟩) s.blocks dc) P s) (t : Turn w w3 nowhere) (hl : nl.length = s.size) (hB : IsB nl) :
    RRot g (.slice (some ⟨d, 0, none⟩) s.blocks dc) P s (p : Int) (q : Int) mask w (.returned (.int .i64 0)) (w3.setCell ⟨d, p, none⟩ (.string (strOfNums nl))) := by
  have h3 := Ref.relay h p nl hl hB
  exact .inr ⟨hok, rfl, by rw [hro]; exact h3.1, (t.mono (S' := fpR g (.slice (some ⟨d, 0, none⟩) s.blocks dc) P) (fun _ _ e => e.elim)).trans h3.2 (fun i _ e => .inr (.inl (by rw [e]; rfl)))⟩

set_option maxRecDepth 100000 in
set_option maxHeartbeats 4000000 in
theorem rrot_any (g : Nat) (D P : Value) (s : St) (block bit : Int) (mask : Nat) (w : World) (h : Ref w g D P s) (hm : mask < 4294967296) :
    Calls Tryd.prog 31 #[.pointer (some ⟨g, 0, none⟩), .int .i64 block, .int .i64 bit, .int .u32 (mask : Int)] w (RRot g D P s block bit mask w) := by
  obtain ⟨q0, q1, q2, q3, q4, q5⟩ := h.cells
  have lo := h.ok.lo
  have hi := h.ok.hi
  by_cases h1 : block < 0
  · have HN : Hid (¬ rotOk s block bit mask) := Lib.hid (fun hr => by have := hr.1.1; omega)
    clear h
    go_enter Tryd.func31, Tryd.ntmps31
    go_wp2
    go_ret
    exact rrot_no HN.out
  · by_cases h2 : (s.blocks : Int) ≤ block
    · have HN : Hid (¬ rotOk s block bit mask) := Lib.hid (fun hr => by have := hr.1.2; omega)
      clear h
      go_enter Tryd.func31, Tryd.ntmps31
      go_wp2
      go_ret
      exact rrot_no HN.out
    · by_cases h3 : bit < 0
      · have HN : Hid (¬ rotOk s block bit mask) := Lib.hid (fun hr => by have := hr.2.1; omega)
        clear h
        go_enter Tryd.func31, Tryd.ntmps31
        go_wp2
        go_ret
        exact rrot_no HN.out
      · by_cases h4 : 8 * (s.size : Int) ≤ bit
        · have HN : Hid (¬ rotOk s block bit mask) := Lib.hid (fun hr => by
            obtain ⟨t, ht⟩ : ∃ t, mask.testBit t = true := ⟨_, ((lowest_of 32 mask hr.2.2.1 hm).1).1⟩
            have := hr.2.2.2 t ht
            omega)
          clear h
          go_enter Tryd.func31, Tryd.ntmps31
          go_wp2
          go_ret
          exact rrot_no HN.out
        · by_cases h5 : mask = 0
          · have HN : Hid (¬ rotOk s block bit mask) := Lib.hid (fun hr => hr.2.2.1 h5)
            subst h5
            clear h
            go_enter Tryd.func31, Tryd.ntmps31
            go_wp2
            go_ret
            exact rrot_no HN.out
          · have e5 : ((mask : Int) == 0) = false := beq_eq_false_iff_ne.2 (by omega)
            obtain ⟨p, rfl⟩ := Int.eq_ofNat_of_zero_le (show 0 ≤ block by omega)
            obtain ⟨q, rfl⟩ := Int.eq_ofNat_of_zero_le (show 0 ≤ bit by omega)
            have hpb : p < s.blocks := by omega
            have HH := Lib.hid h
            have H5 := Lib.hid h5
            have HM := Lib.hid hm
            clear h h5
            go_enter Tryd.func31, Tryd.ntmps31
            go_wp2
            go_loop [9] (fun iv => ∃ k : Nat, k ≤ 32 ∧ iv = .int .i64 (k : Int) ∧ Hid (∀ j, j < k → mask.testBit j = true → q + j < 8 * s.size)) (fun iv => 32 - (intOf iv).toNat)
            case atStart => exact ⟨0, Nat.zero_le _, rfl, fun j hj => by omega⟩
            case round =>
              obtain ⟨k, hk, rfl, HR⟩ := hrel
              by_cases hlt : k < 32
              · have hem := Crc.mask_rem mask k
                have HB : Hid (mask.testBit k = decide (mask / 2 ^ k % 2 = 1)) := Lib.hid (Nat.testBit_eq_decide_div_mod_eq)
                by_cases hb : mask / 2 ^ k % 2 = 1
                · have e2 : (((mask / 2 ^ k % 2 : Nat) : Int) == 1) = true := by rw [hb]; rfl
                  have hbt : mask.testBit k = true := by rw [HB.out, hb]; rfl
                  have HBT := Lib.hid hbt
                  clear hb HB hbt
                  generalize mask / 2 ^ k % 2 = z at hem e2
                  by_cases hr : 8 * s.size ≤ q + k
                  · have HN : Hid (¬ rotOk s (p : Int) (q : Int) mask) := Lib.hid (fun hr2 => by have := hr2.2.2.2 k HBT.out; omega)
                    go_wp2
                    go_ret
                    exact rrot_no HN.out
                  · have HR2 : Hid (∀ j, j < k + 1 → mask.testBit j = true → q + j < 8 * s.size) := Lib.hid (fun j hj ht => by
                      by_cases e : j = k
                      · subst e; omega
                      · exact HR.out j (by omega) ht)
                    go_wp2
                    go_round
                    case rel => exact ⟨k + 1, by omega, by go_num, HR2⟩
                    case measure => simp [intOf]; omega
                · have hbt : mask.testBit k = false := by rw [HB.out]; exact decide_eq_false hb
                  have HR2 : Hid (∀ j, j < k + 1 → mask.testBit j = true → q + j < 8 * s.size) := Lib.hid (fun j hj ht => by
                    by_cases e : j = k
                    · subst e; rw [hbt] at ht; cases ht
                    · exact HR.out j (by omega) ht)
                  clear HB hbt
                  generalize mask / 2 ^ k % 2 = z at hem hb
                  have e2 : ((z : Int) == 1) = false := by simp; omega
                  clear hb
                  go_wp2
                  go_round
                  case rel => exact ⟨k + 1, by omega, by go_num, HR2⟩
                  case measure => simp [intOf]; omega
              · obtain rfl : k = 32 := by omega
                have HOK : Hid (rotOk s (p : Int) (q : Int) mask) := Lib.hid ⟨by unfold St.hasB; omega, by omega, H5.out, fun i hi => by
                  have h6 : i < 32 := bit_lt mask 32 i HM.out hi
                  have := HR.out i h6 hi
                  omega⟩
                have hdl := HH.out.ok.dlen
                obtain ⟨da, dc, rfl, _, _, _, _⟩ := own_form HH.out.dur
                obtain ⟨db, rfl⟩ := own_some HH.out.dur (by omega)
                have hgd := getD_mem HH.out.ok.dblk (b := p) (by omega)
                have o0 : w.cell? ⟨db, p, none⟩ = some (.string (strOfNums (s.dur.getD p []))) := by
                  have := HH.out.dur.cells (g := db) rfl p _ (srow_at _ p (by omega))
                  rwa [Addr.add_lit, Nat.zero_add] at this
                have fo := HH.out.dur.frozenAt p
                have hdl : db < w.heap.size := World.block_lt_of_cell? _ _ o0
                obtain ⟨cap, W2, hrun, hreg, ht2, hc1, hc2⟩ := conv_bytes (s.dur.getD p []) hgd.2 (by rw [hgd.1]; omega) w.drew
                have HFL := Lib.hid (Crc.rflip_any (some ⟨w.drew.heap.size, 0, none⟩) s.size cap (s.dur.getD p []) (q : Int) 32 mask W2 (by have := hreg.seg hc1 hc2; rw [hgd.1] at this; exact this) hgd.2 (by omega) (by omega))
                rw [hgd.1] at hrun
                rw [show w.drew.heap.size = w.heap.size from rfl] at hrun HFL
                obtain ⟨T0, hT0⟩ : ∃ T0, T0 = strOfNums (s.dur.getD p []) := ⟨_, rfl⟩
                rw [← hT0] at o0 hrun
                obtain ⟨nl, hnl⟩ : ∃ nl, nl = Crc.flip (s.dur.getD p []) (q : Int) 32 mask := ⟨_, rfl⟩
                have hnll : nl.length = s.size := by rw [hnl, Crc.flip_length]; exact hgd.1
                have hnlb : IsB nl := by rw [hnl]; exact Crc.flip_isB _ _ _ _ hgd.2
                rw [← hnl] at HFL
                have HRO : Hid (s.rot (p : Int) (q : Int) mask = { s with dur := s.dur.set p nl }) := Lib.hid (by unfold St.rot; rw [Int.toNat_natCast, hnl])
                have HNL := Lib.hid hnll
                have HNB := Lib.hid hnlb
                have HT2 : Hid (Turn w W2 nowhere) := Lib.hid ((Turn.drew w nowhere).trans ht2 (fun _ _ h => h))
                have r0 := HT2.out.cell o0 id
                have r2 := HT2.out.cell q2 id
                have p0 : (0 : Int) ≤ (p : Int) := by omega
                have p1 : (p : Int) < (s.blocks : Int) := by omega
                clear hgd hreg ht2 hT0 hnl hnll hnlb h1 h2 h3 h4
                go_wp2_with fail
                go_region_with
                  (first
                    | (go_at_call 38
                       (with_reducible refine HFL.out.mono ?_)
                       rintro e w3 ⟨gf, cf, rfl, hown3, hgrow3⟩
                       have HT3 : Hid (Turn w w3 nowhere) := Lib.hid (HT2.out.trans (Turn.of_grown (S := nowhere) hgrow3 (fun i e _ => by cases e)) (fun _ _ h => h))
                       have s0 := HT3.out.cell o0 id
                       have s2 := HT3.out.cell q2 id
                       have hcv3 := conv_any gf 0 s.size cf nl w3 (Reg.own hown3) HNL.out
                       have fo3 : w3.frozen? ⟨db, p, none⟩ = false := (HT3.out.frozen (p := ⟨db, p, none⟩) hdl id).trans fo
                       clear hown3 hgrow3)
                    | fail)
                all_goals
                  go_wp2
                  go_ret
                  exact rrot_yes HRO.out HOK.out (HH.out.turn HT3.out (fun _ _ => id)) HT3.out HNL.out HNB.out
end Go.Proofs.YtjhcjnalomdbnaaDoor.Dv
