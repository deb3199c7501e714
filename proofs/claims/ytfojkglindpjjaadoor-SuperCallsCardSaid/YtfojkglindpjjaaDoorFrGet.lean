/-
  Get: the program's.
-/
import Derived.Test.YtfojkglindpjjaaDoorFrRead
namespace Go.Proofs.YtfojkglindpjjaaDoor.Fr
open Go.RowKit Bs Dv
open Oct (putB ofB putB_length putB_isB ofB_putB ofB_bound)
open Crc (crc num flip crc_lt burst_good flip_length flip_isB)

theorem get_read {b : List Int} (h : Fits b.length) (hg : Good b) : getF b = readF b := by
  unfold getF readF
  rw [if_neg (by simpa using h), if_neg (by simpa using hg)]

theorem wrap64u (C : Nat) (h : C < 4294967296) : IntKind.u64.wrap (C : Int) = (C : Int) := by
  have e : IntKind.u64.wrap (C : Int) = (C : Int) % 18446744073709551616 := by simp [IntKind.wrap, IntKind.bits, IntKind.signed]
  rw [e]; omega

set_option maxRecDepth 100000 in
set_option maxHeartbeats 2000000 in
theorem get_any (B : List Int) (w : World) (hB : Bs.IsB B) (hlen : B.length ≤ 1000000) :
    Calls Tryd.prog 41 #[.string (strOfNums B)] w fun e w' => e = fmE (getF B) ∧ w.grownBy w' none := by
  have hsz : (strOfNums B).size = B.length := strOfNums_size B
  have p0 := heap_alloc_new w (.cells #[.int .u8 0, .int .u64 0, .string ⟨#[]⟩] 41)
  have t0 := Turn.alloc w (.cells #[.int .u8 0, .int .u64 0, .string ⟨#[]⟩] 41) nowhere
  have P0 := Lib.hid p0
  have T0 := Lib.hid t0
  clear p0 t0
  by_cases hn : Fits B.length
  · obtain ⟨n, hnn⟩ : ∃ n, n = B.length := ⟨_, rfl⟩
    rw [← hnn] at hsz hn hlen
    have HL := Lib.hid hnn
    have HR := Lib.hid (show room (n : Int) = (n : Int) - 16 from if_pos hn)
    have HFT := Lib.hid hn
    unfold Fits at hn
    have HB := Lib.hid hB
    clear hnn hB
    go_enter Tryd.func41, Tryd.ntmps41
    go_wp2_with fail
    refine (room_any n _).mono ?_
    rintro e w1 ⟨rfl, hg1⟩
    have t1 := Turn.of_grown hg1 (S := nowhere) (fun i e => by cases e)
    have P1 := Lib.hid (block_turn P0.out t1 id)
    have T1 := Lib.hid (T0.out.trans t1 (fun _ _ e => e))
    have Z1 := Lib.hid (block_lt P1.out)
    rw [HR.out]
    clear hg1 t1 P0 T0
    obtain ⟨cap, w2, hrun, hreg, ht2, hc1, hc2⟩ := conv_bytes B HB.out (by rw [← HL.out]; omega) w1
    rw [← HL.out] at hrun hc1
    go_wp2_with fail
    obtain ⟨b, hb⟩ : ∃ b, b = w1.heap.size := ⟨_, rfl⟩
    rw [← hb] at hreg Z1 ⊢
    clear hrun hb
    have R2 := Lib.hid hreg
    have T2 := Lib.hid (T1.out.trans ht2 (fun _ _ e => e))
    have P2 := Lib.hid (block_turn P1.out ht2 id)
    clear hreg ht2 T1 P1 hc2
    refine (cut_any b n cap w2 (by omega) hc1 (by omega)).mono ?_
    rintro e w3 ⟨rfl, hg3⟩
    have t3 := Turn.of_grown hg3 (S := nowhere) (fun i e => by cases e)
    have R3 := R2.out.turn t3 id
    have T3 := T2.out.trans t3 (fun _ _ e => e)
    have P3 := block_turn P2.out t3 id
    clear hg3 t3 R2 T2 P2 hc1
    simp only [partsV]
    go_wp2_with fail
    have q4 := heap_alloc_new w3 (.cells #[.slice (some ⟨b, 0, none⟩) 1 1, .slice (some ⟨b, 1, none⟩) 1 1, .slice (some ⟨b, 2, none⟩) 2 2, .slice (some ⟨b, 4, none⟩) 8 8, .slice (some ⟨b, 12, none⟩) (n - 16) (n - 16), .slice (some ⟨b, 0, none⟩) (n - 4) (n - 4), .slice (some ⟨b, n - 4, none⟩) 4 4] 83)
    have t4 := Turn.alloc w3 (.cells #[.slice (some ⟨b, 0, none⟩) 1 1, .slice (some ⟨b, 1, none⟩) 1 1, .slice (some ⟨b, 2, none⟩) 2 2, .slice (some ⟨b, 4, none⟩) 8 8, .slice (some ⟨b, 12, none⟩) (n - 16) (n - 16), .slice (some ⟨b, 0, none⟩) (n - 4) (n - 4), .slice (some ⟨b, n - 4, none⟩) 4 4] 83) nowhere
    have R4 := Lib.hid (R3.turn t4 id)
    have T4 := Lib.hid (T3.trans t4 (fun _ _ e => e))
    have P4 := Lib.hid (block_turn P3 t4 id)
    clear R3 T3 P3 t4
    obtain ⟨q, hq⟩ : ∃ q, q = w3.heap.size := ⟨_, rfl⟩
    rw [← hq] at q4 ⊢
    clear hq
    generalize w3.alloc (.cells #[.slice (some ⟨b, 0, none⟩) 1 1, .slice (some ⟨b, 1, none⟩) 1 1, .slice (some ⟨b, 2, none⟩) 2 2, .slice (some ⟨b, 4, none⟩) 8 8, .slice (some ⟨b, 12, none⟩) (n - 16) (n - 16), .slice (some ⟨b, 0, none⟩) (n - 4) (n - 4), .slice (some ⟨b, n - 4, none⟩) 4 4] 83) = X at *
    obtain ⟨r0, r1, r2, r3, r4, r5, r6⟩ := parts_cells (b := b) (n := n) q4
    have Q4 := Lib.hid q4
    clear q4 r0 r1 r2 r3 r4
    obtain ⟨C, hC⟩ : ∃ C, C = crc (B.take (n - 4)) := ⟨_, rfl⟩
    obtain ⟨O, hO⟩ : ∃ O, O = ofB (B.drop (n - 4)) := ⟨_, rfl⟩
    have hC4 : C < 4294967296 := by rw [hC]; exact crc_lt _ (isB_take HB.out _)
    have hGood : Good B ↔ (C : Int) = O := by
      unfold Good
      rw [← HL.out, hC, hO, ← num_ofB _ (isB_drop HB.out _)]
      omega
    have HC := Lib.hid hC
    have HO := Lib.hid hO
    have HGD := Lib.hid hGood
    have SO := Lib.hid (show Seg X.drew (some ⟨b, n - 4, none⟩) 4 4 (B.drop (n - 4)) from by
      have h := part_seg (R4.out.turn (Turn.drew X nowhere) id) (n - 4) 4 4 (by rw [← HL.out]; omega) (Nat.le_refl _) (by omega)
      rwa [List.take_of_length_le (by rw [List.length_drop, ← HL.out]; omega)] at h)
    have SC := Lib.hid (show Seg X.drew (some ⟨b, 0, none⟩) (n - 4) (n - 4) (B.take (n - 4)) from by
      have h := part_seg (R4.out.turn (Turn.drew X nowhere) id) 0 (n - 4) (n - 4) (by rw [← HL.out]; omega) (Nat.le_refl _) (by omega)
      rwa [List.drop_zero] at h)
    have BO : Hid (Oct.IsB (B.drop (n - 4))) := Lib.hid (isB_drop HB.out _)
    have BC : Hid (Bs.IsB (B.take (n - 4))) := Lib.hid (isB_take HB.out _)
    have hW := wrap64u C hC4
    clear hC hO hGood hC4
    by_cases hg : Good B
    · have e1 : (O != IntKind.u64.wrap (C : Int)) = false := by rw [hW, HGD.out.1 hg]; exact bne_self_eq_false _
      have HF : Hid (fmE (getF B) = fmE (readF B)) := Lib.hid (by rw [get_read (by rw [← HL.out]; exact HFT.out) hg])
      clear hg hW
      go_region_held3 (fun w' => w'.cell? ⟨q, 5, none⟩ = some (.slice (some ⟨b, 0, none⟩) (n - 4) (n - 4)) ∧ w'.cell? ⟨q, 6, none⟩ = some (.slice (some ⟨b, n - 4, none⟩) 4 4)) (go_keep)
        (first
          | (go_at_call 56
             (with_reducible refine (Oct.of_any _ _ _ _ (B.drop (n - 4)) _ SO.out BO.out (by omega)).mono ?_)
             rintro e w' ⟨rfl, rfl⟩
             rw [← HO.out])
          | (go_at_call 52
             (with_reducible refine (Crc.of_any _ _ _ (B.take (n - 4)) _ SC.out BC.out).mono ?_)
             rintro e w8 ⟨rfl, hg8⟩
             rw [← HC.out]
             have T8 := Lib.hid ((Turn.drew X nowhere).trans (Turn.of_grown hg8 (S := nowhere) (fun i e => by cases e)) (fun _ _ e => e))
             have e5 := T8.out.cell (p := ⟨q, 5, none⟩) r5 id
             have e6 := T8.out.cell (p := ⟨q, 6, none⟩) r6 id
             clear hg8)
          | fail)
      have Q8 := Lib.hid (block_turn Q4.out T8.out id)
      have P8 := Lib.hid (block_turn P4.out T8.out id)
      have T8' := Lib.hid (T4.out.trans T8.out (fun _ _ e => e))
      have HGR : Hid (∀ X2, Turn w8 X2 (· = w.heap.size) → w.grownBy X2 none) := Lib.hid (fun X2 h => ⟨h.os.trans T8'.out.os, h.tape.trans T8'.out.tape, h.output.trans T8'.out.output, Nat.le_trans T8'.out.size h.size, fun i hi _ => (h.block i (Nat.lt_of_lt_of_le hi T8'.out.size) (fun e => by have : i = w.heap.size := e; omega)).trans (T8'.out.block i hi id)⟩)
      have R8 := Lib.hid (R4.out.turn T8.out id)
      clear e5 e6 r5 r6
      obtain ⟨r0, r1, r2, r3, r4, r5, r6⟩ := parts_cells (b := b) (n := n) Q8.out
      go_wp2_with fail
      refine (read_any b n B w8 R8.out HB.out HL.out.symm (by omega) (by omega)).mono ?_
      rintro e w9 ⟨rfl, hg9⟩
      have t9 := Turn.of_grown hg9 (S := nowhere) (fun i e => by cases e)
      have P9 := Lib.hid (block_turn P8.out t9 id)
      have HG9 : Hid (∀ X2, Turn w9 X2 (· = w.heap.size) → w.grownBy X2 none) := Lib.hid (fun X2 h => HGR.out X2 ((t9.mono (S' := (· = w.heap.size)) (fun _ _ e => e.elim)).trans h (fun _ _ e => e)))
      clear hg9 t9 r0 r1 r2 r3 r4 r5 r6
      simp only [fmE, fmV]
      go_wp2_with (first
        | (with_reducible refine wpList_store_fm rfl (.tmp 2) (.tmp 24) rfl w.heap.size rfl (readF B).1 rfl _ _ _ P9.out ?_; intro X2 hx2 ht2)
        | fail)
      refine bodyPost_ret (run_results_fm rfl _ _ _ _ _ _ rfl hx2 (.int .i64 (readF B).2) rfl) rfl ⟨HF.out.symm, HG9.out _ ht2⟩
    · have e1 : (O != IntKind.u64.wrap (C : Int)) = true := by rw [hW]; exact bne_iff_ne.2 (fun e => hg (HGD.out.2 e.symm))
      have HF : Hid (fmE (getF B) = fmE (none3, 10)) := Lib.hid (by unfold getF; rw [if_neg (by rw [← HL.out]; simpa using HFT.out), if_pos hg])
      clear hg hW
      go_region_held3 (fun w' => w'.cell? ⟨q, 5, none⟩ = some (.slice (some ⟨b, 0, none⟩) (n - 4) (n - 4)) ∧ w'.cell? ⟨q, 6, none⟩ = some (.slice (some ⟨b, n - 4, none⟩) 4 4)) (go_keep)
        (first
          | (go_at_call 56
             (with_reducible refine (Oct.of_any _ _ _ _ (B.drop (n - 4)) _ SO.out BO.out (by omega)).mono ?_)
             rintro e w' ⟨rfl, rfl⟩
             rw [← HO.out])
          | (go_at_call 52
             (with_reducible refine (Crc.of_any _ _ _ (B.take (n - 4)) _ SC.out BC.out).mono ?_)
             rintro e w8 ⟨rfl, hg8⟩
             rw [← HC.out]
             have T8 := Lib.hid ((Turn.drew X nowhere).trans (Turn.of_grown hg8 (S := nowhere) (fun i e => by cases e)) (fun _ _ e => e))
             have e5 := T8.out.cell (p := ⟨q, 5, none⟩) r5 id
             have e6 := T8.out.cell (p := ⟨q, 6, none⟩) r6 id
             clear hg8)
          | fail)
      have Q8 := Lib.hid (block_turn Q4.out T8.out id)
      have P8 := Lib.hid (block_turn P4.out T8.out id)
      have T8' := Lib.hid (T4.out.trans T8.out (fun _ _ e => e))
      have HGR : Hid (∀ X2, Turn w8 X2 (· = w.heap.size) → w.grownBy X2 none) := Lib.hid (fun X2 h => ⟨h.os.trans T8'.out.os, h.tape.trans T8'.out.tape, h.output.trans T8'.out.output, Nat.le_trans T8'.out.size h.size, fun i hi _ => (h.block i (Nat.lt_of_lt_of_le hi T8'.out.size) (fun e => by have : i = w.heap.size := e; omega)).trans (T8'.out.block i hi id)⟩)
      have R8 := Lib.hid (R4.out.turn T8.out id)
      clear e5 e6 r5 r6
      clear Q8 R8
      go_wp2_with (first
        | (with_reducible refine wpList_store_fm rfl (.tmp 2) (.tmp 21) rfl w.heap.size rfl none3 rfl _ _ _ P8.out ?_; intro X2 hx2 ht2)
        | fail)
      refine bodyPost_ret (run_results_fm rfl _ _ _ _ _ _ rfl hx2 (.int .i64 10) rfl) rfl ⟨HF.out.symm, HGR.out _ ht2⟩
  · have HR := Lib.hid (show room (B.length : Int) = 0 from if_neg hn)
    have HF : Hid (fmE (getF B) = fmE (none3, 2)) := Lib.hid (by unfold getF; rw [if_pos hn])
    clear hn
    go_enter Tryd.func41, Tryd.ntmps41
    go_wp2_with fail
    refine (room_any B.length _).mono ?_
    rintro e w1 ⟨rfl, hg1⟩
    have t1 := Turn.of_grown hg1 (S := nowhere) (fun i e => by cases e)
    have P1 := Lib.hid (block_turn P0.out t1 id)
    have T1 := Lib.hid (T0.out.trans t1 (fun _ _ e => e))
    rw [HR.out]
    clear hg1 t1
    go_wp2_with (first
      | (with_reducible refine wpList_store_fm rfl (.tmp 2) (.tmp 9) rfl w.heap.size rfl none3 rfl _ _ _ P1.out ?_; intro X2 hx2 ht2)
      | fail)
    have HG : Hid (w.grownBy X2 none) := ⟨ht2.os.trans T1.out.os, ht2.tape.trans T1.out.tape, ht2.output.trans T1.out.output, Nat.le_trans T1.out.size ht2.size, fun i hi _ => (ht2.block i (Nat.lt_of_lt_of_le hi T1.out.size) (fun e => by have : i = w.heap.size := e; omega)).trans (T1.out.block i hi id)⟩
    refine bodyPost_ret (run_results_fm rfl _ _ _ _ _ _ rfl hx2 (.int .i64 2) rfl) rfl ⟨HF.out.symm, HG.out⟩
end Go.Proofs.YtfojkglindpjjaaDoor.Fr
