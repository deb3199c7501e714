/-
  read: the parts of a block whose check is right.
-/
import Derived.Test.YtfojkglindpjjaaDoorFrFm
import Derived.Deep.RegionWith
namespace Go.Proofs.YtfojkglindpjjaaDoor.Fr
open Go.RowKit Bs Dv
open Oct (putB ofB putB_length putB_isB ofB_putB ofB_bound)
open Crc (crc num flip crc_lt burst_good flip_length flip_isB)

def readF (b : List Int) : Fm × Int := if ¬ Shape b then (none3, 4) else ((b.getD 0 0, gen b, dat b), 0)

/-- A part of a region, as a slice. -/
theorem part_seg {w : World} {g : Nat} {B : List Int} (h : Reg w g 0 B) (o m c : Nat) (ho : o + m ≤ B.length) (hm : m ≤ c) (hc : c ≤ 100000) : Seg w (some ⟨g, o, none⟩) m c ((B.drop o).take m) := by
  have hl : ((B.drop o).take m).length = m := by rw [List.length_take, List.length_drop]; omega
  have := ((h.sub o).take m).seg (c := c) (by omega) (by unfold maxLen; omega)
  rwa [hl] at this

theorem zero_one (B : List Int) (h : 2 ≤ B.length) : zB ((B.drop 1).take 1) = decide (B.getD 1 0 = 0) := by
  match B, h with
  | x :: y :: r, _ => simp [zB, List.getD]; rfl

set_option maxRecDepth 100000 in
set_option maxHeartbeats 2000000 in
theorem read_any (g n : Nat) (B : List Int) (w : World) (h : Reg w g 0 B) (hB : Bs.IsB B) (hn : B.length = n) (hlo : 128 ≤ n) (hhi : n ≤ 4096) :
    Calls Tryd.prog 57 #[.agg #[.slice (some ⟨g, 0, none⟩) 1 1, .slice (some ⟨g, 1, none⟩) 1 1, .slice (some ⟨g, 2, none⟩) 2 2, .slice (some ⟨g, 4, none⟩) 8 8,
      .slice (some ⟨g, 12, none⟩) (n - 16) (n - 16), .slice (some ⟨g, 0, none⟩) (n - 4) (n - 4), .slice (some ⟨g, n - 4, none⟩) 4 4]] w fun e w' => e = fmE (readF B) ∧ w.grownBy w' none := by
  obtain ⟨k0, k1⟩ := ofB2_lt B hB
  obtain ⟨k, hk⟩ : ∃ k : Nat, cnt B = k := ⟨(cnt B).toNat, by omega⟩
  have HS := Lib.hid (show Shape B ↔ cnt B + 16 ≤ B.length ∧ B.getD 1 0 = 0 ∧ ∀ x ∈ pad B, x = 0 from Iff.rfl)
  have s2 := part_seg h 2 2 2 (by omega) (by omega) (by omega)
  have SC := Lib.hid s2
  have BC := Lib.hid (show Bs.IsB ((B.drop 2).take 2) from isB_take (isB_drop hB 2) 2)
  have HR := Lib.hid h
  have HC := Lib.hid (show ofB ((B.drop 2).take 2) = (k : Int) from hk)
  have HK := Lib.hid hk
  rw [hk] at k1
  clear s2 h hk k0
  go_enter Tryd.func57, Tryd.ntmps57
  go_wp2_with fail
  have p1 := heap_alloc2_old w (.cells #[.slice (some ⟨g, 0, none⟩) 1 1, .slice (some ⟨g, 1, none⟩) 1 1, .slice (some ⟨g, 2, none⟩) 2 2, .slice (some ⟨g, 4, none⟩) 8 8, .slice (some ⟨g, 12, none⟩) (n - 16) (n - 16), .slice (some ⟨g, 0, none⟩) (n - 4) (n - 4), .slice (some ⟨g, n - 4, none⟩) 4 4] 83) (.cells #[.int .u8 0, .int .u64 0, .string ⟨#[]⟩] 41)
  have p2 := heap_alloc2_new w (.cells #[.slice (some ⟨g, 0, none⟩) 1 1, .slice (some ⟨g, 1, none⟩) 1 1, .slice (some ⟨g, 2, none⟩) 2 2, .slice (some ⟨g, 4, none⟩) 8 8, .slice (some ⟨g, 12, none⟩) (n - 16) (n - 16), .slice (some ⟨g, 0, none⟩) (n - 4) (n - 4), .slice (some ⟨g, n - 4, none⟩) 4 4] 83) (.cells #[.int .u8 0, .int .u64 0, .string ⟨#[]⟩] 41)
  have t2 := (Turn.alloc w (.cells #[.slice (some ⟨g, 0, none⟩) 1 1, .slice (some ⟨g, 1, none⟩) 1 1, .slice (some ⟨g, 2, none⟩) 2 2, .slice (some ⟨g, 4, none⟩) 8 8, .slice (some ⟨g, 12, none⟩) (n - 16) (n - 16), .slice (some ⟨g, 0, none⟩) (n - 4) (n - 4), .slice (some ⟨g, n - 4, none⟩) 4 4] 83) nowhere).trans (Turn.alloc _ (.cells #[.int .u8 0, .int .u64 0, .string ⟨#[]⟩] 41) nowhere) (fun _ _ e => e)
  have gl := HR.out.lt (fun e => by rw [e] at hn; simp at hn; omega)
  generalize (w.alloc (.cells #[.slice (some ⟨g, 0, none⟩) 1 1, .slice (some ⟨g, 1, none⟩) 1 1, .slice (some ⟨g, 2, none⟩) 2 2, .slice (some ⟨g, 4, none⟩) 8 8, .slice (some ⟨g, 12, none⟩) (n - 16) (n - 16), .slice (some ⟨g, 0, none⟩) (n - 4) (n - 4), .slice (some ⟨g, n - 4, none⟩) 4 4] 83)).alloc (.cells #[.int .u8 0, .int .u64 0, .string ⟨#[]⟩] 41) = W at *
  obtain ⟨r0, r1, r2, r3, r4, r5, r6⟩ := parts_cells (b := g) (n := n) p1
  have HOF : Hid (∀ m, Calls Tryd.prog 56 #[.slice (some ⟨g, 2, none⟩) 2 2] (W.drewN m) fun e w' => e = .returned (.int .u64 k) ∧ w' = W.drewN m) := Lib.hid (fun m => by
    have h := Oct.of_any g 2 2 2 _ (W.drewN m) ((SC.out.grown t2.grown).grown ⟨rfl, rfl, rfl, Nat.le_refl _, fun _ _ _ => rfl⟩) BC.out (by omega)
    rw [HC.out] at h
    exact h.mono fun e w' ⟨a, b⟩ => ⟨a, b.symm⟩)
  have P1 := Lib.hid p1
  have P2 := Lib.hid p2
  have T2 := Lib.hid t2
  clear p1 p2 t2
  go_quiet ((go_at_call 56; exact Calls.quiet_of_same (HOF.out _)))
  have td := Turn.drewN W nq nowhere
  have p1 := block_turn P1.out td id
  have P2 := Lib.hid (block_turn P2.out td id)
  have T2 := Lib.hid (T2.out.trans td (fun _ _ e => e))
  have RW := Lib.hid (HR.out.turn T2.out id)
  clear HOF P1 td r0 r1 r2 r3 r4 r5 r6
  generalize W.drewN nq = X at *
  obtain ⟨r0, r1, r2, r3, r4, r5, r6⟩ := parts_cells (b := g) (n := n) p1
  have P1 := Lib.hid p1
  have hp : w.heap.size + 1 ≠ w.heap.size := by omega
  have HGR : Hid (∀ X', Turn X X' (· = w.heap.size + 1) → w.grownBy X' none) := Lib.hid (fun X' h => by
    have := T2.out
    exact ⟨h.os.trans this.os, h.tape.trans this.tape, h.output.trans this.output, Nat.le_trans this.size h.size, fun i hi _ => (h.block i (Nat.lt_of_lt_of_le hi this.size) (fun e => by have : i = w.heap.size + 1 := e; omega)).trans (this.block i hi id)⟩)
  clear p1
  by_cases c1 : k + 16 ≤ n
  · have c1' : ¬ ((n - 16 : Nat) : Int) < (k : Int) := by omega
    have HZ := Lib.hid (isZero_any _ 1 1 _ X (part_seg RW.out 1 1 1 (by omega) (by omega) (by omega)))
    rw [zero_one B (by omega)] at HZ
    by_cases c2 : B.getD 1 0 = 0
    · rw [decide_eq_true c2] at HZ
      have HC2 := Lib.hid c2
      clear c2
      have hpl : pad B = (B.drop (12 + k)).take (n - 16 - k) := by unfold pad; rw [HK.out, Int.toNat_natCast, hn]
      have hdl : dat B = (B.drop 12).take k := by unfold dat; rw [HK.out, Int.toNat_natCast]
      have RD := Lib.hid (show Reg X g 12 (dat B) from by rw [hdl]; exact (RW.out.sub 12).take k)
      have LD := Lib.hid (show (dat B).length = k from by rw [hdl, List.length_take, List.length_drop]; omega)
      have HG8 := Lib.hid (Oct.of_any g 4 8 8 _ X.drew ((part_seg RW.out 4 8 8 (by omega) (by omega) (by omega)).grown ⟨rfl, rfl, rfl, Nat.le_refl _, fun _ _ _ => rfl⟩) (isB_take (isB_drop hB 4) 8) (by omega))
      rw [show ofB ((B.drop 4).take 8) = gen B from rfl] at HG8
      obtain ⟨gv, hgv⟩ : ∃ gv, gv = gen B := ⟨_, rfl⟩
      rw [← hgv] at HG8
      have HGV := Lib.hid hgv
      have hg8 := gen_lt B hB (by omega)
      rw [← hgv] at hg8
      clear hgv hdl
      have HP := Lib.hid (isZero_any _ (n - 16 - k) (n - 16 - k) _ X (part_seg RW.out (12 + k) (n - 16 - k) (n - 16 - k) (by omega) (Nat.le_refl _) (by omega)))
      rw [← hpl] at HP
      have HPL := Lib.hid hpl
      clear hpl
      have HGN : Hid (¬ g = w.heap.size + 1) := Lib.hid (by omega)
      have HPN : Hid (¬ w.heap.size = w.heap.size + 1) := Lib.hid (by omega)
      have hk16 : (k : Int) ≤ ((n - 16 : Nat) : Int) := by omega
      go_wp2_with fail
      refine HZ.out.mono ?_
      rintro e w' ⟨rfl, rfl⟩
      by_cases hcap : k = n - 16
      · have HP0 : Hid (pad B = []) := Lib.hid (by rw [HPL.out, hcap, Nat.sub_self, List.take_zero])
        have HY : Hid (∀ x ∈ pad B, x = 0) := Lib.hid (fun x hx => by rw [HP0.out] at hx; cases hx)
        go_wp2_with fail
        refine (isZero_any (some ⟨g, 12, none⟩) 0 0 [] X (Seg.empty X _ 0 (by unfold maxLen; omega))).mono ?_
        rintro e w' ⟨rfl, rfl⟩
        rw [show zB [] = true from rfl]
        have HCV : Hid (∀ W', Turn X W' (· = w.heap.size + 1) → (convert 48 9 (.slice (some ⟨g, 12, none⟩) (n - 16) (n - 16))).run Tryd.prog W' = .ok (.string (strOfNums (dat B))) W') := Lib.hid (fun W' h => conv_any g 12 (n - 16) (n - 16) (dat B) W' (RD.out.turn h HGN.out) (by rw [LD.out, hcap]))
        have HF : Hid (fmE (readF B) = fmE ((B.getD 0 0, gen B, dat B), 0)) := Lib.hid (by unfold readF; rw [if_neg (fun e => e (HS.out.2 ⟨by rw [HK.out]; omega, HC2.out, HY.out⟩))])
        obtain ⟨T, hT⟩ : ∃ T, T = strOfNums (dat B) := ⟨_, rfl⟩
        rw [← hT] at HCV
        have c0 := (RW.out.at_ 0 (by omega)).1
        obtain ⟨x, hx⟩ : ∃ x, x = B.getD 0 0 := ⟨_, rfl⟩
        rw [← hx] at c0
        have HF : Hid (Ending.returned (.tuple #[.agg #[.int .u8 x, .int .u64 gv, .string T], .int .i64 0]) = fmE (readF B)) := Lib.hid (by rw [HF.out, hx, hT, HGV.out]; rfl)
        have hcv := HCV.out X.drew (Turn.drew X _)
        obtain ⟨q0, q1, q2⟩ := fm_cells P2.out
        have hf : ∀ i, X.frozen? ⟨w.heap.size + 1, i, none⟩ = false := fun i => by simp [World.frozen?, P2.out]
        have f0 := hf 0
        have f1 := hf 1
        have f2 := hf 2
        clear hT hx hf
        go_wp2_with fail
        have ht3 := turn_fm3 X (w.heap.size + 1) (.int .u8 x) (.int .u64 gv) (.string T)
        have H3 := Lib.hid (show (((X.setCell ⟨w.heap.size + 1, 0, none⟩ (.int .u8 x)).setCell ⟨w.heap.size + 1, 1, none⟩ (.int .u64 gv)).setCell ⟨w.heap.size + 1, 2, none⟩ (.string T)).drew.heap[w.heap.size + 1]? = some (.cells #[.int .u8 x, .int .u64 gv, .string T] 41 (0, 0)) from heap_fm3 P2.out)
        have HG3 := Lib.hid (HGR.out (((X.setCell ⟨w.heap.size + 1, 0, none⟩ (.int .u8 x)).setCell ⟨w.heap.size + 1, 1, none⟩ (.int .u64 gv)).setCell ⟨w.heap.size + 1, 2, none⟩ (.string T)).drew (ht3.trans (Turn.drew _ _) (fun _ _ e => e)))
        have hcv3 := HCV.out (((X.setCell ⟨w.heap.size + 1, 0, none⟩ (.int .u8 x)).setCell ⟨w.heap.size + 1, 1, none⟩ (.int .u64 gv)).setCell ⟨w.heap.size + 1, 2, none⟩ (.string T)).drew (ht3.trans (Turn.drew _ _) (fun _ _ e => e))
        have hgn : ¬ g = w.heap.size + 1 := HGN.out
        have hgn2 : ¬ w.heap.size + 1 = g := fun e => hgn e.symm
        clear ht3
        go_region_held3 (fun w' => w'.cell? ⟨w.heap.size, 0, none⟩ = some (.slice (some ⟨g, 0, none⟩) 1 1) ∧ w'.cell? ⟨w.heap.size, 3, none⟩ = some (.slice (some ⟨g, 4, none⟩) 8 8) ∧ w'.cell? ⟨g, 0, none⟩ = some (.int .u8 x) ∧ (convert 48 9 (.slice (some ⟨g, 12, none⟩) (n - 16) (n - 16))).run Tryd.prog w' = .ok (.string T) w') (go_keep)
          (first
            | (go_at_call 56
               (with_reducible refine (HG8.out).mono ?_)
               rintro e w' ⟨rfl, rfl⟩)
            | fail)
        clear hcv hcv3 q0 q1 q2 f0 f1 f2 r0 r1 r2 r3 r4 r5 r6 c0
        generalize (((X.setCell ⟨w.heap.size + 1, 0, none⟩ (.int .u8 x)).setCell ⟨w.heap.size + 1, 1, none⟩ (.int .u64 gv)).setCell ⟨w.heap.size + 1, 2, none⟩ (.string T)).drew = X3 at *
        go_wp2
        refine bodyPost_ret (run_results_fm rfl _ _ _ _ _ _ rfl H3.out (.int .i64 0) rfl) rfl ⟨HF.out, HG3.out⟩
      have hcap' : ¬ ((n - 16 : Nat) : Int) = (k : Int) := by omega
      by_cases c3 : ∀ x ∈ pad B, x = 0
      · have HY := Lib.hid c3
        have hz := zB_yes c3
        clear c3
        go_wp2_with fail
        refine HP.out.mono ?_
        rintro e w' ⟨rfl, rfl⟩
        rw [hz]
        clear hz
        have HCV : Hid (∀ W', Turn X W' (· = w.heap.size + 1) → (convert 48 9 (.slice (some ⟨g, 12, none⟩) k k)).run Tryd.prog W' = .ok (.string (strOfNums (dat B))) W') := Lib.hid (fun W' h => conv_any g 12 k k (dat B) W' (RD.out.turn h HGN.out) LD.out)
        have HF : Hid (fmE (readF B) = fmE ((B.getD 0 0, gen B, dat B), 0)) := Lib.hid (by unfold readF; rw [if_neg (fun e => e (HS.out.2 ⟨by rw [HK.out]; omega, HC2.out, HY.out⟩))])
        obtain ⟨T, hT⟩ : ∃ T, T = strOfNums (dat B) := ⟨_, rfl⟩
        rw [← hT] at HCV
        have c0 := (RW.out.at_ 0 (by omega)).1
        obtain ⟨x, hx⟩ : ∃ x, x = B.getD 0 0 := ⟨_, rfl⟩
        rw [← hx] at c0
        have HF : Hid (Ending.returned (.tuple #[.agg #[.int .u8 x, .int .u64 gv, .string T], .int .i64 0]) = fmE (readF B)) := Lib.hid (by rw [HF.out, hx, hT, HGV.out]; rfl)
        have hcv := HCV.out X.drew (Turn.drew X _)
        obtain ⟨q0, q1, q2⟩ := fm_cells P2.out
        have hf : ∀ i, X.frozen? ⟨w.heap.size + 1, i, none⟩ = false := fun i => by simp [World.frozen?, P2.out]
        have f0 := hf 0
        have f1 := hf 1
        have f2 := hf 2
        clear hT hx hf
        go_wp2_with fail
        have ht3 := turn_fm3 X (w.heap.size + 1) (.int .u8 x) (.int .u64 gv) (.string T)
        have H3 := Lib.hid (show (((X.setCell ⟨w.heap.size + 1, 0, none⟩ (.int .u8 x)).setCell ⟨w.heap.size + 1, 1, none⟩ (.int .u64 gv)).setCell ⟨w.heap.size + 1, 2, none⟩ (.string T)).drew.heap[w.heap.size + 1]? = some (.cells #[.int .u8 x, .int .u64 gv, .string T] 41 (0, 0)) from heap_fm3 P2.out)
        have HG3 := Lib.hid (HGR.out (((X.setCell ⟨w.heap.size + 1, 0, none⟩ (.int .u8 x)).setCell ⟨w.heap.size + 1, 1, none⟩ (.int .u64 gv)).setCell ⟨w.heap.size + 1, 2, none⟩ (.string T)).drew (ht3.trans (Turn.drew _ _) (fun _ _ e => e)))
        have hcv3 := HCV.out (((X.setCell ⟨w.heap.size + 1, 0, none⟩ (.int .u8 x)).setCell ⟨w.heap.size + 1, 1, none⟩ (.int .u64 gv)).setCell ⟨w.heap.size + 1, 2, none⟩ (.string T)).drew (ht3.trans (Turn.drew _ _) (fun _ _ e => e))
        have hgn : ¬ g = w.heap.size + 1 := HGN.out
        have hgn2 : ¬ w.heap.size + 1 = g := fun e => hgn e.symm
        clear ht3
        go_region_held3 (fun w' => w'.cell? ⟨w.heap.size, 0, none⟩ = some (.slice (some ⟨g, 0, none⟩) 1 1) ∧ w'.cell? ⟨w.heap.size, 3, none⟩ = some (.slice (some ⟨g, 4, none⟩) 8 8) ∧ w'.cell? ⟨g, 0, none⟩ = some (.int .u8 x) ∧ (convert 48 9 (.slice (some ⟨g, 12, none⟩) k k)).run Tryd.prog w' = .ok (.string T) w') (go_keep)
          (first
            | (go_at_call 56
               (with_reducible refine (HG8.out).mono ?_)
               rintro e w' ⟨rfl, rfl⟩)
            | fail)
        clear hcv hcv3 q0 q1 q2 f0 f1 f2 r0 r1 r2 r3 r4 r5 r6 c0
        generalize (((X.setCell ⟨w.heap.size + 1, 0, none⟩ (.int .u8 x)).setCell ⟨w.heap.size + 1, 1, none⟩ (.int .u64 gv)).setCell ⟨w.heap.size + 1, 2, none⟩ (.string T)).drew = X3 at *
        go_wp2
        refine bodyPost_ret (run_results_fm rfl _ _ _ _ _ _ rfl H3.out (.int .i64 0) rfl) rfl ⟨HF.out, HG3.out⟩
      · have hz : zB (pad B) = false := Bool.eq_false_iff.2 fun e => c3 (fun x hx => by simpa using List.all_eq_true.1 e x hx)
        have HF : Hid (fmE (readF B) = fmE (none3, 4)) := Lib.hid (by unfold readF; rw [if_pos (fun e => c3 (HS.out.1 e).2.2)])
        clear c3
        go_wp2_with fail
        refine HP.out.mono ?_
        rintro e w' ⟨rfl, rfl⟩
        rw [hz]
        clear hz
        go_wp2_with (first
          | (with_reducible refine wpList_store_fm rfl (.tmp 2) (.tmp 33) rfl (w.heap.size + 1) rfl none3 rfl _ _ _ P2.out ?_; intro X2 hx2 ht2)
          | fail)
        refine bodyPost_ret (run_results_fm rfl _ _ _ _ _ _ rfl hx2 (.int .i64 4) rfl) rfl ⟨HF.out.symm, HGR.out _ ht2⟩
    · have HF : Hid (fmE (readF B) = fmE (none3, 4)) := Lib.hid (by unfold readF; rw [if_pos (fun e => c2 (HS.out.1 e).2.1)])
      rw [decide_eq_false c2] at HZ
      clear c2
      go_wp2_with (first
        | (go_at_call 65; with_reducible refine HZ.out.mono ?_; rintro e w' ⟨rfl, rfl⟩)
        | (with_reducible refine wpList_store_fm rfl (.tmp 2) (.tmp 33) rfl (w.heap.size + 1) rfl none3 rfl _ _ _ P2.out ?_; intro X2 hx2 ht2)
        | fail)
      refine bodyPost_ret (run_results_fm rfl _ _ _ _ _ _ rfl hx2 (.int .i64 4) rfl) rfl ⟨HF.out.symm, HGR.out _ ht2⟩
  · have HF : Hid (fmE (readF B) = fmE (none3, 4)) := Lib.hid (by unfold readF; rw [if_pos (fun e => by have := (HS.out.1 e).1; rw [HK.out] at this; omega)])
    have c2 : ((n - 16 : Nat) : Int) < (k : Int) := by omega
    go_wp2_with (first
      | (with_reducible refine wpList_store_fm rfl (.tmp 2) (.tmp 33) rfl (w.heap.size + 1) rfl none3 rfl _ _ _ P2.out ?_; intro X2 hx2 ht2)
      | fail)
    refine bodyPost_ret (run_results_fm rfl _ _ _ _ _ _ rfl hx2 (.int .i64 4) rfl) rfl ⟨HF.out.symm, HGR.out _ ht2⟩
end Go.Proofs.YtfojkglindpjjaaDoor.Fr
