/-
  Put: the document's.
-/
import Derived.Test.YtfojkglindpjjaaDoorFrAny
import Derived.Test.YtfojkglindpjjaaDoorRef1
import Derived.Test.YtfojkglindpjjaaDoorAppZ
namespace Go.Proofs.YtfojkglindpjjaaDoor.Fr
open Go.RowKit Bs Dv
open Oct (putB putB_length)
open Crc (crc crc_lt)

theorem body_out (n : Nat) (t g : Int) (d : List Int) : [t, 0] ++ putB 2 d.length ++ putB 8 g ++ d ++ List.replicate (n - 16 - d.length) 0 = body n t g d := by simp [body, List.append_assoc]

theorem strCells_nums (d : List Int) (h : Bs.IsB d) : Lib.strCells (strOfNums d) = d.map (Value.int .u8) := str_data d h

set_option maxRecDepth 100000 in
set_option maxHeartbeats 2000000 in
theorem rput_yes (n : Nat) (t g : Int) (d : List Int) (w : World) (ht : 0 ≤ t ∧ t < 256) (hgn : 0 ≤ g ∧ g < 18446744073709551616) (hd : Bs.IsB d) (hn : Fits n) (hl : d.length + 16 ≤ n) :
    Calls Tryd.prog 14 #[.int .i64 n, .agg #[.int .u8 t, .int .u64 g, .string (strOfNums d)]] w fun e w' => e = strE (blk n t g d, 0) ∧ w.grownBy w' none := by
  obtain ⟨i0, hi, hz0, hz1, hz2⟩ := info_parts info_u8
  have hb := heap_alloc_new w (.cells #[.int .u8 t, .int .u64 g, .string (strOfNums d)] 41)
  have hsz : (strOfNums d).size = d.length := strOfNums_size d
  have T0 := Lib.hid (Turn.alloc w (.cells #[.int .u8 t, .int .u64 g, .string (strOfNums d)] 41) nowhere)
  have HB := Lib.hid hb
  have HR := Lib.hid (show room n = (n : Int) - 16 from if_pos hn)
  unfold Fits at hn
  clear hb
  go_enter Tryd.func14, Tryd.ntmps14
  go_wp2_with fail
  refine (rroom_any n _).mono ?_
  rintro e w1 ⟨rfl, hg1⟩
  have t1 := Turn.of_grown hg1 (S := nowhere) (fun i e => by cases e)
  have B1 := Lib.hid (block_turn HB.out t1 id)
  have T1 := Lib.hid (T0.out.trans t1 (fun _ _ e => e))
  clear hg1 t1 T0
  obtain ⟨c0, c1, c2⟩ := fm_cells B1.out
  rw [HR.out]
  generalize w.alloc (.cells #[.int .u8 t, .int .u64 g, .string (strOfNums d)] 41) = w0 at *
  have Z1 := Lib.hid (show w.heap.size < w1.heap.size from block_lt B1.out)
  obtain ⟨p, hp⟩ : ∃ p, p = w.heap.size := ⟨_, rfl⟩
  rw [← hp] at c0 c1 c2 B1 Z1 ⊢
  have HPP := Lib.hid hp
  clear hp HB
  have HRM := Lib.hid (fun W => rroom_any n W)
  rw [HR.out] at HRM
  have hl' : ¬ ((n : Int) - 16 < (d.length : Int)) := by omega
  go_wp2_with fail
  go_region_held3 (fun w' => w'.cell? ⟨p, 2, none⟩ = some (.string (strOfNums d))) (go_keep)
    (first
      | (go_at_call 26
         (with_reducible refine (HRM.out _).mono ?_)
         rintro e w3 ⟨rfl, hg3⟩
         have t3 := (Turn.drew w1 nowhere).trans (Turn.of_grown hg3 (S := nowhere) (fun i e => by cases e)) (fun _ _ e => e)
         have e2 := t3.cell (p := ⟨p, 2, none⟩) (by exact c2) id)
      | fail)
  have B3 := Lib.hid (block_turn B1.out t3 id)
  have T3 := Lib.hid (T1.out.trans t3 (fun _ _ e => e))
  have Z3 := Lib.hid (block_lt B3.out)
  clear hg3 t3 e2 c0 c1 c2 B1 T1 Z1
  obtain ⟨c0, c1, c2⟩ := fm_cells B3.out
  have X := Z3.out
  go_wp2_with fail
  have hown := World.ownsRow_lit (base := w3.heap.size) (e := 5) (size := 1) w3 (([t, 0] : List Int).map (Value.int .u8)).toArray 2 (Nat.le_refl _) (by unfold maxLen; omega) (by simp)
  have e : (([t, 0] : List Int).map (Value.int .u8)).toArray.toList = ([t, 0] : List Int).map (Value.int .u8) := by simp
  rw [e] at hown
  have hd4 : d.length ≤ 4096 := by omega
  have O4 := Lib.hid hown
  have D4 := Lib.hid ((Below.refl w3.heap.size w3).alloc (Nat.le_refl _) (.cells #[.int .u8 t, .int .u8 0] 5))
  have HDD := Lib.hid hd
  clear hown e c0 c1 c2 hl' hd
  refine (Ref1.rput_any w3.heap.size _ 2 [t, 0] (d.length : Int) 2 _ O4.out D4.out.size (by omega) (by omega) (by omega) (by omega) (by omega)).mono ?_
  rintro e w5 ⟨g5, cc5, rfl, hown, hbb⟩
  simp only [Nat.reduceAdd] at hown ⊢
  have O5 := Lib.hid hown
  have D5 := Lib.hid (D4.out.trans hbb)
  have B5 := Lib.hid ((D5.out.block p X).trans B3.out)
  clear hown hbb O4 D4
  obtain ⟨c0, c1, c2⟩ := fm_cells B5.out
  try dsimp only
  go_wp2_with fail
  refine (Ref1.rput_any w3.heap.size _ 4 _ g 8 _ O5.out D5.out.size hgn.1 hgn.2 (by omega) (by omega) (by omega)).mono ?_
  rintro e w6 ⟨g6, cc6, rfl, hown, hbb⟩
  simp only [Nat.reduceAdd] at hown ⊢
  have O6 := Lib.hid hown
  have D6 := Lib.hid (D5.out.trans hbb)
  have B6 := Lib.hid ((D6.out.block p X).trans B3.out)
  clear hown hbb O5 D5 B5 c0 c1 c2
  obtain ⟨c0, c1, c2⟩ := fm_cells B6.out
  have HS := Lib.hid hsz
  have HK := Lib.hid (show (n : Int) - 4 - (12 + (d.length : Int)) = ((n - 16 - d.length : Nat) : Int) from by omega)
  have HZB : Hid (12 + d.length + (n - 16 - d.length) = n - 4) := Lib.hid (by omega)
  try dsimp only
  go_wp2_with (first
    | (at_builtin; refine Lib.wpList_append_own_string _ rfl (.tmp 29) (.tmp 31) 48 9 rfl w3.heap.size 5 i0 Tryd.underlying48 Tryd.underlying9 hi hz0 hz1 hz2 _ 12 _ rfl O6.out (strOfNums d) rfl (by rw [HS.out]; unfold maxLen; omega) (by rw [HS.out]; omega) D6.out.size ?_; intro v7 w7 hown hg7 _; rw [HS.out, strCells_nums d HDD.out, ← List.map_append] at hown; obtain ⟨g7, cc7, rfl⟩ := Go.Joins.ownsRow_form hown (by omega); have O7 := Lib.hid hown; have D7 := Lib.hid (D6.out.grown hg7 D6.out.size (fun i e => (O6.out.lt i e).1)); clear hown hg7)
    | (at_builtin; refine wpList_append_zeros rfl (.tmp 33) (.tmp 38) rfl w3.heap.size g7 (12 + d.length) cc7 _ rfl O7.out (n - 16 - d.length) (by rw [← HK.out]; rfl) (by omega) D7.out.size ?_; intro g8 cc8 w8 hown hg8; rw [HZB.out, body_out] at hown; have O8 := Lib.hid hown; have D8 := Lib.hid (D7.out.grown hg8 D7.out.size (fun i e => (O7.out.lt i e).1)); clear hown hg8)
    | fail)
  rw [HZB.out]
  have hbB := body_isB n t g d ht HDD.out
  have hbl := body_length n t g d hl
  obtain ⟨C, hC⟩ : ∃ C, C = crc (body n t g d) := ⟨_, rfl⟩
  have hC4 : C < 4294967296 := by rw [hC]; exact crc_lt _ hbB
  have HC := Lib.hid hC
  have HBL := Lib.hid (blk_length n t g d hl)
  clear hC hbl O7 D7
  refine (Crc.rof_any _ (n - 4) cc8 (body n t g d) w8 (Seg.own O8.out) hbB).mono ?_
  rintro e w9 ⟨rfl, hg9⟩
  rw [← HC.out]
  have O9 := Lib.hid (O8.out.kept hg9 (.inr (by simp [Value.ownBlock])))
  have D9 := Lib.hid (D8.out.grown hg9 D8.out.size (fun i e => by cases e))
  clear hg9 hbB O8 D8
  try dsimp only
  go_wp2_with fail
  refine (Ref1.rput_any w3.heap.size _ (n - 4) _ (C : Int) 4 _ O9.out D9.out.size (by omega) (by omega) (by omega) (by omega) (by omega)).mono ?_
  rintro e wa ⟨ga, cca, rfl, hown, hbb⟩
  have D10 := Lib.hid (D9.out.trans hbb)
  have hcv := conv_any ga 0 (n - 4 + 4) cca (blk n t g d) wa (Reg.own (by rw [HC.out] at hown; exact hown)) (by rw [HBL.out]; omega)
  have HF : Hid (w.grownBy wa none) := Lib.hid ⟨D10.out.os.trans T3.out.os, D10.out.tape.trans T3.out.tape, D10.out.output.trans T3.out.output, Nat.le_trans T3.out.size D10.out.size, fun i hi _ => (D10.out.block i (Nat.lt_of_lt_of_le hi T3.out.size)).trans (T3.out.block i hi id)⟩
  clear hown hbb O9 D9
  try dsimp only
  go_wp2
  go_ret2
  exact ⟨rfl, HF.out⟩

set_option maxHeartbeats 1000000 in
theorem rput_no (n t g : Int) (d : List Int) (w : World) (hn : ¬ Fits n ∨ (Fits n ∧ n - 16 < d.length)) :
    Calls Tryd.prog 14 #[.int .i64 n, .agg #[.int .u8 t, .int .u64 g, .string (strOfNums d)]] w fun e w' => e = strE (putF n (t, g, d)) ∧ w.grownBy w' none := by
  have hg := World.grownBy_alloc w (.cells #[.int .u8 t, .int .u64 g, .string (strOfNums d)] 41) none
  have hb := heap_alloc_new w (.cells #[.int .u8 t, .int .u64 g, .string (strOfNums d)] 41)
  have hsz : (strOfNums d).size = d.length := strOfNums_size d
  have HG := Lib.hid hg
  have HB := Lib.hid hb
  clear hg hb
  rcases hn with hn | ⟨hn, hl⟩
  · have HE : Hid (strE (putF n (t, g, d)) = strE ([], 2)) := Lib.hid (by unfold putF; rw [if_pos hn])
    have HR := Lib.hid (show room n = 0 from if_neg hn)
    clear hn
    go_enter Tryd.func14, Tryd.ntmps14
    go_wp2_with fail
    refine (rroom_any n _).mono ?_
    rintro e w1 ⟨rfl, hg1⟩
    have HG1 := Lib.hid (grownBy_trans HG.out hg1 (fun _ e => by cases e))
    clear hg1
    rw [HR.out]
    go_wp2
    go_ret2
    exact ⟨HE.out.symm, HG1.out⟩
  · have HE : Hid (strE (putF n (t, g, d)) = strE ([], 3)) := Lib.hid (by unfold putF; rw [if_neg (by simpa using hn), if_pos hl])
    have HR := Lib.hid (show room n = n - 16 from if_pos hn)
    unfold Fits at hn
    go_enter Tryd.func14, Tryd.ntmps14
    go_wp2_with fail
    refine (rroom_any n _).mono ?_
    rintro e w1 ⟨rfl, hg1⟩
    have b1 := block_turn HB.out (Turn.of_grown hg1 (S := nowhere) (fun i e => by cases e)) id
    obtain ⟨c0, c1, c2⟩ := fm_cells b1
    have HG1 := Lib.hid (grownBy_trans HG.out hg1 (fun _ e => by cases e))
    clear hg1 b1
    have HRM := Lib.hid (fun W => rroom_any n W)
    rw [HR.out] at HRM ⊢
    generalize w.alloc (.cells #[.int .u8 t, .int .u64 g, .string (strOfNums d)] 41) = w0 at *
    go_wp2_with fail
    go_region_held3 (fun w' => w'.cell? ⟨w.heap.size, 2, none⟩ = some (.string (strOfNums d))) (go_keep)
      (first
        | (go_at_call 26
           (with_reducible refine (HRM.out _).mono ?_)
           rintro e w3 ⟨rfl, hg3⟩
           have t3 := (Turn.drew w1 nowhere).trans (Turn.of_grown hg3 (S := nowhere) (fun i e => by cases e)) (fun _ _ e => e)
           have e2 := t3.cell (p := ⟨w.heap.size, 2, none⟩) (by exact c2) id)
        | fail)
    have HG3 := Lib.hid (grownBy_trans HG1.out t3.grown (fun _ e => by cases e))
    clear hg3 t3 e2 c0 c1 c2
    go_wp2
    go_ret2
    exact ⟨HE.out.symm, HG3.out⟩

theorem rput_any (n : Int) (f : Fm) (w : World) (hf : FmOk f) :
    Calls Tryd.prog 14 #[.int .i64 n, .agg #[.int .u8 f.1, .int .u64 f.2.1, .string (strOfNums f.2.2)]] w fun e w' => e = strE (putF n f) ∧ w.grownBy w' none := by
  by_cases h1 : Fits n
  · by_cases h2 : n - 16 < f.2.2.length
    · exact rput_no n f.1 f.2.1 f.2.2 w (.inr ⟨h1, h2⟩)
    · have hn : ((n.toNat : Nat) : Int) = n := by unfold Fits at h1; omega
      have h := rput_yes n.toNat f.1 f.2.1 f.2.2 w hf.1 hf.2.1 hf.2.2 (by rw [hn]; exact h1) (by omega)
      rw [hn] at h
      refine h.mono fun e w' ⟨a, b⟩ => ⟨?_, b⟩
      rw [a]
      unfold putF
      rw [if_neg (by simpa using h1), if_neg h2]
  · exact rput_no n f.1 f.2.1 f.2.2 w (.inl h1)
end Go.Proofs.YtfojkglindpjjaaDoor.Fr
