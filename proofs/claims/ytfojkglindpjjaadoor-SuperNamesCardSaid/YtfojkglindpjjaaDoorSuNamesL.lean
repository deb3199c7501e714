/-
  SuperNames: the chapter's examples.
-/
import Derived.Test.YtfojkglindpjjaaDoorSuLaw
import Derived.Test.YtfojkglindpjjaaDoorFrRPut
import Derived.Test.YtfojkglindpjjaaDoorSuRead
import Derived.Test.YtfojkglindpjjaaDoorSuEx
namespace Go.Proofs.YtfojkglindpjjaaDoor.Su
open Go.RowKit Bs Dv Gr Dr
open Fr (getF kindF none3 strE putF FmOk blk block_turn)

theorem ok_of {g size blocks r : Int} {l : List Int} (h1 : 0 ≤ g ∧ g < 18446744073709551616) (h2 : 0 ≤ r ∧ r < 4294967296) (h3 : ∀ p ∈ l, 0 ≤ p ∧ p < 4294967296) : SupOk ⟨g, size, blocks, r, l⟩ := ⟨h1, h2, h3⟩
theorem k9_ok : FmOk (9, 0, []) := ⟨by decide, by decide, fun x hx => by cases hx⟩
theorem k9_put : putF 128 (9, 0, []) = (blk 128 9 0 [], 0) := by
  unfold putF
  rw [if_neg (by decide), if_neg (by decide)]
  rfl
theorem k9_get : getS (blk 128 9 0 []) = (zeroS, 11) := by
  have h := Fr.get_blk 128 (9, 0, []) (by decide) k9_ok (by decide)
  have h2 : kindF (blk 128 9 0 []) 1 = (none3, 11) := by rw [Fr.kind_get _ 1 (9, 0, []) h, if_neg (by decide)]
  unfold getS
  rw [h2, if_pos (by decide)]
def sh : List Int := [115, 104, 111, 114, 116]
theorem sh_ok : FmOk (1, 1, sh) := ⟨by decide, by decide, isB_of _ (by decide)⟩
theorem sh_put : putF 128 (1, 1, sh) = (blk 128 1 1 sh, 0) := by
  unfold putF
  rw [if_neg (by decide), if_neg (by decide)]
  rfl
theorem sh_get : getS (blk 128 1 1 sh) = (zeroS, 4) := by
  have h := Fr.get_blk 128 (1, 1, sh) (by decide) sh_ok (by decide)
  have h2 : kindF (blk 128 1 1 sh) 1 = ((1, 1, sh), 0) := by rw [Fr.kind_get _ 1 (1, 1, sh) h, if_pos rfl]
  unfold getS
  rw [h2, if_neg (by decide), if_pos (by decide)]
theorem k9_isB : Bs.IsB (blk 128 9 0 []) := Fr.blk_isB _ _ _ _ (by decide) (fun x hx => by cases hx)
theorem sh_isB : Bs.IsB (blk 128 1 1 sh) := Fr.blk_isB _ _ _ _ (by decide) (isB_of _ (by decide))
theorem k9_len : (blk 128 9 0 []).length = 128 := Fr.blk_length _ _ _ _ (by decide)
theorem sh_len : (blk 128 1 1 sh).length = 128 := Fr.blk_length _ _ _ _ (by decide)
/-- pages 2 .. -/
def upL (k : Nat) : List Int := (List.range k).map fun (j : Nat) => (2 + (j : Int) : Int)
theorem upL_succ (k : Nat) : upL (k + 1) = upL k ++ [2 + (k : Int)] := by unfold upL; rw [List.range_succ, List.map_append]; rfl
theorem upL_ok (k : Nat) (hk : k ≤ 1000) : ∀ p ∈ upL k, 0 ≤ p ∧ p < 4294967296 := fun p hp => by
  unfold upL at hp
  obtain ⟨j, hj, rfl⟩ := List.mem_map.1 hp
  have := List.mem_range.1 hj
  omega
theorem two_ok : ∀ p ∈ ([2] : List Int), 0 ≤ p ∧ p < 4294967296 := fun p hp => by have := List.mem_singleton.1 hp; omega

/-- the slots that the last line fills, in its order -/
def S19 : List Nat := [98, 99, 100, 101, 102, 103, 104, 105, 106, 107, 108, 109, 110, 111, 112, 113, 114, 115, 116, 117, 118, 119, 120, 121, 122, 123, 124, 125, 126, 127, 128, 129, 130, 131, 132, 133, 134, 135, 136, 137, 138, 139, 140, 141, 142, 143, 144, 145, 146, 147, 148, 149, 150, 151, 152, 153, 154, 155, 156, 157, 158, 159, 160, 161, 162, 163, 164, 165, 166, 167, 168, 169, 170, 171, 172, 173, 174, 175, 176, 177, 178, 179, 180, 181, 182, 183, 184, 185, 186, 187, 188, 189, 190, 191, 192, 193, 194, 0]
theorem s19_nodup : S19.Nodup := by decide +kernel
/-- what they bear -/
def V19 (q1 : Value) (q11 : Value) (q12 : Value) (q13 : Value) (q14 : Value) (q15 : Value) (q16 : Value) (h7 : Nat) (g : Nat) : List Value := [.int .i64 0, .bool true, .bool true, .agg #[.int .u64 9, .int .i64 128, .int .i64 8, .int .u32 7, q1], .agg #[.int .u64 9, .int .i64 128, .int .i64 8, .int .u32 7, .slice (some ⟨g, 0, none⟩) 1 1], .bool true, .bool true, .bool true, .int .i64 10, .bool true, .bool true, .bool true, .int .i64 (-1), .bool true, .bool true, .bool true, .int .i64 0, .bool true, .bool true, .bool true, .int .i64 0, .bool true, .bool true, .bool true, .pointer (some ⟨h7, 3, none⟩), .int .u32 3, .bool true, .bool true, .bool true, .int .i64 10, .bool true, .bool true, .bool true, .agg #[.int .u64 1, .int .i64 128, .int .i64 8, .int .u32 0, q11], .int .i64 2, .bool true, .bool true, .bool true, .agg #[.int .u64 1, .int .i64 128, .int .i64 8, .int .u32 0, q12], .int .i64 2, .bool true, .bool true, .bool true, .agg #[.int .u64 1, .int .i64 128, .int .i64 8, .int .u32 8, q13], .int .i64 2, .bool true, .bool true, .bool true, .agg #[.int .u64 1, .int .i64 128, .int .i64 8, .int .u32 2, q14], .int .i64 2, .bool true, .bool true, .bool true, .agg #[.int .u64 0, .int .i64 128, .int .i64 8, .int .u32 0, q15], .int .i64 2, .bool true, .bool true, .bool true, .agg #[.int .u64 1, .int .i64 128, .int .i64 1400, .int .u32 0, q16], .int .i64 3, .bool true, .bool true, .bool true, .int .i64 11, .bool true, .bool true, .bool true, .int .i64 4, .bool true, .bool true, .bool true, .int .i64 1, .bool true, .bool true, .bool true, .int .i64 0, .bool true, .bool true, .bool true, .int .i64 0, .bool true, .bool true, .bool true, .agg #[.int .i64 128, .int .i64 8], .int .i64 1, .bool true, .bool true, .bool true, .agg #[.int .i64 128, .int .i64 57], .int .i64 2, .bool true, .bool true, .bool true, .agg #[.int .i64 0, .int .i64 0], .int .i64 0, .bool true, .bool true, .bool true]
theorem v19_but (q1 : Value) (q11 : Value) (q12 : Value) (q13 : Value) (q14 : Value) (q15 : Value) (q16 : Value) (h7 : Nat) (g j : Nat) (hj : j ≠ 4) : (V19 q1 q11 q12 q13 q14 q15 q16 h7 g).getD j undef = (V19 q1 q11 q12 q13 q14 q15 q16 h7 0).getD j undef := by
  match j, hj with
  | 0, _ => rfl
  | 1, _ => rfl
  | 2, _ => rfl
  | 3, _ => rfl
  | j + 5, _ => rfl

set_option maxRecDepth 100000 in
set_option maxHeartbeats 8000000 in
theorem names_any (w : World) (hT : T4 w) : Calls Tryd.prog 3 #[] w fun e w' => e = .returned (.bool true) ∧ w.grownBy w' none := by
  obtain ⟨i0, hi, hz0, hz1, hz2⟩ := info_parts Ws.info_u32
  have HT := Lib.hid hT
  have HLV := Lib.hid (lives_any w hT)
  have HSM := Lib.hid (fun gen root W => small_any gen root W)
  have HPA := Lib.hid (fun a n c W (hs : Ws.Seg W a n c [2]) hT => put_law ⟨9, 128, 8, 7, [2]⟩ a n c W hs (ok_of (by decide) (by decide) two_ok) hT)
  have HPB := Lib.hid (fun a n c W (hs : Ws.Seg W a n c [2]) hT => put_law ⟨4, 128, 8, 3, [2]⟩ a n c W hs (ok_of (by decide) (by decide) two_ok) hT)
  have HPC := Lib.hid (fun a n c W (hs : Ws.Seg W a n c [2]) hT => put_law ⟨4, 128, 8, 5, [2]⟩ a n c W hs (ok_of (by decide) (by decide) two_ok) hT)
  have gA := get_put (s := ⟨9, 128, 8, 7, [2]⟩) (by decide +kernel) (ok_of (by decide) (by decide) two_ok)
  have gB := get_put (s := ⟨4, 128, 8, 3, [2]⟩) (by decide +kernel) (ok_of (by decide) (by decide) two_ok)
  have gC := get_put (s := ⟨4, 128, 8, 5, [2]⟩) (by decide +kernel) (ok_of (by decide) (by decide) two_ok)
  have HN := Lib.hid nought_any
  obtain ⟨LA, hLA⟩ : ∃ L, (putS ⟨9, 128, 8, 7, [2]⟩).1 = L := ⟨_, rfl⟩
  have bA : Bs.IsB LA := by rw [← hLA]; exact put_isB
  have nA : LA.length ≤ 1000000 := by rw [← hLA]; exact Nat.le_trans (put_short _) (by decide)
  rw [hLA] at HPA gA
  obtain ⟨LB, hLB⟩ : ∃ L, (putS ⟨4, 128, 8, 3, [2]⟩).1 = L := ⟨_, rfl⟩
  have bB : Bs.IsB LB := by rw [← hLB]; exact put_isB
  have nB : LB.length ≤ 1000000 := by rw [← hLB]; exact Nat.le_trans (put_short _) (by decide)
  rw [hLB] at HPB gB
  obtain ⟨LC, hLC⟩ : ∃ L, (putS ⟨4, 128, 8, 5, [2]⟩).1 = L := ⟨_, rfl⟩
  have bC : Bs.IsB LC := by rw [← hLC]; exact put_isB
  have nC : LC.length ≤ 1000000 := by rw [← hLC]; exact Nat.le_trans (put_short _) (by decide)
  rw [hLC] at HPC gC
  have zB := rep_isB 128 0 (by decide)
  have zN : (rep 128 0).length ≤ 1000000 := by rw [rep_len]; decide
  have HG1 := Lib.hid (fun W (hT : T4 W) => get_any LA W bA nA hT)
  rw [gA] at HG1
  have HC1 := Lib.hid (fun W (hT : T4 W) => choose_any (rep 128 0) (rep 128 0) W zB zB zN zN hT)
  rw [choose_none (by rw [nought_get]; decide) (by rw [nought_get]; decide)] at HC1
  have HC2 := Lib.hid (fun W (hT : T4 W) => choose_any LB LC W bB bC nB nC hT)
  rw [choose_first gB (fun _ => by rw [gC]; decide)] at HC2
  have HG2 := Lib.hid (fun W (hT : T4 W) => get_any (rep 128 0) W zB zN hT)
  rw [nought_get] at HG2
  have HG3 := Lib.hid (fun W (hT : T4 W) => get_any (blk 128 9 0 []) W k9_isB (by rw [k9_len]; decide) hT)
  rw [k9_get] at HG3
  have HG4 := Lib.hid (fun W (hT : T4 W) => get_any (blk 128 1 1 sh) W sh_isB (by rw [sh_len]; decide) hT)
  rw [sh_get] at HG4
  have HF3 := Lib.hid (fun W => Fr.rput_any 128 (9, 0, []) W k9_ok)
  rw [k9_put] at HF3
  have HF4 := Lib.hid (fun W => Fr.rput_any 128 (1, 1, sh) W sh_ok)
  rw [sh_put] at HF4
  unfold strE at HF3 HF4
  unfold GotX at HG1 HG2 HG3 HG4
  unfold ChoseX at HC1 HC2
  dsimp only [zeroS] at HG1 HG2 HG3 HG4 HC1 HC2 HF3 HF4 HPA HPB HPC
  rw [show strOfNums [] = (⟨#[]⟩ : ByteArray) from rfl] at HF3
  rw [show strOfNums sh = (⟨#[115, 104, 111, 114, 116]⟩ : ByteArray) from by decide +kernel] at HF4
  obtain ⟨TA, hTA⟩ : ∃ S, strOfNums LA = S := ⟨_, rfl⟩
  rw [hTA] at HPA HG1
  obtain ⟨TB, hTB⟩ : ∃ S, strOfNums LB = S := ⟨_, rfl⟩
  rw [hTB] at HPB HC2
  obtain ⟨TC, hTC⟩ : ∃ S, strOfNums LC = S := ⟨_, rfl⟩
  rw [hTC] at HPC HC2
  obtain ⟨T0, hT0⟩ : ∃ S, strOfNums (rep 128 0) = S := ⟨_, rfl⟩
  rw [hT0] at HN HC1 HG2
  obtain ⟨TK, hTK⟩ : ∃ S, strOfNums (blk 128 9 0 []) = S := ⟨_, rfl⟩
  rw [hTK] at HF3 HG3
  obtain ⟨TM, hTM⟩ : ∃ S, strOfNums (blk 128 1 1 sh) = S := ⟨_, rfl⟩
  rw [hTM] at HF4 HG4
  clear gA gB gC bA bB bC nA nB nC zB zN hT hLA hLB hLC hTA hTB hTC hT0 hTK hTM
  go_enter Tryd.func3, Tryd.ntmps3
  go_wp2_with fail
  refine HLV.out.mono ?_
  rintro e w1 ⟨rfl, hg⟩
  have G1 := Lib.hid hg
  clear hg HLV
  dsimp only
  go_wp2_with fail
  refine (HSM.out 9 7 _).mono ?_
  rintro e w2 ⟨s2, rfl, hs, -, hg⟩
  have G2 := Lib.hid (grown_then G1.out hg)
  clear G1
  have P2_2 := Lib.hid (hs)
  clear hg hs
  dsimp only
  go_wp2_with fail
  refine (HPA.out _ _ _ _ P2_2.out (HT.out.grown G2.out)).mono ?_
  rintro e w3 ⟨rfl, hg⟩
  have G3 := Lib.hid (grown_then G2.out hg)
  clear G2
  clear hg
  dsimp only
  go_wp2_with fail
  refine (HG1.out _ (HT.out.grown G3.out)).mono ?_
  rintro e w4 ⟨hg, p4, m4, q4, rfl, hsg, -⟩
  obtain ⟨X4, hX⟩ : ∃ X, w4.alloc (.cells #[.int .u64 (⟨9, 128, 8, 7, [2]⟩ : Sup).gen, .int .i64 (⟨9, 128, 8, 7, [2]⟩ : Sup).size, .int .i64 (⟨9, 128, 8, 7, [2]⟩ : Sup).blocks, .int .u32 (⟨9, 128, 8, 7, [2]⟩ : Sup).root, .slice p4 m4 q4] 29) = X := ⟨_, rfl⟩
  have hg2 : w4.grownBy X4 none := by rw [← hX]; exact grown_alloc _ _
  have hg3 := grown_then hg hg2
  have G4 := Lib.hid (grown_then G3.out hg3)
  clear G3
  have B1_4 := Lib.hid ((by rw [← hX]; exact SB.new w4 (⟨9, 128, 8, 7, [2]⟩) p4 m4 q4 : SB X4 w4.heap.size (⟨9, 128, 8, 7, [2]⟩) p4 m4 q4))
  have B1P_4 := Lib.hid (hsg.grown hg2)
  have HX := Lib.hid hX
  clear hg hg2 hg3 hsg hX
  dsimp only
  go_upto_region 4 with (fail)
  rw [HX.out]
  clear HX
  go_wp2_with fail
  refine (HN.out _).mono ?_
  rintro e w5 ⟨rfl, rfl⟩
  dsimp only
  go_wp2_with fail
  refine (HN.out _).mono ?_
  rintro e w5 ⟨rfl, rfl⟩
  dsimp only
  go_wp2_with fail
  refine (HC1.out _ (HT.out.grown G4.out)).mono ?_
  rintro e w5 ⟨hg, p5, m5, q5, rfl, hsg, -⟩
  obtain ⟨X5, hX⟩ : ∃ X, w5.alloc (.cells #[.int .u64 (⟨0, 0, 0, 0, []⟩ : Sup).gen, .int .i64 (⟨0, 0, 0, 0, []⟩ : Sup).size, .int .i64 (⟨0, 0, 0, 0, []⟩ : Sup).blocks, .int .u32 (⟨0, 0, 0, 0, []⟩ : Sup).root, .slice p5 m5 q5] 29) = X := ⟨_, rfl⟩
  have hg2 : w5.grownBy X5 none := by rw [← hX]; exact grown_alloc _ _
  have hg3 := grown_then hg hg2
  have G5 := Lib.hid (grown_then G4.out hg3)
  have B1_5 := Lib.hid (B1_4.out.old hg3)
  have B1P_5 := Lib.hid (B1P_4.out.grown hg3)
  clear G4 B1_4 B1P_4
  have HX := Lib.hid hX
  clear hg hg2 hg3 hsg hX
  dsimp only
  go_upto_region 5 with (fail)
  rw [HX.out]
  clear HX
  go_wp2_with fail
  refine (HSM.out 4 3 _).mono ?_
  rintro e w6 ⟨s6, rfl, hs, -, hg⟩
  have G6 := Lib.hid (grown_then G5.out hg)
  have B1_6 := Lib.hid (B1_5.out.old hg)
  have B1P_6 := Lib.hid (B1P_5.out.grown hg)
  clear G5 B1_5 B1P_5
  have P6_6 := Lib.hid (hs)
  clear hg hs
  dsimp only
  go_wp2_with fail
  refine (HPB.out _ _ _ _ P6_6.out (HT.out.grown G6.out)).mono ?_
  rintro e w7 ⟨rfl, hg⟩
  have G7 := Lib.hid (grown_then G6.out hg)
  have B1_7 := Lib.hid (B1_6.out.old hg)
  have B1P_7 := Lib.hid (B1P_6.out.grown hg)
  clear G6 B1_6 B1P_6
  clear hg
  dsimp only
  go_wp2_with fail
  refine (HSM.out 4 5 _).mono ?_
  rintro e w8 ⟨s8, rfl, hs, -, hg⟩
  have G8 := Lib.hid (grown_then G7.out hg)
  have B1_8 := Lib.hid (B1_7.out.old hg)
  have B1P_8 := Lib.hid (B1P_7.out.grown hg)
  clear G7 B1_7 B1P_7
  have P8_8 := Lib.hid (hs)
  clear hg hs
  dsimp only
  go_wp2_with fail
  refine (HPC.out _ _ _ _ P8_8.out (HT.out.grown G8.out)).mono ?_
  rintro e w9 ⟨rfl, hg⟩
  have G9 := Lib.hid (grown_then G8.out hg)
  have B1_9 := Lib.hid (B1_8.out.old hg)
  have B1P_9 := Lib.hid (B1P_8.out.grown hg)
  clear G8 B1_8 B1P_8
  clear hg
  dsimp only
  go_wp2_with fail
  refine (HC2.out _ (HT.out.grown G9.out)).mono ?_
  rintro e w10 ⟨hg, p10, m10, q10, rfl, hsg, -⟩
  obtain ⟨X10, hX⟩ : ∃ X, w10.alloc (.cells #[.int .u64 (⟨4, 128, 8, 3, [2]⟩ : Sup).gen, .int .i64 (⟨4, 128, 8, 3, [2]⟩ : Sup).size, .int .i64 (⟨4, 128, 8, 3, [2]⟩ : Sup).blocks, .int .u32 (⟨4, 128, 8, 3, [2]⟩ : Sup).root, .slice p10 m10 q10] 29) = X := ⟨_, rfl⟩
  have hg2 : w10.grownBy X10 none := by rw [← hX]; exact grown_alloc _ _
  have hg3 := grown_then hg hg2
  have G10 := Lib.hid (grown_then G9.out hg3)
  have B1_10 := Lib.hid (B1_9.out.old hg3)
  have B1P_10 := Lib.hid (B1P_9.out.grown hg3)
  clear G9 B1_9 B1P_9
  have B7_10 := Lib.hid ((by rw [← hX]; exact SB.new w10 (⟨4, 128, 8, 3, [2]⟩) p10 m10 q10 : SB X10 w10.heap.size (⟨4, 128, 8, 3, [2]⟩) p10 m10 q10))
  have B7P_10 := Lib.hid (hsg.grown hg2)
  have HX := Lib.hid hX
  clear hg hg2 hg3 hsg hX
  dsimp only
  go_upto_region 6 with (fail)
  rw [HX.out]
  clear HX
  go_wp2_with fail
  refine (HN.out _).mono ?_
  rintro e w11 ⟨rfl, rfl⟩
  dsimp only
  go_wp2_with fail
  refine (HG2.out _ (HT.out.grown G10.out)).mono ?_
  rintro e w11 ⟨hg, p11, m11, q11, rfl, hsg, -⟩
  obtain ⟨X11, hX⟩ : ∃ X, w11.alloc (.cells #[.int .u64 (⟨0, 0, 0, 0, []⟩ : Sup).gen, .int .i64 (⟨0, 0, 0, 0, []⟩ : Sup).size, .int .i64 (⟨0, 0, 0, 0, []⟩ : Sup).blocks, .int .u32 (⟨0, 0, 0, 0, []⟩ : Sup).root, .slice p11 m11 q11] 29) = X := ⟨_, rfl⟩
  have hg2 : w11.grownBy X11 none := by rw [← hX]; exact grown_alloc _ _
  have hg3 := grown_then hg hg2
  have G11 := Lib.hid (grown_then G10.out hg3)
  have B1_11 := Lib.hid (B1_10.out.old hg3)
  have B1P_11 := Lib.hid (B1P_10.out.grown hg3)
  have B7_11 := Lib.hid (B7_10.out.old hg3)
  have B7P_11 := Lib.hid (B7P_10.out.grown hg3)
  clear G10 B1_10 B1P_10 B7_10 B7P_10
  have HX := Lib.hid hX
  clear hg hg2 hg3 hsg hX
  dsimp only
  go_upto_region 7 with (fail)
  rw [HX.out]
  clear HX
  go_wp2_with fail
  refine (HSM.out 1 0 _).mono ?_
  rintro e w12 ⟨s12, rfl, hs, -, hg⟩
  have G12 := Lib.hid (grown_then G11.out hg)
  have B1_12 := Lib.hid (B1_11.out.old hg)
  have B1P_12 := Lib.hid (B1P_11.out.grown hg)
  have B7_12 := Lib.hid (B7_11.out.old hg)
  have B7P_12 := Lib.hid (B7P_11.out.grown hg)
  clear G11 B1_11 B1P_11 B7_11 B7P_11
  have P12_12 := Lib.hid (hs)
  clear hg hs
  dsimp only
  go_wp2_with fail
  refine (HSM.out 1 0 _).mono ?_
  rintro e w13 ⟨s13, rfl, hs, -, hg⟩
  have G13 := Lib.hid (grown_then G12.out hg)
  have B1_13 := Lib.hid (B1_12.out.old hg)
  have B1P_13 := Lib.hid (B1P_12.out.grown hg)
  have B7_13 := Lib.hid (B7_12.out.old hg)
  have B7P_13 := Lib.hid (B7P_12.out.grown hg)
  have P12_13 := Lib.hid (P12_12.out.grown hg)
  clear G12 B1_12 B1P_12 B7_12 B7P_12 P12_12
  have P13_13 := Lib.hid (hs)
  clear hg hs
  dsimp only
  go_wp2_with fail
  refine (HSM.out 1 8 _).mono ?_
  rintro e w14 ⟨s14, rfl, hs, -, hg⟩
  have G14 := Lib.hid (grown_then G13.out hg)
  have B1_14 := Lib.hid (B1_13.out.old hg)
  have B1P_14 := Lib.hid (B1P_13.out.grown hg)
  have B7_14 := Lib.hid (B7_13.out.old hg)
  have B7P_14 := Lib.hid (B7P_13.out.grown hg)
  have P12_14 := Lib.hid (P12_13.out.grown hg)
  have P13_14 := Lib.hid (P13_13.out.grown hg)
  clear G13 B1_13 B1P_13 B7_13 B7P_13 P12_13 P13_13
  have P14_14 := Lib.hid (hs)
  clear hg hs
  dsimp only
  go_wp2_with fail
  refine (HSM.out 1 2 _).mono ?_
  rintro e w15 ⟨s15, rfl, hs, -, hg⟩
  have G15 := Lib.hid (grown_then G14.out hg)
  have B1_15 := Lib.hid (B1_14.out.old hg)
  have B1P_15 := Lib.hid (B1P_14.out.grown hg)
  have B7_15 := Lib.hid (B7_14.out.old hg)
  have B7P_15 := Lib.hid (B7P_14.out.grown hg)
  have P12_15 := Lib.hid (P12_14.out.grown hg)
  have P13_15 := Lib.hid (P13_14.out.grown hg)
  have P14_15 := Lib.hid (P14_14.out.grown hg)
  clear G14 B1_14 B1P_14 B7_14 B7P_14 P12_14 P13_14 P14_14
  have P15_15 := Lib.hid (hs)
  clear hg hs
  dsimp only
  go_wp2_with fail
  refine (HSM.out 0 0 _).mono ?_
  rintro e w16 ⟨s16, rfl, hs, -, hg⟩
  have G16 := Lib.hid (grown_then G15.out hg)
  have B1_16 := Lib.hid (B1_15.out.old hg)
  have B1P_16 := Lib.hid (B1P_15.out.grown hg)
  have B7_16 := Lib.hid (B7_15.out.old hg)
  have B7P_16 := Lib.hid (B7P_15.out.grown hg)
  have P12_16 := Lib.hid (P12_15.out.grown hg)
  have P13_16 := Lib.hid (P13_15.out.grown hg)
  have P14_16 := Lib.hid (P14_15.out.grown hg)
  have P15_16 := Lib.hid (P15_15.out.grown hg)
  clear G15 B1_15 B1P_15 B7_15 B7P_15 P12_15 P13_15 P14_15 P15_15
  have P16_16 := Lib.hid (hs)
  clear hg hs
  dsimp only
  go_upto_region 8 with (fail)
  obtain ⟨A0, hA0⟩ : ∃ X, w16.alloc (.cells #[.int .u64 (⟨1, 128, 8, 0, [2]⟩ : Sup).gen, .int .i64 (⟨1, 128, 8, 0, [2]⟩ : Sup).size, .int .i64 (⟨1, 128, 8, 0, [2]⟩ : Sup).blocks, .int .u32 (⟨1, 128, 8, 0, [2]⟩ : Sup).root, .slice (some ⟨s12, 0, none⟩) 1 1] 29) = X := ⟨_, rfl⟩
  have zA0 : A0.heap.size = w16.heap.size + 1 := by rw [← hA0, World.size_alloc]
  have gA0 : w16.grownBy A0 none := by rw [← hA0]; exact grown_alloc _ _
  have sA0 : SB A0 (w16.heap.size) (⟨1, 128, 8, 0, [2]⟩) (some ⟨s12, 0, none⟩) 1 1 := by rw [← hA0]; exact SB.new w16 _ _ _ _
  rw [hA0]
  obtain ⟨A1, hA1⟩ : ∃ X, A0.alloc (.cells #[.int .u64 (⟨1, 128, 8, 0, [2]⟩ : Sup).gen, .int .i64 (⟨1, 128, 8, 0, [2]⟩ : Sup).size, .int .i64 (⟨1, 128, 8, 0, [2]⟩ : Sup).blocks, .int .u32 (⟨1, 128, 8, 0, [2]⟩ : Sup).root, .slice (some ⟨s13, 0, none⟩) 1 1] 29) = X := ⟨_, rfl⟩
  have zA1 : A1.heap.size = w16.heap.size + 1 + 1 := by rw [← hA1, World.size_alloc, zA0]
  have gA1 : A0.grownBy A1 none := by rw [← hA1]; exact grown_alloc _ _
  have sA1 : SB A1 (w16.heap.size + 1) (⟨1, 128, 8, 0, [2]⟩) (some ⟨s13, 0, none⟩) 1 1 := by rw [← hA1, ← zA0]; exact SB.new A0 _ _ _ _
  rw [hA1]
  obtain ⟨A2, hA2⟩ : ∃ X, A1.alloc (.cells #[.int .u64 (⟨1, 128, 8, 8, [2]⟩ : Sup).gen, .int .i64 (⟨1, 128, 8, 8, [2]⟩ : Sup).size, .int .i64 (⟨1, 128, 8, 8, [2]⟩ : Sup).blocks, .int .u32 (⟨1, 128, 8, 8, [2]⟩ : Sup).root, .slice (some ⟨s14, 0, none⟩) 1 1] 29) = X := ⟨_, rfl⟩
  have zA2 : A2.heap.size = w16.heap.size + 1 + 1 + 1 := by rw [← hA2, World.size_alloc, zA1]
  have gA2 : A1.grownBy A2 none := by rw [← hA2]; exact grown_alloc _ _
  have sA2 : SB A2 (w16.heap.size + 1 + 1) (⟨1, 128, 8, 8, [2]⟩) (some ⟨s14, 0, none⟩) 1 1 := by rw [← hA2, ← zA1]; exact SB.new A1 _ _ _ _
  rw [hA2]
  obtain ⟨A3, hA3⟩ : ∃ X, A2.alloc (.cells #[.int .u64 (⟨1, 128, 8, 2, [2]⟩ : Sup).gen, .int .i64 (⟨1, 128, 8, 2, [2]⟩ : Sup).size, .int .i64 (⟨1, 128, 8, 2, [2]⟩ : Sup).blocks, .int .u32 (⟨1, 128, 8, 2, [2]⟩ : Sup).root, .slice (some ⟨s15, 0, none⟩) 1 1] 29) = X := ⟨_, rfl⟩
  have zA3 : A3.heap.size = w16.heap.size + 1 + 1 + 1 + 1 := by rw [← hA3, World.size_alloc, zA2]
  have gA3 : A2.grownBy A3 none := by rw [← hA3]; exact grown_alloc _ _
  have sA3 : SB A3 (w16.heap.size + 1 + 1 + 1) (⟨1, 128, 8, 2, [2]⟩) (some ⟨s15, 0, none⟩) 1 1 := by rw [← hA3, ← zA2]; exact SB.new A2 _ _ _ _
  rw [hA3]
  obtain ⟨A4, hA4⟩ : ∃ X, A3.alloc (.cells #[.int .u64 (⟨0, 128, 8, 0, [2]⟩ : Sup).gen, .int .i64 (⟨0, 128, 8, 0, [2]⟩ : Sup).size, .int .i64 (⟨0, 128, 8, 0, [2]⟩ : Sup).blocks, .int .u32 (⟨0, 128, 8, 0, [2]⟩ : Sup).root, .slice (some ⟨s16, 0, none⟩) 1 1] 29) = X := ⟨_, rfl⟩
  have zA4 : A4.heap.size = w16.heap.size + 1 + 1 + 1 + 1 + 1 := by rw [← hA4, World.size_alloc, zA3]
  have gA4 : A3.grownBy A4 none := by rw [← hA4]; exact grown_alloc _ _
  have sA4 : SB A4 (w16.heap.size + 1 + 1 + 1 + 1) (⟨0, 128, 8, 0, [2]⟩) (some ⟨s16, 0, none⟩) 1 1 := by rw [← hA4, ← zA3]; exact SB.new A3 _ _ _ _
  rw [hA4]
  have HB0_a := Lib.hid (((((sA0).old gA1).old gA2).old gA3).old gA4)
  have HB1_a := Lib.hid ((((sA1).old gA2).old gA3).old gA4)
  have HB2_a := Lib.hid (((sA2).old gA3).old gA4)
  have HB3_a := Lib.hid ((sA3).old gA4)
  have HB4_a := Lib.hid (sA4)
  have GXa := Lib.hid (grown_then (grown_then (grown_then (grown_then (gA0) gA1) gA2) gA3) gA4)
  have hz4 := Lib.hid zA4
  clear sA0 gA0 zA0 hA0 sA1 gA1 zA1 hA1 sA2 gA2 zA2 hA2 sA3 gA3 zA3 hA3 sA4 gA4 zA4 hA4
  have gl := grown_alloc A4 (.cells #[.int .u32 2, .int .u32 2] 26)
  have sl : Ws.Seg (A4.alloc (.cells #[.int .u32 2, .int .u32 2] 26)) (some ⟨A4.heap.size, 0, none⟩) 2 2 [2, 2] := Ws.lit_seg A4 [2, 2] (by decide)
  have sb := HB0_a.out.old gl
  have c4 := sb.cells.2.2.2.2
  have f4 := sb.froz 4
  have sp := sb.pages_set (some ⟨A4.heap.size, 0, none⟩) 2 2
  have ts := Turn.setCell (A4.alloc (.cells #[.int .u32 2, .int .u32 2] 26)) ⟨w16.heap.size, 4, none⟩ (.slice (some ⟨A4.heap.size, 0, none⟩) 2 2) (S := (· = w16.heap.size)) rfl
  go_upto_region 9 with (fail)
  obtain ⟨Y1, hY⟩ : ∃ X, (A4.alloc (.cells #[.int .u32 2, .int .u32 2] 26)).setCell ⟨w16.heap.size, 4, none⟩ (.slice (some ⟨A4.heap.size, 0, none⟩) 2 2) = X := ⟨_, rfl⟩
  rw [hY] at sp ts ⊢
  have HB0_b := Lib.hid sp
  have HB1_b := Lib.hid ((HB1_a.out.old gl).not ts (by have h4 := hz4.out; omega))
  have HB2_b := Lib.hid ((HB2_a.out.old gl).not ts (by have h4 := hz4.out; omega))
  have HB3_b := Lib.hid ((HB3_a.out.old gl).not ts (by have h4 := hz4.out; omega))
  have HB4_b := Lib.hid ((HB4_a.out.old gl).not ts (by have h4 := hz4.out; omega))
  have GXb := Lib.hid (grown_put (grown_then GXa.out gl) ts (by have h4 := hz4.out; omega))
  have hszY1 : A4.heap.size < Y1.heap.size := Nat.lt_of_lt_of_le (by simp) ts.size
  have sq := sl.kept (grown_some ts) (fun ad had e => by cases had; have h2 := Option.some.inj e; have h3 : w16.heap.size = A4.heap.size := h2; have h4 := hz4.out; omega)
  have HQ0_b := Lib.hid sq
  clear gl sl sb c4 f4 sp ts hY sq GXa HB0_a HB1_a HB2_a HB3_a HB4_a
  have gl := grown_alloc Y1 (.cells #[.int .u32 8] 26)
  have sl : Ws.Seg (Y1.alloc (.cells #[.int .u32 8] 26)) (some ⟨Y1.heap.size, 0, none⟩) 1 1 [8] := Ws.lit_seg Y1 [8] (by decide)
  have sb := HB1_b.out.old gl
  have c4 := sb.cells.2.2.2.2
  have f4 := sb.froz 4
  have sp := sb.pages_set (some ⟨Y1.heap.size, 0, none⟩) 1 1
  have ts := Turn.setCell (Y1.alloc (.cells #[.int .u32 8] 26)) ⟨w16.heap.size + 1, 4, none⟩ (.slice (some ⟨Y1.heap.size, 0, none⟩) 1 1) (S := (· = w16.heap.size + 1)) rfl
  go_upto_region 10 with (fail)
  obtain ⟨Y2, hY⟩ : ∃ X, (Y1.alloc (.cells #[.int .u32 8] 26)).setCell ⟨w16.heap.size + 1, 4, none⟩ (.slice (some ⟨Y1.heap.size, 0, none⟩) 1 1) = X := ⟨_, rfl⟩
  rw [hY] at sp ts ⊢
  have HB0_c := Lib.hid ((HB0_b.out.old gl).not ts (by have h4 := hz4.out; omega))
  have HB1_c := Lib.hid sp
  have HB2_c := Lib.hid ((HB2_b.out.old gl).not ts (by have h4 := hz4.out; omega))
  have HB3_c := Lib.hid ((HB3_b.out.old gl).not ts (by have h4 := hz4.out; omega))
  have HB4_c := Lib.hid ((HB4_b.out.old gl).not ts (by have h4 := hz4.out; omega))
  have GXc := Lib.hid (grown_put (grown_then GXb.out gl) ts (by have h4 := hz4.out; omega))
  have hszY2 : Y1.heap.size < Y2.heap.size := Nat.lt_of_lt_of_le (by simp) ts.size
  have sq := sl.kept (grown_some ts) (fun ad had e => by cases had; have h2 := Option.some.inj e; have h3 : w16.heap.size + 1 = Y1.heap.size := h2; have h4 := hz4.out; omega)
  have HQ1_c := Lib.hid sq
  have HQ0_c := Lib.hid ((HQ0_b.out.grown gl).kept (grown_some ts) (fun ad had e => by cases had; have h2 := Option.some.inj e; have h3 : w16.heap.size + 1 = A4.heap.size := h2; have h4 := hz4.out; omega))
  clear gl sl sb c4 f4 sp ts hY sq GXb HB0_b HB1_b HB2_b HB3_b HB4_b HQ0_b
  have gY := GXc.out
  have G17 := Lib.hid (grown_then G16.out gY)
  have B1_17 := Lib.hid (B1_16.out.old gY)
  have B1P_17 := Lib.hid (B1P_16.out.grown gY)
  have B7_17 := Lib.hid (B7_16.out.old gY)
  have B7P_17 := Lib.hid (B7P_16.out.grown gY)
  have P12_17 := Lib.hid (P12_16.out.grown gY)
  have P13_17 := Lib.hid (P13_16.out.grown gY)
  have P14_17 := Lib.hid (P14_16.out.grown gY)
  have P15_17 := Lib.hid (P15_16.out.grown gY)
  have P16_17 := Lib.hid (P16_16.out.grown gY)
  clear G16 B1_16 B1P_16 B7_16 B7P_16 P12_16 P13_16 P14_16 P15_16 P16_16
  clear gY GXc
  have B11_17 := HB0_c
  have B12_17 := HB1_c
  have B13_17 := HB2_c
  have B14_17 := HB3_c
  have B15_17 := HB4_c
  have B11P_17 := HQ0_c
  have B12P_17 := HQ1_c
  clear HB0_c HB1_c HB2_c HB3_c HB4_c HQ0_c HQ1_c
  have hgr1 := grown_alloc Y2 (.cells #[.int .u64 1, .int .i64 128, .int .i64 1400, .int .u32 0, .slice none 0 0] 29)
  have hsb : SB (Y2.alloc (.cells #[.int .u64 1, .int .i64 128, .int .i64 1400, .int .u32 0, .slice none 0 0] 29)) Y2.heap.size ⟨1, 128, 1400, 0, upL 0⟩ none 0 0 := SB.new Y2 ⟨1, 128, 1400, 0, upL 0⟩ none 0 0
  obtain ⟨Y3, hY3⟩ : ∃ X, Y2.alloc (.cells #[.int .u64 1, .int .i64 128, .int .i64 1400, .int .u32 0, .slice none 0 0] 29) = X := ⟨_, rfl⟩
  have hz3 : Y2.heap.size < Y3.heap.size := by rw [← hY3]; simp
  rw [hY3] at hgr1 hsb
  have HYS := Lib.hid hsb
  have HYG := Lib.hid hgr1
  have HY3 := Lib.hid hY3
  clear hgr1 hsb hY3
  go_upto_region 12 with (fail)
  rw [HY3.out]
  clear HY3
  go_loopw [17] (fun s17 wr => ∃ (k : Nat) (a : Option Addr) (c : Nat), k ≤ 25 ∧ s17 = .int .i64 k ∧ Hid (wr.ownsRow Y3.heap.size 26 1 (.slice a k c) k ((upL k).map (Value.int .u32))) ∧ Hid (Y2.grownBy wr none) ∧ Hid (Y3.heap.size ≤ wr.heap.size) ∧ Hid (SB wr Y2.heap.size ⟨1, 128, 1400, 0, upL k⟩ a k c)) (fun s17 _ => 25 - (intOf s17).toNat)
  case atStart => exact ⟨0, none, 0, by omega, rfl, Lib.hid ⟨rfl, .inl ⟨rfl, rfl⟩⟩, HYG, Lib.hid (Nat.le_refl _), HYS⟩
  case round =>
    clear HYG HYS
    obtain ⟨k, a, c, hk, rfl, HO, HGY, HL, HS⟩ := hrel
    by_cases hlt : k < 25
    · have hq : decide ((k : Int) < 25) = true := decide_eq_true (by omega)
      have e1 : IntKind.i64.wrap (2 + (k : Int)) = 2 + (k : Int) := IntWalk.i64_in _ (by omega)
      have e2 : IntKind.u32.wrap (2 + (k : Int)) = 2 + (k : Int) := by rw [IntKind.wrap_u32]; omega
      have hl3 := HL.out
      obtain ⟨b0, b1, b2, b3, b4⟩ := HS.out.cells
      clear b0 b1 b2 b3
      go_wp2_with (first
        | (at_builtin; go_loud (refine wpList_append_own _ rfl (.tmp 71) (.tmp 75) 27 rfl Y3.heap.size 26 i0 (.int .u32 0) 1 4 Tryd.underlying27 hi hz0 hz1 hz2 rfl (by decide) (.slice a k c) k _ rfl (HO.out.alloc _) ⟨wr.heap.size, 0, none⟩ 1 1 [.int .u32 (2 + (k : Int))] rfl rfl (by intro t u ht; match t, ht with | 0, ht => simp at ht; subst ht; exact cell_new wr _ _) (by intro u hu; simp at hu; subst hu; rfl) (by unfold maxLen; omega) (by omega) (by simp only [World.size_alloc]; omega) ?_; intro v' w4' hown hgr _; obtain ⟨g', c', rfl⟩ := own_shape hown (by omega); have hgr0 := hgr; have HTA := Lib.hid ((Turn.alloc wr (.cells #[.int .u32 (2 + (k : Int))] 26) (fun i => Y3.heap.size ≤ i)).trans (Turn.of_grown hgr (fun i e _ => ((HO.out.alloc (.cells #[.int .u32 (2 + (k : Int))] 26)).lt i (by first | exact e | (rw [← e]))).1)) (fun _ _ h => h)); have HOW := Lib.hid hown; have HS2 : Hid (SB w4' Y2.heap.size ⟨1, 128, 1400, 0, upL k⟩ a k c) := Lib.hid (block_turn HS.out HTA.out (by omega)); have b5 := HS2.out.cells.2.2.2.2; have b6 := HS2.out.froz 4; clear hown hgr hgr0))
        | fail)
      have HO3 : Hid (w4'.ownsRow Y3.heap.size 26 1 (.slice (some ⟨g', 0, none⟩) (k + 1) c') (k + 1) ((upL (k + 1)).map (Value.int .u32))) := Lib.hid (by rw [upL_succ, List.map_append]; exact HOW.out)
      have HG3 : Hid (Y2.grownBy w4' none) := Lib.hid (Turn.grown ((grown_turn HGY.out).trans HTA.out (fun i h e => by have e2 : Y3.heap.size ≤ i := e; omega)))
      have hl4 : Y3.heap.size ≤ w4'.heap.size := Nat.le_trans hl3 HTA.out.size
      have ht5 := Turn.setCell w4' ⟨Y2.heap.size, 4, none⟩ (.slice (some ⟨g', 0, none⟩) (k + 1) c') (S := (· = Y2.heap.size)) rfl
      have hs5 : SB (w4'.setCell ⟨Y2.heap.size, 4, none⟩ (.slice (some ⟨g', 0, none⟩) (k + 1) c')) Y2.heap.size ⟨1, 128, 1400, 0, upL (k + 1)⟩ (some ⟨g', 0, none⟩) (k + 1) c' := HS2.out.pages_set (some ⟨g', 0, none⟩) (k + 1) c'
      obtain ⟨W8, hW8⟩ : ∃ X, w4'.setCell ⟨Y2.heap.size, 4, none⟩ (.slice (some ⟨g', 0, none⟩) (k + 1) c') = X := ⟨_, rfl⟩
      rw [hW8] at ht5 hs5
      have HS5 := Lib.hid hs5
      have HO5 := Lib.hid (own_turnB HO3.out ht5 (fun i h e => by have e2 : i = Y2.heap.size := e; omega))
      have HG5 := Lib.hid (grown_put HG3.out ht5 (Nat.le_refl _))
      have HL5 : Hid (Y3.heap.size ≤ W8.heap.size) := Lib.hid (Nat.le_trans hl4 ht5.size)
      clear ht5 hs5 HO3 HG3 HS2 HTA HOW b4 HO HGY HL HS
      go_wp2
      go_roundw
      case rel => rw [hW8]; exact ⟨k + 1, _, c', by omega, by go_num, HO5, HG5, HL5, HS5⟩
      case measure => simp [intOf]; omega
    · have hq : decide ((k : Int) < 25) = false := decide_eq_false (by omega)
      obtain rfl : k = 25 := by omega
      clear hlt hk
      have gY := HGY.out
      have G18 := Lib.hid (grown_then G17.out gY)
      have B1_18 := Lib.hid (B1_17.out.old gY)
      have B1P_18 := Lib.hid (B1P_17.out.grown gY)
      have B7_18 := Lib.hid (B7_17.out.old gY)
      have B7P_18 := Lib.hid (B7P_17.out.grown gY)
      have P12_18 := Lib.hid (P12_17.out.grown gY)
      have P13_18 := Lib.hid (P13_17.out.grown gY)
      have P14_18 := Lib.hid (P14_17.out.grown gY)
      have P15_18 := Lib.hid (P15_17.out.grown gY)
      have P16_18 := Lib.hid (P16_17.out.grown gY)
      have B11_18 := Lib.hid (B11_17.out.old gY)
      have B12_18 := Lib.hid (B12_17.out.old gY)
      have B13_18 := Lib.hid (B13_17.out.old gY)
      have B14_18 := Lib.hid (B14_17.out.old gY)
      have B15_18 := Lib.hid (B15_17.out.old gY)
      have B11P_18 := Lib.hid (B11P_17.out.grown gY)
      have B12P_18 := Lib.hid (B12P_17.out.grown gY)
      clear G17 B1_17 B1P_17 B7_17 B7P_17 P12_17 P13_17 P14_17 P15_17 P16_17 B11_17 B12_17 B13_17 B14_17 B15_17 B11P_17 B12P_17
      have B16_18 := HS
      have B16P_18 := Lib.hid (wseg_own HO.out)
      clear gY HGY HS HO HL
      go_wp2_with fail
      refine (HF3.out _).mono ?_
      rintro e w19 ⟨rfl, hg⟩
      have G19 := Lib.hid (grown_then G18.out hg)
      have B1_19 := Lib.hid (B1_18.out.old hg)
      have B1P_19 := Lib.hid (B1P_18.out.grown hg)
      have B7_19 := Lib.hid (B7_18.out.old hg)
      have B7P_19 := Lib.hid (B7P_18.out.grown hg)
      have P12_19 := Lib.hid (P12_18.out.grown hg)
      have P13_19 := Lib.hid (P13_18.out.grown hg)
      have P14_19 := Lib.hid (P14_18.out.grown hg)
      have P15_19 := Lib.hid (P15_18.out.grown hg)
      have P16_19 := Lib.hid (P16_18.out.grown hg)
      have B11_19 := Lib.hid (B11_18.out.old hg)
      have B12_19 := Lib.hid (B12_18.out.old hg)
      have B13_19 := Lib.hid (B13_18.out.old hg)
      have B14_19 := Lib.hid (B14_18.out.old hg)
      have B15_19 := Lib.hid (B15_18.out.old hg)
      have B11P_19 := Lib.hid (B11P_18.out.grown hg)
      have B12P_19 := Lib.hid (B12P_18.out.grown hg)
      have B16_19 := Lib.hid (B16_18.out.old hg)
      have B16P_19 := Lib.hid (B16P_18.out.grown hg)
      clear G18 B1_18 B1P_18 B7_18 B7P_18 P12_18 P13_18 P14_18 P15_18 P16_18 B11_18 B12_18 B13_18 B14_18 B15_18 B11P_18 B12P_18 B16_18 B16P_18
      clear hg
      dsimp only
      go_wp2_with fail
      refine (HG3.out _ (HT.out.grown G19.out)).mono ?_
      rintro e w20 ⟨hg, p20, m20, q20, rfl, hsg, -⟩
      obtain ⟨X20, hX⟩ : ∃ X, w20.alloc (.cells #[.int .u64 (⟨0, 0, 0, 0, []⟩ : Sup).gen, .int .i64 (⟨0, 0, 0, 0, []⟩ : Sup).size, .int .i64 (⟨0, 0, 0, 0, []⟩ : Sup).blocks, .int .u32 (⟨0, 0, 0, 0, []⟩ : Sup).root, .slice p20 m20 q20] 29) = X := ⟨_, rfl⟩
      have hg2 : w20.grownBy X20 none := by rw [← hX]; exact grown_alloc _ _
      have hg3 := grown_then hg hg2
      have G20 := Lib.hid (grown_then G19.out hg3)
      have B1_20 := Lib.hid (B1_19.out.old hg3)
      have B1P_20 := Lib.hid (B1P_19.out.grown hg3)
      have B7_20 := Lib.hid (B7_19.out.old hg3)
      have B7P_20 := Lib.hid (B7P_19.out.grown hg3)
      have P12_20 := Lib.hid (P12_19.out.grown hg3)
      have P13_20 := Lib.hid (P13_19.out.grown hg3)
      have P14_20 := Lib.hid (P14_19.out.grown hg3)
      have P15_20 := Lib.hid (P15_19.out.grown hg3)
      have P16_20 := Lib.hid (P16_19.out.grown hg3)
      have B11_20 := Lib.hid (B11_19.out.old hg3)
      have B12_20 := Lib.hid (B12_19.out.old hg3)
      have B13_20 := Lib.hid (B13_19.out.old hg3)
      have B14_20 := Lib.hid (B14_19.out.old hg3)
      have B15_20 := Lib.hid (B15_19.out.old hg3)
      have B11P_20 := Lib.hid (B11P_19.out.grown hg3)
      have B12P_20 := Lib.hid (B12P_19.out.grown hg3)
      have B16_20 := Lib.hid (B16_19.out.old hg3)
      have B16P_20 := Lib.hid (B16P_19.out.grown hg3)
      clear G19 B1_19 B1P_19 B7_19 B7P_19 P12_19 P13_19 P14_19 P15_19 P16_19 B11_19 B12_19 B13_19 B14_19 B15_19 B11P_19 B12P_19 B16_19 B16P_19
      have HX := Lib.hid hX
      clear hg hg2 hg3 hsg hX
      dsimp only
      go_upto_region 17 with (fail)
      rw [HX.out]
      clear HX
      go_wp2_with fail
      refine (HF4.out _).mono ?_
      rintro e w21 ⟨rfl, hg⟩
      have G21 := Lib.hid (grown_then G20.out hg)
      have B1_21 := Lib.hid (B1_20.out.old hg)
      have B1P_21 := Lib.hid (B1P_20.out.grown hg)
      have B7_21 := Lib.hid (B7_20.out.old hg)
      have B7P_21 := Lib.hid (B7P_20.out.grown hg)
      have P12_21 := Lib.hid (P12_20.out.grown hg)
      have P13_21 := Lib.hid (P13_20.out.grown hg)
      have P14_21 := Lib.hid (P14_20.out.grown hg)
      have P15_21 := Lib.hid (P15_20.out.grown hg)
      have P16_21 := Lib.hid (P16_20.out.grown hg)
      have B11_21 := Lib.hid (B11_20.out.old hg)
      have B12_21 := Lib.hid (B12_20.out.old hg)
      have B13_21 := Lib.hid (B13_20.out.old hg)
      have B14_21 := Lib.hid (B14_20.out.old hg)
      have B15_21 := Lib.hid (B15_20.out.old hg)
      have B11P_21 := Lib.hid (B11P_20.out.grown hg)
      have B12P_21 := Lib.hid (B12P_20.out.grown hg)
      have B16_21 := Lib.hid (B16_20.out.old hg)
      have B16P_21 := Lib.hid (B16P_20.out.grown hg)
      clear G20 B1_20 B1P_20 B7_20 B7P_20 P12_20 P13_20 P14_20 P15_20 P16_20 B11_20 B12_20 B13_20 B14_20 B15_20 B11P_20 B12P_20 B16_20 B16P_20
      clear hg
      dsimp only
      go_wp2_with fail
      refine (HG4.out _ (HT.out.grown G21.out)).mono ?_
      rintro e w22 ⟨hg, p22, m22, q22, rfl, hsg, -⟩
      obtain ⟨X22, hX⟩ : ∃ X, w22.alloc (.cells #[.int .u64 (⟨0, 0, 0, 0, []⟩ : Sup).gen, .int .i64 (⟨0, 0, 0, 0, []⟩ : Sup).size, .int .i64 (⟨0, 0, 0, 0, []⟩ : Sup).blocks, .int .u32 (⟨0, 0, 0, 0, []⟩ : Sup).root, .slice p22 m22 q22] 29) = X := ⟨_, rfl⟩
      have hg2 : w22.grownBy X22 none := by rw [← hX]; exact grown_alloc _ _
      have hg3 := grown_then hg hg2
      have G22 := Lib.hid (grown_then G21.out hg3)
      have B1_22 := Lib.hid (B1_21.out.old hg3)
      have B1P_22 := Lib.hid (B1P_21.out.grown hg3)
      have B7_22 := Lib.hid (B7_21.out.old hg3)
      have B7P_22 := Lib.hid (B7P_21.out.grown hg3)
      have P12_22 := Lib.hid (P12_21.out.grown hg3)
      have P13_22 := Lib.hid (P13_21.out.grown hg3)
      have P14_22 := Lib.hid (P14_21.out.grown hg3)
      have P15_22 := Lib.hid (P15_21.out.grown hg3)
      have P16_22 := Lib.hid (P16_21.out.grown hg3)
      have B11_22 := Lib.hid (B11_21.out.old hg3)
      have B12_22 := Lib.hid (B12_21.out.old hg3)
      have B13_22 := Lib.hid (B13_21.out.old hg3)
      have B14_22 := Lib.hid (B14_21.out.old hg3)
      have B15_22 := Lib.hid (B15_21.out.old hg3)
      have B11P_22 := Lib.hid (B11P_21.out.grown hg3)
      have B12P_22 := Lib.hid (B12P_21.out.grown hg3)
      have B16_22 := Lib.hid (B16_21.out.old hg3)
      have B16P_22 := Lib.hid (B16P_21.out.grown hg3)
      clear G21 B1_21 B1P_21 B7_21 B7P_21 P12_21 P13_21 P14_21 P15_21 P16_21 B11_21 B12_21 B13_21 B14_21 B15_21 B11P_21 B12P_21 B16_21 B16P_21
      have HX := Lib.hid hX
      clear hg hg2 hg3 hsg hX
      dsimp only
      go_upto_region 19 with (fail)
      rw [HX.out]
      clear HX
      have B13P_22 := P14_22
      have B14P_22 := P15_22
      have B15P_22 := P16_22
      have HC11 := Lib.hid (fun W (h : X22.grownBy W none) => check_sup ⟨1, 128, 8, 0, [2, 2]⟩ _ _ _ W (B11P_22.out.grown h) (ok_of (by decide) (by decide) (by decide)))
      rw [show supE ⟨1, 128, 8, 0, [2, 2]⟩ = 2 from by decide +kernel] at HC11
      have HC12 := Lib.hid (fun W (h : X22.grownBy W none) => check_sup ⟨1, 128, 8, 0, [8]⟩ _ _ _ W (B12P_22.out.grown h) (ok_of (by decide) (by decide) (by decide)))
      rw [show supE ⟨1, 128, 8, 0, [8]⟩ = 2 from by decide +kernel] at HC12
      have HC13 := Lib.hid (fun W (h : X22.grownBy W none) => check_sup ⟨1, 128, 8, 8, [2]⟩ _ _ _ W (B13P_22.out.grown h) (ok_of (by decide) (by decide) (by decide)))
      rw [show supE ⟨1, 128, 8, 8, [2]⟩ = 2 from by decide +kernel] at HC13
      have HC14 := Lib.hid (fun W (h : X22.grownBy W none) => check_sup ⟨1, 128, 8, 2, [2]⟩ _ _ _ W (B14P_22.out.grown h) (ok_of (by decide) (by decide) (by decide)))
      rw [show supE ⟨1, 128, 8, 2, [2]⟩ = 2 from by decide +kernel] at HC14
      have HC15 := Lib.hid (fun W (h : X22.grownBy W none) => check_sup ⟨0, 128, 8, 0, [2]⟩ _ _ _ W (B15P_22.out.grown h) (ok_of (by decide) (by decide) (by decide)))
      rw [show supE ⟨0, 128, 8, 0, [2]⟩ = 2 from by decide +kernel] at HC15
      have HC16 := Lib.hid (fun W (h : X22.grownBy W none) => check_sup ⟨1, 128, 1400, 0, upL 25⟩ _ _ _ W (B16P_22.out.grown h) (ok_of (by decide) (by decide) (upL_ok 25 (by decide))))
      rw [show supE ⟨1, 128, 1400, 0, upL 25⟩ = 3 from by decide +kernel] at HC16
      have HSA := Lib.hid (fun g W (h : X22.grownBy W none) (hs : Ws.Seg W (some ⟨g, 0, none⟩) 1 1 [2]) => same_yes ⟨9, 128, 8, 7, [2]⟩ _ _ _ _ _ _ W (B1P_22.out.grown h) hs)
      have HO0 := Lib.hid (fun W => (other_any 0 W).mono fun e w2 (h : _ ∧ _) => (show e = .returned (.int .i64 1) ∧ W.grownBy w2 none from ⟨by rw [h.1, if_pos rfl], by rw [← h.2]; exact grown_refl _⟩))
      have HO1 := Lib.hid (fun W => (other_any 1 W).mono fun e w2 (h : _ ∧ _) => (show e = .returned (.int .i64 0) ∧ W.grownBy w2 none from ⟨by rw [h.1, if_neg (by decide)], by rw [← h.2]; exact grown_refl _⟩))
      have HO7 := Lib.hid (fun W => (other_any 7 W).mono fun e w2 (h : _ ∧ _) => (show e = .returned (.int .i64 0) ∧ W.grownBy w2 none from ⟨by rw [h.1, if_neg (by decide)], by rw [← h.2]; exact grown_refl _⟩))
      have HPG8 := Lib.hid (fun W => pages_any 128 8 W)
      rw [show pagesF 128 8 = 1 from by decide +kernel] at HPG8
      have HPG57 := Lib.hid (fun W => pages_any 128 57 W)
      rw [show pagesF 128 57 = 2 from by decide +kernel] at HPG57
      have HPG0 := Lib.hid (fun W => pages_any 0 0 W)
      rw [show pagesF 0 0 = 0 from by decide +kernel] at HPG0
      dsimp only at HC11 HC12 HC13 HC14 HC15 HC16 HSA
      have hND := s19_nodup
      have rfl_but := fun g j hj => v19_but (.slice p4 m4 q4) (.slice (some ⟨A4.heap.size, 0, none⟩) 2 2) (.slice (some ⟨Y1.heap.size, 0, none⟩) 1 1) (.slice (some ⟨s14, 0, none⟩) 1 1) (.slice (some ⟨s15, 0, none⟩) 1 1) (.slice (some ⟨s16, 0, none⟩) 1 1) (.slice a 25 c) (w10.heap.size) g j hj
      clear HPA HPB HPC HG1 HC1 HC2 HG2 HG3 HG4 HF3 HF4 HN
      refine wp_region_inv_at (I := fun a0 L x W => EI S19 (V19 (.slice p4 m4 q4) (.slice (some ⟨A4.heap.size, 0, none⟩) 2 2) (.slice (some ⟨Y1.heap.size, 0, none⟩) 1 1) (.slice (some ⟨s14, 0, none⟩) 1 1) (.slice (some ⟨s15, 0, none⟩) 1 1) (.slice (some ⟨s16, 0, none⟩) 1 1) (.slice a 25 c) (w10.heap.size)) 4 X22 a0 L x W) (by kernel_rfl) (by kernel_rfl) (EI.start 195 (by simp) (by decide) (grown_drew _)) ?_ ?_
      · show ∀ i, i < 98 → _
        refine all_snoc (all_snoc (all_snoc (all_snoc (all_snoc (all_snoc (all_snoc (all_snoc (all_snoc (all_snoc (all_snoc (all_snoc (all_snoc (all_snoc (all_snoc (all_snoc (all_snoc (all_snoc (all_snoc (all_snoc (all_snoc (all_snoc (all_snoc (all_snoc (all_snoc (all_snoc (all_snoc (all_snoc (all_snoc (all_snoc (all_snoc (all_snoc (all_snoc (all_snoc (all_snoc (all_snoc (all_snoc (all_snoc (all_snoc (all_snoc (all_snoc (all_snoc (all_snoc (all_snoc (all_snoc (all_snoc (all_snoc (all_snoc (all_snoc (all_snoc (all_snoc (all_snoc (all_snoc (all_snoc (all_snoc (all_snoc (all_snoc (all_snoc (all_snoc (all_snoc (all_snoc (all_snoc (all_snoc (all_snoc (all_snoc (all_snoc (all_snoc (all_snoc (all_snoc (all_snoc (all_snoc (all_snoc (all_snoc (all_snoc (all_snoc (all_snoc (all_snoc (all_snoc (all_snoc (all_snoc (all_snoc (all_snoc (all_snoc (all_snoc (all_snoc (all_snoc (all_snoc (all_snoc (all_snoc (all_snoc (all_snoc (all_snoc (all_snoc (all_snoc (all_snoc (all_snoc (all_snoc (all_snoc all_nil ?o0) ?o1) ?o2) ?o3) ?o4) ?o5) ?o6) ?o7) ?o8) ?o9) ?o10) ?o11) ?o12) ?o13) ?o14) ?o15) ?o16) ?o17) ?o18) ?o19) ?o20) ?o21) ?o22) ?o23) ?o24) ?o25) ?o26) ?o27) ?o28) ?o29) ?o30) ?o31) ?o32) ?o33) ?o34) ?o35) ?o36) ?o37) ?o38) ?o39) ?o40) ?o41) ?o42) ?o43) ?o44) ?o45) ?o46) ?o47) ?o48) ?o49) ?o50) ?o51) ?o52) ?o53) ?o54) ?o55) ?o56) ?o57) ?o58) ?o59) ?o60) ?o61) ?o62) ?o63) ?o64) ?o65) ?o66) ?o67) ?o68) ?o69) ?o70) ?o71) ?o72) ?o73) ?o74) ?o75) ?o76) ?o77) ?o78) ?o79) ?o80) ?o81) ?o82) ?o83) ?o84) ?o85) ?o86) ?o87) ?o88) ?o89) ?o90) ?o91) ?o92) ?o93) ?o94) ?o95) ?o96) ?o97
        case o0 =>
          refine StepAt.mk rfl (ns := []) (by kernel_rfl) rfl ?_
          intro L x W h0 hn hI
          have e2 : x.tmps[2]?.getD undef = .int .i64 0 := hI.old 2 (by decide)
          refine wp_yield (v := .int .i64 0) ?_ (hI.yield hND 0 (by decide) (by decide) (fun _ => rfl))
          simp [go_sem, e2]
        case o1 =>
          refine StepAt.mk rfl (ns := [0]) (by kernel_rfl) rfl ?_
          intro L x W h0 hn hI
          have e98 : x.tmps[98]?.getD undef = .int .i64 0 := hI.get 0 (by decide) (fun _ => rfl) (hn 0 (by decide))
          refine wp_yield (v := .bool true) ?_ (hI.yield hND 1 (by decide) (by decide) (fun _ => rfl))
          simp [go_sem, e98]
        case o2 =>
          refine StepAt.mk rfl (ns := [1]) (by kernel_rfl) rfl ?_
          intro L x W h0 hn hI
          have e99 : x.tmps[99]?.getD undef = .bool true := hI.get 1 (by decide) (fun _ => rfl) (hn 1 (by decide))
          refine wp_yield (v := .bool true) ?_ (hI.yield hND 2 (by decide) (by decide) (fun _ => rfl))
          simp [go_sem, e99]
        case o3 =>
          refine StepAt.mkg rfl (ns := [2]) (by kernel_rfl) 2 100 rfl (by kernel_rfl) (fun L x W hn hI => hI.get 2 (by decide) (fun _ => rfl) (hn 2 (by decide))) ?_
          intro L x W h0 hn hI
          have e1 : x.tmps[1]?.getD undef = .pointer (some ⟨w4.heap.size, 0, none⟩) := hI.old 1 (by decide)
          obtain ⟨c0, c1, c2, c3, c4⟩ := (B1_22.out.old hI.grown).cells
          dsimp only at c0 c1 c2 c3 c4
          refine wp_yield (v := .agg #[.int .u64 9, .int .i64 128, .int .i64 8, .int .u32 7, .slice p4 m4 q4]) ?_ (hI.yield hND 3 (by decide) (by decide) (fun _ => rfl))
          simp [go_sem, e1, c0, c1, c2, c3, c4]
        case o4 =>
          refine StepAt.mkg rfl (ns := [2, 2]) (by kernel_rfl) 2 100 rfl (by kernel_rfl) (fun L x W hn hI => hI.get 2 (by decide) (fun _ => rfl) (hn 2 (by decide))) ?_
          intro L x W h0 hn hI
          refine wp_func_any (f := 11) (vs := #[.int .u64 9, .int .u32 7]) ?_ (HSM.out 9 7 W) (fun e w2 h => ?_)
          · simp [go_sem]
          · obtain ⟨g2, he, hs, _, hg⟩ := h
            exact ⟨_, he, hI.call hND (by decide) h0 (fun g => .agg #[.int .u64 9, .int .i64 128, .int .i64 8, .int .u32 7, .slice (some ⟨g, 0, none⟩) 1 1]) (fun g j hj => rfl_but g j hj) (fun g => rfl) hg hs⟩
        case o5 =>
          refine StepAt.mkg rfl (ns := [3, 4, 4, 2]) (by kernel_rfl) 2 100 rfl (by kernel_rfl) (fun L x W hn hI => hI.get 2 (by decide) (fun _ => rfl) (hn 2 (by decide))) ?_
          intro L x W h0 hn hI
          have e101 : x.tmps[101]?.getD undef = .agg #[.int .u64 9, .int .i64 128, .int .i64 8, .int .u32 7, .slice p4 m4 q4] := hI.get 3 (by decide) (fun _ => rfl) (hn 3 (by decide))
          obtain ⟨g, e102, hs⟩ := hI.made (by decide) (fun g => .agg #[.int .u64 9, .int .i64 128, .int .i64 8, .int .u32 7, .slice (some ⟨g, 0, none⟩) 1 1]) (fun g => rfl) (hn 4 (by decide))
          replace e102 : x.tmps[102]?.getD undef = .agg #[.int .u64 9, .int .i64 128, .int .i64 8, .int .u32 7, .slice (some ⟨g, 0, none⟩) 1 1] := e102
          refine wp_func (v := .bool true) (R := fun w2 => W.grownBy w2 none) (f := 15) (vs := #[.agg #[.int .u64 9, .int .i64 128, .int .i64 8, .int .u32 7, .slice p4 m4 q4], .agg #[.int .u64 9, .int .i64 128, .int .i64 8, .int .u32 7, .slice (some ⟨g, 0, none⟩) 1 1]]) ?_ (HSA.out g W hI.grown hs) (fun w2 hg => hI.value hND 5 (by decide) (by decide) (fun _ => rfl) hg)
          simp [go_sem, e101, e102]
        case o6 =>
          refine StepAt.mk rfl (ns := [2, 5]) (by kernel_rfl) rfl ?_
          intro L x W h0 hn hI
          have e100 : x.tmps[100]?.getD undef = .bool true := hI.get 2 (by decide) (fun _ => rfl) (hn 2 (by decide))
          have e103 : x.tmps[103]?.getD undef = .bool true := hI.get 5 (by decide) (fun _ => rfl) (hn 5 (by decide))
          refine wp_yield (v := .bool true) ?_ (hI.yield hND 6 (by decide) (by decide) (fun _ => rfl))
          simp [go_sem, e100, e103]
        case o7 =>
          refine StepAt.mk rfl (ns := [6, 5]) (by kernel_rfl) rfl ?_
          intro L x W h0 hn hI
          have e104 : x.tmps[104]?.getD undef = .bool true := hI.get 6 (by decide) (fun _ => rfl) (hn 6 (by decide))
          refine wp_yield (v := .bool true) ?_ (hI.yield hND 7 (by decide) (by decide) (fun _ => rfl))
          simp [go_sem, e104]
        case o8 =>
          refine StepAt.mkg rfl (ns := [7]) (by kernel_rfl) 7 105 rfl (by kernel_rfl) (fun L x W hn hI => hI.get 7 (by decide) (fun _ => rfl) (hn 7 (by decide))) ?_
          intro L x W h0 hn hI
          have e5 : x.tmps[5]?.getD undef = .int .i64 10 := hI.old 5 (by decide)
          refine wp_yield (v := .int .i64 10) ?_ (hI.yield hND 8 (by decide) (by decide) (fun _ => rfl))
          simp [go_sem, e5]
        case o9 =>
          refine StepAt.mkg rfl (ns := [8, 7]) (by kernel_rfl) 7 105 rfl (by kernel_rfl) (fun L x W hn hI => hI.get 7 (by decide) (fun _ => rfl) (hn 7 (by decide))) ?_
          intro L x W h0 hn hI
          have e106 : x.tmps[106]?.getD undef = .int .i64 10 := hI.get 8 (by decide) (fun _ => rfl) (hn 8 (by decide))
          refine wp_yield (v := .bool true) ?_ (hI.yield hND 9 (by decide) (by decide) (fun _ => rfl))
          simp [go_sem, e106]
        case o10 =>
          refine StepAt.mk rfl (ns := [7, 9]) (by kernel_rfl) rfl ?_
          intro L x W h0 hn hI
          have e105 : x.tmps[105]?.getD undef = .bool true := hI.get 7 (by decide) (fun _ => rfl) (hn 7 (by decide))
          have e107 : x.tmps[107]?.getD undef = .bool true := hI.get 9 (by decide) (fun _ => rfl) (hn 9 (by decide))
          refine wp_yield (v := .bool true) ?_ (hI.yield hND 10 (by decide) (by decide) (fun _ => rfl))
          simp [go_sem, e105, e107]
        case o11 =>
          refine StepAt.mk rfl (ns := [10, 7]) (by kernel_rfl) rfl ?_
          intro L x W h0 hn hI
          have e108 : x.tmps[108]?.getD undef = .bool true := hI.get 10 (by decide) (fun _ => rfl) (hn 10 (by decide))
          refine wp_yield (v := .bool true) ?_ (hI.yield hND 11 (by decide) (by decide) (fun _ => rfl))
          simp [go_sem, e108]
        case o12 =>
          refine StepAt.mkg rfl (ns := [11]) (by kernel_rfl) 11 109 rfl (by kernel_rfl) (fun L x W hn hI => hI.get 11 (by decide) (fun _ => rfl) (hn 11 (by decide))) ?_
          intro L x W h0 hn hI
          have e3 : x.tmps[3]?.getD undef = .int .i64 (-1) := hI.old 3 (by decide)
          refine wp_yield (v := .int .i64 (-1)) ?_ (hI.yield hND 12 (by decide) (by decide) (fun _ => rfl))
          simp [go_sem, e3]
        case o13 =>
          refine StepAt.mkg rfl (ns := [12, 11]) (by kernel_rfl) 11 109 rfl (by kernel_rfl) (fun L x W hn hI => hI.get 11 (by decide) (fun _ => rfl) (hn 11 (by decide))) ?_
          intro L x W h0 hn hI
          have e110 : x.tmps[110]?.getD undef = .int .i64 (-1) := hI.get 12 (by decide) (fun _ => rfl) (hn 12 (by decide))
          refine wp_yield (v := .bool true) ?_ (hI.yield hND 13 (by decide) (by decide) (fun _ => rfl))
          simp [go_sem, e110]
        case o14 =>
          refine StepAt.mk rfl (ns := [11, 13]) (by kernel_rfl) rfl ?_
          intro L x W h0 hn hI
          have e109 : x.tmps[109]?.getD undef = .bool true := hI.get 11 (by decide) (fun _ => rfl) (hn 11 (by decide))
          have e111 : x.tmps[111]?.getD undef = .bool true := hI.get 13 (by decide) (fun _ => rfl) (hn 13 (by decide))
          refine wp_yield (v := .bool true) ?_ (hI.yield hND 14 (by decide) (by decide) (fun _ => rfl))
          simp [go_sem, e109, e111]
        case o15 =>
          refine StepAt.mk rfl (ns := [14, 11]) (by kernel_rfl) rfl ?_
          intro L x W h0 hn hI
          have e112 : x.tmps[112]?.getD undef = .bool true := hI.get 14 (by decide) (fun _ => rfl) (hn 14 (by decide))
          refine wp_yield (v := .bool true) ?_ (hI.yield hND 15 (by decide) (by decide) (fun _ => rfl))
          simp [go_sem, e112]
        case o16 =>
          refine StepAt.mkg rfl (ns := [15]) (by kernel_rfl) 15 113 rfl (by kernel_rfl) (fun L x W hn hI => hI.get 15 (by decide) (fun _ => rfl) (hn 15 (by decide))) ?_
          intro L x W h0 hn hI
          have e8 : x.tmps[8]?.getD undef = .int .i64 0 := hI.old 8 (by decide)
          refine wp_yield (v := .int .i64 0) ?_ (hI.yield hND 16 (by decide) (by decide) (fun _ => rfl))
          simp [go_sem, e8]
        case o17 =>
          refine StepAt.mkg rfl (ns := [16, 15]) (by kernel_rfl) 15 113 rfl (by kernel_rfl) (fun L x W hn hI => hI.get 15 (by decide) (fun _ => rfl) (hn 15 (by decide))) ?_
          intro L x W h0 hn hI
          have e114 : x.tmps[114]?.getD undef = .int .i64 0 := hI.get 16 (by decide) (fun _ => rfl) (hn 16 (by decide))
          refine wp_yield (v := .bool true) ?_ (hI.yield hND 17 (by decide) (by decide) (fun _ => rfl))
          simp [go_sem, e114]
        case o18 =>
          refine StepAt.mk rfl (ns := [15, 17]) (by kernel_rfl) rfl ?_
          intro L x W h0 hn hI
          have e113 : x.tmps[113]?.getD undef = .bool true := hI.get 15 (by decide) (fun _ => rfl) (hn 15 (by decide))
          have e115 : x.tmps[115]?.getD undef = .bool true := hI.get 17 (by decide) (fun _ => rfl) (hn 17 (by decide))
          refine wp_yield (v := .bool true) ?_ (hI.yield hND 18 (by decide) (by decide) (fun _ => rfl))
          simp [go_sem, e113, e115]
        case o19 =>
          refine StepAt.mk rfl (ns := [18, 15]) (by kernel_rfl) rfl ?_
          intro L x W h0 hn hI
          have e116 : x.tmps[116]?.getD undef = .bool true := hI.get 18 (by decide) (fun _ => rfl) (hn 18 (by decide))
          refine wp_yield (v := .bool true) ?_ (hI.yield hND 19 (by decide) (by decide) (fun _ => rfl))
          simp [go_sem, e116]
        case o20 =>
          refine StepAt.mkg rfl (ns := [19]) (by kernel_rfl) 19 117 rfl (by kernel_rfl) (fun L x W hn hI => hI.get 19 (by decide) (fun _ => rfl) (hn 19 (by decide))) ?_
          intro L x W h0 hn hI
          have e6 : x.tmps[6]?.getD undef = .int .i64 0 := hI.old 6 (by decide)
          refine wp_yield (v := .int .i64 0) ?_ (hI.yield hND 20 (by decide) (by decide) (fun _ => rfl))
          simp [go_sem, e6]
        case o21 =>
          refine StepAt.mkg rfl (ns := [20, 19]) (by kernel_rfl) 19 117 rfl (by kernel_rfl) (fun L x W hn hI => hI.get 19 (by decide) (fun _ => rfl) (hn 19 (by decide))) ?_
          intro L x W h0 hn hI
          have e118 : x.tmps[118]?.getD undef = .int .i64 0 := hI.get 20 (by decide) (fun _ => rfl) (hn 20 (by decide))
          refine wp_yield (v := .bool true) ?_ (hI.yield hND 21 (by decide) (by decide) (fun _ => rfl))
          simp [go_sem, e118]
        case o22 =>
          refine StepAt.mk rfl (ns := [19, 21]) (by kernel_rfl) rfl ?_
          intro L x W h0 hn hI
          have e117 : x.tmps[117]?.getD undef = .bool true := hI.get 19 (by decide) (fun _ => rfl) (hn 19 (by decide))
          have e119 : x.tmps[119]?.getD undef = .bool true := hI.get 21 (by decide) (fun _ => rfl) (hn 21 (by decide))
          refine wp_yield (v := .bool true) ?_ (hI.yield hND 22 (by decide) (by decide) (fun _ => rfl))
          simp [go_sem, e117, e119]
        case o23 =>
          refine StepAt.mk rfl (ns := [22, 19]) (by kernel_rfl) rfl ?_
          intro L x W h0 hn hI
          have e120 : x.tmps[120]?.getD undef = .bool true := hI.get 22 (by decide) (fun _ => rfl) (hn 22 (by decide))
          refine wp_yield (v := .bool true) ?_ (hI.yield hND 23 (by decide) (by decide) (fun _ => rfl))
          simp [go_sem, e120]
        case o24 =>
          refine StepAt.mkg rfl (ns := [23]) (by kernel_rfl) 23 121 rfl (by kernel_rfl) (fun L x W hn hI => hI.get 23 (by decide) (fun _ => rfl) (hn 23 (by decide))) ?_
          intro L x W h0 hn hI
          have e7 : x.tmps[7]?.getD undef = .pointer (some ⟨w10.heap.size, 0, none⟩) := hI.old 7 (by decide)
          refine wp_yield (v := .pointer (some ⟨w10.heap.size, 3, none⟩)) ?_ (hI.yield hND 24 (by decide) (by decide) (fun _ => rfl))
          simp [go_sem, e7]
        case o25 =>
          refine StepAt.mkg rfl (ns := [24, 23]) (by kernel_rfl) 23 121 rfl (by kernel_rfl) (fun L x W hn hI => hI.get 23 (by decide) (fun _ => rfl) (hn 23 (by decide))) ?_
          intro L x W h0 hn hI
          have e122 : x.tmps[122]?.getD undef = .pointer (some ⟨w10.heap.size, 3, none⟩) := hI.get 24 (by decide) (fun _ => rfl) (hn 24 (by decide))
          have c3 := (B7_22.out.old hI.grown).cells.2.2.2.1
          dsimp only at c3
          refine wp_yield (v := .int .u32 3) ?_ (hI.yield hND 25 (by decide) (by decide) (fun _ => rfl))
          simp [go_sem, e122, c3]
        case o26 =>
          refine StepAt.mkg rfl (ns := [25, 23]) (by kernel_rfl) 23 121 rfl (by kernel_rfl) (fun L x W hn hI => hI.get 23 (by decide) (fun _ => rfl) (hn 23 (by decide))) ?_
          intro L x W h0 hn hI
          have e123 : x.tmps[123]?.getD undef = .int .u32 3 := hI.get 25 (by decide) (fun _ => rfl) (hn 25 (by decide))
          refine wp_yield (v := .bool true) ?_ (hI.yield hND 26 (by decide) (by decide) (fun _ => rfl))
          simp [go_sem, e123]
        case o27 =>
          refine StepAt.mk rfl (ns := [23, 26]) (by kernel_rfl) rfl ?_
          intro L x W h0 hn hI
          have e121 : x.tmps[121]?.getD undef = .bool true := hI.get 23 (by decide) (fun _ => rfl) (hn 23 (by decide))
          have e124 : x.tmps[124]?.getD undef = .bool true := hI.get 26 (by decide) (fun _ => rfl) (hn 26 (by decide))
          refine wp_yield (v := .bool true) ?_ (hI.yield hND 27 (by decide) (by decide) (fun _ => rfl))
          simp [go_sem, e121, e124]
        case o28 =>
          refine StepAt.mk rfl (ns := [27, 23]) (by kernel_rfl) rfl ?_
          intro L x W h0 hn hI
          have e125 : x.tmps[125]?.getD undef = .bool true := hI.get 27 (by decide) (fun _ => rfl) (hn 27 (by decide))
          refine wp_yield (v := .bool true) ?_ (hI.yield hND 28 (by decide) (by decide) (fun _ => rfl))
          simp [go_sem, e125]
        case o29 =>
          refine StepAt.mkg rfl (ns := [28]) (by kernel_rfl) 28 126 rfl (by kernel_rfl) (fun L x W hn hI => hI.get 28 (by decide) (fun _ => rfl) (hn 28 (by decide))) ?_
          intro L x W h0 hn hI
          have e10 : x.tmps[10]?.getD undef = .int .i64 10 := hI.old 10 (by decide)
          refine wp_yield (v := .int .i64 10) ?_ (hI.yield hND 29 (by decide) (by decide) (fun _ => rfl))
          simp [go_sem, e10]
        case o30 =>
          refine StepAt.mkg rfl (ns := [29, 28]) (by kernel_rfl) 28 126 rfl (by kernel_rfl) (fun L x W hn hI => hI.get 28 (by decide) (fun _ => rfl) (hn 28 (by decide))) ?_
          intro L x W h0 hn hI
          have e127 : x.tmps[127]?.getD undef = .int .i64 10 := hI.get 29 (by decide) (fun _ => rfl) (hn 29 (by decide))
          refine wp_yield (v := .bool true) ?_ (hI.yield hND 30 (by decide) (by decide) (fun _ => rfl))
          simp [go_sem, e127]
        case o31 =>
          refine StepAt.mk rfl (ns := [28, 30]) (by kernel_rfl) rfl ?_
          intro L x W h0 hn hI
          have e126 : x.tmps[126]?.getD undef = .bool true := hI.get 28 (by decide) (fun _ => rfl) (hn 28 (by decide))
          have e128 : x.tmps[128]?.getD undef = .bool true := hI.get 30 (by decide) (fun _ => rfl) (hn 30 (by decide))
          refine wp_yield (v := .bool true) ?_ (hI.yield hND 31 (by decide) (by decide) (fun _ => rfl))
          simp [go_sem, e126, e128]
        case o32 =>
          refine StepAt.mk rfl (ns := [31, 28]) (by kernel_rfl) rfl ?_
          intro L x W h0 hn hI
          have e129 : x.tmps[129]?.getD undef = .bool true := hI.get 31 (by decide) (fun _ => rfl) (hn 31 (by decide))
          refine wp_yield (v := .bool true) ?_ (hI.yield hND 32 (by decide) (by decide) (fun _ => rfl))
          simp [go_sem, e129]
        case o33 =>
          refine StepAt.mkg rfl (ns := [32]) (by kernel_rfl) 32 130 rfl (by kernel_rfl) (fun L x W hn hI => hI.get 32 (by decide) (fun _ => rfl) (hn 32 (by decide))) ?_
          intro L x W h0 hn hI
          have e11 : x.tmps[11]?.getD undef = .pointer (some ⟨w16.heap.size, 0, none⟩) := hI.old 11 (by decide)
          obtain ⟨c0, c1, c2, c3, c4⟩ := (B11_22.out.old hI.grown).cells
          dsimp only at c0 c1 c2 c3 c4
          refine wp_yield (v := .agg #[.int .u64 1, .int .i64 128, .int .i64 8, .int .u32 0, .slice (some ⟨A4.heap.size, 0, none⟩) 2 2]) ?_ (hI.yield hND 33 (by decide) (by decide) (fun _ => rfl))
          simp [go_sem, e11, c0, c1, c2, c3, c4]
        case o34 =>
          refine StepAt.mkg rfl (ns := [33, 32, 32]) (by kernel_rfl) 32 130 rfl (by kernel_rfl) (fun L x W hn hI => hI.get 32 (by decide) (fun _ => rfl) (hn 32 (by decide))) ?_
          intro L x W h0 hn hI
          have e131 : x.tmps[131]?.getD undef = .agg #[.int .u64 1, .int .i64 128, .int .i64 8, .int .u32 0, .slice (some ⟨A4.heap.size, 0, none⟩) 2 2] := hI.get 33 (by decide) (fun _ => rfl) (hn 33 (by decide))
          refine wp_func (v := .int .i64 2) (R := fun w2 => W.grownBy w2 none) (f := 16) (vs := #[.agg #[.int .u64 1, .int .i64 128, .int .i64 8, .int .u32 0, .slice (some ⟨A4.heap.size, 0, none⟩) 2 2]]) ?_ (HC11.out W hI.grown) (fun w2 hg => hI.value hND 34 (by decide) (by decide) (fun _ => rfl) hg)
          simp [go_sem, e131]
        case o35 =>
          refine StepAt.mkg rfl (ns := [34, 32]) (by kernel_rfl) 32 130 rfl (by kernel_rfl) (fun L x W hn hI => hI.get 32 (by decide) (fun _ => rfl) (hn 32 (by decide))) ?_
          intro L x W h0 hn hI
          have e132 : x.tmps[132]?.getD undef = .int .i64 2 := hI.get 34 (by decide) (fun _ => rfl) (hn 34 (by decide))
          refine wp_yield (v := .bool true) ?_ (hI.yield hND 35 (by decide) (by decide) (fun _ => rfl))
          simp [go_sem, e132]
        case o36 =>
          refine StepAt.mk rfl (ns := [32, 35]) (by kernel_rfl) rfl ?_
          intro L x W h0 hn hI
          have e130 : x.tmps[130]?.getD undef = .bool true := hI.get 32 (by decide) (fun _ => rfl) (hn 32 (by decide))
          have e133 : x.tmps[133]?.getD undef = .bool true := hI.get 35 (by decide) (fun _ => rfl) (hn 35 (by decide))
          refine wp_yield (v := .bool true) ?_ (hI.yield hND 36 (by decide) (by decide) (fun _ => rfl))
          simp [go_sem, e130, e133]
        case o37 =>
          refine StepAt.mk rfl (ns := [36, 34]) (by kernel_rfl) rfl ?_
          intro L x W h0 hn hI
          have e134 : x.tmps[134]?.getD undef = .bool true := hI.get 36 (by decide) (fun _ => rfl) (hn 36 (by decide))
          refine wp_yield (v := .bool true) ?_ (hI.yield hND 37 (by decide) (by decide) (fun _ => rfl))
          simp [go_sem, e134]
        case o38 =>
          refine StepAt.mkg rfl (ns := [37]) (by kernel_rfl) 37 135 rfl (by kernel_rfl) (fun L x W hn hI => hI.get 37 (by decide) (fun _ => rfl) (hn 37 (by decide))) ?_
          intro L x W h0 hn hI
          have e12 : x.tmps[12]?.getD undef = .pointer (some ⟨w16.heap.size + 1, 0, none⟩) := hI.old 12 (by decide)
          obtain ⟨c0, c1, c2, c3, c4⟩ := (B12_22.out.old hI.grown).cells
          dsimp only at c0 c1 c2 c3 c4
          refine wp_yield (v := .agg #[.int .u64 1, .int .i64 128, .int .i64 8, .int .u32 0, .slice (some ⟨Y1.heap.size, 0, none⟩) 1 1]) ?_ (hI.yield hND 38 (by decide) (by decide) (fun _ => rfl))
          simp [go_sem, e12, c0, c1, c2, c3, c4]
        case o39 =>
          refine StepAt.mkg rfl (ns := [38, 37, 37]) (by kernel_rfl) 37 135 rfl (by kernel_rfl) (fun L x W hn hI => hI.get 37 (by decide) (fun _ => rfl) (hn 37 (by decide))) ?_
          intro L x W h0 hn hI
          have e136 : x.tmps[136]?.getD undef = .agg #[.int .u64 1, .int .i64 128, .int .i64 8, .int .u32 0, .slice (some ⟨Y1.heap.size, 0, none⟩) 1 1] := hI.get 38 (by decide) (fun _ => rfl) (hn 38 (by decide))
          refine wp_func (v := .int .i64 2) (R := fun w2 => W.grownBy w2 none) (f := 16) (vs := #[.agg #[.int .u64 1, .int .i64 128, .int .i64 8, .int .u32 0, .slice (some ⟨Y1.heap.size, 0, none⟩) 1 1]]) ?_ (HC12.out W hI.grown) (fun w2 hg => hI.value hND 39 (by decide) (by decide) (fun _ => rfl) hg)
          simp [go_sem, e136]
        case o40 =>
          refine StepAt.mkg rfl (ns := [39, 37]) (by kernel_rfl) 37 135 rfl (by kernel_rfl) (fun L x W hn hI => hI.get 37 (by decide) (fun _ => rfl) (hn 37 (by decide))) ?_
          intro L x W h0 hn hI
          have e137 : x.tmps[137]?.getD undef = .int .i64 2 := hI.get 39 (by decide) (fun _ => rfl) (hn 39 (by decide))
          refine wp_yield (v := .bool true) ?_ (hI.yield hND 40 (by decide) (by decide) (fun _ => rfl))
          simp [go_sem, e137]
        case o41 =>
          refine StepAt.mk rfl (ns := [37, 40]) (by kernel_rfl) rfl ?_
          intro L x W h0 hn hI
          have e135 : x.tmps[135]?.getD undef = .bool true := hI.get 37 (by decide) (fun _ => rfl) (hn 37 (by decide))
          have e138 : x.tmps[138]?.getD undef = .bool true := hI.get 40 (by decide) (fun _ => rfl) (hn 40 (by decide))
          refine wp_yield (v := .bool true) ?_ (hI.yield hND 41 (by decide) (by decide) (fun _ => rfl))
          simp [go_sem, e135, e138]
        case o42 =>
          refine StepAt.mk rfl (ns := [41, 39]) (by kernel_rfl) rfl ?_
          intro L x W h0 hn hI
          have e139 : x.tmps[139]?.getD undef = .bool true := hI.get 41 (by decide) (fun _ => rfl) (hn 41 (by decide))
          refine wp_yield (v := .bool true) ?_ (hI.yield hND 42 (by decide) (by decide) (fun _ => rfl))
          simp [go_sem, e139]
        case o43 =>
          refine StepAt.mkg rfl (ns := [42]) (by kernel_rfl) 42 140 rfl (by kernel_rfl) (fun L x W hn hI => hI.get 42 (by decide) (fun _ => rfl) (hn 42 (by decide))) ?_
          intro L x W h0 hn hI
          have e13 : x.tmps[13]?.getD undef = .pointer (some ⟨w16.heap.size + 1 + 1, 0, none⟩) := hI.old 13 (by decide)
          obtain ⟨c0, c1, c2, c3, c4⟩ := (B13_22.out.old hI.grown).cells
          dsimp only at c0 c1 c2 c3 c4
          refine wp_yield (v := .agg #[.int .u64 1, .int .i64 128, .int .i64 8, .int .u32 8, .slice (some ⟨s14, 0, none⟩) 1 1]) ?_ (hI.yield hND 43 (by decide) (by decide) (fun _ => rfl))
          simp [go_sem, e13, c0, c1, c2, c3, c4]
        case o44 =>
          refine StepAt.mkg rfl (ns := [43, 42, 42]) (by kernel_rfl) 42 140 rfl (by kernel_rfl) (fun L x W hn hI => hI.get 42 (by decide) (fun _ => rfl) (hn 42 (by decide))) ?_
          intro L x W h0 hn hI
          have e141 : x.tmps[141]?.getD undef = .agg #[.int .u64 1, .int .i64 128, .int .i64 8, .int .u32 8, .slice (some ⟨s14, 0, none⟩) 1 1] := hI.get 43 (by decide) (fun _ => rfl) (hn 43 (by decide))
          refine wp_func (v := .int .i64 2) (R := fun w2 => W.grownBy w2 none) (f := 16) (vs := #[.agg #[.int .u64 1, .int .i64 128, .int .i64 8, .int .u32 8, .slice (some ⟨s14, 0, none⟩) 1 1]]) ?_ (HC13.out W hI.grown) (fun w2 hg => hI.value hND 44 (by decide) (by decide) (fun _ => rfl) hg)
          simp [go_sem, e141]
        case o45 =>
          refine StepAt.mkg rfl (ns := [44, 42]) (by kernel_rfl) 42 140 rfl (by kernel_rfl) (fun L x W hn hI => hI.get 42 (by decide) (fun _ => rfl) (hn 42 (by decide))) ?_
          intro L x W h0 hn hI
          have e142 : x.tmps[142]?.getD undef = .int .i64 2 := hI.get 44 (by decide) (fun _ => rfl) (hn 44 (by decide))
          refine wp_yield (v := .bool true) ?_ (hI.yield hND 45 (by decide) (by decide) (fun _ => rfl))
          simp [go_sem, e142]
        case o46 =>
          refine StepAt.mk rfl (ns := [42, 45]) (by kernel_rfl) rfl ?_
          intro L x W h0 hn hI
          have e140 : x.tmps[140]?.getD undef = .bool true := hI.get 42 (by decide) (fun _ => rfl) (hn 42 (by decide))
          have e143 : x.tmps[143]?.getD undef = .bool true := hI.get 45 (by decide) (fun _ => rfl) (hn 45 (by decide))
          refine wp_yield (v := .bool true) ?_ (hI.yield hND 46 (by decide) (by decide) (fun _ => rfl))
          simp [go_sem, e140, e143]
        case o47 =>
          refine StepAt.mk rfl (ns := [46, 44]) (by kernel_rfl) rfl ?_
          intro L x W h0 hn hI
          have e144 : x.tmps[144]?.getD undef = .bool true := hI.get 46 (by decide) (fun _ => rfl) (hn 46 (by decide))
          refine wp_yield (v := .bool true) ?_ (hI.yield hND 47 (by decide) (by decide) (fun _ => rfl))
          simp [go_sem, e144]
        case o48 =>
          refine StepAt.mkg rfl (ns := [47]) (by kernel_rfl) 47 145 rfl (by kernel_rfl) (fun L x W hn hI => hI.get 47 (by decide) (fun _ => rfl) (hn 47 (by decide))) ?_
          intro L x W h0 hn hI
          have e14 : x.tmps[14]?.getD undef = .pointer (some ⟨w16.heap.size + 1 + 1 + 1, 0, none⟩) := hI.old 14 (by decide)
          obtain ⟨c0, c1, c2, c3, c4⟩ := (B14_22.out.old hI.grown).cells
          dsimp only at c0 c1 c2 c3 c4
          refine wp_yield (v := .agg #[.int .u64 1, .int .i64 128, .int .i64 8, .int .u32 2, .slice (some ⟨s15, 0, none⟩) 1 1]) ?_ (hI.yield hND 48 (by decide) (by decide) (fun _ => rfl))
          simp [go_sem, e14, c0, c1, c2, c3, c4]
        case o49 =>
          refine StepAt.mkg rfl (ns := [48, 47, 47]) (by kernel_rfl) 47 145 rfl (by kernel_rfl) (fun L x W hn hI => hI.get 47 (by decide) (fun _ => rfl) (hn 47 (by decide))) ?_
          intro L x W h0 hn hI
          have e146 : x.tmps[146]?.getD undef = .agg #[.int .u64 1, .int .i64 128, .int .i64 8, .int .u32 2, .slice (some ⟨s15, 0, none⟩) 1 1] := hI.get 48 (by decide) (fun _ => rfl) (hn 48 (by decide))
          refine wp_func (v := .int .i64 2) (R := fun w2 => W.grownBy w2 none) (f := 16) (vs := #[.agg #[.int .u64 1, .int .i64 128, .int .i64 8, .int .u32 2, .slice (some ⟨s15, 0, none⟩) 1 1]]) ?_ (HC14.out W hI.grown) (fun w2 hg => hI.value hND 49 (by decide) (by decide) (fun _ => rfl) hg)
          simp [go_sem, e146]
        case o50 =>
          refine StepAt.mkg rfl (ns := [49, 47]) (by kernel_rfl) 47 145 rfl (by kernel_rfl) (fun L x W hn hI => hI.get 47 (by decide) (fun _ => rfl) (hn 47 (by decide))) ?_
          intro L x W h0 hn hI
          have e147 : x.tmps[147]?.getD undef = .int .i64 2 := hI.get 49 (by decide) (fun _ => rfl) (hn 49 (by decide))
          refine wp_yield (v := .bool true) ?_ (hI.yield hND 50 (by decide) (by decide) (fun _ => rfl))
          simp [go_sem, e147]
        case o51 =>
          refine StepAt.mk rfl (ns := [47, 50]) (by kernel_rfl) rfl ?_
          intro L x W h0 hn hI
          have e145 : x.tmps[145]?.getD undef = .bool true := hI.get 47 (by decide) (fun _ => rfl) (hn 47 (by decide))
          have e148 : x.tmps[148]?.getD undef = .bool true := hI.get 50 (by decide) (fun _ => rfl) (hn 50 (by decide))
          refine wp_yield (v := .bool true) ?_ (hI.yield hND 51 (by decide) (by decide) (fun _ => rfl))
          simp [go_sem, e145, e148]
        case o52 =>
          refine StepAt.mk rfl (ns := [51, 49]) (by kernel_rfl) rfl ?_
          intro L x W h0 hn hI
          have e149 : x.tmps[149]?.getD undef = .bool true := hI.get 51 (by decide) (fun _ => rfl) (hn 51 (by decide))
          refine wp_yield (v := .bool true) ?_ (hI.yield hND 52 (by decide) (by decide) (fun _ => rfl))
          simp [go_sem, e149]
        case o53 =>
          refine StepAt.mkg rfl (ns := [52]) (by kernel_rfl) 52 150 rfl (by kernel_rfl) (fun L x W hn hI => hI.get 52 (by decide) (fun _ => rfl) (hn 52 (by decide))) ?_
          intro L x W h0 hn hI
          have e15 : x.tmps[15]?.getD undef = .pointer (some ⟨w16.heap.size + 1 + 1 + 1 + 1, 0, none⟩) := hI.old 15 (by decide)
          obtain ⟨c0, c1, c2, c3, c4⟩ := (B15_22.out.old hI.grown).cells
          dsimp only at c0 c1 c2 c3 c4
          refine wp_yield (v := .agg #[.int .u64 0, .int .i64 128, .int .i64 8, .int .u32 0, .slice (some ⟨s16, 0, none⟩) 1 1]) ?_ (hI.yield hND 53 (by decide) (by decide) (fun _ => rfl))
          simp [go_sem, e15, c0, c1, c2, c3, c4]
        case o54 =>
          refine StepAt.mkg rfl (ns := [53, 52, 52]) (by kernel_rfl) 52 150 rfl (by kernel_rfl) (fun L x W hn hI => hI.get 52 (by decide) (fun _ => rfl) (hn 52 (by decide))) ?_
          intro L x W h0 hn hI
          have e151 : x.tmps[151]?.getD undef = .agg #[.int .u64 0, .int .i64 128, .int .i64 8, .int .u32 0, .slice (some ⟨s16, 0, none⟩) 1 1] := hI.get 53 (by decide) (fun _ => rfl) (hn 53 (by decide))
          refine wp_func (v := .int .i64 2) (R := fun w2 => W.grownBy w2 none) (f := 16) (vs := #[.agg #[.int .u64 0, .int .i64 128, .int .i64 8, .int .u32 0, .slice (some ⟨s16, 0, none⟩) 1 1]]) ?_ (HC15.out W hI.grown) (fun w2 hg => hI.value hND 54 (by decide) (by decide) (fun _ => rfl) hg)
          simp [go_sem, e151]
        case o55 =>
          refine StepAt.mkg rfl (ns := [54, 52]) (by kernel_rfl) 52 150 rfl (by kernel_rfl) (fun L x W hn hI => hI.get 52 (by decide) (fun _ => rfl) (hn 52 (by decide))) ?_
          intro L x W h0 hn hI
          have e152 : x.tmps[152]?.getD undef = .int .i64 2 := hI.get 54 (by decide) (fun _ => rfl) (hn 54 (by decide))
          refine wp_yield (v := .bool true) ?_ (hI.yield hND 55 (by decide) (by decide) (fun _ => rfl))
          simp [go_sem, e152]
        case o56 =>
          refine StepAt.mk rfl (ns := [52, 55]) (by kernel_rfl) rfl ?_
          intro L x W h0 hn hI
          have e150 : x.tmps[150]?.getD undef = .bool true := hI.get 52 (by decide) (fun _ => rfl) (hn 52 (by decide))
          have e153 : x.tmps[153]?.getD undef = .bool true := hI.get 55 (by decide) (fun _ => rfl) (hn 55 (by decide))
          refine wp_yield (v := .bool true) ?_ (hI.yield hND 56 (by decide) (by decide) (fun _ => rfl))
          simp [go_sem, e150, e153]
        case o57 =>
          refine StepAt.mk rfl (ns := [56, 54]) (by kernel_rfl) rfl ?_
          intro L x W h0 hn hI
          have e154 : x.tmps[154]?.getD undef = .bool true := hI.get 56 (by decide) (fun _ => rfl) (hn 56 (by decide))
          refine wp_yield (v := .bool true) ?_ (hI.yield hND 57 (by decide) (by decide) (fun _ => rfl))
          simp [go_sem, e154]
        case o58 =>
          refine StepAt.mkg rfl (ns := [57]) (by kernel_rfl) 57 155 rfl (by kernel_rfl) (fun L x W hn hI => hI.get 57 (by decide) (fun _ => rfl) (hn 57 (by decide))) ?_
          intro L x W h0 hn hI
          have e16 : x.tmps[16]?.getD undef = .pointer (some ⟨Y2.heap.size, 0, none⟩) := hI.old 16 (by decide)
          obtain ⟨c0, c1, c2, c3, c4⟩ := (B16_22.out.old hI.grown).cells
          dsimp only at c0 c1 c2 c3 c4
          refine wp_yield (v := .agg #[.int .u64 1, .int .i64 128, .int .i64 1400, .int .u32 0, .slice a 25 c]) ?_ (hI.yield hND 58 (by decide) (by decide) (fun _ => rfl))
          simp [go_sem, e16, c0, c1, c2, c3, c4]
        case o59 =>
          refine StepAt.mkg rfl (ns := [58, 57, 57]) (by kernel_rfl) 57 155 rfl (by kernel_rfl) (fun L x W hn hI => hI.get 57 (by decide) (fun _ => rfl) (hn 57 (by decide))) ?_
          intro L x W h0 hn hI
          have e156 : x.tmps[156]?.getD undef = .agg #[.int .u64 1, .int .i64 128, .int .i64 1400, .int .u32 0, .slice a 25 c] := hI.get 58 (by decide) (fun _ => rfl) (hn 58 (by decide))
          refine wp_func (v := .int .i64 3) (R := fun w2 => W.grownBy w2 none) (f := 16) (vs := #[.agg #[.int .u64 1, .int .i64 128, .int .i64 1400, .int .u32 0, .slice a 25 c]]) ?_ (HC16.out W hI.grown) (fun w2 hg => hI.value hND 59 (by decide) (by decide) (fun _ => rfl) hg)
          simp [go_sem, e156]
        case o60 =>
          refine StepAt.mkg rfl (ns := [59, 57]) (by kernel_rfl) 57 155 rfl (by kernel_rfl) (fun L x W hn hI => hI.get 57 (by decide) (fun _ => rfl) (hn 57 (by decide))) ?_
          intro L x W h0 hn hI
          have e157 : x.tmps[157]?.getD undef = .int .i64 3 := hI.get 59 (by decide) (fun _ => rfl) (hn 59 (by decide))
          refine wp_yield (v := .bool true) ?_ (hI.yield hND 60 (by decide) (by decide) (fun _ => rfl))
          simp [go_sem, e157]
        case o61 =>
          refine StepAt.mk rfl (ns := [57, 60]) (by kernel_rfl) rfl ?_
          intro L x W h0 hn hI
          have e155 : x.tmps[155]?.getD undef = .bool true := hI.get 57 (by decide) (fun _ => rfl) (hn 57 (by decide))
          have e158 : x.tmps[158]?.getD undef = .bool true := hI.get 60 (by decide) (fun _ => rfl) (hn 60 (by decide))
          refine wp_yield (v := .bool true) ?_ (hI.yield hND 61 (by decide) (by decide) (fun _ => rfl))
          simp [go_sem, e155, e158]
        case o62 =>
          refine StepAt.mk rfl (ns := [61, 59]) (by kernel_rfl) rfl ?_
          intro L x W h0 hn hI
          have e159 : x.tmps[159]?.getD undef = .bool true := hI.get 61 (by decide) (fun _ => rfl) (hn 61 (by decide))
          refine wp_yield (v := .bool true) ?_ (hI.yield hND 62 (by decide) (by decide) (fun _ => rfl))
          simp [go_sem, e159]
        case o63 =>
          refine StepAt.mkg rfl (ns := [62]) (by kernel_rfl) 62 160 rfl (by kernel_rfl) (fun L x W hn hI => hI.get 62 (by decide) (fun _ => rfl) (hn 62 (by decide))) ?_
          intro L x W h0 hn hI
          have e21 : x.tmps[21]?.getD undef = .int .i64 11 := hI.old 21 (by decide)
          refine wp_yield (v := .int .i64 11) ?_ (hI.yield hND 63 (by decide) (by decide) (fun _ => rfl))
          simp [go_sem, e21]
        case o64 =>
          refine StepAt.mkg rfl (ns := [63, 62]) (by kernel_rfl) 62 160 rfl (by kernel_rfl) (fun L x W hn hI => hI.get 62 (by decide) (fun _ => rfl) (hn 62 (by decide))) ?_
          intro L x W h0 hn hI
          have e161 : x.tmps[161]?.getD undef = .int .i64 11 := hI.get 63 (by decide) (fun _ => rfl) (hn 63 (by decide))
          refine wp_yield (v := .bool true) ?_ (hI.yield hND 64 (by decide) (by decide) (fun _ => rfl))
          simp [go_sem, e161]
        case o65 =>
          refine StepAt.mk rfl (ns := [62, 64]) (by kernel_rfl) rfl ?_
          intro L x W h0 hn hI
          have e160 : x.tmps[160]?.getD undef = .bool true := hI.get 62 (by decide) (fun _ => rfl) (hn 62 (by decide))
          have e162 : x.tmps[162]?.getD undef = .bool true := hI.get 64 (by decide) (fun _ => rfl) (hn 64 (by decide))
          refine wp_yield (v := .bool true) ?_ (hI.yield hND 65 (by decide) (by decide) (fun _ => rfl))
          simp [go_sem, e160, e162]
        case o66 =>
          refine StepAt.mk rfl (ns := [65, 62]) (by kernel_rfl) rfl ?_
          intro L x W h0 hn hI
          have e163 : x.tmps[163]?.getD undef = .bool true := hI.get 65 (by decide) (fun _ => rfl) (hn 65 (by decide))
          refine wp_yield (v := .bool true) ?_ (hI.yield hND 66 (by decide) (by decide) (fun _ => rfl))
          simp [go_sem, e163]
        case o67 =>
          refine StepAt.mkg rfl (ns := [66]) (by kernel_rfl) 66 164 rfl (by kernel_rfl) (fun L x W hn hI => hI.get 66 (by decide) (fun _ => rfl) (hn 66 (by decide))) ?_
          intro L x W h0 hn hI
          have e25 : x.tmps[25]?.getD undef = .int .i64 4 := hI.old 25 (by decide)
          refine wp_yield (v := .int .i64 4) ?_ (hI.yield hND 67 (by decide) (by decide) (fun _ => rfl))
          simp [go_sem, e25]
        case o68 =>
          refine StepAt.mkg rfl (ns := [67, 66]) (by kernel_rfl) 66 164 rfl (by kernel_rfl) (fun L x W hn hI => hI.get 66 (by decide) (fun _ => rfl) (hn 66 (by decide))) ?_
          intro L x W h0 hn hI
          have e165 : x.tmps[165]?.getD undef = .int .i64 4 := hI.get 67 (by decide) (fun _ => rfl) (hn 67 (by decide))
          refine wp_yield (v := .bool true) ?_ (hI.yield hND 68 (by decide) (by decide) (fun _ => rfl))
          simp [go_sem, e165]
        case o69 =>
          refine StepAt.mk rfl (ns := [66, 68]) (by kernel_rfl) rfl ?_
          intro L x W h0 hn hI
          have e164 : x.tmps[164]?.getD undef = .bool true := hI.get 66 (by decide) (fun _ => rfl) (hn 66 (by decide))
          have e166 : x.tmps[166]?.getD undef = .bool true := hI.get 68 (by decide) (fun _ => rfl) (hn 68 (by decide))
          refine wp_yield (v := .bool true) ?_ (hI.yield hND 69 (by decide) (by decide) (fun _ => rfl))
          simp [go_sem, e164, e166]
        case o70 =>
          refine StepAt.mk rfl (ns := [69, 66]) (by kernel_rfl) rfl ?_
          intro L x W h0 hn hI
          have e167 : x.tmps[167]?.getD undef = .bool true := hI.get 69 (by decide) (fun _ => rfl) (hn 69 (by decide))
          refine wp_yield (v := .bool true) ?_ (hI.yield hND 70 (by decide) (by decide) (fun _ => rfl))
          simp [go_sem, e167]
        case o71 =>
          refine StepAt.mkg rfl (ns := [70, 70]) (by kernel_rfl) 70 168 rfl (by kernel_rfl) (fun L x W hn hI => hI.get 70 (by decide) (fun _ => rfl) (hn 70 (by decide))) ?_
          intro L x W h0 hn hI
          refine wp_func (v := .int .i64 1) (R := fun w2 => W.grownBy w2 none) (f := 17) (vs := #[.int .i64 0]) ?_ (HO0.out W) (fun w2 hg => hI.value hND 71 (by decide) (by decide) (fun _ => rfl) hg)
          simp [go_sem]
        case o72 =>
          refine StepAt.mkg rfl (ns := [71, 70]) (by kernel_rfl) 70 168 rfl (by kernel_rfl) (fun L x W hn hI => hI.get 70 (by decide) (fun _ => rfl) (hn 70 (by decide))) ?_
          intro L x W h0 hn hI
          have e169 : x.tmps[169]?.getD undef = .int .i64 1 := hI.get 71 (by decide) (fun _ => rfl) (hn 71 (by decide))
          refine wp_yield (v := .bool true) ?_ (hI.yield hND 72 (by decide) (by decide) (fun _ => rfl))
          simp [go_sem, e169]
        case o73 =>
          refine StepAt.mk rfl (ns := [70, 72]) (by kernel_rfl) rfl ?_
          intro L x W h0 hn hI
          have e168 : x.tmps[168]?.getD undef = .bool true := hI.get 70 (by decide) (fun _ => rfl) (hn 70 (by decide))
          have e170 : x.tmps[170]?.getD undef = .bool true := hI.get 72 (by decide) (fun _ => rfl) (hn 72 (by decide))
          refine wp_yield (v := .bool true) ?_ (hI.yield hND 73 (by decide) (by decide) (fun _ => rfl))
          simp [go_sem, e168, e170]
        case o74 =>
          refine StepAt.mk rfl (ns := [73, 71]) (by kernel_rfl) rfl ?_
          intro L x W h0 hn hI
          have e171 : x.tmps[171]?.getD undef = .bool true := hI.get 73 (by decide) (fun _ => rfl) (hn 73 (by decide))
          refine wp_yield (v := .bool true) ?_ (hI.yield hND 74 (by decide) (by decide) (fun _ => rfl))
          simp [go_sem, e171]
        case o75 =>
          refine StepAt.mkg rfl (ns := [74, 74]) (by kernel_rfl) 74 172 rfl (by kernel_rfl) (fun L x W hn hI => hI.get 74 (by decide) (fun _ => rfl) (hn 74 (by decide))) ?_
          intro L x W h0 hn hI
          refine wp_func (v := .int .i64 0) (R := fun w2 => W.grownBy w2 none) (f := 17) (vs := #[.int .i64 1]) ?_ (HO1.out W) (fun w2 hg => hI.value hND 75 (by decide) (by decide) (fun _ => rfl) hg)
          simp [go_sem]
        case o76 =>
          refine StepAt.mkg rfl (ns := [75, 74]) (by kernel_rfl) 74 172 rfl (by kernel_rfl) (fun L x W hn hI => hI.get 74 (by decide) (fun _ => rfl) (hn 74 (by decide))) ?_
          intro L x W h0 hn hI
          have e173 : x.tmps[173]?.getD undef = .int .i64 0 := hI.get 75 (by decide) (fun _ => rfl) (hn 75 (by decide))
          refine wp_yield (v := .bool true) ?_ (hI.yield hND 76 (by decide) (by decide) (fun _ => rfl))
          simp [go_sem, e173]
        case o77 =>
          refine StepAt.mk rfl (ns := [74, 76]) (by kernel_rfl) rfl ?_
          intro L x W h0 hn hI
          have e172 : x.tmps[172]?.getD undef = .bool true := hI.get 74 (by decide) (fun _ => rfl) (hn 74 (by decide))
          have e174 : x.tmps[174]?.getD undef = .bool true := hI.get 76 (by decide) (fun _ => rfl) (hn 76 (by decide))
          refine wp_yield (v := .bool true) ?_ (hI.yield hND 77 (by decide) (by decide) (fun _ => rfl))
          simp [go_sem, e172, e174]
        case o78 =>
          refine StepAt.mk rfl (ns := [77, 75]) (by kernel_rfl) rfl ?_
          intro L x W h0 hn hI
          have e175 : x.tmps[175]?.getD undef = .bool true := hI.get 77 (by decide) (fun _ => rfl) (hn 77 (by decide))
          refine wp_yield (v := .bool true) ?_ (hI.yield hND 78 (by decide) (by decide) (fun _ => rfl))
          simp [go_sem, e175]
        case o79 =>
          refine StepAt.mkg rfl (ns := [78, 78]) (by kernel_rfl) 78 176 rfl (by kernel_rfl) (fun L x W hn hI => hI.get 78 (by decide) (fun _ => rfl) (hn 78 (by decide))) ?_
          intro L x W h0 hn hI
          refine wp_func (v := .int .i64 0) (R := fun w2 => W.grownBy w2 none) (f := 17) (vs := #[.int .i64 7]) ?_ (HO7.out W) (fun w2 hg => hI.value hND 79 (by decide) (by decide) (fun _ => rfl) hg)
          simp [go_sem]
        case o80 =>
          refine StepAt.mkg rfl (ns := [79, 78]) (by kernel_rfl) 78 176 rfl (by kernel_rfl) (fun L x W hn hI => hI.get 78 (by decide) (fun _ => rfl) (hn 78 (by decide))) ?_
          intro L x W h0 hn hI
          have e177 : x.tmps[177]?.getD undef = .int .i64 0 := hI.get 79 (by decide) (fun _ => rfl) (hn 79 (by decide))
          refine wp_yield (v := .bool true) ?_ (hI.yield hND 80 (by decide) (by decide) (fun _ => rfl))
          simp [go_sem, e177]
        case o81 =>
          refine StepAt.mk rfl (ns := [78, 80]) (by kernel_rfl) rfl ?_
          intro L x W h0 hn hI
          have e176 : x.tmps[176]?.getD undef = .bool true := hI.get 78 (by decide) (fun _ => rfl) (hn 78 (by decide))
          have e178 : x.tmps[178]?.getD undef = .bool true := hI.get 80 (by decide) (fun _ => rfl) (hn 80 (by decide))
          refine wp_yield (v := .bool true) ?_ (hI.yield hND 81 (by decide) (by decide) (fun _ => rfl))
          simp [go_sem, e176, e178]
        case o82 =>
          refine StepAt.mk rfl (ns := [81, 79]) (by kernel_rfl) rfl ?_
          intro L x W h0 hn hI
          have e179 : x.tmps[179]?.getD undef = .bool true := hI.get 81 (by decide) (fun _ => rfl) (hn 81 (by decide))
          refine wp_yield (v := .bool true) ?_ (hI.yield hND 82 (by decide) (by decide) (fun _ => rfl))
          simp [go_sem, e179]
        case o83 =>
          refine StepAt.mkg rfl (ns := [82]) (by kernel_rfl) 82 180 rfl (by kernel_rfl) (fun L x W hn hI => hI.get 82 (by decide) (fun _ => rfl) (hn 82 (by decide))) ?_
          intro L x W h0 hn hI
          refine wp_yield (v := .agg #[.int .i64 128, .int .i64 8]) ?_ (hI.yield hND 83 (by decide) (by decide) (fun _ => rfl))
          simp [go_sem]
        case o84 =>
          refine StepAt.mkg rfl (ns := [83, 82, 82]) (by kernel_rfl) 82 180 rfl (by kernel_rfl) (fun L x W hn hI => hI.get 82 (by decide) (fun _ => rfl) (hn 82 (by decide))) ?_
          intro L x W h0 hn hI
          have e181 : x.tmps[181]?.getD undef = .agg #[.int .i64 128, .int .i64 8] := hI.get 83 (by decide) (fun _ => rfl) (hn 83 (by decide))
          refine wp_func (v := .int .i64 1) (R := fun w2 => W.grownBy w2 none) (f := 18) (vs := #[.agg #[.int .i64 128, .int .i64 8]]) ?_ (HPG8.out W) (fun w2 hg => hI.value hND 84 (by decide) (by decide) (fun _ => rfl) hg)
          simp [go_sem, e181]
        case o85 =>
          refine StepAt.mkg rfl (ns := [84, 82]) (by kernel_rfl) 82 180 rfl (by kernel_rfl) (fun L x W hn hI => hI.get 82 (by decide) (fun _ => rfl) (hn 82 (by decide))) ?_
          intro L x W h0 hn hI
          have e182 : x.tmps[182]?.getD undef = .int .i64 1 := hI.get 84 (by decide) (fun _ => rfl) (hn 84 (by decide))
          refine wp_yield (v := .bool true) ?_ (hI.yield hND 85 (by decide) (by decide) (fun _ => rfl))
          simp [go_sem, e182]
        case o86 =>
          refine StepAt.mk rfl (ns := [82, 85]) (by kernel_rfl) rfl ?_
          intro L x W h0 hn hI
          have e180 : x.tmps[180]?.getD undef = .bool true := hI.get 82 (by decide) (fun _ => rfl) (hn 82 (by decide))
          have e183 : x.tmps[183]?.getD undef = .bool true := hI.get 85 (by decide) (fun _ => rfl) (hn 85 (by decide))
          refine wp_yield (v := .bool true) ?_ (hI.yield hND 86 (by decide) (by decide) (fun _ => rfl))
          simp [go_sem, e180, e183]
        case o87 =>
          refine StepAt.mk rfl (ns := [86, 84]) (by kernel_rfl) rfl ?_
          intro L x W h0 hn hI
          have e184 : x.tmps[184]?.getD undef = .bool true := hI.get 86 (by decide) (fun _ => rfl) (hn 86 (by decide))
          refine wp_yield (v := .bool true) ?_ (hI.yield hND 87 (by decide) (by decide) (fun _ => rfl))
          simp [go_sem, e184]
        case o88 =>
          refine StepAt.mkg rfl (ns := [87]) (by kernel_rfl) 87 185 rfl (by kernel_rfl) (fun L x W hn hI => hI.get 87 (by decide) (fun _ => rfl) (hn 87 (by decide))) ?_
          intro L x W h0 hn hI
          refine wp_yield (v := .agg #[.int .i64 128, .int .i64 57]) ?_ (hI.yield hND 88 (by decide) (by decide) (fun _ => rfl))
          simp [go_sem]
        case o89 =>
          refine StepAt.mkg rfl (ns := [88, 87, 87]) (by kernel_rfl) 87 185 rfl (by kernel_rfl) (fun L x W hn hI => hI.get 87 (by decide) (fun _ => rfl) (hn 87 (by decide))) ?_
          intro L x W h0 hn hI
          have e186 : x.tmps[186]?.getD undef = .agg #[.int .i64 128, .int .i64 57] := hI.get 88 (by decide) (fun _ => rfl) (hn 88 (by decide))
          refine wp_func (v := .int .i64 2) (R := fun w2 => W.grownBy w2 none) (f := 18) (vs := #[.agg #[.int .i64 128, .int .i64 57]]) ?_ (HPG57.out W) (fun w2 hg => hI.value hND 89 (by decide) (by decide) (fun _ => rfl) hg)
          simp [go_sem, e186]
        case o90 =>
          refine StepAt.mkg rfl (ns := [89, 87]) (by kernel_rfl) 87 185 rfl (by kernel_rfl) (fun L x W hn hI => hI.get 87 (by decide) (fun _ => rfl) (hn 87 (by decide))) ?_
          intro L x W h0 hn hI
          have e187 : x.tmps[187]?.getD undef = .int .i64 2 := hI.get 89 (by decide) (fun _ => rfl) (hn 89 (by decide))
          refine wp_yield (v := .bool true) ?_ (hI.yield hND 90 (by decide) (by decide) (fun _ => rfl))
          simp [go_sem, e187]
        case o91 =>
          refine StepAt.mk rfl (ns := [87, 90]) (by kernel_rfl) rfl ?_
          intro L x W h0 hn hI
          have e185 : x.tmps[185]?.getD undef = .bool true := hI.get 87 (by decide) (fun _ => rfl) (hn 87 (by decide))
          have e188 : x.tmps[188]?.getD undef = .bool true := hI.get 90 (by decide) (fun _ => rfl) (hn 90 (by decide))
          refine wp_yield (v := .bool true) ?_ (hI.yield hND 91 (by decide) (by decide) (fun _ => rfl))
          simp [go_sem, e185, e188]
        case o92 =>
          refine StepAt.mk rfl (ns := [91, 89]) (by kernel_rfl) rfl ?_
          intro L x W h0 hn hI
          have e189 : x.tmps[189]?.getD undef = .bool true := hI.get 91 (by decide) (fun _ => rfl) (hn 91 (by decide))
          refine wp_yield (v := .bool true) ?_ (hI.yield hND 92 (by decide) (by decide) (fun _ => rfl))
          simp [go_sem, e189]
        case o93 =>
          refine StepAt.mkg rfl (ns := [92]) (by kernel_rfl) 92 190 rfl (by kernel_rfl) (fun L x W hn hI => hI.get 92 (by decide) (fun _ => rfl) (hn 92 (by decide))) ?_
          intro L x W h0 hn hI
          refine wp_yield (v := .agg #[.int .i64 0, .int .i64 0]) ?_ (hI.yield hND 93 (by decide) (by decide) (fun _ => rfl))
          simp [go_sem]
        case o94 =>
          refine StepAt.mkg rfl (ns := [93, 92, 92]) (by kernel_rfl) 92 190 rfl (by kernel_rfl) (fun L x W hn hI => hI.get 92 (by decide) (fun _ => rfl) (hn 92 (by decide))) ?_
          intro L x W h0 hn hI
          have e191 : x.tmps[191]?.getD undef = .agg #[.int .i64 0, .int .i64 0] := hI.get 93 (by decide) (fun _ => rfl) (hn 93 (by decide))
          refine wp_func (v := .int .i64 0) (R := fun w2 => W.grownBy w2 none) (f := 18) (vs := #[.agg #[.int .i64 0, .int .i64 0]]) ?_ (HPG0.out W) (fun w2 hg => hI.value hND 94 (by decide) (by decide) (fun _ => rfl) hg)
          simp [go_sem, e191]
        case o95 =>
          refine StepAt.mkg rfl (ns := [94, 92]) (by kernel_rfl) 92 190 rfl (by kernel_rfl) (fun L x W hn hI => hI.get 92 (by decide) (fun _ => rfl) (hn 92 (by decide))) ?_
          intro L x W h0 hn hI
          have e192 : x.tmps[192]?.getD undef = .int .i64 0 := hI.get 94 (by decide) (fun _ => rfl) (hn 94 (by decide))
          refine wp_yield (v := .bool true) ?_ (hI.yield hND 95 (by decide) (by decide) (fun _ => rfl))
          simp [go_sem, e192]
        case o96 =>
          refine StepAt.mk rfl (ns := [92, 95]) (by kernel_rfl) rfl ?_
          intro L x W h0 hn hI
          have e190 : x.tmps[190]?.getD undef = .bool true := hI.get 92 (by decide) (fun _ => rfl) (hn 92 (by decide))
          have e193 : x.tmps[193]?.getD undef = .bool true := hI.get 95 (by decide) (fun _ => rfl) (hn 95 (by decide))
          refine wp_yield (v := .bool true) ?_ (hI.yield hND 96 (by decide) (by decide) (fun _ => rfl))
          simp [go_sem, e190, e193]
        case o97 =>
          refine StepAt.mk rfl (ns := [96, 94, 0, 1, 2, 3, 4, 5, 6, 7, 8, 9, 10, 11, 12, 13, 14, 15, 16, 17, 18, 19, 20, 21, 22, 23, 24, 25, 26, 27, 28, 29, 30, 31, 32, 33, 34, 35, 36, 37, 38, 39, 40, 41, 42, 43, 44, 45, 46, 47, 48, 49, 50, 51, 52, 53, 54, 55, 56, 57, 58, 59, 60, 61, 62, 63, 64, 65, 66, 67, 68, 69, 70, 71, 72, 73, 74, 75, 76, 77, 78, 79, 80, 81, 82, 83, 84, 85, 86, 87, 88, 89, 90, 91, 92, 93, 94, 95, 96]) (by kernel_rfl) rfl ?_
          intro L x W h0 hn hI
          have e194 : x.tmps[194]?.getD undef = .bool true := hI.get 96 (by decide) (fun _ => rfl) (hn 96 (by decide))
          refine wp_yield (v := .bool true) ?_ (hI.yield hND 97 (by decide) (by decide) (fun _ => rfl))
          simp [go_sem, e194]
      · intro L x W hL hI
        replace hL : ∀ i, i < 98 → L i = true := hL
        have e0 : x.tmps[0]?.getD undef = .bool true := hI.get 97 (by decide) (fun _ => rfl) (hL 97 (by omega))
        have hd := hI.defers
        have HGE := Lib.hid (grown_then G22.out hI.grown)
        clear hI hL
        have hg0 : x.tmps.getD 0 undef = .bool true := by rw [Array.getD_eq_getD_getElem?]; exact e0
        rename_i hK
        refine hK x W ?_
        refine wp_ret ?_
        refine bodyPost_ret (results_tmp rfl _ _ _) (hd.trans rfl) ⟨?_, HGE.out⟩
        rw [hg0]
end Go.Proofs.YtfojkglindpjjaaDoor.Su
