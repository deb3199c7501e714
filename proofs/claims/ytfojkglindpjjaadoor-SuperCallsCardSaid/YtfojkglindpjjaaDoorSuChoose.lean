/-
  The program's Choose.
-/
import Derived.Test.YtfojkglindpjjaaDoorSuGet
namespace Go.Proofs.YtfojkglindpjjaaDoor.Su
open Go.RowKit Bs Dv Gr
open Fr (block_turn)

theorem SB.setAll {w : World} {g : Nat} {s : Sup} {a : Option Addr} {n c : Nat} (h : SB w g s a n c) (t : Sup) (p : Option Addr) (m k : Nat) :
    SB (((((w.setCell ⟨g, 0, none⟩ (.int .u64 t.gen)).setCell ⟨g, 1, none⟩ (.int .i64 t.size)).setCell ⟨g, 2, none⟩ (.int .i64 t.blocks)).setCell ⟨g, 3, none⟩ (.int .u32 t.root)).setCell ⟨g, 4, none⟩ (.slice p m k)) g t p m k := by
  have h1 := Go.heap_setCell_same w g 0 _ _ (.int .u64 t.gen) h
  have h2 := Go.heap_setCell_same _ g 1 _ _ (.int .i64 t.size) h1
  have h3 := Go.heap_setCell_same _ g 2 _ _ (.int .i64 t.blocks) h2
  have h4 := Go.heap_setCell_same _ g 3 _ _ (.int .u32 t.root) h3
  exact Go.heap_setCell_same _ g 4 _ _ (.slice p m k) h4
theorem turn_set5 (w : World) (g : Nat) (v0 v1 v2 v3 v4 : Value) : Turn w (((((w.setCell ⟨g, 0, none⟩ v0).setCell ⟨g, 1, none⟩ v1).setCell ⟨g, 2, none⟩ v2).setCell ⟨g, 3, none⟩ v3).setCell ⟨g, 4, none⟩ v4) (· = g) :=
  ((((Turn.setCell w _ _ (S := (· = g)) rfl).trans (Turn.setCell _ _ _ (S := (· = g)) rfl) (fun _ _ e => e)).trans (Turn.setCell _ _ _ (S := (· = g)) rfl) (fun _ _ e => e)).trans (Turn.setCell _ _ _ (S := (· = g)) rfl) (fun _ _ e => e)).trans (Turn.setCell _ _ _ (S := (· = g)) rfl) (fun _ _ e => e)

/-- An index, a super and an error are handed back; its pages in new memory. -/
def ChoseX (w : World) (r : Int × Sup × Int) (e : Ending) (w' : World) : Prop :=
  w.grownBy w' none ∧ ∃ (a : Option Addr) (n c : Nat), e = .returned (.tuple #[.int .i64 r.1, .agg #[.int .u64 r.2.1.gen, .int .i64 r.2.1.size, .int .i64 r.2.1.blocks, .int .u32 r.2.1.root, .slice a n c], .int .i64 r.2.2]) ∧ Ws.Seg w' a n c r.2.1.pages ∧ ∀ ad, a = some ad → w.heap.size ≤ ad.block

/-- behind the first k of the two -/
def stS (A B : List Int) : Nat → Int × Sup × Int
  | 0 => (-1, zeroS, 10)
  | 1 => pickS 0 A (-1, zeroS, 10)
  | _ => pickS 1 B (pickS 0 A (-1, zeroS, 10))

set_option maxRecDepth 100000 in
set_option maxHeartbeats 4000000 in
theorem choose_any (A B : List Int) (w : World) (hA : Bs.IsB A) (hB : Bs.IsB B) (hlA : A.length ≤ 1000000) (hlB : B.length ≤ 1000000) (hT : T4 w) :
    Calls Tryd.prog 12 #[.string (strOfNums A), .string (strOfNums B)] w (ChoseX w (chooseS A B)) := by
  have S0 : SB (w.alloc (.cells #[.int .u64 0, .int .i64 0, .int .i64 0, .int .u32 0, .slice none 0 0] 29)) w.heap.size zeroS none 0 0 := SB.new w zeroS none 0 0
  have G0 := grown_alloc w (.cells #[.int .u64 0, .int .i64 0, .int .i64 0, .int .u32 0, .slice none 0 0] 29)
  obtain ⟨W0, hW0⟩ : ∃ X, w.alloc (.cells #[.int .u64 0, .int .i64 0, .int .i64 0, .int .u32 0, .slice none 0 0] 29) = X := ⟨_, rfl⟩
  rw [hW0] at S0 G0
  have HS0 := Lib.hid S0
  have HG0 := Lib.hid G0
  have HT := Lib.hid hT
  have HCH : Hid (chooseS A B = stS A B 2) := Lib.hid (choose_is hA hB).symm
  have HGA : Hid (∀ k : Nat, k < 2 → ∀ W, T4 W → Calls Tryd.prog 9 #[.string (strOfNums ([A, B].getD k []))] W (GotX W (getS ([A, B].getD k [])))) := Lib.hid (fun k hk W hW => by
    rcases (show k = 0 ∨ k = 1 by omega) with rfl | rfl
    · exact get_any A W hA hlA hW
    · exact get_any B W hB hlB hW)
  have HIX : Hid (∀ k : Nat, k < 2 → ∀ W, (Instr.index 58 (.agg #[.string (strOfNums A), .string (strOfNums B)]) (.int .i64 (k : Int))).run Tryd.prog W = .ok (.string (strOfNums ([A, B].getD k []))) W) := Lib.hid (fun k hk W => by
    rcases (show k = 0 ∨ k = 1 by omega) with rfl | rfl <;> rfl)
  have HST : Hid (∀ k : Nat, k < 2 → stS A B (k + 1) = pickS (k : Int) ([A, B].getD k []) (stS A B k)) := Lib.hid (fun k hk => by
    rcases (show k = 0 ∨ k = 1 by omega) with rfl | rfl <;> rfl)
  obtain ⟨SA, hSA⟩ : ∃ S, strOfNums A = S := ⟨_, rfl⟩
  obtain ⟨SX, hSX⟩ : ∃ S, strOfNums B = S := ⟨_, rfl⟩
  rw [hSA, hSX] at HIX ⊢
  obtain ⟨st, hst⟩ : ∃ st, stS A B = st := ⟨_, rfl⟩
  have HS00 : Hid (st 0 = (-1, zeroS, 10)) := Lib.hid (by rw [← hst]; rfl)
  rw [hst] at HCH HST
  obtain ⟨R, hR⟩ : ∃ R, chooseS A B = R := ⟨_, rfl⟩
  rw [hR] at HCH ⊢
  have hwl : w.heap.size < W0.heap.size := by rw [← hW0]; simp
  clear hA hB hlA hlB hT S0 G0 hSA hSX hst hR
  go_enter Tryd.func12, Tryd.ntmps12
  go_wp2
  clear hW0
  go_loopw [4, 6, 14] (fun s4 s6 si wr => ∃ (k : Nat) (z1 z3 : Int) (z2 : Sup) (a : Option Addr) (n c : Nat), k ≤ 2 ∧ si = .int .i64 k ∧ s4 = .int .i64 z1 ∧ s6 = .int .i64 z3 ∧ Hid (st k = (z1, z2, z3)) ∧ Hid (SB wr w.heap.size z2 a n c) ∧ Hid (w.grownBy wr none) ∧ Hid (w.heap.size < wr.heap.size) ∧ Hid (Ws.Seg wr a n c z2.pages ∧ ∀ ad, a = some ad → w.heap.size < ad.block)) (fun _ _ si _ => 2 - (intOf si).toNat)
  case atStart => exact ⟨0, -1, 10, zeroS, none, 0, 0, by omega, rfl, rfl, rfl, HS00, HS0, HG0, Lib.hid hwl, Lib.hid ⟨Ws.Seg.nil _, fun _ h => by cases h⟩⟩
  case round =>
    clear HS0 HG0
    obtain ⟨k, z1, z3, z2, a, n, c, hk, rfl, rfl, rfl, HZ, HS, HG, HLW, HP⟩ := hrel
    by_cases hlt : k < 2
    · have hix := HIX.out k hlt
      have HGE := Lib.hid (HGA.out k hlt wr (HT.out.grown HG.out))
      have HSTk := Lib.hid (HST.out k hlt)
      obtain ⟨X, hX⟩ : ∃ X, [A, B].getD k [] = X := ⟨_, rfl⟩
      rw [hX] at hix HGE HSTk
      rw [HZ.out] at HSTk
      obtain ⟨⟨t, E⟩, hE⟩ : ∃ r, getS X = r := ⟨_, rfl⟩
      have HPK : Hid (st (k + 1) = if E = 0 ∧ z2.gen < t.gen then ((k : Int), t, 0) else (z1, z2, z3)) := Lib.hid (by rw [HSTk.out]; unfold pickS; rw [hE])
      rw [hE] at HGE
      obtain ⟨SQ, hSQ⟩ : ∃ S, strOfNums X = S := ⟨_, rfl⟩
      rw [hSQ] at hix HGE
      clear hX hE hSQ HSTk HZ
      go_wp2_with fail
      refine HGE.out.mono ?_
      rintro e w1 ⟨hg1, p, m, q, rfl, hseg, hnew⟩
      dsimp only
      go_upto_region 6 with (fail)
      have hg2 := grown_then hg1 (grown_alloc w1 (.cells #[.int .u64 t.gen, .int .i64 t.size, .int .i64 t.blocks, .int .u32 t.root, .slice p m q] 29))
      have HB2 := Lib.hid (SB.new w1 t p m q)
      have HG2 := Lib.hid (grown_then HG.out hg2)
      have HS2 := Lib.hid (HS.out.old hg2)
      have hlw := HLW.out
      have hsz1 : wr.heap.size ≤ w1.heap.size := hg1.size
      have HP2 := Lib.hid (⟨HP.out.1.grown hg2, HP.out.2⟩ : Ws.Seg _ a n c z2.pages ∧ ∀ ad, a = some ad → w.heap.size < ad.block)
      have HQ2 : Hid (Ws.Seg (w1.alloc (.cells #[.int .u64 t.gen, .int .i64 t.size, .int .i64 t.blocks, .int .u32 t.root, .slice p m q] 29)) p m q t.pages ∧ ∀ ad, p = some ad → w.heap.size < ad.block) := Lib.hid ⟨hseg.grown (grown_alloc _ _), fun ad had => by have := hnew ad had; omega⟩
      have hsz2 : (w1.alloc (.cells #[.int .u64 t.gen, .int .i64 t.size, .int .i64 t.blocks, .int .u32 t.root, .slice p m q] 29)).heap.size = w1.heap.size + 1 := by simp
      obtain ⟨W2, hW2⟩ : ∃ X, w1.alloc (.cells #[.int .u64 t.gen, .int .i64 t.size, .int .i64 t.blocks, .int .u32 t.root, .slice p m q] 29) = X := ⟨_, rfl⟩
      rw [hW2] at HB2 HG2 HS2 HP2 HQ2 hsz2 ⊢
      have hl2 : w.heap.size < W2.heap.size := by omega
      have hne : w1.heap.size ≠ w.heap.size := by omega
      have HL2 := Lib.hid hl2
      obtain ⟨b0, b1, b2, b3, b4⟩ := HB2.out.cells
      obtain ⟨d0, d1, d2, d3, d4⟩ := HS2.out.cells
      clear hg1 hg2 hseg hnew hsz1 hsz2 hlw hW2 hl2 HG HS HP HLW HGE hix
      by_cases h0 : E = 0
      · by_cases h1 : z2.gen < t.gen
        · have HK : Hid (st (k + 1) = ((k : Int), t, 0)) := Lib.hid (by rw [HPK.out, if_pos ⟨h0, h1⟩])
          have q1 : decide (z2.gen < t.gen) = true := decide_eq_true h1
          subst h0
          clear h1 HPK
          have f0 := HS2.out.froz 0
          have f1 := HS2.out.froz 1
          have f2 := HS2.out.froz 2
          have f3 := HS2.out.froz 3
          have f4 := HS2.out.froz 4
          go_wp2
          go_region
          have hz9 := HS2.out.setAll t p m q
          have ht9 := turn_set5 W2 w.heap.size (.int .u64 t.gen) (.int .i64 t.size) (.int .i64 t.blocks) (.int .u32 t.root) (.slice p m q)
          obtain ⟨W9, hW9⟩ : ∃ V, (((((W2.setCell ⟨w.heap.size, 0, none⟩ (.int .u64 t.gen)).setCell ⟨w.heap.size, 1, none⟩ (.int .i64 t.size)).setCell ⟨w.heap.size, 2, none⟩ (.int .i64 t.blocks)).setCell ⟨w.heap.size, 3, none⟩ (.int .u32 t.root)).setCell ⟨w.heap.size, 4, none⟩ (.slice p m q)) = V := ⟨_, rfl⟩
          rw [hW9] at hz9 ht9 ⊢
          have ht10 : Turn W2 W9.drew (· = w.heap.size) := ht9.trans (Turn.drew W9 _) (fun _ _ h => h)
          have HS9 : Hid (SB W9.drew w.heap.size t p m q) := Lib.hid hz9
          have HG9 := Lib.hid (grown_put HG2.out ht10 (Nat.le_refl _))
          have HL9 : Hid (w.heap.size < W9.drew.heap.size) := Lib.hid (Nat.lt_of_lt_of_le HL2.out ht10.size)
          have HQ9 : Hid (Ws.Seg W9.drew p m q t.pages ∧ ∀ ad, p = some ad → w.heap.size < ad.block) := Lib.hid ⟨HQ2.out.1.kept (grown_some ht10) (fun ad had e => by have h1 := HQ2.out.2 ad had; have h2 := Option.some.inj e; omega), HQ2.out.2⟩
          clear hW9 hz9 ht9 ht10 f0 f1 f2 f3 f4 d0 d1 d2 d3 d4 b0 b1 b2 b3 b4 HS2 HG2 HL2 HP2 HQ2 HB2
          go_wp2
          go_roundw
          case rel => exact ⟨k + 1, k, 0, t, p, m, q, by omega, by go_num, rfl, rfl, HK, HS9, HG9, HL9, HQ9⟩
          case measure => simp [intOf]; omega
        · have HK : Hid (st (k + 1) = (z1, z2, z3)) := Lib.hid (by rw [HPK.out, if_neg (fun h => h1 h.2)])
          have q1 : decide (z2.gen < t.gen) = false := decide_eq_false h1
          subst h0
          clear h1 HPK
          go_wp2
          go_roundw
          case rel => exact ⟨k + 1, z1, z3, z2, a, n, c, by omega, by go_num, rfl, rfl, HK, HS2, HG2, HL2, HP2⟩
          case measure => simp [intOf]; omega
      · have HK : Hid (st (k + 1) = (z1, z2, z3)) := Lib.hid (by rw [HPK.out, if_neg (fun h => h0 h.1)])
        have q1 : (E == 0) = false := beq_eq_false_iff_ne.2 h0
        clear h0 HPK
        go_wp2
        go_roundw
        case rel => exact ⟨k + 1, z1, z3, z2, a, n, c, by omega, by go_num, rfl, rfl, HK, HS2, HG2, HL2, HP2⟩
        case measure => simp [intOf]; omega
    · obtain rfl : k = 2 := by omega
      have hR : R = (z1, z2, z3) := by rw [HCH.out, HZ.out]
      subst hR
      obtain ⟨d0, d1, d2, d3, d4⟩ := HS.out.cells
      have f0 := HS.out.froz 0
      have f1 := HS.out.froz 1
      have f2 := HS.out.froz 2
      have f3 := HS.out.froz 3
      have f4 := HS.out.froz 4
      clear HZ HCH HST HIX HGA
      go_wp2
      go_region
      have hz9 := HS.out.setAll z2 a n c
      have ht9 := turn_set5 wr w.heap.size (.int .u64 z2.gen) (.int .i64 z2.size) (.int .i64 z2.blocks) (.int .u32 z2.root) (.slice a n c)
      obtain ⟨W9, hW9⟩ : ∃ V, (((((wr.setCell ⟨w.heap.size, 0, none⟩ (.int .u64 z2.gen)).setCell ⟨w.heap.size, 1, none⟩ (.int .i64 z2.size)).setCell ⟨w.heap.size, 2, none⟩ (.int .i64 z2.blocks)).setCell ⟨w.heap.size, 3, none⟩ (.int .u32 z2.root)).setCell ⟨w.heap.size, 4, none⟩ (.slice a n c)) = V := ⟨_, rfl⟩
      rw [hW9] at hz9 ht9 ⊢
      have ht10 : Turn wr W9.drew (· = w.heap.size) := ht9.trans (Turn.drew W9 _) (fun _ _ h => h)
      have HS9 : Hid (SB W9.drew w.heap.size z2 a n c) := Lib.hid hz9
      have HF : Hid (ChoseX w (z1, z2, z3) (.returned (.tuple #[.int .i64 z1, .agg #[.int .u64 z2.gen, .int .i64 z2.size, .int .i64 z2.blocks, .int .u32 z2.root, .slice a n c], .int .i64 z3])) W9.drew) := Lib.hid ⟨grown_put HG.out ht10 (Nat.le_refl _), a, n, c, rfl,
        HP.out.1.kept (grown_some ht10) (fun ad had e => by have h1 := HP.out.2 ad had; have h2 := Option.some.inj e; omega), fun ad had => Nat.le_of_lt (HP.out.2 ad had)⟩
      clear hW9 hz9 ht9 ht10 f0 f1 f2 f3 f4 d0 d1 d2 d3 d4 HS HG HLW HP
      go_wp2
      exact bodyPost_ret (run_results_mid rfl _ _ w.heap.size z2 a n c (.int .i64 z1) (.int .i64 z3) rfl HS9.out rfl rfl) rfl HF.out
end Go.Proofs.YtfojkglindpjjaaDoor.Su
