/-
  What the program's and the document's functions do, in memory and as plain functions: SgHead2, SgHead3, SgGets, SgZone.
-/

import Derived.Test.YtljanfnhmhimiaaGreatSmP
import Derived.Test.YtljanfnhmhimiaaGreatSmc
import Derived.Test.YtljanfnhmhimiaaGreatSmd

namespace Go.Proofs.YtljanfnhmhimiaaGreat.Sg
open Go.RowKit Go.Joins Zn Zr Dv
open Oct (Rd)
open In (At)
open Nu (getN cnt resN)

/-- what reading a cell tells -/
def OneIs (kind : Int) (o : Option (Cel × List Int)) (c : Cel) (r : List Int) : Prop := match o with
  | some (x, rest) => c = x ∧ r = rest
  | none => ¬ CelOk kind c
def HeadTwo (w : World) (k : Int) (nl : List Bool) (m C : Nat) (r0 : List Int) (e : Ending) (w' : World) : Prop :=
  ∃ c1 r1 c2 r2, OneIs k (readCell k r0) c1 r1 ∧ OneIs k (readCell k r1) c2 r2 ∧ (checkE ⟨(m : Int), (C : Int), c1, c2⟩ k = 0 → HeadYes w k nl m ⟨(m : Int), (C : Int), c1, c2⟩ r2 e w') ∧ (checkE ⟨(m : Int), (C : Int), c1, c2⟩ k ≠ 0 → HeadNo w e w')
theorem oneis_of {b g : Nat} {kind : Int} {w w' : World} {o : Option (Cel × List Int)} {e : Ending} (h : CellX b g kind w o e w') : Turn w w' (At b) ∧ ∃ c r, e = .returned (.agg #[.int .i64 c.k, .int .i64 c.n, .string c.s]) ∧ Rd w' b g r ∧ Oct.IsB r ∧ r.length ≤ 100000000 ∧ OneIs kind o c r := by
  obtain ⟨h1, c, r, h2, h3, h4, h5, h6⟩ := h
  refine ⟨h1, c, r, h2, h3, h4, h5, ?_⟩
  cases o with
  | none => exact h6
  | some p => obtain ⟨x, y⟩ := p; exact h6
theorem turn_min (w : World) (g : Nat) (c : Cel) : Turn w (((w.setCell ⟨g, 4, none⟩ (.int .i64 c.k)).setCell ⟨g, 5, none⟩ (.int .i64 c.n)).setCell ⟨g, 6, none⟩ (.string c.s)) (· = g) := turn_set3 w g 4 5 6 _ _ _
theorem turn_max (w : World) (g : Nat) (c : Cel) : Turn w (((w.setCell ⟨g, 7, none⟩ (.int .i64 c.k)).setCell ⟨g, 8, none⟩ (.int .i64 c.n)).setCell ⟨g, 9, none⟩ (.string c.s)) (· = g) := turn_set3 w g 7 8 9 _ _ _

set_option maxRecDepth 100000 in
set_option maxHeartbeats 8000000 in
theorem getHead_two_I (k0 : Int) (t r0 : List Int) (nl : List Bool) (m C M : Nat) (hb : Bs.IsB (k0 :: t)) (hl : (k0 :: t).length ≤ 100000000) (hkk : k0 = 1) (hg : getN t = some (nl, r0)) (hm : nl.length = m) (hc : cnt nl = C) (hM : m = C + M) (hM0 : 0 < M) (w : World) :
    Calls Tryz.prog 34 #[.string (strOfNums (k0 :: t))] w (HeadTwo w k0 nl m C r0) := by
  have k1 : 1 ≤ k0 := by omega
  have k3 : k0 ≤ 3 := by omega
  have hk0 := hb k0 (List.mem_cons_self ..)
  have hidx := idx_str k0 t hk0
  have hwr : IntKind.i64.wrap k0 = k0 := IntWalk.i64_in _ (by omega)
  have hne : (strOfNums (k0 :: t)).toList.isEmpty = false := by rw [Go.ByteArray.toList_eq]; rfl
  have hex1 : (strOfNums (k0 :: t)).extract 1 (strOfNums (k0 :: t)).size = strOfNums t := by
    rw [str_extract, strOfNums_size, List.drop_succ_cons, List.drop_zero, List.take_of_length_le (by simp)]
  have hsz : 0 < (strOfNums (k0 :: t)).size := by rw [strOfNums_size]; exact Nat.zero_lt_succ _
  have hsz1 : (1 : Int) ≤ ((strOfNums (k0 :: t)).size : Int) := by omega
  have HC := Lib.hid (fun W => coderOf_any k0 W k1 k3)
  have hZ := Lib.hid (hb_new w)
  have HT := Lib.hid (Turn.alloc w (.cells #[.int .i64 0, .slice none 0 0, .int .i64 0, .int .i64 0, .int .i64 0, .int .i64 0, .string ⟨#[]⟩, .int .i64 0, .int .i64 0, .string ⟨#[]⟩] 69) nowhere)
  have hbt : Oct.IsB t := fun x hx => hb x (List.mem_cons_of_mem _ hx)
  have hlt : t.length ≤ 100000000 := by rw [List.length_cons] at hl; omega
  obtain ⟨S, hS⟩ : ∃ S, strOfNums (k0 :: t) = S := ⟨_, rfl⟩
  obtain ⟨S1, hS1⟩ : ∃ S1, strOfNums t = S1 := ⟨_, rfl⟩
  rw [hS] at hidx hne hex1 hsz hsz1 ⊢
  rw [hS1] at hex1
  have HCV := Lib.hid (fun W => conv_seg2 t hbt (by omega) W)
  rw [hS1] at HCV
  have HBT := Lib.hid hbt
  obtain ⟨hn4, ht⟩ := Nu.getN_some hbt hg
  obtain ⟨q, hq⟩ : ∃ q, (Nu.encN nl).length = q := ⟨_, rfl⟩
  have hrl : t.length = q + r0.length := by rw [ht, List.length_append, hq]
  have hrb : Oct.IsB r0 := fun x hx => hbt x (by rw [ht]; exact List.mem_append_right _ hx)
  have HRB := Lib.hid hrb
  have HCN := Lib.hid hc
  have hrl2 : r0.length ≤ 100000000 := by omega
  have hwq : IntKind.i64.wrap (1 + (q : Int)) = 1 + (q : Int) := IntWalk.i64_in _ (by omega)
  have HGN := Lib.hid (fun a n c W hs => Nu.got_form (bs := t) (L := nl) (z := (q : Int)) (E := 0) (m := m) (by rw [hg]; show (nl, (t.length : Int) - (r0.length : Int), (0 : Int)) = _; rw [hrl]; exact congrArg (fun x => (nl, x, (0 : Int))) (by omega)) hm hbt hlt a n c W hs)
  have hm4 : m ≤ 4096 := by rw [← hm]; exact hn4
  have hMm : (m : Int) - (C : Int) = (M : Int) := by omega
  have HMM := Lib.hid hMm
  have hMp : (0 : Int) < (M : Int) := by omega
  have hM5 : M ≤ 4096 := by omega
  have HC2 := Lib.hid (fun W => coderOf_any k0 W k1 k3)
  have hex2 : S.extract (1 + q) S.size = strOfNums r0 := by
    rw [← hS, str_extract, strOfNums_size, Nat.add_comm 1 q, List.drop_succ_cons, ht, ← hq, List.drop_left, List.take_of_length_le (by simp)]
  obtain ⟨S2, hS2⟩ : ∃ S2, strOfNums r0 = S2 := ⟨_, rfl⟩
  have HCV2 := Lib.hid (fun W => conv_seg2 r0 hrb (by omega) W)
  rw [hS2] at HCV2 hex2
  have hsz2 : 1 + (q : Int) ≤ (S.size : Int) := by rw [← hS, strOfNums_size, List.length_cons]; omega
  have HKK := Lib.hid hkk
  clear hS hS1 hS2 hb hl hg hbt ht hq hrl hm hc hn4 hrb hM hM0 hMm hkk
  go_enter Tryz.func34, Tryz.ntmps34
  go_wp2_with fail
  refine (HC.out _).mono ?_
  rintro e w1 ⟨v, rfl, hv, ht1⟩
  have hnn := nil_no hv
  have hng := nil_guard hv
  have Z1 := Lib.hid (hZ.out.old ht1)
  have T1 := Lib.hid (HT.out.trans ht1 (fun _ _ h => h))
  clear hv ht1 hZ HT HC
  dsimp only
  go_upto_region 4 with (fail)
  clear hnn hng
  obtain ⟨W3, hW3⟩ : ∃ V, w1.alloc (.cells #[.int .i64 k0, .slice none 0 0, .int .i64 0, .int .i64 0, .int .i64 0, .int .i64 0, .string ⟨#[]⟩, .int .i64 0, .int .i64 0, .string ⟨#[]⟩] 69) = V := ⟨_, rfl⟩
  obtain ⟨hb3, hhb3⟩ : ∃ g, g = w1.heap.size := ⟨_, rfl⟩
  rw [hW3, ← hhb3]
  have H3 : Hid (HB W3 hb3 ⟨k0, none, 0, 0, zeroZ⟩) := Lib.hid (by rw [← hW3, hhb3]; exact heap_alloc_new w1 _)
  have T3 : Hid (Turn w W3 nowhere) := Lib.hid (by rw [← hW3]; exact T1.out.trans (Turn.alloc _ _ _) (fun _ _ h => h))
  have Z3 : Hid (HB W3 w.heap.size zeroH) := Lib.hid (by rw [← hW3]; exact Z1.out.old (Turn.alloc _ _ _))
  have hlt3 : w.heap.size < hb3 := by have := heap_lt Z1.out; omega
  clear hW3 hhb3 Z1 T1
  obtain ⟨cap, w4, hrun, hs4, ht4⟩ := HCV.out W3
  have HS4 := Lib.hid hs4
  have H4 := Lib.hid (H3.out.old ht4)
  have T4 := Lib.hid (T3.out.trans ht4 (fun _ _ h => h))
  have Z4 := Lib.hid (Z3.out.old ht4)
  clear hs4 ht4 H3 T3 Z3 HCV
  go_wp2_with fail
  refine (HGN.out _ _ _ _ HS4.out).mono ?_
  rintro e w5 ⟨a5, c5, rfl, hs5, ht5⟩
  have T5 := Lib.hid (T4.out.trans ht5 (fun _ _ h => h))
  have Z5 := Lib.hid (Z4.out.old ht5)
  have H5 := Lib.hid (H4.out.old ht5)
  have S5 := Lib.hid hs5
  clear hs5 ht5 T4 Z4 H4 HS4 hrun
  dsimp only
  obtain ⟨cap2, w6, hrun2, hs6, ht6⟩ := HCV2.out w5
  have T6 := Lib.hid (T5.out.trans ht6 (fun _ _ h => h))
  have Z6 := Lib.hid (Z5.out.old ht6)
  have H6 := Lib.hid (H5.out.old ht6)
  have S6 := Lib.hid (S5.out.grown ht6.grown)
  have HNR := Lib.hid (In.new_any _ _ cap2 r0 w6 (In.oseg hs6) (by omega))
  clear hs6 ht6 T5 Z5 H5 S5 HCV2
  go_wp2_with fail
  refine HNR.out.mono ?_
  rintro e w7 ⟨rb, rg, rfl, hrb1, hrg1, hrb2, hrg2, hrd, hg7⟩
  have t7 := Pk.turn_of hg7
  have TT7 : Hid (Turn w6 w7 (· = hb3)) := Lib.hid (t7.mono (fun _ _ e => e.elim))
  have H7 := Lib.hid (H6.out.old t7)
  have S7 := Lib.hid (S6.out.grown hg7)
  have R7 := Lib.hid hrd
  have h36 : hb3 < w6.heap.size := heap_lt H6.out
  have h06 : w.heap.size ≤ w6.heap.size := T6.out.size
  clear hg7 t7 hrd HNR hrun2
  dsimp only
  have HCT := Lib.hid (Nu.Count_any a5 m c5 nl w7 S7.out)
  go_wp2_with fail
  refine HCT.out.mono ?_
  rw [HCN.out]
  rintro e w8 ⟨rfl, ht8⟩
  have TT8 := Lib.hid (TT7.out.trans ht8 (fun _ _ e => e.elim))
  have H8 := Lib.hid (H7.out.old ht8)
  have R8 := Lib.hid (In.Turn.rd ht8 R7.out id id)
  have h78 := ht8.size
  clear ht8 TT7 H7 S7 R7 HCT
  dsimp only
  obtain ⟨d0, d1, d2, d3, d4, d5, d6, d7, d8, d9⟩ := H8.out.cellsAt
  have f1 := H8.out.froz 1
  have f2 := H8.out.froz 2
  have f3 := H8.out.froz 3
  have f4 := H8.out.froz 4
  have f5 := H8.out.froz 5
  have f6 := H8.out.froz 6
  have f7 := H8.out.froz 7
  have f8 := H8.out.froz 8
  have f9 := H8.out.froz 9
  go_upto_region 9 with (fail)
  have H9a := HB.setZone (HB.set1 H8.out a5 m c5) ⟨(m : Int), (C : Int), zeroC, zeroC⟩
  have T9a := (turn_set w8 hb3 1 (.slice a5 m c5)).trans (turn_zone _ hb3 ⟨(m : Int), (C : Int), zeroC, zeroC⟩) (fun _ _ h => h)
  obtain ⟨W9, hW9⟩ : ∃ V, ((((((((w8.setCell ⟨hb3, 1, none⟩ (.slice a5 m c5)).setCell ⟨hb3, 2, none⟩ (.int .i64 (m : Int))).setCell ⟨hb3, 3, none⟩ (.int .i64 (C : Int))).setCell ⟨hb3, 4, none⟩ (.int .i64 0)).setCell ⟨hb3, 5, none⟩ (.int .i64 0)).setCell ⟨hb3, 6, none⟩ (.string ⟨#[]⟩)).setCell ⟨hb3, 7, none⟩ (.int .i64 0)).setCell ⟨hb3, 8, none⟩ (.int .i64 0)).setCell ⟨hb3, 9, none⟩ (.string ⟨#[]⟩) = V := ⟨_, rfl⟩
  have H9 : Hid (HB W9 hb3 ⟨k0, a5, m, c5, ⟨(m : Int), (C : Int), zeroC, zeroC⟩⟩) := Lib.hid (by rw [← hW9]; exact H9a)
  have t9 : Turn w8 W9 (· = hb3) := by rw [← hW9]; exact T9a
  have TT9 := Lib.hid (TT8.out.trans t9 (fun _ _ h => h))
  have R9 := Lib.hid (In.Turn.rd t9 R8.out (by omega) (by omega))
  have h89 := t9.size
  rw [hW9]
  clear hW9 H9a T9a t9 TT8 H8 R8 d0 d1 d2 d3 d4 d5 d6 d7 d8 d9 f1 f2 f3 f4 f5 f6 f7 f8 f9
  obtain ⟨d0, d1, d2, d3, d4, d5, d6, d7, d8, d9⟩ := H9.out.cellsAt
  have HVA := Lib.hid (values_any ⟨k0, a5, m, c5, ⟨(m : Int), (C : Int), zeroC, zeroC⟩⟩ (M : Int) HMM.out (by omega) W9)
  go_wp2_with fail
  refine HVA.out.mono ?_
  rintro e w10 ⟨rfl, hg10⟩
  have t10 := Pk.turn_of hg10
  have TT10 := Lib.hid (TT9.out.trans t10 (fun _ _ e => e.elim))
  have H10 := Lib.hid (H9.out.old t10)
  have R10 := Lib.hid (In.Turn.rd t10 R9.out id id)
  have h910 := t10.size
  clear hg10 t10 TT9 H9 R9 HVA d0 d1 d2 d3 d4 d5 d6 d7 d8 d9
  dsimp only
  obtain ⟨d0, d1, d2, d3, d4, d5, d6, d7, d8, d9⟩ := H10.out.cellsAt
  go_wp2_with fail
  refine (HC2.out _).mono ?_
  rintro e w11 ⟨v2, rfl, hv, ht11⟩
  have TT11 := Lib.hid (TT10.out.trans ht11 (fun _ _ e => e.elim))
  have H11 := Lib.hid (H10.out.old ht11)
  have R11 := Lib.hid (In.Turn.rd ht11 R10.out id id)
  have h1011 := ht11.size
  have hkk := HKK.out
  obtain ⟨cb, rfl⟩ : ∃ cb, v2 = .iface 99 (.agg #[.func (.func 89) #[] #[], .func (.func 90) #[] #[], .func (.func 91) #[] #[], .func (.func 93) #[] #[], .func (.func 95) #[] #[], .func (.func 140) #[] #[.pointer (some ⟨cb, 0, none⟩)]]) := by
    rcases hv with ⟨h, b, e1, _⟩ | ⟨h, e1⟩ | ⟨h, b, e1, _⟩
    · exact ⟨b, e1⟩
    · omega
    · omega
  clear hv ht11 TT10 H10 R10 HC2 d0 d1 d2 d3 d4 d5 d6 d7 d8 d9 hkk
  dsimp only
  have hmeth := fun W => meth_getCell_I cb W
  have HG1 := Lib.hid (getCell_I cb rb rg r0 w11 R11.out (by omega) HRB.out hrl2)
  rw [← HKK.out] at HG1
  go_wp2_with fail
  refine HG1.out.mono ?_
  intro e w12 hx
  obtain ⟨ht12, x1, r1, rfl, hr12, hb12, hl12, ho1⟩ := oneis_of hx
  have TT12 := Lib.hid (TT11.out.trans ht12 (fun i hi e => by have e2 : i = rb := e; omega))
  have H12 := Lib.hid (H11.out.turn ht12 (by omega))
  have R12 := Lib.hid hr12
  have O1 := Lib.hid ho1
  have B12 := Lib.hid hb12
  have h1112 := ht12.size
  clear ht12 hr12 ho1 hb12 hx HG1 TT11 H11 R11
  dsimp only
  obtain ⟨d0, d1, d2, d3, d4, d5, d6, d7, d8, d9⟩ := H12.out.cellsAt
  have f4 := H12.out.froz 4
  have f5 := H12.out.froz 5
  have f6 := H12.out.froz 6
  go_upto_region 12 with (fail)
  have H13a := HB.setMin H12.out x1
  have T13a := turn_min w12 hb3 x1
  obtain ⟨W13, hW13⟩ : ∃ V, ((w12.setCell ⟨hb3, 4, none⟩ (.int .i64 x1.k)).setCell ⟨hb3, 5, none⟩ (.int .i64 x1.n)).setCell ⟨hb3, 6, none⟩ (.string x1.s) = V := ⟨_, rfl⟩
  rw [hW13] at H13a T13a ⊢
  have H13 : Hid (HB W13 hb3 ⟨k0, a5, m, c5, ⟨(m : Int), (C : Int), x1, zeroC⟩⟩) := Lib.hid H13a
  have TT13 := Lib.hid (TT12.out.trans T13a (fun _ _ h => h))
  have R13 := Lib.hid (In.Turn.rd T13a R12.out (by omega) (by omega))
  have h1213 := T13a.size
  clear hW13 H13a T13a TT12 H12 R12 d0 d1 d2 d3 d4 d5 d6 d7 d8 d9 f4 f5 f6
  have HG2 := Lib.hid (getCell_I cb rb rg r1 W13 R13.out (by omega) B12.out hl12)
  rw [← HKK.out] at HG2
  go_wp2_with fail
  refine HG2.out.mono ?_
  intro e w14 hx
  obtain ⟨ht14, x2, r2, rfl, hr14, hb14, hl14, ho2⟩ := oneis_of hx
  have TT14 := Lib.hid (TT13.out.trans ht14 (fun i hi e => by have e2 : i = rb := e; omega))
  have H14 := Lib.hid (H13.out.turn ht14 (by omega))
  have R14 := Lib.hid hr14
  have O2 := Lib.hid ho2
  have B14 := Lib.hid hb14
  have h1314 := ht14.size
  clear ht14 hr14 ho2 hb14 hx HG2 TT13 H13 R13 hmeth
  dsimp only
  obtain ⟨d0, d1, d2, d3, d4, d5, d6, d7, d8, d9⟩ := H14.out.cellsAt
  have f7 := H14.out.froz 7
  have f8 := H14.out.froz 8
  have f9 := H14.out.froz 9
  go_upto_region 13 with (fail)
  have H15a := HB.setMax H14.out x2
  have T15a := turn_max w14 hb3 x2
  obtain ⟨W15, hW15⟩ : ∃ V, ((w14.setCell ⟨hb3, 7, none⟩ (.int .i64 x2.k)).setCell ⟨hb3, 8, none⟩ (.int .i64 x2.n)).setCell ⟨hb3, 9, none⟩ (.string x2.s) = V := ⟨_, rfl⟩
  rw [hW15] at H15a T15a ⊢
  have H15 : Hid (HB W15 hb3 ⟨k0, a5, m, c5, ⟨(m : Int), (C : Int), x1, x2⟩⟩) := Lib.hid H15a
  have TT15 := Lib.hid (TT14.out.trans T15a (fun _ _ h => h))
  have R15 := Lib.hid (In.Turn.rd T15a R14.out (by omega) (by omega))
  have h1415 := T15a.size
  clear hW15 H15a T15a TT14 H14 R14 d0 d1 d2 d3 d4 d5 d6 d7 d8 d9 f7 f8 f9
  obtain ⟨d0, d1, d2, d3, d4, d5, d6, d7, d8, d9⟩ := H15.out.cellsAt
  have HCK := Lib.hid (Zn.Check_any ⟨(m : Int), (C : Int), x1, x2⟩ k0 W15)
  obtain ⟨E, hE⟩ : ∃ E, E = checkE ⟨(m : Int), (C : Int), x1, x2⟩ k0 := ⟨_, rfl⟩
  rw [← hE] at HCK
  have HE := Lib.hid hE
  clear hE
  go_wp2_with fail
  refine HCK.out.mono ?_
  rintro e w16 ⟨rfl, hg16⟩
  have t16 := Pk.turn_of hg16
  have TT16 := Lib.hid (TT15.out.trans t16 (fun _ _ e => e.elim))
  have H16 := Lib.hid (H15.out.old t16)
  have R16 := Lib.hid (In.Turn.rd t16 R15.out id id)
  have h1516 := t16.size
  clear hg16 t16 TT15 H15 R15 HCK d0 d1 d2 d3 d4 d5 d6 d7 d8 d9
  dsimp only
  have Z16 : Hid (HB w16 w.heap.size zeroH) := Lib.hid (Z6.out.turn TT16.out (by omega))
  by_cases hE0 : E = 0
  · have q0 : (E != 0) = false := by rw [hE0]; rfl
    have HE0 := Lib.hid hE0
    obtain ⟨d0, d1, d2, d3, d4, d5, d6, d7, d8, d9⟩ := H16.out.cellsAt
    clear hE0
    go_wp2_with (first
      | (with_reducible refine wpList_store_head rfl (.tmp 2) (.tmp 73) rfl w.heap.size rfl ⟨k0, a5, m, c5, ⟨(m : Int), (C : Int), x1, x2⟩⟩ rfl zeroH Z16.out ?_; intro w17 hz17 ht17)
      | fail)
    have S16 := flags_stay S6.out H6.out TT16.out
    have S17 := flags_stay S16 Z16.out ht17
    refine bodyPost_ret (run_results_head rfl _ _ _ ⟨k0, a5, m, c5, ⟨(m : Int), (C : Int), x1, x2⟩⟩ _ _ rfl hz17 rfl rfl) rfl ⟨x1, r1, x2, r2, O1.out, O2.out, fun _ => ⟨a5, c5, rb, rg, rfl, S17, In.Turn.rd ht17 R16.out (by omega) (by omega), B14.out, hl14, by omega, by have := ht17.size; omega, (fun ad e hn0 => by have := flags_lt S6.out ad e hn0; omega), ?_⟩, fun h => absurd (HE.out.symm.trans HE0.out) h⟩
    exact Turn.trans (Turn.trans T6.out TT16.out (fun i hi e => by omega)) ht17 (fun i hi e => by omega)
  · have q0 : (E != 0) = true := bne_iff_ne.2 hE0
    have HE0 := Lib.hid hE0
    clear hE0
    go_wp2_with (first
      | (with_reducible refine wpList_store_head rfl (.tmp 2) (.tmp 72) rfl w.heap.size rfl zeroH rfl zeroH Z16.out ?_; intro w17 hz17 ht17)
      | fail)
    refine bodyPost_ret (run_results_head rfl _ _ _ zeroH _ _ rfl hz17 rfl rfl) rfl ⟨x1, r1, x2, r2, O1.out, O2.out, fun h => absurd (HE.out.trans h) HE0.out, fun _ => ⟨rfl, ?_⟩⟩
    exact Turn.trans (Turn.trans T6.out TT16.out (fun i hi e => by omega)) ht17 (fun i hi e => by omega)

set_option maxRecDepth 100000 in
set_option maxHeartbeats 8000000 in
theorem getHead_two_B (k0 : Int) (t r0 : List Int) (nl : List Bool) (m C M : Nat) (hb : Bs.IsB (k0 :: t)) (hl : (k0 :: t).length ≤ 100000000) (hkk : k0 = 2) (hg : getN t = some (nl, r0)) (hm : nl.length = m) (hc : cnt nl = C) (hM : m = C + M) (hM0 : 0 < M) (w : World) :
    Calls Tryz.prog 34 #[.string (strOfNums (k0 :: t))] w (HeadTwo w k0 nl m C r0) := by
  have k1 : 1 ≤ k0 := by omega
  have k3 : k0 ≤ 3 := by omega
  have hk0 := hb k0 (List.mem_cons_self ..)
  have hidx := idx_str k0 t hk0
  have hwr : IntKind.i64.wrap k0 = k0 := IntWalk.i64_in _ (by omega)
  have hne : (strOfNums (k0 :: t)).toList.isEmpty = false := by rw [Go.ByteArray.toList_eq]; rfl
  have hex1 : (strOfNums (k0 :: t)).extract 1 (strOfNums (k0 :: t)).size = strOfNums t := by
    rw [str_extract, strOfNums_size, List.drop_succ_cons, List.drop_zero, List.take_of_length_le (by simp)]
  have hsz : 0 < (strOfNums (k0 :: t)).size := by rw [strOfNums_size]; exact Nat.zero_lt_succ _
  have hsz1 : (1 : Int) ≤ ((strOfNums (k0 :: t)).size : Int) := by omega
  have HC := Lib.hid (fun W => coderOf_any k0 W k1 k3)
  have hZ := Lib.hid (hb_new w)
  have HT := Lib.hid (Turn.alloc w (.cells #[.int .i64 0, .slice none 0 0, .int .i64 0, .int .i64 0, .int .i64 0, .int .i64 0, .string ⟨#[]⟩, .int .i64 0, .int .i64 0, .string ⟨#[]⟩] 69) nowhere)
  have hbt : Oct.IsB t := fun x hx => hb x (List.mem_cons_of_mem _ hx)
  have hlt : t.length ≤ 100000000 := by rw [List.length_cons] at hl; omega
  obtain ⟨S, hS⟩ : ∃ S, strOfNums (k0 :: t) = S := ⟨_, rfl⟩
  obtain ⟨S1, hS1⟩ : ∃ S1, strOfNums t = S1 := ⟨_, rfl⟩
  rw [hS] at hidx hne hex1 hsz hsz1 ⊢
  rw [hS1] at hex1
  have HCV := Lib.hid (fun W => conv_seg2 t hbt (by omega) W)
  rw [hS1] at HCV
  have HBT := Lib.hid hbt
  obtain ⟨hn4, ht⟩ := Nu.getN_some hbt hg
  obtain ⟨q, hq⟩ : ∃ q, (Nu.encN nl).length = q := ⟨_, rfl⟩
  have hrl : t.length = q + r0.length := by rw [ht, List.length_append, hq]
  have hrb : Oct.IsB r0 := fun x hx => hbt x (by rw [ht]; exact List.mem_append_right _ hx)
  have HRB := Lib.hid hrb
  have HCN := Lib.hid hc
  have hrl2 : r0.length ≤ 100000000 := by omega
  have hwq : IntKind.i64.wrap (1 + (q : Int)) = 1 + (q : Int) := IntWalk.i64_in _ (by omega)
  have HGN := Lib.hid (fun a n c W hs => Nu.got_form (bs := t) (L := nl) (z := (q : Int)) (E := 0) (m := m) (by rw [hg]; show (nl, (t.length : Int) - (r0.length : Int), (0 : Int)) = _; rw [hrl]; exact congrArg (fun x => (nl, x, (0 : Int))) (by omega)) hm hbt hlt a n c W hs)
  have hm4 : m ≤ 4096 := by rw [← hm]; exact hn4
  have hMm : (m : Int) - (C : Int) = (M : Int) := by omega
  have HMM := Lib.hid hMm
  have hMp : (0 : Int) < (M : Int) := by omega
  have hM5 : M ≤ 4096 := by omega
  have HC2 := Lib.hid (fun W => coderOf_any k0 W k1 k3)
  have hex2 : S.extract (1 + q) S.size = strOfNums r0 := by
    rw [← hS, str_extract, strOfNums_size, Nat.add_comm 1 q, List.drop_succ_cons, ht, ← hq, List.drop_left, List.take_of_length_le (by simp)]
  obtain ⟨S2, hS2⟩ : ∃ S2, strOfNums r0 = S2 := ⟨_, rfl⟩
  have HCV2 := Lib.hid (fun W => conv_seg2 r0 hrb (by omega) W)
  rw [hS2] at HCV2 hex2
  have hsz2 : 1 + (q : Int) ≤ (S.size : Int) := by rw [← hS, strOfNums_size, List.length_cons]; omega
  have HKK := Lib.hid hkk
  clear hS hS1 hS2 hb hl hg hbt ht hq hrl hm hc hn4 hrb hM hM0 hMm hkk
  go_enter Tryz.func34, Tryz.ntmps34
  go_wp2_with fail
  refine (HC.out _).mono ?_
  rintro e w1 ⟨v, rfl, hv, ht1⟩
  have hnn := nil_no hv
  have hng := nil_guard hv
  have Z1 := Lib.hid (hZ.out.old ht1)
  have T1 := Lib.hid (HT.out.trans ht1 (fun _ _ h => h))
  clear hv ht1 hZ HT HC
  dsimp only
  go_upto_region 4 with (fail)
  clear hnn hng
  obtain ⟨W3, hW3⟩ : ∃ V, w1.alloc (.cells #[.int .i64 k0, .slice none 0 0, .int .i64 0, .int .i64 0, .int .i64 0, .int .i64 0, .string ⟨#[]⟩, .int .i64 0, .int .i64 0, .string ⟨#[]⟩] 69) = V := ⟨_, rfl⟩
  obtain ⟨hb3, hhb3⟩ : ∃ g, g = w1.heap.size := ⟨_, rfl⟩
  rw [hW3, ← hhb3]
  have H3 : Hid (HB W3 hb3 ⟨k0, none, 0, 0, zeroZ⟩) := Lib.hid (by rw [← hW3, hhb3]; exact heap_alloc_new w1 _)
  have T3 : Hid (Turn w W3 nowhere) := Lib.hid (by rw [← hW3]; exact T1.out.trans (Turn.alloc _ _ _) (fun _ _ h => h))
  have Z3 : Hid (HB W3 w.heap.size zeroH) := Lib.hid (by rw [← hW3]; exact Z1.out.old (Turn.alloc _ _ _))
  have hlt3 : w.heap.size < hb3 := by have := heap_lt Z1.out; omega
  clear hW3 hhb3 Z1 T1
  obtain ⟨cap, w4, hrun, hs4, ht4⟩ := HCV.out W3
  have HS4 := Lib.hid hs4
  have H4 := Lib.hid (H3.out.old ht4)
  have T4 := Lib.hid (T3.out.trans ht4 (fun _ _ h => h))
  have Z4 := Lib.hid (Z3.out.old ht4)
  clear hs4 ht4 H3 T3 Z3 HCV
  go_wp2_with fail
  refine (HGN.out _ _ _ _ HS4.out).mono ?_
  rintro e w5 ⟨a5, c5, rfl, hs5, ht5⟩
  have T5 := Lib.hid (T4.out.trans ht5 (fun _ _ h => h))
  have Z5 := Lib.hid (Z4.out.old ht5)
  have H5 := Lib.hid (H4.out.old ht5)
  have S5 := Lib.hid hs5
  clear hs5 ht5 T4 Z4 H4 HS4 hrun
  dsimp only
  obtain ⟨cap2, w6, hrun2, hs6, ht6⟩ := HCV2.out w5
  have T6 := Lib.hid (T5.out.trans ht6 (fun _ _ h => h))
  have Z6 := Lib.hid (Z5.out.old ht6)
  have H6 := Lib.hid (H5.out.old ht6)
  have S6 := Lib.hid (S5.out.grown ht6.grown)
  have HNR := Lib.hid (In.new_any _ _ cap2 r0 w6 (In.oseg hs6) (by omega))
  clear hs6 ht6 T5 Z5 H5 S5 HCV2
  go_wp2_with fail
  refine HNR.out.mono ?_
  rintro e w7 ⟨rb, rg, rfl, hrb1, hrg1, hrb2, hrg2, hrd, hg7⟩
  have t7 := Pk.turn_of hg7
  have TT7 : Hid (Turn w6 w7 (· = hb3)) := Lib.hid (t7.mono (fun _ _ e => e.elim))
  have H7 := Lib.hid (H6.out.old t7)
  have S7 := Lib.hid (S6.out.grown hg7)
  have R7 := Lib.hid hrd
  have h36 : hb3 < w6.heap.size := heap_lt H6.out
  have h06 : w.heap.size ≤ w6.heap.size := T6.out.size
  clear hg7 t7 hrd HNR hrun2
  dsimp only
  have HCT := Lib.hid (Nu.Count_any a5 m c5 nl w7 S7.out)
  go_wp2_with fail
  refine HCT.out.mono ?_
  rw [HCN.out]
  rintro e w8 ⟨rfl, ht8⟩
  have TT8 := Lib.hid (TT7.out.trans ht8 (fun _ _ e => e.elim))
  have H8 := Lib.hid (H7.out.old ht8)
  have R8 := Lib.hid (In.Turn.rd ht8 R7.out id id)
  have h78 := ht8.size
  clear ht8 TT7 H7 S7 R7 HCT
  dsimp only
  obtain ⟨d0, d1, d2, d3, d4, d5, d6, d7, d8, d9⟩ := H8.out.cellsAt
  have f1 := H8.out.froz 1
  have f2 := H8.out.froz 2
  have f3 := H8.out.froz 3
  have f4 := H8.out.froz 4
  have f5 := H8.out.froz 5
  have f6 := H8.out.froz 6
  have f7 := H8.out.froz 7
  have f8 := H8.out.froz 8
  have f9 := H8.out.froz 9
  go_upto_region 9 with (fail)
  have H9a := HB.setZone (HB.set1 H8.out a5 m c5) ⟨(m : Int), (C : Int), zeroC, zeroC⟩
  have T9a := (turn_set w8 hb3 1 (.slice a5 m c5)).trans (turn_zone _ hb3 ⟨(m : Int), (C : Int), zeroC, zeroC⟩) (fun _ _ h => h)
  obtain ⟨W9, hW9⟩ : ∃ V, ((((((((w8.setCell ⟨hb3, 1, none⟩ (.slice a5 m c5)).setCell ⟨hb3, 2, none⟩ (.int .i64 (m : Int))).setCell ⟨hb3, 3, none⟩ (.int .i64 (C : Int))).setCell ⟨hb3, 4, none⟩ (.int .i64 0)).setCell ⟨hb3, 5, none⟩ (.int .i64 0)).setCell ⟨hb3, 6, none⟩ (.string ⟨#[]⟩)).setCell ⟨hb3, 7, none⟩ (.int .i64 0)).setCell ⟨hb3, 8, none⟩ (.int .i64 0)).setCell ⟨hb3, 9, none⟩ (.string ⟨#[]⟩) = V := ⟨_, rfl⟩
  have H9 : Hid (HB W9 hb3 ⟨k0, a5, m, c5, ⟨(m : Int), (C : Int), zeroC, zeroC⟩⟩) := Lib.hid (by rw [← hW9]; exact H9a)
  have t9 : Turn w8 W9 (· = hb3) := by rw [← hW9]; exact T9a
  have TT9 := Lib.hid (TT8.out.trans t9 (fun _ _ h => h))
  have R9 := Lib.hid (In.Turn.rd t9 R8.out (by omega) (by omega))
  have h89 := t9.size
  rw [hW9]
  clear hW9 H9a T9a t9 TT8 H8 R8 d0 d1 d2 d3 d4 d5 d6 d7 d8 d9 f1 f2 f3 f4 f5 f6 f7 f8 f9
  obtain ⟨d0, d1, d2, d3, d4, d5, d6, d7, d8, d9⟩ := H9.out.cellsAt
  have HVA := Lib.hid (values_any ⟨k0, a5, m, c5, ⟨(m : Int), (C : Int), zeroC, zeroC⟩⟩ (M : Int) HMM.out (by omega) W9)
  go_wp2_with fail
  refine HVA.out.mono ?_
  rintro e w10 ⟨rfl, hg10⟩
  have t10 := Pk.turn_of hg10
  have TT10 := Lib.hid (TT9.out.trans t10 (fun _ _ e => e.elim))
  have H10 := Lib.hid (H9.out.old t10)
  have R10 := Lib.hid (In.Turn.rd t10 R9.out id id)
  have h910 := t10.size
  clear hg10 t10 TT9 H9 R9 HVA d0 d1 d2 d3 d4 d5 d6 d7 d8 d9
  dsimp only
  obtain ⟨d0, d1, d2, d3, d4, d5, d6, d7, d8, d9⟩ := H10.out.cellsAt
  go_wp2_with fail
  refine (HC2.out _).mono ?_
  rintro e w11 ⟨v2, rfl, hv, ht11⟩
  have TT11 := Lib.hid (TT10.out.trans ht11 (fun _ _ e => e.elim))
  have H11 := Lib.hid (H10.out.old ht11)
  have R11 := Lib.hid (In.Turn.rd ht11 R10.out id id)
  have h1011 := ht11.size
  have hkk := HKK.out
  obtain rfl : v2 = .iface 108 (.agg #[.func (.func 98) #[] #[], .func (.func 99) #[] #[], .func (.func 100) #[] #[], .func (.func 101) #[] #[], .func (.func 102) #[] #[], .func (.func 103) #[] #[]]) := by
    rcases hv with ⟨h, _⟩ | ⟨h, e1⟩ | ⟨h, _⟩
    · omega
    · exact e1
    · omega
  clear hv ht11 TT10 H10 R10 HC2 d0 d1 d2 d3 d4 d5 d6 d7 d8 d9 hkk
  dsimp only
  have hmeth := fun W => meth_getCell_B W
  have HG1 := Lib.hid (getCell_B rb rg r0 w11 R11.out (by omega) HRB.out hrl2)
  rw [← HKK.out] at HG1
  go_wp2_with fail
  refine HG1.out.mono ?_
  intro e w12 hx
  obtain ⟨ht12, x1, r1, rfl, hr12, hb12, hl12, ho1⟩ := oneis_of hx
  have TT12 := Lib.hid (TT11.out.trans ht12 (fun i hi e => by have e2 : i = rb := e; omega))
  have H12 := Lib.hid (H11.out.turn ht12 (by omega))
  have R12 := Lib.hid hr12
  have O1 := Lib.hid ho1
  have B12 := Lib.hid hb12
  have h1112 := ht12.size
  clear ht12 hr12 ho1 hb12 hx HG1 TT11 H11 R11
  dsimp only
  obtain ⟨d0, d1, d2, d3, d4, d5, d6, d7, d8, d9⟩ := H12.out.cellsAt
  have f4 := H12.out.froz 4
  have f5 := H12.out.froz 5
  have f6 := H12.out.froz 6
  go_upto_region 12 with (fail)
  have H13a := HB.setMin H12.out x1
  have T13a := turn_min w12 hb3 x1
  obtain ⟨W13, hW13⟩ : ∃ V, ((w12.setCell ⟨hb3, 4, none⟩ (.int .i64 x1.k)).setCell ⟨hb3, 5, none⟩ (.int .i64 x1.n)).setCell ⟨hb3, 6, none⟩ (.string x1.s) = V := ⟨_, rfl⟩
  rw [hW13] at H13a T13a ⊢
  have H13 : Hid (HB W13 hb3 ⟨k0, a5, m, c5, ⟨(m : Int), (C : Int), x1, zeroC⟩⟩) := Lib.hid H13a
  have TT13 := Lib.hid (TT12.out.trans T13a (fun _ _ h => h))
  have R13 := Lib.hid (In.Turn.rd T13a R12.out (by omega) (by omega))
  have h1213 := T13a.size
  clear hW13 H13a T13a TT12 H12 R12 d0 d1 d2 d3 d4 d5 d6 d7 d8 d9 f4 f5 f6
  have HG2 := Lib.hid (getCell_B rb rg r1 W13 R13.out (by omega) B12.out hl12)
  rw [← HKK.out] at HG2
  go_wp2_with fail
  refine HG2.out.mono ?_
  intro e w14 hx
  obtain ⟨ht14, x2, r2, rfl, hr14, hb14, hl14, ho2⟩ := oneis_of hx
  have TT14 := Lib.hid (TT13.out.trans ht14 (fun i hi e => by have e2 : i = rb := e; omega))
  have H14 := Lib.hid (H13.out.turn ht14 (by omega))
  have R14 := Lib.hid hr14
  have O2 := Lib.hid ho2
  have B14 := Lib.hid hb14
  have h1314 := ht14.size
  clear ht14 hr14 ho2 hb14 hx HG2 TT13 H13 R13 hmeth
  dsimp only
  obtain ⟨d0, d1, d2, d3, d4, d5, d6, d7, d8, d9⟩ := H14.out.cellsAt
  have f7 := H14.out.froz 7
  have f8 := H14.out.froz 8
  have f9 := H14.out.froz 9
  go_upto_region 13 with (fail)
  have H15a := HB.setMax H14.out x2
  have T15a := turn_max w14 hb3 x2
  obtain ⟨W15, hW15⟩ : ∃ V, ((w14.setCell ⟨hb3, 7, none⟩ (.int .i64 x2.k)).setCell ⟨hb3, 8, none⟩ (.int .i64 x2.n)).setCell ⟨hb3, 9, none⟩ (.string x2.s) = V := ⟨_, rfl⟩
  rw [hW15] at H15a T15a ⊢
  have H15 : Hid (HB W15 hb3 ⟨k0, a5, m, c5, ⟨(m : Int), (C : Int), x1, x2⟩⟩) := Lib.hid H15a
  have TT15 := Lib.hid (TT14.out.trans T15a (fun _ _ h => h))
  have R15 := Lib.hid (In.Turn.rd T15a R14.out (by omega) (by omega))
  have h1415 := T15a.size
  clear hW15 H15a T15a TT14 H14 R14 d0 d1 d2 d3 d4 d5 d6 d7 d8 d9 f7 f8 f9
  obtain ⟨d0, d1, d2, d3, d4, d5, d6, d7, d8, d9⟩ := H15.out.cellsAt
  have HCK := Lib.hid (Zn.Check_any ⟨(m : Int), (C : Int), x1, x2⟩ k0 W15)
  obtain ⟨E, hE⟩ : ∃ E, E = checkE ⟨(m : Int), (C : Int), x1, x2⟩ k0 := ⟨_, rfl⟩
  rw [← hE] at HCK
  have HE := Lib.hid hE
  clear hE
  go_wp2_with fail
  refine HCK.out.mono ?_
  rintro e w16 ⟨rfl, hg16⟩
  have t16 := Pk.turn_of hg16
  have TT16 := Lib.hid (TT15.out.trans t16 (fun _ _ e => e.elim))
  have H16 := Lib.hid (H15.out.old t16)
  have R16 := Lib.hid (In.Turn.rd t16 R15.out id id)
  have h1516 := t16.size
  clear hg16 t16 TT15 H15 R15 HCK d0 d1 d2 d3 d4 d5 d6 d7 d8 d9
  dsimp only
  have Z16 : Hid (HB w16 w.heap.size zeroH) := Lib.hid (Z6.out.turn TT16.out (by omega))
  by_cases hE0 : E = 0
  · have q0 : (E != 0) = false := by rw [hE0]; rfl
    have HE0 := Lib.hid hE0
    obtain ⟨d0, d1, d2, d3, d4, d5, d6, d7, d8, d9⟩ := H16.out.cellsAt
    clear hE0
    go_wp2_with (first
      | (with_reducible refine wpList_store_head rfl (.tmp 2) (.tmp 73) rfl w.heap.size rfl ⟨k0, a5, m, c5, ⟨(m : Int), (C : Int), x1, x2⟩⟩ rfl zeroH Z16.out ?_; intro w17 hz17 ht17)
      | fail)
    have S16 := flags_stay S6.out H6.out TT16.out
    have S17 := flags_stay S16 Z16.out ht17
    refine bodyPost_ret (run_results_head rfl _ _ _ ⟨k0, a5, m, c5, ⟨(m : Int), (C : Int), x1, x2⟩⟩ _ _ rfl hz17 rfl rfl) rfl ⟨x1, r1, x2, r2, O1.out, O2.out, fun _ => ⟨a5, c5, rb, rg, rfl, S17, In.Turn.rd ht17 R16.out (by omega) (by omega), B14.out, hl14, by omega, by have := ht17.size; omega, (fun ad e hn0 => by have := flags_lt S6.out ad e hn0; omega), ?_⟩, fun h => absurd (HE.out.symm.trans HE0.out) h⟩
    exact Turn.trans (Turn.trans T6.out TT16.out (fun i hi e => by omega)) ht17 (fun i hi e => by omega)
  · have q0 : (E != 0) = true := bne_iff_ne.2 hE0
    have HE0 := Lib.hid hE0
    clear hE0
    go_wp2_with (first
      | (with_reducible refine wpList_store_head rfl (.tmp 2) (.tmp 72) rfl w.heap.size rfl zeroH rfl zeroH Z16.out ?_; intro w17 hz17 ht17)
      | fail)
    refine bodyPost_ret (run_results_head rfl _ _ _ zeroH _ _ rfl hz17 rfl rfl) rfl ⟨x1, r1, x2, r2, O1.out, O2.out, fun h => absurd (HE.out.trans h) HE0.out, fun _ => ⟨rfl, ?_⟩⟩
    exact Turn.trans (Turn.trans T6.out TT16.out (fun i hi e => by omega)) ht17 (fun i hi e => by omega)

set_option maxRecDepth 100000 in
set_option maxHeartbeats 8000000 in
theorem getHead_two_T (k0 : Int) (t r0 : List Int) (nl : List Bool) (m C M : Nat) (hb : Bs.IsB (k0 :: t)) (hl : (k0 :: t).length ≤ 100000000) (hkk : k0 = 3) (hg : getN t = some (nl, r0)) (hm : nl.length = m) (hc : cnt nl = C) (hM : m = C + M) (hM0 : 0 < M) (w : World) :
    Calls Tryz.prog 34 #[.string (strOfNums (k0 :: t))] w (HeadTwo w k0 nl m C r0) := by
  have k1 : 1 ≤ k0 := by omega
  have k3 : k0 ≤ 3 := by omega
  have hk0 := hb k0 (List.mem_cons_self ..)
  have hidx := idx_str k0 t hk0
  have hwr : IntKind.i64.wrap k0 = k0 := IntWalk.i64_in _ (by omega)
  have hne : (strOfNums (k0 :: t)).toList.isEmpty = false := by rw [Go.ByteArray.toList_eq]; rfl
  have hex1 : (strOfNums (k0 :: t)).extract 1 (strOfNums (k0 :: t)).size = strOfNums t := by
    rw [str_extract, strOfNums_size, List.drop_succ_cons, List.drop_zero, List.take_of_length_le (by simp)]
  have hsz : 0 < (strOfNums (k0 :: t)).size := by rw [strOfNums_size]; exact Nat.zero_lt_succ _
  have hsz1 : (1 : Int) ≤ ((strOfNums (k0 :: t)).size : Int) := by omega
  have HC := Lib.hid (fun W => coderOf_any k0 W k1 k3)
  have hZ := Lib.hid (hb_new w)
  have HT := Lib.hid (Turn.alloc w (.cells #[.int .i64 0, .slice none 0 0, .int .i64 0, .int .i64 0, .int .i64 0, .int .i64 0, .string ⟨#[]⟩, .int .i64 0, .int .i64 0, .string ⟨#[]⟩] 69) nowhere)
  have hbt : Oct.IsB t := fun x hx => hb x (List.mem_cons_of_mem _ hx)
  have hlt : t.length ≤ 100000000 := by rw [List.length_cons] at hl; omega
  obtain ⟨S, hS⟩ : ∃ S, strOfNums (k0 :: t) = S := ⟨_, rfl⟩
  obtain ⟨S1, hS1⟩ : ∃ S1, strOfNums t = S1 := ⟨_, rfl⟩
  rw [hS] at hidx hne hex1 hsz hsz1 ⊢
  rw [hS1] at hex1
  have HCV := Lib.hid (fun W => conv_seg2 t hbt (by omega) W)
  rw [hS1] at HCV
  have HBT := Lib.hid hbt
  obtain ⟨hn4, ht⟩ := Nu.getN_some hbt hg
  obtain ⟨q, hq⟩ : ∃ q, (Nu.encN nl).length = q := ⟨_, rfl⟩
  have hrl : t.length = q + r0.length := by rw [ht, List.length_append, hq]
  have hrb : Oct.IsB r0 := fun x hx => hbt x (by rw [ht]; exact List.mem_append_right _ hx)
  have HRB := Lib.hid hrb
  have HCN := Lib.hid hc
  have hrl2 : r0.length ≤ 100000000 := by omega
  have hwq : IntKind.i64.wrap (1 + (q : Int)) = 1 + (q : Int) := IntWalk.i64_in _ (by omega)
  have HGN := Lib.hid (fun a n c W hs => Nu.got_form (bs := t) (L := nl) (z := (q : Int)) (E := 0) (m := m) (by rw [hg]; show (nl, (t.length : Int) - (r0.length : Int), (0 : Int)) = _; rw [hrl]; exact congrArg (fun x => (nl, x, (0 : Int))) (by omega)) hm hbt hlt a n c W hs)
  have hm4 : m ≤ 4096 := by rw [← hm]; exact hn4
  have hMm : (m : Int) - (C : Int) = (M : Int) := by omega
  have HMM := Lib.hid hMm
  have hMp : (0 : Int) < (M : Int) := by omega
  have hM5 : M ≤ 4096 := by omega
  have HC2 := Lib.hid (fun W => coderOf_any k0 W k1 k3)
  have hex2 : S.extract (1 + q) S.size = strOfNums r0 := by
    rw [← hS, str_extract, strOfNums_size, Nat.add_comm 1 q, List.drop_succ_cons, ht, ← hq, List.drop_left, List.take_of_length_le (by simp)]
  obtain ⟨S2, hS2⟩ : ∃ S2, strOfNums r0 = S2 := ⟨_, rfl⟩
  have HCV2 := Lib.hid (fun W => conv_seg2 r0 hrb (by omega) W)
  rw [hS2] at HCV2 hex2
  have hsz2 : 1 + (q : Int) ≤ (S.size : Int) := by rw [← hS, strOfNums_size, List.length_cons]; omega
  have HKK := Lib.hid hkk
  clear hS hS1 hS2 hb hl hg hbt ht hq hrl hm hc hn4 hrb hM hM0 hMm hkk
  go_enter Tryz.func34, Tryz.ntmps34
  go_wp2_with fail
  refine (HC.out _).mono ?_
  rintro e w1 ⟨v, rfl, hv, ht1⟩
  have hnn := nil_no hv
  have hng := nil_guard hv
  have Z1 := Lib.hid (hZ.out.old ht1)
  have T1 := Lib.hid (HT.out.trans ht1 (fun _ _ h => h))
  clear hv ht1 hZ HT HC
  dsimp only
  go_upto_region 4 with (fail)
  clear hnn hng
  obtain ⟨W3, hW3⟩ : ∃ V, w1.alloc (.cells #[.int .i64 k0, .slice none 0 0, .int .i64 0, .int .i64 0, .int .i64 0, .int .i64 0, .string ⟨#[]⟩, .int .i64 0, .int .i64 0, .string ⟨#[]⟩] 69) = V := ⟨_, rfl⟩
  obtain ⟨hb3, hhb3⟩ : ∃ g, g = w1.heap.size := ⟨_, rfl⟩
  rw [hW3, ← hhb3]
  have H3 : Hid (HB W3 hb3 ⟨k0, none, 0, 0, zeroZ⟩) := Lib.hid (by rw [← hW3, hhb3]; exact heap_alloc_new w1 _)
  have T3 : Hid (Turn w W3 nowhere) := Lib.hid (by rw [← hW3]; exact T1.out.trans (Turn.alloc _ _ _) (fun _ _ h => h))
  have Z3 : Hid (HB W3 w.heap.size zeroH) := Lib.hid (by rw [← hW3]; exact Z1.out.old (Turn.alloc _ _ _))
  have hlt3 : w.heap.size < hb3 := by have := heap_lt Z1.out; omega
  clear hW3 hhb3 Z1 T1
  obtain ⟨cap, w4, hrun, hs4, ht4⟩ := HCV.out W3
  have HS4 := Lib.hid hs4
  have H4 := Lib.hid (H3.out.old ht4)
  have T4 := Lib.hid (T3.out.trans ht4 (fun _ _ h => h))
  have Z4 := Lib.hid (Z3.out.old ht4)
  clear hs4 ht4 H3 T3 Z3 HCV
  go_wp2_with fail
  refine (HGN.out _ _ _ _ HS4.out).mono ?_
  rintro e w5 ⟨a5, c5, rfl, hs5, ht5⟩
  have T5 := Lib.hid (T4.out.trans ht5 (fun _ _ h => h))
  have Z5 := Lib.hid (Z4.out.old ht5)
  have H5 := Lib.hid (H4.out.old ht5)
  have S5 := Lib.hid hs5
  clear hs5 ht5 T4 Z4 H4 HS4 hrun
  dsimp only
  obtain ⟨cap2, w6, hrun2, hs6, ht6⟩ := HCV2.out w5
  have T6 := Lib.hid (T5.out.trans ht6 (fun _ _ h => h))
  have Z6 := Lib.hid (Z5.out.old ht6)
  have H6 := Lib.hid (H5.out.old ht6)
  have S6 := Lib.hid (S5.out.grown ht6.grown)
  have HNR := Lib.hid (In.new_any _ _ cap2 r0 w6 (In.oseg hs6) (by omega))
  clear hs6 ht6 T5 Z5 H5 S5 HCV2
  go_wp2_with fail
  refine HNR.out.mono ?_
  rintro e w7 ⟨rb, rg, rfl, hrb1, hrg1, hrb2, hrg2, hrd, hg7⟩
  have t7 := Pk.turn_of hg7
  have TT7 : Hid (Turn w6 w7 (· = hb3)) := Lib.hid (t7.mono (fun _ _ e => e.elim))
  have H7 := Lib.hid (H6.out.old t7)
  have S7 := Lib.hid (S6.out.grown hg7)
  have R7 := Lib.hid hrd
  have h36 : hb3 < w6.heap.size := heap_lt H6.out
  have h06 : w.heap.size ≤ w6.heap.size := T6.out.size
  clear hg7 t7 hrd HNR hrun2
  dsimp only
  have HCT := Lib.hid (Nu.Count_any a5 m c5 nl w7 S7.out)
  go_wp2_with fail
  refine HCT.out.mono ?_
  rw [HCN.out]
  rintro e w8 ⟨rfl, ht8⟩
  have TT8 := Lib.hid (TT7.out.trans ht8 (fun _ _ e => e.elim))
  have H8 := Lib.hid (H7.out.old ht8)
  have R8 := Lib.hid (In.Turn.rd ht8 R7.out id id)
  have h78 := ht8.size
  clear ht8 TT7 H7 S7 R7 HCT
  dsimp only
  obtain ⟨d0, d1, d2, d3, d4, d5, d6, d7, d8, d9⟩ := H8.out.cellsAt
  have f1 := H8.out.froz 1
  have f2 := H8.out.froz 2
  have f3 := H8.out.froz 3
  have f4 := H8.out.froz 4
  have f5 := H8.out.froz 5
  have f6 := H8.out.froz 6
  have f7 := H8.out.froz 7
  have f8 := H8.out.froz 8
  have f9 := H8.out.froz 9
  go_upto_region 9 with (fail)
  have H9a := HB.setZone (HB.set1 H8.out a5 m c5) ⟨(m : Int), (C : Int), zeroC, zeroC⟩
  have T9a := (turn_set w8 hb3 1 (.slice a5 m c5)).trans (turn_zone _ hb3 ⟨(m : Int), (C : Int), zeroC, zeroC⟩) (fun _ _ h => h)
  obtain ⟨W9, hW9⟩ : ∃ V, ((((((((w8.setCell ⟨hb3, 1, none⟩ (.slice a5 m c5)).setCell ⟨hb3, 2, none⟩ (.int .i64 (m : Int))).setCell ⟨hb3, 3, none⟩ (.int .i64 (C : Int))).setCell ⟨hb3, 4, none⟩ (.int .i64 0)).setCell ⟨hb3, 5, none⟩ (.int .i64 0)).setCell ⟨hb3, 6, none⟩ (.string ⟨#[]⟩)).setCell ⟨hb3, 7, none⟩ (.int .i64 0)).setCell ⟨hb3, 8, none⟩ (.int .i64 0)).setCell ⟨hb3, 9, none⟩ (.string ⟨#[]⟩) = V := ⟨_, rfl⟩
  have H9 : Hid (HB W9 hb3 ⟨k0, a5, m, c5, ⟨(m : Int), (C : Int), zeroC, zeroC⟩⟩) := Lib.hid (by rw [← hW9]; exact H9a)
  have t9 : Turn w8 W9 (· = hb3) := by rw [← hW9]; exact T9a
  have TT9 := Lib.hid (TT8.out.trans t9 (fun _ _ h => h))
  have R9 := Lib.hid (In.Turn.rd t9 R8.out (by omega) (by omega))
  have h89 := t9.size
  rw [hW9]
  clear hW9 H9a T9a t9 TT8 H8 R8 d0 d1 d2 d3 d4 d5 d6 d7 d8 d9 f1 f2 f3 f4 f5 f6 f7 f8 f9
  obtain ⟨d0, d1, d2, d3, d4, d5, d6, d7, d8, d9⟩ := H9.out.cellsAt
  have HVA := Lib.hid (values_any ⟨k0, a5, m, c5, ⟨(m : Int), (C : Int), zeroC, zeroC⟩⟩ (M : Int) HMM.out (by omega) W9)
  go_wp2_with fail
  refine HVA.out.mono ?_
  rintro e w10 ⟨rfl, hg10⟩
  have t10 := Pk.turn_of hg10
  have TT10 := Lib.hid (TT9.out.trans t10 (fun _ _ e => e.elim))
  have H10 := Lib.hid (H9.out.old t10)
  have R10 := Lib.hid (In.Turn.rd t10 R9.out id id)
  have h910 := t10.size
  clear hg10 t10 TT9 H9 R9 HVA d0 d1 d2 d3 d4 d5 d6 d7 d8 d9
  dsimp only
  obtain ⟨d0, d1, d2, d3, d4, d5, d6, d7, d8, d9⟩ := H10.out.cellsAt
  go_wp2_with fail
  refine (HC2.out _).mono ?_
  rintro e w11 ⟨v2, rfl, hv, ht11⟩
  have TT11 := Lib.hid (TT10.out.trans ht11 (fun _ _ e => e.elim))
  have H11 := Lib.hid (H10.out.old ht11)
  have R11 := Lib.hid (In.Turn.rd ht11 R10.out id id)
  have h1011 := ht11.size
  have hkk := HKK.out
  obtain ⟨cb, rfl⟩ : ∃ cb, v2 = .iface 117 (.agg #[.func (.func 105) #[] #[], .func (.func 106) #[] #[], .func (.func 107) #[] #[], .func (.func 108) #[] #[], .func (.func 109) #[] #[], .func (.func 146) #[] #[.pointer (some ⟨cb, 0, none⟩)]]) := by
    rcases hv with ⟨h, b, e1, _⟩ | ⟨h, e1⟩ | ⟨h, b, e1, _⟩
    · omega
    · omega
    · exact ⟨b, e1⟩
  clear hv ht11 TT10 H10 R10 HC2 d0 d1 d2 d3 d4 d5 d6 d7 d8 d9 hkk
  dsimp only
  have hmeth := fun W => meth_getCell_T cb W
  have HG1 := Lib.hid (getCell_T cb rb rg r0 w11 R11.out (by omega) HRB.out hrl2)
  rw [← HKK.out] at HG1
  go_wp2_with fail
  refine HG1.out.mono ?_
  intro e w12 hx
  obtain ⟨ht12, x1, r1, rfl, hr12, hb12, hl12, ho1⟩ := oneis_of hx
  have TT12 := Lib.hid (TT11.out.trans ht12 (fun i hi e => by have e2 : i = rb := e; omega))
  have H12 := Lib.hid (H11.out.turn ht12 (by omega))
  have R12 := Lib.hid hr12
  have O1 := Lib.hid ho1
  have B12 := Lib.hid hb12
  have h1112 := ht12.size
  clear ht12 hr12 ho1 hb12 hx HG1 TT11 H11 R11
  dsimp only
  obtain ⟨d0, d1, d2, d3, d4, d5, d6, d7, d8, d9⟩ := H12.out.cellsAt
  have f4 := H12.out.froz 4
  have f5 := H12.out.froz 5
  have f6 := H12.out.froz 6
  go_upto_region 12 with (fail)
  have H13a := HB.setMin H12.out x1
  have T13a := turn_min w12 hb3 x1
  obtain ⟨W13, hW13⟩ : ∃ V, ((w12.setCell ⟨hb3, 4, none⟩ (.int .i64 x1.k)).setCell ⟨hb3, 5, none⟩ (.int .i64 x1.n)).setCell ⟨hb3, 6, none⟩ (.string x1.s) = V := ⟨_, rfl⟩
  rw [hW13] at H13a T13a ⊢
  have H13 : Hid (HB W13 hb3 ⟨k0, a5, m, c5, ⟨(m : Int), (C : Int), x1, zeroC⟩⟩) := Lib.hid H13a
  have TT13 := Lib.hid (TT12.out.trans T13a (fun _ _ h => h))
  have R13 := Lib.hid (In.Turn.rd T13a R12.out (by omega) (by omega))
  have h1213 := T13a.size
  clear hW13 H13a T13a TT12 H12 R12 d0 d1 d2 d3 d4 d5 d6 d7 d8 d9 f4 f5 f6
  have HG2 := Lib.hid (getCell_T cb rb rg r1 W13 R13.out (by omega) B12.out hl12)
  rw [← HKK.out] at HG2
  go_wp2_with fail
  refine HG2.out.mono ?_
  intro e w14 hx
  obtain ⟨ht14, x2, r2, rfl, hr14, hb14, hl14, ho2⟩ := oneis_of hx
  have TT14 := Lib.hid (TT13.out.trans ht14 (fun i hi e => by have e2 : i = rb := e; omega))
  have H14 := Lib.hid (H13.out.turn ht14 (by omega))
  have R14 := Lib.hid hr14
  have O2 := Lib.hid ho2
  have B14 := Lib.hid hb14
  have h1314 := ht14.size
  clear ht14 hr14 ho2 hb14 hx HG2 TT13 H13 R13 hmeth
  dsimp only
  obtain ⟨d0, d1, d2, d3, d4, d5, d6, d7, d8, d9⟩ := H14.out.cellsAt
  have f7 := H14.out.froz 7
  have f8 := H14.out.froz 8
  have f9 := H14.out.froz 9
  go_upto_region 13 with (fail)
  have H15a := HB.setMax H14.out x2
  have T15a := turn_max w14 hb3 x2
  obtain ⟨W15, hW15⟩ : ∃ V, ((w14.setCell ⟨hb3, 7, none⟩ (.int .i64 x2.k)).setCell ⟨hb3, 8, none⟩ (.int .i64 x2.n)).setCell ⟨hb3, 9, none⟩ (.string x2.s) = V := ⟨_, rfl⟩
  rw [hW15] at H15a T15a ⊢
  have H15 : Hid (HB W15 hb3 ⟨k0, a5, m, c5, ⟨(m : Int), (C : Int), x1, x2⟩⟩) := Lib.hid H15a
  have TT15 := Lib.hid (TT14.out.trans T15a (fun _ _ h => h))
  have R15 := Lib.hid (In.Turn.rd T15a R14.out (by omega) (by omega))
  have h1415 := T15a.size
  clear hW15 H15a T15a TT14 H14 R14 d0 d1 d2 d3 d4 d5 d6 d7 d8 d9 f7 f8 f9
  obtain ⟨d0, d1, d2, d3, d4, d5, d6, d7, d8, d9⟩ := H15.out.cellsAt
  have HCK := Lib.hid (Zn.Check_any ⟨(m : Int), (C : Int), x1, x2⟩ k0 W15)
  obtain ⟨E, hE⟩ : ∃ E, E = checkE ⟨(m : Int), (C : Int), x1, x2⟩ k0 := ⟨_, rfl⟩
  rw [← hE] at HCK
  have HE := Lib.hid hE
  clear hE
  go_wp2_with fail
  refine HCK.out.mono ?_
  rintro e w16 ⟨rfl, hg16⟩
  have t16 := Pk.turn_of hg16
  have TT16 := Lib.hid (TT15.out.trans t16 (fun _ _ e => e.elim))
  have H16 := Lib.hid (H15.out.old t16)
  have R16 := Lib.hid (In.Turn.rd t16 R15.out id id)
  have h1516 := t16.size
  clear hg16 t16 TT15 H15 R15 HCK d0 d1 d2 d3 d4 d5 d6 d7 d8 d9
  dsimp only
  have Z16 : Hid (HB w16 w.heap.size zeroH) := Lib.hid (Z6.out.turn TT16.out (by omega))
  by_cases hE0 : E = 0
  · have q0 : (E != 0) = false := by rw [hE0]; rfl
    have HE0 := Lib.hid hE0
    obtain ⟨d0, d1, d2, d3, d4, d5, d6, d7, d8, d9⟩ := H16.out.cellsAt
    clear hE0
    go_wp2_with (first
      | (with_reducible refine wpList_store_head rfl (.tmp 2) (.tmp 73) rfl w.heap.size rfl ⟨k0, a5, m, c5, ⟨(m : Int), (C : Int), x1, x2⟩⟩ rfl zeroH Z16.out ?_; intro w17 hz17 ht17)
      | fail)
    have S16 := flags_stay S6.out H6.out TT16.out
    have S17 := flags_stay S16 Z16.out ht17
    refine bodyPost_ret (run_results_head rfl _ _ _ ⟨k0, a5, m, c5, ⟨(m : Int), (C : Int), x1, x2⟩⟩ _ _ rfl hz17 rfl rfl) rfl ⟨x1, r1, x2, r2, O1.out, O2.out, fun _ => ⟨a5, c5, rb, rg, rfl, S17, In.Turn.rd ht17 R16.out (by omega) (by omega), B14.out, hl14, by omega, by have := ht17.size; omega, (fun ad e hn0 => by have := flags_lt S6.out ad e hn0; omega), ?_⟩, fun h => absurd (HE.out.symm.trans HE0.out) h⟩
    exact Turn.trans (Turn.trans T6.out TT16.out (fun i hi e => by omega)) ht17 (fun i hi e => by omega)
  · have q0 : (E != 0) = true := bne_iff_ne.2 hE0
    have HE0 := Lib.hid hE0
    clear hE0
    go_wp2_with (first
      | (with_reducible refine wpList_store_head rfl (.tmp 2) (.tmp 72) rfl w.heap.size rfl zeroH rfl zeroH Z16.out ?_; intro w17 hz17 ht17)
      | fail)
    refine bodyPost_ret (run_results_head rfl _ _ _ zeroH _ _ rfl hz17 rfl rfl) rfl ⟨x1, r1, x2, r2, O1.out, O2.out, fun h => absurd (HE.out.trans h) HE0.out, fun _ => ⟨rfl, ?_⟩⟩
    exact Turn.trans (Turn.trans T6.out TT16.out (fun i hi e => by omega)) ht17 (fun i hi e => by omega)
end Go.Proofs.YtljanfnhmhimiaaGreat.Sg

namespace Go.Proofs.YtljanfnhmhimiaaGreat.Sg
open Go.RowKit Go.Joins Zn Zr Dv
open Oct (Rd)
open Nu (getN cnt)

theorem check_two {k : Int} (k1 : 1 ≤ k) (k3 : k ≤ 3) {m C : Nat} (h : C < m) (a b : Cel) : checkE ⟨(m : Int), (C : Int), a, b⟩ k = 0 ↔ (CelOk k a ∧ CelOk k b ∧ ¬ 0 < cmpC a b) := by
  unfold checkE
  rw [if_neg (by omega), if_neg (by simp only; omega), if_neg (by rintro ⟨e, _⟩; simp only at e; omega)]
  by_cases hbd : boundB ⟨(m : Int), (C : Int), a, b⟩ k = true
  · rw [if_neg (by rintro ⟨_, e⟩; rw [hbd] at e; cases e)]
    have h1 := of_decide_eq_true hbd
    exact ⟨fun _ => ⟨⟨h1.1.1, h1.1.2⟩, ⟨h1.2.1.1, h1.2.1.2⟩, by have := h1.2.2; simp only at this; omega⟩, fun _ => rfl⟩
  · have hf : boundB ⟨(m : Int), (C : Int), a, b⟩ k = false := by simpa using hbd
    rw [if_pos ⟨by simp only; omega, hf⟩]
    refine ⟨(fun e => by cases e), fun ⟨o1, o2, o3⟩ => absurd (decide_eq_true ⟨⟨o1.k, o1.ok⟩, ⟨o2.k, o2.ok⟩, ?_⟩) hbd⟩
    simp only
    omega
theorem two_of {w w' : World} {k : Int} {nl : List Bool} {m C : Nat} {r0 : List Int} {e : Ending} (k1 : 1 ≤ k) (k3 : k ≤ 3) (hC : C < m) (hb : Oct.IsB r0) (h : HeadTwo w k nl m C r0 e w') :
    (match (match readCell k r0 with
      | none => none
      | some (a, r1) => match readCell k r1 with
        | none => none
        | some (b, r2) => if 0 < cmpC a b then none else some ((⟨(m : Int), (C : Int), a, b⟩ : Zon), r2)) with
      | none => HeadNo w e w'
      | some (z, r) => HeadYes w k nl m z r e w') := by
  obtain ⟨c1, r1, c2, r2, o1, o2, hy, hn⟩ := h
  cases ha : readCell k r0 with
  | none =>
    rw [ha] at o1
    exact hn (fun q => o1 ((check_two k1 k3 hC c1 c2).1 q).1)
  | some p =>
    obtain ⟨a, ra⟩ := p
    rw [ha] at o1
    obtain ⟨q1, q2⟩ := o1
    subst q1 q2
    obtain ⟨oa, ea, _⟩ := read_some k1 k3 hb ha
    have hb1 : Oct.IsB r1 := fun x hx => hb x (by rw [ea]; exact List.mem_append_right _ hx)
    dsimp only
    cases hb2 : readCell k r1 with
    | none =>
      rw [hb2] at o2
      exact hn (fun q => o2 ((check_two k1 k3 hC c1 c2).1 q).2.1)
    | some p =>
      obtain ⟨b, rb⟩ := p
      rw [hb2] at o2
      obtain ⟨q1, q2⟩ := o2
      subst q1 q2
      obtain ⟨ob, eb, _⟩ := read_some k1 k3 hb1 hb2
      dsimp only
      by_cases hle : 0 < cmpC c1 c2
      · rw [if_pos hle]
        exact hn (fun q => ((check_two k1 k3 hC c1 c2).1 q).2.2 hle)
      · rw [if_neg hle]
        exact hy ((check_two k1 k3 hC c1 c2).2 ⟨oa, ob, hle⟩)
/-- getHead's answer -/
def HeadX (w : World) (o : Option (Int × List Bool × Zon × List Int)) (e : Ending) (w' : World) : Prop := match o with
  | none => HeadNo w e w'
  | some (k, nl, z, r) => HeadYes w k nl nl.length z r e w'
theorem getHead_any (s : List Int) (hb : Bs.IsB s) (hl : s.length ≤ 100000000) (w : World) : Calls Tryz.prog 34 #[.string (strOfNums s)] w (HeadX w (headS s)) := by
  cases s with
  | nil => exact getHead_empty w
  | cons k0 t =>
    rw [headS]
    by_cases hk : k0 < 1 ∨ 3 < k0
    · rw [if_pos hk]
      exact getHead_kind k0 t hb hk w
    · rw [if_neg hk]
      have hbt : Oct.IsB t := fun x hx => hb x (List.mem_cons_of_mem _ hx)
      cases hg : getN t with
      | none => exact getHead_nulls k0 t hb hl (by omega) (by omega) hg w
      | some p =>
        obtain ⟨nl, r0⟩ := p
        obtain ⟨hn, ht⟩ := Nu.getN_some hbt hg
        have hbr : Oct.IsB r0 := fun x hx => hbt x (by rw [ht]; exact List.mem_append_right _ hx)
        have hcl := Nu.cnt_le nl
        dsimp only
        by_cases hc : cnt nl = nl.length
        · rw [if_pos hc]
          have hck : checkE ⟨(nl.length : Int), (nl.length : Int), zeroC, zeroC⟩ k0 = 0 := by
            unfold checkE
            rw [if_neg (by omega), if_neg (by simp only; omega), if_neg (by rintro ⟨_, e | e⟩ <;> rw [Zn.eqC_self] at e <;> cases e), if_neg (by rintro ⟨e, _⟩; exact e (by simp only))]
          have h := getHead_none k0 t r0 nl nl.length hb hl (by omega) (by omega) hg rfl hc hck w
          show Calls _ _ _ _ (HeadYes w k0 nl nl.length ⟨(nl.length : Int), ((cnt nl : Nat) : Int), zeroC, zeroC⟩ r0)
          rw [hc]
          exact h
        · rw [if_neg hc]
          obtain ⟨M, hM⟩ : ∃ M, nl.length = cnt nl + M := ⟨nl.length - cnt nl, by omega⟩
          have h : Calls Tryz.prog 34 #[.string (strOfNums (k0 :: t))] w (HeadTwo w k0 nl nl.length (cnt nl) r0) := by
            rcases (by omega : k0 = 1 ∨ k0 = 2 ∨ k0 = 3) with e | e | e
            · exact getHead_two_I k0 t r0 nl nl.length (cnt nl) M hb hl e hg rfl rfl hM (by omega) w
            · exact getHead_two_B k0 t r0 nl nl.length (cnt nl) M hb hl e hg rfl rfl hM (by omega) w
            · exact getHead_two_T k0 t r0 nl nl.length (cnt nl) M hb hl e hg rfl rfl hM (by omega) w
          refine h.mono fun e w' hx => ?_
          have h2 := two_of (by omega) (by omega) (by omega) hbr hx
          cases ha : readCell k0 r0 with
          | none => rw [ha] at h2; exact h2
          | some p =>
            obtain ⟨a, r1⟩ := p
            rw [ha] at h2
            dsimp only at h2 ⊢
            cases hb2 : readCell k0 r1 with
            | none => rw [hb2] at h2; exact h2
            | some p =>
              obtain ⟨b, r2⟩ := p
              rw [hb2] at h2
              dsimp only at h2 ⊢
              by_cases hle : 0 < cmpC a b
              · rw [if_pos hle] at h2 ⊢; exact h2
              · rw [if_neg hle] at h2 ⊢; exact h2
end Go.Proofs.YtljanfnhmhimiaaGreat.Sg

namespace Go.Proofs.YtljanfnhmhimiaaGreat.Sg
open Go.RowKit Go.Joins Zn Zr Dv
open Is (IsI)
open In (getI)
open Tx (getT)
open Pk (getR)

theorem make_cells0 (S : Nat) (hS : S ≤ 1000000) (W : World) : (Instr.makeSlice 26 (.int .i64 0) (.int .i64 (S : Int))).run Tryz.prog W = .ok (.slice (some ⟨W.heap.size, 0, none⟩) 0 S) (W.alloc (.cells (roomC S) 24)) := by
  obtain ⟨i0, hi, hz0, hz1, hz2⟩ := infoC_parts
  have h := run_make (P := Tryz.prog) W 26 24 i0 (.agg #[.int .i64 0, .int .i64 0, .string ⟨#[]⟩]) Tryz.underlying26 hi hz0 .i64 .i64 0 (S : Int) (by omega) (by omega) (by rw [hz2]; omega) (by omega)
  rw [hz1, Int.toNat_natCast] at h
  exact h
/-- an answer without values -/
def NoX (w : World) (e : Ending) (w' : World) : Prop := Turn w w' nowhere ∧ ∃ er, er ≠ 0 ∧ e = .returned (.tuple #[.slice none 0 0, .int .i64 er])

/-- an answer with values -/
def YesI (w : World) (m : Nat) (L : List Int) (e : Ending) (w' : World) : Prop := Turn w w' nowhere ∧ ∃ a k, e = .returned (.tuple #[.slice a m k, .int .i64 0]) ∧ Is.Seg w' a m k L
set_option maxHeartbeats 1000000 in
theorem all_yes_I {bs : List Int} {L : List Int} {m : Nat} (hR : getI bs = (0, L)) (hm : L.length = m) (hb : Oct.IsB bs) (hn : bs.length ≤ 100000000) (cb : Nat) (a : Option Addr) (len c : Nat) (N : Int) (hN : (m : Int) = N) (w : World) (hs : Bs.Seg w a len c bs) (hB : BoxI w cb) :
    Calls Tryz.prog 140 #[.slice a len c, .int .i64 N, .pointer (some ⟨cb, 0, none⟩)] w (YesI w m L) := by
  have HG := Lib.hid (In.got_form hR hm hb hn a len c w hs)
  have hc := hB.cell
  subst hN
  clear hR hm hb hn hs hB
  go_enter Tryz.func140, Tryz.ntmps140
  go_wp2_with fail
  refine HG.out.mono ?_
  rintro e w1 ⟨a1, k1, rfl, hs1, ht1⟩
  have HF : Hid (YesI w m L (.returned (.tuple #[.slice a1 m k1, .int .i64 0])) w1) := Lib.hid ⟨ht1, _, _, rfl, hs1⟩
  clear hs1 ht1 hc
  dsimp only
  go_wp2
  go_ret2
  exact HF.out
set_option maxHeartbeats 1000000 in
theorem all_no_I {bs : List Int} {E : Int} {L : List Int} {m : Nat} (hR : getI bs = (E, L)) (hm : L.length = m) (hb : Oct.IsB bs) (hn : bs.length ≤ 100000000) (cb : Nat) (a : Option Addr) (len c : Nat) (N : Int) (hN : E ≠ 0 ∨ (m : Int) ≠ N) (w : World) (hs : Bs.Seg w a len c bs) (hB : BoxI w cb) :
    Calls Tryz.prog 140 #[.slice a len c, .int .i64 N, .pointer (some ⟨cb, 0, none⟩)] w (NoX w) := by
  have HG := Lib.hid (In.got_form hR hm hb hn a len c w hs)
  have hc := hB.cell
  clear hR hm hb hn hs hB
  by_cases hE : E = 0
  · have hq : ((m : Int) != N) = true := bne_iff_ne.2 (hN.resolve_left (fun h => h hE))
    subst hE
    clear hN
    go_enter Tryz.func140, Tryz.ntmps140
    go_wp2_with fail
    refine HG.out.mono ?_
    rintro e w1 ⟨a1, k1, rfl, hs1, ht1⟩
    have HF : Hid (NoX w (.returned (.tuple #[.slice none 0 0, .int .i64 4])) w1) := Lib.hid ⟨ht1, 4, by decide, rfl⟩
    clear hs1 ht1 hc
    dsimp only
    go_wp2
    go_ret2
    exact HF.out
  · have hq : (E != 0) = true := bne_iff_ne.2 hE
    clear hN hE
    go_enter Tryz.func140, Tryz.ntmps140
    go_wp2_with fail
    refine HG.out.mono ?_
    rintro e w1 ⟨a1, k1, rfl, hs1, ht1⟩
    have HF : Hid (NoX w (.returned (.tuple #[.slice none 0 0, .int .i64 4])) w1) := Lib.hid ⟨ht1, 4, by decide, rfl⟩
    clear hs1 ht1 hc
    dsimp only
    go_wp2
    go_ret2
    exact HF.out

/-- an answer with values -/
def YesT (w : World) (m : Nat) (L : List (List Int)) (e : Ending) (w' : World) : Prop := Turn w w' nowhere ∧ ∃ a k, e = .returned (.tuple #[.slice a m k, .int .i64 0]) ∧ Ss.Seg w' a m k L
set_option maxHeartbeats 1000000 in
theorem all_yes_T {bs : List Int} {L : List (List Int)} {m : Nat} (hR : Tx.resT (getT bs) = (0, L)) (hm : L.length = m) (hb : Oct.IsB bs) (hn : bs.length ≤ 100000000) (cb : Nat) (a : Option Addr) (len c : Nat) (N : Int) (hN : (m : Int) = N) (w : World) (hs : Bs.Seg w a len c bs) (hB : BoxT w cb) :
    Calls Tryz.prog 146 #[.slice a len c, .int .i64 N, .pointer (some ⟨cb, 0, none⟩)] w (YesT w m L) := by
  have HG := Lib.hid (Tx.got_form hR hm hb hn a len c w hs)
  have hc := hB.cell
  subst hN
  clear hR hm hb hn hs hB
  go_enter Tryz.func146, Tryz.ntmps146
  go_wp2_with fail
  refine HG.out.mono ?_
  rintro e w1 ⟨a1, k1, rfl, hs1, ht1⟩
  have HF : Hid (YesT w m L (.returned (.tuple #[.slice a1 m k1, .int .i64 0])) w1) := Lib.hid ⟨ht1, _, _, rfl, hs1⟩
  clear hs1 ht1 hc
  dsimp only
  go_wp2
  go_ret2
  exact HF.out
set_option maxHeartbeats 1000000 in
theorem all_no_T {bs : List Int} {E : Int} {L : List (List Int)} {m : Nat} (hR : Tx.resT (getT bs) = (E, L)) (hm : L.length = m) (hb : Oct.IsB bs) (hn : bs.length ≤ 100000000) (cb : Nat) (a : Option Addr) (len c : Nat) (N : Int) (hN : E ≠ 0 ∨ (m : Int) ≠ N) (w : World) (hs : Bs.Seg w a len c bs) (hB : BoxT w cb) :
    Calls Tryz.prog 146 #[.slice a len c, .int .i64 N, .pointer (some ⟨cb, 0, none⟩)] w (NoX w) := by
  have HG := Lib.hid (Tx.got_form hR hm hb hn a len c w hs)
  have hc := hB.cell
  clear hR hm hb hn hs hB
  by_cases hE : E = 0
  · have hq : ((m : Int) != N) = true := bne_iff_ne.2 (hN.resolve_left (fun h => h hE))
    subst hE
    clear hN
    go_enter Tryz.func146, Tryz.ntmps146
    go_wp2_with fail
    refine HG.out.mono ?_
    rintro e w1 ⟨a1, k1, rfl, hs1, ht1⟩
    have HF : Hid (NoX w (.returned (.tuple #[.slice none 0 0, .int .i64 4])) w1) := Lib.hid ⟨ht1, 4, by decide, rfl⟩
    clear hs1 ht1 hc
    dsimp only
    go_wp2
    go_ret2
    exact HF.out
  · have hq : (E != 0) = true := bne_iff_ne.2 hE
    clear hN hE
    go_enter Tryz.func146, Tryz.ntmps146
    go_wp2_with fail
    refine HG.out.mono ?_
    rintro e w1 ⟨a1, k1, rfl, hs1, ht1⟩
    have HF : Hid (NoX w (.returned (.tuple #[.slice none 0 0, .int .i64 4])) w1) := Lib.hid ⟨ht1, 4, by decide, rfl⟩
    clear hs1 ht1 hc
    dsimp only
    go_wp2
    go_ret2
    exact HF.out

def YesB (w : World) (m : Nat) (L : List Int) (e : Ending) (w' : World) : Prop := Turn w w' nowhere ∧ ∃ a k, e = .returned (.tuple #[.slice a m k, .int .i64 0]) ∧ Us.Seg w' a m k L
set_option maxHeartbeats 1000000 in
theorem all_B {bs : List Int} {E : Int} {L : List Int} {m : Nat} {N : Int} (hR : getR bs N 1 = (E, L)) (hm : L.length = m) (hb : Pk.Fit 8 bs) (a : Option Addr) (len c : Nat) (w : World) (hs : Bs.Seg w a len c bs) :
    Calls Tryz.prog 103 #[.slice a len c, .int .i64 N] w (Pk.GetF w m E L) := by
  have HG := Lib.hid (Pk.get_form hR hm hb a len c w hs)
  clear hR hm hb hs
  go_enter Tryz.func103, Tryz.ntmps103
  go_wp2_with fail
  refine HG.out.mono ?_
  rintro e w1 ⟨a1, k1, rfl, hs1, ht1⟩
  have HF : Hid (Pk.GetF w m E L (.returned (.tuple #[.slice a1 m k1, .int .i64 E])) w1) := Lib.hid ⟨_, _, rfl, hs1, ht1⟩
  clear hs1 ht1
  dsimp only
  go_wp2
  go_ret2
  exact HF.out

/-- an answer with an error, and whatever values -/
def NoY (w : World) (e : Ending) (w' : World) : Prop := Turn w w' nowhere ∧ ∃ (er : Int) (a : Option Addr) (m k : Nat), er ≠ 0 ∧ e = .returned (.tuple #[.slice a m k, .int .i64 er])
theorem noy_of {w w' : World} {e : Ending} (h : NoX w e w') : NoY w e w' := by
  obtain ⟨h1, er, h2, h3⟩ := h
  exact ⟨h1, er, none, 0, 0, h2, h3⟩
/-- an answer with cells -/
def GotC (w : World) (m : Nat) (l : List Cel) (e : Ending) (w' : World) : Prop := Turn w w' nowhere ∧ ∃ a k, e = .returned (.tuple #[.slice a m k, .int .i64 0]) ∧ CSeg w' a m k l ∧ (∀ ad, a = some ad → w.heap.size ≤ ad.block)

set_option maxRecDepth 100000 in
set_option maxHeartbeats 2000000 in
theorem getCells_no_I (cb : Nat) (a : Option Addr) (len c : Nat) (N : Int) (w : World) (H : Calls Tryz.prog 140 #[.slice a len c, .int .i64 N, .pointer (some ⟨cb, 0, none⟩)] (w.alloc (.cells #[.func (.func 89) #[] #[], .func (.func 90) #[] #[], .func (.func 91) #[] #[], .func (.func 93) #[] #[], .func (.func 95) #[] #[], .func (.func 140) #[] #[.pointer (some ⟨cb, 0, none⟩)]] 99)) (NoY (w.alloc (.cells #[.func (.func 89) #[] #[], .func (.func 90) #[] #[], .func (.func 91) #[] #[], .func (.func 93) #[] #[], .func (.func 95) #[] #[], .func (.func 140) #[] #[.pointer (some ⟨cb, 0, none⟩)]] 99)))) :
    Calls Tryz.prog 236 #[.agg #[.func (.func 89) #[] #[], .func (.func 90) #[] #[], .func (.func 91) #[] #[], .func (.func 93) #[] #[], .func (.func 95) #[] #[], .func (.func 140) #[] #[.pointer (some ⟨cb, 0, none⟩)]], .slice a len c, .int .i64 N] w (NoX w) := by
  have HX := Lib.hid H
  clear H
  go_enter Tryz.func236, Tryz.ntmps236
  go_wp2_with fail
  refine HX.out.mono ?_
  rintro e w1 ⟨ht1, er, a1, m1, k1, her, rfl⟩
  have hq : (er != 0) = true := bne_iff_ne.2 her
  have HF : Hid (NoX w (.returned (.tuple #[.slice none 0 0, .int .i64 er])) w1) := Lib.hid ⟨(Turn.alloc w _ nowhere).trans ht1 (fun _ _ h => h), er, her, rfl⟩
  clear ht1 her
  dsimp only
  go_wp2
  go_ret2
  exact HF.out

set_option maxRecDepth 100000 in
set_option maxHeartbeats 4000000 in
theorem getCells_yes_I (cb : Nat) (a : Option Addr) (len c m : Nat) (N : Int) (L : List Int) (hm : L.length = m) (hm2 : m ≤ 65536) (w : World) (H : Calls Tryz.prog 140 #[.slice a len c, .int .i64 N, .pointer (some ⟨cb, 0, none⟩)] (w.alloc (.cells #[.func (.func 89) #[] #[], .func (.func 90) #[] #[], .func (.func 91) #[] #[], .func (.func 93) #[] #[], .func (.func 95) #[] #[], .func (.func 140) #[] #[.pointer (some ⟨cb, 0, none⟩)]] 99)) (YesI (w.alloc (.cells #[.func (.func 89) #[] #[], .func (.func 90) #[] #[], .func (.func 91) #[] #[], .func (.func 93) #[] #[], .func (.func 95) #[] #[], .func (.func 140) #[] #[.pointer (some ⟨cb, 0, none⟩)]] 99)) m L)) :
    Calls Tryz.prog 236 #[.agg #[.func (.func 89) #[] #[], .func (.func 90) #[] #[], .func (.func 91) #[] #[], .func (.func 93) #[] #[], .func (.func 95) #[] #[], .func (.func 140) #[] #[.pointer (some ⟨cb, 0, none⟩)]], .slice a len c, .int .i64 N] w (GotC w m (L.map fun x => (⟨1, x, ⟨#[]⟩⟩ : Cel))) := by
  obtain ⟨i0, ii, iz0, iz1, iz2⟩ := infoC_parts
  have HX := Lib.hid H
  have HM := Lib.hid hm
  have hmk := make_cells0 m (by omega)
  have hcod := heap_alloc_new w (.cells #[.func (.func 89) #[] #[], .func (.func 90) #[] #[], .func (.func 91) #[] #[], .func (.func 93) #[] #[], .func (.func 95) #[] #[], .func (.func 140) #[] #[.pointer (some ⟨cb, 0, none⟩)]] 99)
  have HC0 := Lib.hid hcod
  skip
  clear H hm hcod
  go_enter Tryz.func236, Tryz.ntmps236
  go_wp2_with fail
  refine HX.out.mono ?_
  rintro e w1 ⟨ht1, av, kv, rfl, hs1⟩
  have C1 : Hid (w1.heap[w.heap.size]? = some (.cells #[.func (.func 89) #[] #[], .func (.func 90) #[] #[], .func (.func 91) #[] #[], .func (.func 93) #[] #[], .func (.func 95) #[] #[], .func (.func 140) #[] #[.pointer (some ⟨cb, 0, none⟩)]] 99 (0, 0))) := Lib.hid (block_old HC0.out ht1.grown)
  have T1 := Lib.hid ((Turn.alloc w (.cells #[.func (.func 89) #[] #[], .func (.func 90) #[] #[], .func (.func 91) #[] #[], .func (.func 93) #[] #[], .func (.func 95) #[] #[], .func (.func 140) #[] #[.pointer (some ⟨cb, 0, none⟩)]] 99) nowhere).trans ht1 (fun _ _ h => h))
  have S1 := Lib.hid hs1
  clear ht1 hs1 HX HC0
  dsimp only
  have hmade := World.ownsRow_made (base := w1.heap.size) (e := 24) (size := 3) w1 (roomC m) m (Nat.le_refl _) (by unfold maxLen; omega) (roomC_size m)
  have R2 := Lib.hid hmade
  clear hmade
  go_wp2
  clear hmk
  go_loopw [10, 29] (fun vv iv wx => ∃ (k gv cv : Nat), iv = .int .i64 k ∧ k ≤ m ∧ vv = .slice (some ⟨gv, 0, none⟩) k cv ∧ wx.ownsRow w1.heap.size 24 3 (.slice (some ⟨gv, 0, none⟩) k cv) k (flatC ((L.take k).map fun x => (⟨1, x, ⟨#[]⟩⟩ : Cel))) ∧ Turn w1 wx nowhere) (fun _ iv _ => m - (intOf iv).toNat)
  case atStart => exact ⟨0, _, _, rfl, Nat.zero_le _, rfl, R2.out, Turn.alloc _ _ _⟩
  case round =>
    obtain ⟨k, gv, cv, rfl, hk, rfl, r1, ht⟩ := hrel
    have HT := Lib.hid ht
    have R1 := Lib.hid r1
    have hsv := S1.out.grown ht.grown
    have HC := Lib.hid (block_old C1.out ht.grown)
    have hgs := ht.size
    clear r1 ht R2
    by_cases hlt : k < m
    · obtain ⟨gA, oA, rfl, hcx⟩ := hsv.addr (by omega)
      have g1 := hcx k hlt
      obtain ⟨x, hx⟩ : ∃ x, L.getD k 0 = x := ⟨_, rfl⟩
      rw [hx] at g1
      have M1 : Hid ((L.take (k + 1)).map (fun x => (⟨1, x, ⟨#[]⟩⟩ : Cel)) = (L.take k).map (fun x => (⟨1, x, ⟨#[]⟩⟩ : Cel)) ++ [⟨1, x, ⟨#[]⟩⟩]) := Lib.hid (by
        rw [List.take_succ_eq_append_getElem (by rw [HM.out]; exact hlt), List.map_append, ← hx]
        simp [List.getD, HM.out, hlt])
      skip
      skip
      skip
      have HCC := Lib.hid (fun W => cell_I x W)
      have f1 : wr.cell? ⟨w.heap.size, 1, none⟩ = some (.func (.func 90) #[] #[]) := by rw [cell_of_row _ _ _ _ _ _ HC.out]; rfl
      have hlt2 : (k : Int) < (m : Int) := by omega
      clear hcx hx hsv 
      go_wp2_with fail
      refine (HCC.out _).mono ?_
      rintro e wv ⟨rfl, hgv⟩
      have RV := Lib.hid (own_grow R1.out hgv)
      have TV := Lib.hid (HT.out.trans (Pk.turn_of hgv) (fun _ _ h => h))
      have hvs := TV.out.size
      clear hgv HT R1 HC f1 g1 HCC
      dsimp only
      go_wp2_with (at_builtin; refine wpList_append_own _ rfl _ _ 26 rfl w1.heap.size 24 i0 (.agg #[.int .i64 0, .int .i64 0, .string ⟨#[]⟩]) 3 32 Tryz.underlying26 ii iz0 iz1 iz2 rfl (by decide) _ k _ rfl (RV.out.alloc _) ⟨wv.heap.size, 0, none⟩ 1 1 (flatC [⟨1, x, ⟨#[]⟩⟩]) rfl rfl (cell_lit wv ⟨1, x, ⟨#[]⟩⟩) (by intro u hu; simp [flatC] at hu; rcases hu with rfl | rfl | rfl <;> rfl) (by unfold maxLen; omega) (by omega) (by simp; omega) ?_; intro V4 w4 hown4 hg4 hnil4)
      obtain ⟨g4, c4, rfl⟩ : ∃ g c, V4 = .slice (some ⟨g, 0, none⟩) (k + 1) c := by
        rcases hown4.2 with ⟨rfl, h0⟩ | ⟨g, cap, cur, hv, _⟩
        · omega
        · exact ⟨g, cap, hv⟩
      have R4 : Hid (w4.ownsRow w1.heap.size 24 3 (.slice (some ⟨g4, 0, none⟩) (k + 1) c4) (k + 1) (flatC ((L.take (k + 1)).map fun x => (⟨1, x, ⟨#[]⟩⟩ : Cel)))) := Lib.hid (by rw [M1.out, flatC_app]; exact hown4)
      have T4 := Lib.hid (Pk.turn_of (Bs.grownBy_trans (grown_then TV.out.grown (grown_alloc _ _)) hg4 (fun i e => (RV.out.lt i e).1)))
      clear hown4 hg4 hnil4 RV M1 TV
      go_wp2
      go_roundw
      case rel => exact ⟨k + 1, _, _, by go_num, by omega, by go_num, R4.out, T4.out⟩
      case measure => simp [intOf]; omega
    · obtain rfl : k = m := by omega
      have hT : L.take k = L := List.take_of_length_le (by rw [HM.out]; exact Nat.le_refl _)
      rw [hT] at R1
      have HF : Hid (GotC w k (L.map fun x => (⟨1, x, ⟨#[]⟩⟩ : Cel)) (.returned (.tuple #[.slice (some ⟨gv, 0, none⟩) k cv, .int .i64 0])) wr) := Lib.hid ⟨T1.out.trans HT.out (fun _ _ h => h), _, _, rfl, CSeg.own R1.out, fun ad e => by cases e; exact Nat.le_trans T1.out.size (R1.out.lt _ rfl).1⟩
      clear hT hlt R1 HC hsv
      go_wp2
      go_ret2
      exact HF.out

set_option maxRecDepth 100000 in
set_option maxHeartbeats 2000000 in
theorem getCells_no_B (a : Option Addr) (len c : Nat) (N : Int) (w : World) (H : Calls Tryz.prog 103 #[.slice a len c, .int .i64 N] (w.alloc (.cells #[.func (.func 98) #[] #[], .func (.func 99) #[] #[], .func (.func 100) #[] #[], .func (.func 101) #[] #[], .func (.func 102) #[] #[], .func (.func 103) #[] #[]] 108)) (NoY (w.alloc (.cells #[.func (.func 98) #[] #[], .func (.func 99) #[] #[], .func (.func 100) #[] #[], .func (.func 101) #[] #[], .func (.func 102) #[] #[], .func (.func 103) #[] #[]] 108)))) :
    Calls Tryz.prog 240 #[.agg #[.func (.func 98) #[] #[], .func (.func 99) #[] #[], .func (.func 100) #[] #[], .func (.func 101) #[] #[], .func (.func 102) #[] #[], .func (.func 103) #[] #[]], .slice a len c, .int .i64 N] w (NoX w) := by
  have HX := Lib.hid H
  clear H
  go_enter Tryz.func240, Tryz.ntmps240
  go_wp2_with fail
  refine HX.out.mono ?_
  rintro e w1 ⟨ht1, er, a1, m1, k1, her, rfl⟩
  have hq : (er != 0) = true := bne_iff_ne.2 her
  have HF : Hid (NoX w (.returned (.tuple #[.slice none 0 0, .int .i64 er])) w1) := Lib.hid ⟨(Turn.alloc w _ nowhere).trans ht1 (fun _ _ h => h), er, her, rfl⟩
  clear ht1 her
  dsimp only
  go_wp2
  go_ret2
  exact HF.out

set_option maxRecDepth 100000 in
set_option maxHeartbeats 4000000 in
theorem getCells_yes_B (a : Option Addr) (len c m : Nat) (N : Int) (L : List Int) (hL : ∀ x ∈ L, 0 ≤ x ∧ x < 2) (hm : L.length = m) (hm2 : m ≤ 65536) (w : World) (H : Calls Tryz.prog 103 #[.slice a len c, .int .i64 N] (w.alloc (.cells #[.func (.func 98) #[] #[], .func (.func 99) #[] #[], .func (.func 100) #[] #[], .func (.func 101) #[] #[], .func (.func 102) #[] #[], .func (.func 103) #[] #[]] 108)) (YesB (w.alloc (.cells #[.func (.func 98) #[] #[], .func (.func 99) #[] #[], .func (.func 100) #[] #[], .func (.func 101) #[] #[], .func (.func 102) #[] #[], .func (.func 103) #[] #[]] 108)) m L)) :
    Calls Tryz.prog 240 #[.agg #[.func (.func 98) #[] #[], .func (.func 99) #[] #[], .func (.func 100) #[] #[], .func (.func 101) #[] #[], .func (.func 102) #[] #[], .func (.func 103) #[] #[]], .slice a len c, .int .i64 N] w (GotC w m (L.map fun x => (⟨2, x, ⟨#[]⟩⟩ : Cel))) := by
  obtain ⟨i0, ii, iz0, iz1, iz2⟩ := infoC_parts
  have HX := Lib.hid H
  have HM := Lib.hid hm
  have hmk := make_cells0 m (by omega)
  have hcod := heap_alloc_new w (.cells #[.func (.func 98) #[] #[], .func (.func 99) #[] #[], .func (.func 100) #[] #[], .func (.func 101) #[] #[], .func (.func 102) #[] #[], .func (.func 103) #[] #[]] 108)
  have HC0 := Lib.hid hcod
  have HLB := Lib.hid hL
  clear H hm hcod
  go_enter Tryz.func240, Tryz.ntmps240
  go_wp2_with fail
  refine HX.out.mono ?_
  rintro e w1 ⟨ht1, av, kv, rfl, hs1⟩
  have C1 : Hid (w1.heap[w.heap.size]? = some (.cells #[.func (.func 98) #[] #[], .func (.func 99) #[] #[], .func (.func 100) #[] #[], .func (.func 101) #[] #[], .func (.func 102) #[] #[], .func (.func 103) #[] #[]] 108 (0, 0))) := Lib.hid (block_old HC0.out ht1.grown)
  have T1 := Lib.hid ((Turn.alloc w (.cells #[.func (.func 98) #[] #[], .func (.func 99) #[] #[], .func (.func 100) #[] #[], .func (.func 101) #[] #[], .func (.func 102) #[] #[], .func (.func 103) #[] #[]] 108) nowhere).trans ht1 (fun _ _ h => h))
  have S1 := Lib.hid hs1
  clear ht1 hs1 HX HC0
  dsimp only
  have hmade := World.ownsRow_made (base := w1.heap.size) (e := 24) (size := 3) w1 (roomC m) m (Nat.le_refl _) (by unfold maxLen; omega) (roomC_size m)
  have R2 := Lib.hid hmade
  clear hmade
  go_wp2
  clear hmk
  go_loopw [10, 29] (fun vv iv wx => ∃ (k gv cv : Nat), iv = .int .i64 k ∧ k ≤ m ∧ vv = .slice (some ⟨gv, 0, none⟩) k cv ∧ wx.ownsRow w1.heap.size 24 3 (.slice (some ⟨gv, 0, none⟩) k cv) k (flatC ((L.take k).map fun x => (⟨2, x, ⟨#[]⟩⟩ : Cel))) ∧ Turn w1 wx nowhere) (fun _ iv _ => m - (intOf iv).toNat)
  case atStart => exact ⟨0, _, _, rfl, Nat.zero_le _, rfl, R2.out, Turn.alloc _ _ _⟩
  case round =>
    obtain ⟨k, gv, cv, rfl, hk, rfl, r1, ht⟩ := hrel
    have HT := Lib.hid ht
    have R1 := Lib.hid r1
    have hsv := S1.out.grown ht.grown
    have HC := Lib.hid (block_old C1.out ht.grown)
    have hgs := ht.size
    clear r1 ht R2
    by_cases hlt : k < m
    · obtain ⟨gA, oA, rfl, hcx⟩ := hsv.addr (by omega)
      have g1 := hcx k hlt
      obtain ⟨x, hx⟩ : ∃ x, L.getD k 0 = x := ⟨_, rfl⟩
      rw [hx] at g1
      have M1 : Hid ((L.take (k + 1)).map (fun x => (⟨2, x, ⟨#[]⟩⟩ : Cel)) = (L.take k).map (fun x => (⟨2, x, ⟨#[]⟩⟩ : Cel)) ++ [⟨2, x, ⟨#[]⟩⟩]) := Lib.hid (by
        rw [List.take_succ_eq_append_getElem (by rw [HM.out]; exact hlt), List.map_append, ← hx]
        simp [List.getD, HM.out, hlt])
      have hxm : x ∈ L := by rw [← hx, List.getD_eq_getElem?_getD, List.getElem?_eq_getElem (by rw [HM.out]; exact hlt)]; exact List.getElem_mem _
      have hx0 := (HLB.out x hxm).1
      have hx1 : x < 9223372036854775808 := by have := (HLB.out x hxm).2; omega
      have HCC := Lib.hid (fun W => cell_B x hx0 hx1 W)
      have f1 : wr.cell? ⟨w.heap.size, 1, none⟩ = some (.func (.func 99) #[] #[]) := by rw [cell_of_row _ _ _ _ _ _ HC.out]; rfl
      have hlt2 : (k : Int) < (m : Int) := by omega
      clear hcx hx hsv hxm
      go_wp2_with fail
      refine (HCC.out _).mono ?_
      rintro e wv ⟨rfl, hgv⟩
      have RV := Lib.hid (own_grow R1.out hgv)
      have TV := Lib.hid (HT.out.trans (Pk.turn_of hgv) (fun _ _ h => h))
      have hvs := TV.out.size
      clear hgv HT R1 HC f1 g1 HCC
      dsimp only
      go_wp2_with (at_builtin; refine wpList_append_own _ rfl _ _ 26 rfl w1.heap.size 24 i0 (.agg #[.int .i64 0, .int .i64 0, .string ⟨#[]⟩]) 3 32 Tryz.underlying26 ii iz0 iz1 iz2 rfl (by decide) _ k _ rfl (RV.out.alloc _) ⟨wv.heap.size, 0, none⟩ 1 1 (flatC [⟨2, x, ⟨#[]⟩⟩]) rfl rfl (cell_lit wv ⟨2, x, ⟨#[]⟩⟩) (by intro u hu; simp [flatC] at hu; rcases hu with rfl | rfl | rfl <;> rfl) (by unfold maxLen; omega) (by omega) (by simp; omega) ?_; intro V4 w4 hown4 hg4 hnil4)
      obtain ⟨g4, c4, rfl⟩ : ∃ g c, V4 = .slice (some ⟨g, 0, none⟩) (k + 1) c := by
        rcases hown4.2 with ⟨rfl, h0⟩ | ⟨g, cap, cur, hv, _⟩
        · omega
        · exact ⟨g, cap, hv⟩
      have R4 : Hid (w4.ownsRow w1.heap.size 24 3 (.slice (some ⟨g4, 0, none⟩) (k + 1) c4) (k + 1) (flatC ((L.take (k + 1)).map fun x => (⟨2, x, ⟨#[]⟩⟩ : Cel)))) := Lib.hid (by rw [M1.out, flatC_app]; exact hown4)
      have T4 := Lib.hid (Pk.turn_of (Bs.grownBy_trans (grown_then TV.out.grown (grown_alloc _ _)) hg4 (fun i e => (RV.out.lt i e).1)))
      clear hown4 hg4 hnil4 RV M1 TV
      go_wp2
      go_roundw
      case rel => exact ⟨k + 1, _, _, by go_num, by omega, by go_num, R4.out, T4.out⟩
      case measure => simp [intOf]; omega
    · obtain rfl : k = m := by omega
      have hT : L.take k = L := List.take_of_length_le (by rw [HM.out]; exact Nat.le_refl _)
      rw [hT] at R1
      have HF : Hid (GotC w k (L.map fun x => (⟨2, x, ⟨#[]⟩⟩ : Cel)) (.returned (.tuple #[.slice (some ⟨gv, 0, none⟩) k cv, .int .i64 0])) wr) := Lib.hid ⟨T1.out.trans HT.out (fun _ _ h => h), _, _, rfl, CSeg.own R1.out, fun ad e => by cases e; exact Nat.le_trans T1.out.size (R1.out.lt _ rfl).1⟩
      clear hT hlt R1 HC hsv
      go_wp2
      go_ret2
      exact HF.out

set_option maxRecDepth 100000 in
set_option maxHeartbeats 2000000 in
theorem getCells_no_T (cb : Nat) (a : Option Addr) (len c : Nat) (N : Int) (w : World) (H : Calls Tryz.prog 146 #[.slice a len c, .int .i64 N, .pointer (some ⟨cb, 0, none⟩)] (w.alloc (.cells #[.func (.func 105) #[] #[], .func (.func 106) #[] #[], .func (.func 107) #[] #[], .func (.func 108) #[] #[], .func (.func 109) #[] #[], .func (.func 146) #[] #[.pointer (some ⟨cb, 0, none⟩)]] 117)) (NoY (w.alloc (.cells #[.func (.func 105) #[] #[], .func (.func 106) #[] #[], .func (.func 107) #[] #[], .func (.func 108) #[] #[], .func (.func 109) #[] #[], .func (.func 146) #[] #[.pointer (some ⟨cb, 0, none⟩)]] 117)))) :
    Calls Tryz.prog 244 #[.agg #[.func (.func 105) #[] #[], .func (.func 106) #[] #[], .func (.func 107) #[] #[], .func (.func 108) #[] #[], .func (.func 109) #[] #[], .func (.func 146) #[] #[.pointer (some ⟨cb, 0, none⟩)]], .slice a len c, .int .i64 N] w (NoX w) := by
  have HX := Lib.hid H
  clear H
  go_enter Tryz.func244, Tryz.ntmps244
  go_wp2_with fail
  refine HX.out.mono ?_
  rintro e w1 ⟨ht1, er, a1, m1, k1, her, rfl⟩
  have hq : (er != 0) = true := bne_iff_ne.2 her
  have HF : Hid (NoX w (.returned (.tuple #[.slice none 0 0, .int .i64 er])) w1) := Lib.hid ⟨(Turn.alloc w _ nowhere).trans ht1 (fun _ _ h => h), er, her, rfl⟩
  clear ht1 her
  dsimp only
  go_wp2
  go_ret2
  exact HF.out

set_option maxRecDepth 100000 in
set_option maxHeartbeats 4000000 in
theorem getCells_yes_T (cb : Nat) (a : Option Addr) (len c m : Nat) (N : Int) (L : List (List Int)) (hm : L.length = m) (hm2 : m ≤ 65536) (w : World) (H : Calls Tryz.prog 146 #[.slice a len c, .int .i64 N, .pointer (some ⟨cb, 0, none⟩)] (w.alloc (.cells #[.func (.func 105) #[] #[], .func (.func 106) #[] #[], .func (.func 107) #[] #[], .func (.func 108) #[] #[], .func (.func 109) #[] #[], .func (.func 146) #[] #[.pointer (some ⟨cb, 0, none⟩)]] 117)) (YesT (w.alloc (.cells #[.func (.func 105) #[] #[], .func (.func 106) #[] #[], .func (.func 107) #[] #[], .func (.func 108) #[] #[], .func (.func 109) #[] #[], .func (.func 146) #[] #[.pointer (some ⟨cb, 0, none⟩)]] 117)) m L)) :
    Calls Tryz.prog 244 #[.agg #[.func (.func 105) #[] #[], .func (.func 106) #[] #[], .func (.func 107) #[] #[], .func (.func 108) #[] #[], .func (.func 109) #[] #[], .func (.func 146) #[] #[.pointer (some ⟨cb, 0, none⟩)]], .slice a len c, .int .i64 N] w (GotC w m (L.map fun x => (⟨3, 0, strOfNums x⟩ : Cel))) := by
  obtain ⟨i0, ii, iz0, iz1, iz2⟩ := infoC_parts
  have HX := Lib.hid H
  have HM := Lib.hid hm
  have hmk := make_cells0 m (by omega)
  have hcod := heap_alloc_new w (.cells #[.func (.func 105) #[] #[], .func (.func 106) #[] #[], .func (.func 107) #[] #[], .func (.func 108) #[] #[], .func (.func 109) #[] #[], .func (.func 146) #[] #[.pointer (some ⟨cb, 0, none⟩)]] 117)
  have HC0 := Lib.hid hcod
  skip
  clear H hm hcod
  go_enter Tryz.func244, Tryz.ntmps244
  go_wp2_with fail
  refine HX.out.mono ?_
  rintro e w1 ⟨ht1, av, kv, rfl, hs1⟩
  have C1 : Hid (w1.heap[w.heap.size]? = some (.cells #[.func (.func 105) #[] #[], .func (.func 106) #[] #[], .func (.func 107) #[] #[], .func (.func 108) #[] #[], .func (.func 109) #[] #[], .func (.func 146) #[] #[.pointer (some ⟨cb, 0, none⟩)]] 117 (0, 0))) := Lib.hid (block_old HC0.out ht1.grown)
  have T1 := Lib.hid ((Turn.alloc w (.cells #[.func (.func 105) #[] #[], .func (.func 106) #[] #[], .func (.func 107) #[] #[], .func (.func 108) #[] #[], .func (.func 109) #[] #[], .func (.func 146) #[] #[.pointer (some ⟨cb, 0, none⟩)]] 117) nowhere).trans ht1 (fun _ _ h => h))
  have S1 := Lib.hid hs1
  clear ht1 hs1 HX HC0
  dsimp only
  have hmade := World.ownsRow_made (base := w1.heap.size) (e := 24) (size := 3) w1 (roomC m) m (Nat.le_refl _) (by unfold maxLen; omega) (roomC_size m)
  have R2 := Lib.hid hmade
  clear hmade
  go_wp2
  clear hmk
  go_loopw [10, 29] (fun vv iv wx => ∃ (k gv cv : Nat), iv = .int .i64 k ∧ k ≤ m ∧ vv = .slice (some ⟨gv, 0, none⟩) k cv ∧ wx.ownsRow w1.heap.size 24 3 (.slice (some ⟨gv, 0, none⟩) k cv) k (flatC ((L.take k).map fun x => (⟨3, 0, strOfNums x⟩ : Cel))) ∧ Turn w1 wx nowhere) (fun _ iv _ => m - (intOf iv).toNat)
  case atStart => exact ⟨0, _, _, rfl, Nat.zero_le _, rfl, R2.out, Turn.alloc _ _ _⟩
  case round =>
    obtain ⟨k, gv, cv, rfl, hk, rfl, r1, ht⟩ := hrel
    have HT := Lib.hid ht
    have R1 := Lib.hid r1
    have hsv := S1.out.grown ht.grown
    have HC := Lib.hid (block_old C1.out ht.grown)
    have hgs := ht.size
    clear r1 ht R2
    by_cases hlt : k < m
    · obtain ⟨gA, oA, rfl, hcx⟩ := hsv.addr (by omega)
      have g1 := hcx k hlt
      obtain ⟨x, hx⟩ : ∃ x, L.getD k [] = x := ⟨_, rfl⟩
      rw [hx] at g1
      have M1 : Hid ((L.take (k + 1)).map (fun x => (⟨3, 0, strOfNums x⟩ : Cel)) = (L.take k).map (fun x => (⟨3, 0, strOfNums x⟩ : Cel)) ++ [⟨3, 0, strOfNums x⟩]) := Lib.hid (by
        rw [List.take_succ_eq_append_getElem (by rw [HM.out]; exact hlt), List.map_append, ← hx]
        simp [List.getD, HM.out, hlt])
      skip
      skip
      skip
      have HCC := Lib.hid (fun W => cell_T (strOfNums x) W)
      have f1 : wr.cell? ⟨w.heap.size, 1, none⟩ = some (.func (.func 106) #[] #[]) := by rw [cell_of_row _ _ _ _ _ _ HC.out]; rfl
      have hlt2 : (k : Int) < (m : Int) := by omega
      clear hcx hx hsv 
      go_wp2_with fail
      refine (HCC.out _).mono ?_
      rintro e wv ⟨rfl, hgv⟩
      have RV := Lib.hid (own_grow R1.out hgv)
      have TV := Lib.hid (HT.out.trans (Pk.turn_of hgv) (fun _ _ h => h))
      have hvs := TV.out.size
      clear hgv HT R1 HC f1 g1 HCC
      dsimp only
      go_wp2_with (at_builtin; refine wpList_append_own _ rfl _ _ 26 rfl w1.heap.size 24 i0 (.agg #[.int .i64 0, .int .i64 0, .string ⟨#[]⟩]) 3 32 Tryz.underlying26 ii iz0 iz1 iz2 rfl (by decide) _ k _ rfl (RV.out.alloc _) ⟨wv.heap.size, 0, none⟩ 1 1 (flatC [⟨3, 0, strOfNums x⟩]) rfl rfl (cell_lit wv ⟨3, 0, strOfNums x⟩) (by intro u hu; simp [flatC] at hu; rcases hu with rfl | rfl | rfl <;> rfl) (by unfold maxLen; omega) (by omega) (by simp; omega) ?_; intro V4 w4 hown4 hg4 hnil4)
      obtain ⟨g4, c4, rfl⟩ : ∃ g c, V4 = .slice (some ⟨g, 0, none⟩) (k + 1) c := by
        rcases hown4.2 with ⟨rfl, h0⟩ | ⟨g, cap, cur, hv, _⟩
        · omega
        · exact ⟨g, cap, hv⟩
      have R4 : Hid (w4.ownsRow w1.heap.size 24 3 (.slice (some ⟨g4, 0, none⟩) (k + 1) c4) (k + 1) (flatC ((L.take (k + 1)).map fun x => (⟨3, 0, strOfNums x⟩ : Cel)))) := Lib.hid (by rw [M1.out, flatC_app]; exact hown4)
      have T4 := Lib.hid (Pk.turn_of (Bs.grownBy_trans (grown_then TV.out.grown (grown_alloc _ _)) hg4 (fun i e => (RV.out.lt i e).1)))
      clear hown4 hg4 hnil4 RV M1 TV
      go_wp2
      go_roundw
      case rel => exact ⟨k + 1, _, _, by go_num, by omega, by go_num, R4.out, T4.out⟩
      case measure => simp [intOf]; omega
    · obtain rfl : k = m := by omega
      have hT : L.take k = L := List.take_of_length_le (by rw [HM.out]; exact Nat.le_refl _)
      rw [hT] at R1
      have HF : Hid (GotC w k (L.map fun x => (⟨3, 0, strOfNums x⟩ : Cel)) (.returned (.tuple #[.slice (some ⟨gv, 0, none⟩) k cv, .int .i64 0])) wr) := Lib.hid ⟨T1.out.trans HT.out (fun _ _ h => h), _, _, rfl, CSeg.own R1.out, fun ad e => by cases e; exact Nat.le_trans T1.out.size (R1.out.lt _ rfl).1⟩
      clear hT hlt R1 HC hsv
      go_wp2
      go_ret2
      exact HF.out
end Go.Proofs.YtljanfnhmhimiaaGreat.Sg

namespace Go.Proofs.YtljanfnhmhimiaaGreat.Sg
open Go.RowKit Go.Joins Zn Zr Dv

theorem head_zone {s : List Int} {w w' : World} {e : Ending} (h : HeadX w (headS s) e w') : ∃ (q : Hd) (p : Value) (E : Int), e = .returned (.tuple #[.agg #[.int .i64 q.kind, .slice q.a q.n q.c, .int .i64 q.z.cnt, .int .i64 q.z.nul, .int .i64 q.z.min.k, .int .i64 q.z.min.n, .string q.z.min.s, .int .i64 q.z.max.k, .int .i64 q.z.max.n, .string q.z.max.s], p, .int .i64 E]) ∧ Turn w w' nowhere ∧ zoneS s = (q.kind, q.z, E) := by
  unfold zoneS
  cases hh : headS s with
  | none =>
    rw [hh] at h
    obtain ⟨rfl, ht⟩ := h
    exact ⟨zeroH, _, _, rfl, ht, rfl⟩
  | some p =>
    obtain ⟨k, nl, z, r⟩ := p
    rw [hh] at h
    obtain ⟨a, c, b, g, rfl, _, _, _, _, _, _, _, ht⟩ := h
    exact ⟨⟨k, a, nl.length, c, z⟩, _, _, rfl, ht, rfl⟩

set_option maxRecDepth 100000 in
set_option maxHeartbeats 4000000 in
theorem Zone_any : ZoneC := by
  intro s w hb hl
  have hh0 := fun W => (getHead_any s hb hl W).mono fun e w' h => head_zone h
  obtain ⟨K, Z, E, hz⟩ : ∃ K Z E, zoneS s = (K, Z, E) := ⟨_, _, _, rfl⟩
  rw [hz] at hh0 ⊢
  have HH := Lib.hid hh0
  clear hh0 hz
  dsimp only
  obtain ⟨S, hS⟩ : ∃ S, strOfNums s = S := ⟨_, rfl⟩
  rw [hS] at HH ⊢
  have hz0 := Lib.hid (ZB.new w zeroZ)
  have HT0 := Lib.hid (Turn.alloc w (.cells #[.int .i64 zeroZ.cnt, .int .i64 zeroZ.nul, .int .i64 zeroZ.min.k, .int .i64 zeroZ.min.n, .string zeroZ.min.s, .int .i64 zeroZ.max.k, .int .i64 zeroZ.max.n, .string zeroZ.max.s] 33) nowhere)
  clear hS hb hl
  go_enter Tryz.func13, Tryz.ntmps13
  go_wp2_with fail
  refine (HH.out _).mono ?_
  rintro e w1 ⟨q, p, E1, rfl, ht1, hzs⟩
  obtain ⟨rfl, h2⟩ := Prod.mk.inj hzs
  obtain ⟨rfl, rfl⟩ := Prod.mk.inj h2
  clear h2
  have T1 := Lib.hid (HT0.out.trans ht1 (fun _ _ h => h))
  have Z1 := Lib.hid (hz0.out.old ht1.grown)
  clear hzs ht1 hz0 HT0 HH
  dsimp only
  go_upto_region 2 with (fail)
  obtain ⟨W2, hW2⟩ : ∃ V, w1.alloc (.cells #[.int .i64 q.kind, .slice q.a q.n q.c, .int .i64 q.z.cnt, .int .i64 q.z.nul, .int .i64 q.z.min.k, .int .i64 q.z.min.n, .string q.z.min.s, .int .i64 q.z.max.k, .int .i64 q.z.max.n, .string q.z.max.s] 69) = V := ⟨_, rfl⟩
  obtain ⟨g, hg⟩ : ∃ g, g = w1.heap.size := ⟨_, rfl⟩
  rw [hW2, ← hg]
  have H2 : Hid (HB W2 g q) := Lib.hid (by rw [← hW2, hg]; exact heap_alloc_new w1 _)
  have T2 : Hid (Turn w W2 nowhere) := Lib.hid (by rw [← hW2]; exact T1.out.trans (Turn.alloc _ _ _) (fun _ _ h => h))
  have Z2 : Hid (ZB W2 w.heap.size zeroZ) := Lib.hid (by rw [← hW2]; exact Z1.out.old (grown_alloc _ _))
  have hgw : w.heap.size ≠ g := by have := Z1.out.lt; omega
  clear hW2 hg T1 Z1
  obtain ⟨d0, d1, d2, d3, d4, d5, d6, d7, d8, d9⟩ := H2.out.cellsAt
  obtain ⟨z0, z1, ⟨z2, z3, z4⟩, z5, z6, z7⟩ := Z2.out.cells
  have f0 := ZB.froz Z2.out 0
  have f1 := ZB.froz Z2.out 1
  have f2 := ZB.froz Z2.out 2
  have f3 := ZB.froz Z2.out 3
  have f4 := ZB.froz Z2.out 4
  have f5 := ZB.froz Z2.out 5
  have f6 := ZB.froz Z2.out 6
  have f7 := ZB.froz Z2.out 7
  go_region
  have hz9 := ZB.setAll Z2.out q.z
  have ht9 := turn_set8 W2 w.heap.size q.z
  obtain ⟨W9, hW9⟩ : ∃ V, ((((((((W2.setCell ⟨w.heap.size, 0, none⟩ (.int .i64 q.z.cnt)).setCell ⟨w.heap.size, 1, none⟩ (.int .i64 q.z.nul)).setCell ⟨w.heap.size, 2, none⟩ (.int .i64 q.z.min.k)).setCell ⟨w.heap.size, 3, none⟩ (.int .i64 q.z.min.n)).setCell ⟨w.heap.size, 4, none⟩ (.string q.z.min.s)).setCell ⟨w.heap.size, 5, none⟩ (.int .i64 q.z.max.k)).setCell ⟨w.heap.size, 6, none⟩ (.int .i64 q.z.max.n)).setCell ⟨w.heap.size, 7, none⟩ (.string q.z.max.s)) = V := ⟨_, rfl⟩
  rw [hW9] at hz9 ht9 ⊢
  have HZ9 : Hid (ZB W9.drew w.heap.size q.z) := Lib.hid hz9
  have HT9 : Hid (w.grownBy W9.drew none) := Lib.hid (grown_put T2.out.grown (ht9.trans (Turn.drew W9 _) (fun _ _ h => h)) (Nat.le_refl _))
  clear hW9 hz9 ht9 d0 d1 d2 d3 d4 d5 d6 d7 d8 d9 z0 z1 z2 z3 z4 z5 z6 z7 f0 f1 f2 f3 f4 f5 f6 f7
  go_wp2
  exact bodyPost_ret (results_mid rfl _ _ w.heap.size _ _ (0, 0) _ rfl HZ9.out Tryz.underlying33 rfl info_zone2) rfl ⟨rfl, HT9.out⟩
end Go.Proofs.YtljanfnhmhimiaaGreat.Sg
