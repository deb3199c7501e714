/-
  What the program's and the document's functions do, in memory and as plain functions: SgCells.
-/
import Derived.Deep.RegionHeld3
import Derived.Deep.RegionWith
import Derived.Deep.Cut
import Derived.Deep.CutRange
import Derived.Deep.DeepCutAuto
import Derived.Test.YtljanfnhmhimiaaGreatSmP
import Derived.Test.YtljanfnhmhimiaaGreatSmV
import Derived.Test.YtljanfnhmhimiaaGreatSme

namespace Go.Proofs.YtljanfnhmhimiaaGreat.Sg
open Go.RowKit Go.Joins Zn Zr Dv
open Oct (Rd)
open In (At turn_read)
open Nu (cnt placesF nextP)

theorem merge_snoc : ∀ (nl : List Bool) (cs : List Cel) (x : Bool), mergeS (nl ++ [x]) cs = mergeS nl cs ++ [if x = true then zeroC else cs.getD (nextP nl) zeroC]
  | [], [], true => rfl
  | [], [], false => rfl
  | [], c :: l, true => rfl
  | [], c :: l, false => rfl
  | true :: nl, cs, x => by
    have h : nextP (true :: nl) = nextP nl := by
      unfold nextP
      rw [show (true :: nl) = [true] ++ nl from rfl, Nu.cnt_app, show cnt [true] = 1 from rfl, List.length_append, List.length_singleton]
      omega
    rw [List.cons_append, mergeS, mergeS, merge_snoc nl cs x, h]
    rfl
  | false :: nl, [], x => by
    rw [List.cons_append, mergeS, mergeS, merge_snoc nl [] x]
    simp
  | false :: nl, c :: l, x => by
    have h : nextP (false :: nl) = nextP nl + 1 := by
      unfold nextP
      have := Nu.cnt_le nl
      rw [show (false :: nl) = [false] ++ nl from rfl, Nu.cnt_app, show cnt [false] = 0 from rfl, List.length_append, List.length_singleton]
      omega
    rw [List.cons_append, mergeS, mergeS, merge_snoc nl l x, h]
    rfl
theorem merge_len : ∀ (nl : List Bool) (cs : List Cel), (mergeS nl cs).length = nl.length
  | [], _ => rfl
  | true :: nl, cs => by rw [mergeS, List.length_cons, merge_len nl cs, List.length_cons]
  | false :: nl, [] => by rw [mergeS, List.length_cons, merge_len nl [], List.length_cons]
  | false :: nl, c :: cs => by rw [mergeS, List.length_cons, merge_len nl cs, List.length_cons]
theorem merge_none (nl : List Bool) : mergeS nl [] = List.replicate nl.length zeroC :=
  List.eq_replicate_iff.2 ⟨merge_len nl [], fun c hc => (merge_mem nl [] c hc).elim id (fun h => by cases h)⟩
/-- the first k cells are there, the others are zero -/
def fillD (nl : List Bool) (cs : List Cel) (k : Nat) : List Cel := mergeS (nl.take k) cs ++ List.replicate (nl.length - k) zeroC
theorem fillD_len (nl : List Bool) (cs : List Cel) (k : Nat) (h : k ≤ nl.length) : (fillD nl cs k).length = nl.length := by
  unfold fillD
  rw [List.length_append, merge_len, List.length_take, List.length_replicate]
  omega
theorem fillD_zero (nl : List Bool) (cs : List Cel) : fillD nl cs 0 = List.replicate nl.length zeroC := by simp [fillD, mergeS]
theorem fillD_all (nl : List Bool) (cs : List Cel) : fillD nl cs nl.length = mergeS nl cs := by
  unfold fillD
  rw [List.take_of_length_le (Nat.le_refl _), Nat.sub_self, List.replicate_zero, List.append_nil]
theorem fillD_step (nl : List Bool) (cs : List Cel) (k : Nat) (h : k < nl.length) (x : Bool) (hx : nl.getD k false = x) :
    fillD nl cs (k + 1) = if x = true then fillD nl cs k else (fillD nl cs k).set k (cs.getD (nextP (nl.take k)) zeroC) := by
  have ht : nl.take (k + 1) = nl.take k ++ [x] := by
    rw [List.take_succ_eq_append_getElem h, ← hx]
    simp [List.getD, h]
  have hr : List.replicate (nl.length - k) zeroC = zeroC :: List.replicate (nl.length - (k + 1)) zeroC := by
    rw [show nl.length - k = nl.length - (k + 1) + 1 by omega, List.replicate_succ]
  have hl : (mergeS (nl.take k) cs).length = k := by rw [merge_len, List.length_take]; omega
  unfold fillD
  rw [ht, merge_snoc, hr]
  cases x with
  | true => rw [if_pos rfl, if_pos rfl, List.append_assoc]; rfl
  | false =>
    rw [if_neg (by decide), if_neg (by decide), List.append_assoc, List.set_append_right _ _ (by rw [hl]; exact Nat.le_refl _), hl, Nat.sub_self]
    rfl
theorem places_at2 (l : List Bool) (k : Nat) (hk : k < l.length) (b : Bool) (hb : l.getD k false = b) : (placesF 0 l).getD k 0 = if b = true then -1 else (nextP (l.take k) : Int) := by
  have ht : l.take (k + 1) = l.take k ++ [b] := by
    rw [List.take_succ_eq_append_getElem hk, ← hb]
    simp [List.getD, hk]
  have h1 : placesF 0 (l.take (k + 1)) = placesF 0 (l.take k) ++ [if b = true then -1 else (nextP (l.take k) : Int)] := by rw [ht, Nu.places_snoc]
  have h2 : l = l.take (k + 1) ++ l.drop (k + 1) := (List.take_append_drop _ _).symm
  have hl : (placesF 0 (l.take k)).length = k := by rw [Nu.places_len, List.length_take]; omega
  conv => lhs; rw [h2, Nu.places_app, h1]
  rw [List.append_assoc, List.getD_eq_getElem?_getD, List.getElem?_append_right (by rw [hl]; exact Nat.le_refl _), hl, Nat.sub_self]
  rfl
theorem next_lt (nl : List Bool) (k : Nat) (h : k < nl.length) (hx : nl.getD k false = false) : nextP (nl.take k) < nl.length - cnt nl := by
  have ht : nl.take (k + 1) = nl.take k ++ [false] := by
    rw [List.take_succ_eq_append_getElem h, ← hx]
    simp [List.getD, h]
  have h2 : nl = nl.take (k + 1) ++ nl.drop (k + 1) := (List.take_append_drop _ _).symm
  have h3 := Nu.cnt_app (nl.take (k + 1)) (nl.drop (k + 1))
  rw [← h2] at h3
  have h4 : cnt (nl.take (k + 1)) = cnt (nl.take k) := by rw [ht, Nu.cnt_app]; rfl
  have h5 := Nu.cnt_le (nl.drop (k + 1))
  have h6 := Nu.cnt_le (nl.take k)
  rw [List.length_drop] at h5
  unfold nextP
  rw [List.length_take] at h6 ⊢
  omega

/-- getCells' answer -/
def CellsX (b : Nat) (w : World) (m : Nat) (o : Option (List Cel)) (e : Ending) (w' : World) : Prop := Turn w w' (At b) ∧ match (generalizing := false) o with
  | none => ∃ er, er ≠ 0 ∧ e = .returned (.tuple #[.slice none 0 0, .int .i64 er])
  | some L => ∃ a c, e = .returned (.tuple #[.slice a m c, .int .i64 0]) ∧ CSeg w' a m c L
theorem flags_turn {w w' : World} {a : Option Addr} {n c : Nat} {l : List Bool} {S : Nat → Prop} (h : Bl.Seg w a n c l) (k : Turn w w' S) (hS : ∀ ad, a = some ad → n ≠ 0 → ¬ S ad.block) : Bl.Seg w' a n c l :=
  ⟨h.len, h.le, h.cap, h.nil_, fun ad had j u hu => k.cell (h.at_ ad had j u hu) (by
    have hn : n ≠ 0 := by
      intro e
      have := (List.getElem?_eq_some_iff.1 hu).1
      rw [List.length_map, h.len] at this
      omega
    have := hS ad had hn
    unfold Addr.add; split <;> exact this)⟩
theorem cseg_turn {w w' : World} {a : Option Addr} {n c : Nat} {l : List Cel} {S : Nat → Prop} (h : CSeg w a n c l) (k : Turn w w' S) (hS : ∀ ad, a = some ad → ¬ S ad.block) : CSeg w' a n c l :=
  ⟨h.len, h.le, h.cap, h.nil_, fun ad had j u hu => k.cell (h.at_ ad had j u hu) (by have := hS ad had; unfold Addr.add; split <;> exact this)⟩

set_option maxRecDepth 100000 in
set_option maxHeartbeats 2000000 in
theorem getCells_none (q : Hd) (b : Nat) (nl : List Bool) (w : World) (hs : Bl.Seg w q.a q.n q.c nl) (hn : q.n ≤ 4096) (hz : q.z.cnt - q.z.nul = 0) :
    Calls Tryz.prog 35 #[.agg #[.int .i64 q.kind, .slice q.a q.n q.c, .int .i64 q.z.cnt, .int .i64 q.z.nul, .int .i64 q.z.min.k, .int .i64 q.z.min.n, .string q.z.min.s, .int .i64 q.z.max.k, .int .i64 q.z.max.n, .string q.z.max.s], .pointer (some ⟨b, 0, none⟩)] w (CellsX b w q.n (some (mergeS nl []))) := by
  have hmk := make_cells q.n (by omega)
  have hq0 := heap_alloc_new w (.cells #[.int .i64 q.kind, .slice q.a q.n q.c, .int .i64 q.z.cnt, .int .i64 q.z.nul, .int .i64 q.z.min.k, .int .i64 q.z.min.n, .string q.z.min.s, .int .i64 q.z.max.k, .int .i64 q.z.max.n, .string q.z.max.s] 69)
  have HQ := Lib.hid (show HB (w.alloc (.cells #[.int .i64 q.kind, .slice q.a q.n q.c, .int .i64 q.z.cnt, .int .i64 q.z.nul, .int .i64 q.z.min.k, .int .i64 q.z.min.n, .string q.z.min.s, .int .i64 q.z.max.k, .int .i64 q.z.max.n, .string q.z.max.s] 69)) w.heap.size q from hq0)
  have HM : Hid (mergeS nl [] = List.replicate q.n zeroC) := Lib.hid (by rw [merge_none, hs.len])
  obtain ⟨W1, hW1⟩ : ∃ V, w.alloc (.cells #[.int .i64 q.kind, .slice q.a q.n q.c, .int .i64 q.z.cnt, .int .i64 q.z.nul, .int .i64 q.z.min.k, .int .i64 q.z.min.n, .string q.z.min.s, .int .i64 q.z.max.k, .int .i64 q.z.max.n, .string q.z.max.s] 69) = V := ⟨_, rfl⟩
  rw [hW1] at HQ
  have HW1 := Lib.hid hW1
  have T1 : Hid (Turn w W1 nowhere) := Lib.hid (by rw [← hW1]; exact Turn.alloc _ _ _)
  have h1s : W1.heap.size = w.heap.size + 1 := by rw [← hW1]; simp
  have H1S := Lib.hid h1s
  clear hq0 hW1 h1s hs
  go_enter Tryz.func35, Tryz.ntmps35
  go_upto_region 1 with (fail)
  rw [HW1.out]
  obtain ⟨d0, d1, d2, d3, d4, d5, d6, d7, d8, d9⟩ := HQ.out.cellsAt
  go_upto_region 2 with (fail)
  have S2 := Lib.hid (seg_cells q.n (by omega) W1)
  obtain ⟨W2, hW2⟩ : ∃ V, W1.alloc (.cells (roomC q.n) 24) = V := ⟨_, rfl⟩
  rw [hW2] at S2 ⊢
  have HQ2 : Hid (HB W2 w.heap.size q) := Lib.hid (by rw [← hW2]; exact HQ.out.old (Turn.alloc _ _ _))
  have T2 : Hid (Turn w W2 nowhere) := Lib.hid (by rw [← hW2]; exact T1.out.trans (Turn.alloc _ _ _) (fun _ _ h => h))
  have HVA := Lib.hid (values_any q 0 hz (by omega) W2)
  clear hW2 d0 d1 d2 d3 d4 d5 d6 d7 d8 d9 HQ T1 hmk hz
  obtain ⟨d0, d1, d2, d3, d4, d5, d6, d7, d8, d9⟩ := HQ2.out.cellsAt
  go_wp2_with fail
  refine HVA.out.mono ?_
  rintro e w3 ⟨rfl, hg3⟩
  have HF : Hid (CellsX b w q.n (some (mergeS nl [])) (.returned (.tuple #[.slice (some ⟨W1.heap.size, 0, none⟩) q.n q.n, .int .i64 0])) w3) := Lib.hid ⟨(T2.out.trans (Pk.turn_of hg3) (fun _ _ h => h)).mono (fun _ _ e => e.elim), _, _, rfl, by rw [HM.out]; exact S2.out.old hg3⟩
  clear hg3 HVA S2 HQ2 T2 d0 d1 d2 d3 d4 d5 d6 d7 d8 d9
  dsimp only
  go_wp2
  go_ret2
  exact HF.out

set_option maxRecDepth 100000 in
set_option maxHeartbeats 8000000 in
theorem getSeg_no_I (q : Hd) (b g : Nat) (nl : List Bool) (rest : List Int) (M : Nat) (w : World) (hk : q.kind = 1) (hs : Bl.Seg w q.a q.n q.c nl) (hn : q.n ≤ 4096) (hz : q.z.cnt - q.z.nul = (M : Int)) (hM : q.n = cnt nl + M) (hM0 : 0 < M) (hr : Rd w b g rest) (hab : ∀ ad, q.a = some ad → q.n ≠ 0 → ad.block ≠ b) (hrb : Oct.IsB rest) (hrl : rest.length ≤ 100000000)
    (HT : ∀ (cb : Nat) (a : Option Addr) (c : Nat) (W : World), BoxI W cb → Bs.Seg W a rest.length c rest → Calls Tryz.prog 236 #[.agg #[.func (.func 89) #[] #[], .func (.func 90) #[] #[], .func (.func 91) #[] #[], .func (.func 93) #[] #[], .func (.func 95) #[] #[], .func (.func 140) #[] #[.pointer (some ⟨cb, 0, none⟩)]], .slice a rest.length c, .int .i64 (M : Int)] W (NoX W)) :
    Calls Tryz.prog 35 #[.agg #[.int .i64 q.kind, .slice q.a q.n q.c, .int .i64 q.z.cnt, .int .i64 q.z.nul, .int .i64 q.z.min.k, .int .i64 q.z.min.n, .string q.z.min.s, .int .i64 q.z.max.k, .int .i64 q.z.max.n, .string q.z.max.s], .pointer (some ⟨b, 0, none⟩)] w (CellsX b w q.n (none)) := by
  have hmk := make_cells q.n (by omega)
  have hq0 := heap_alloc_new w (.cells #[.int .i64 q.kind, .slice q.a q.n q.c, .int .i64 q.z.cnt, .int .i64 q.z.nul, .int .i64 q.z.min.k, .int .i64 q.z.min.n, .string q.z.min.s, .int .i64 q.z.max.k, .int .i64 q.z.max.n, .string q.z.max.s] 69)
  have HQ := Lib.hid (show HB (w.alloc (.cells #[.int .i64 q.kind, .slice q.a q.n q.c, .int .i64 q.z.cnt, .int .i64 q.z.nul, .int .i64 q.z.min.k, .int .i64 q.z.min.n, .string q.z.min.s, .int .i64 q.z.max.k, .int .i64 q.z.max.n, .string q.z.max.s] 69)) w.heap.size q from hq0)
  have hnl := hs.len
  have HNL := Lib.hid hnl
  have hbl := rd_lt hr
  obtain ⟨W1, hW1⟩ : ∃ V, w.alloc (.cells #[.int .i64 q.kind, .slice q.a q.n q.c, .int .i64 q.z.cnt, .int .i64 q.z.nul, .int .i64 q.z.min.k, .int .i64 q.z.min.n, .string q.z.min.s, .int .i64 q.z.max.k, .int .i64 q.z.max.n, .string q.z.max.s] 69) = V := ⟨_, rfl⟩
  rw [hW1] at HQ
  have HW1 := Lib.hid hW1
  have T1 : Hid (Turn w W1 nowhere) := Lib.hid (by rw [← hW1]; exact Turn.alloc _ _ _)
  have h1s : W1.heap.size = w.heap.size + 1 := by rw [← hW1]; simp
  have HS := Lib.hid hs
  have HR := Lib.hid hr
  have HRB := Lib.hid (And.intro hrb hrl)
  have HTT := Lib.hid HT
  have hzM : (M : Int) = 0 → False := by omega
  have HMM := Lib.hid (And.intro hM hM0)
  have HKK := Lib.hid hk
  have HAB := Lib.hid hab
  have hM4 : M ≤ 4096 := by omega
  have qM : ((M : Int) == 0) = false := beq_eq_false_iff_ne.2 (by omega)
  have HZ := Lib.hid hz
  have H1S := Lib.hid h1s
  clear h1s hq0 hW1 hs hr hrb hrl HT hzM hM hM0 hnl hk hz hab
  go_enter Tryz.func35, Tryz.ntmps35
  go_upto_region 1 with (fail)
  rw [HW1.out]
  obtain ⟨d0, d1, d2, d3, d4, d5, d6, d7, d8, d9⟩ := HQ.out.cellsAt
  go_upto_region 2 with (fail)
  have R2 := Lib.hid (made_cells q.n (by omega) W1)
  obtain ⟨W2, hW2⟩ : ∃ V, W1.alloc (.cells (roomC q.n) 24) = V := ⟨_, rfl⟩
  obtain ⟨gl, hgl⟩ : ∃ g, g = W1.heap.size := ⟨_, rfl⟩
  rw [hW2, ← hgl] at R2 ⊢
  have HQ2 : Hid (HB W2 w.heap.size q) := Lib.hid (by rw [← hW2]; exact HQ.out.old (Turn.alloc _ _ _))
  have T2 : Hid (Turn w W2 nowhere) := Lib.hid (by rw [← hW2]; exact T1.out.trans (Turn.alloc _ _ _) (fun _ _ h => h))
  have hgl2 : gl < W2.heap.size := (R2.out.lt _ rfl).2
  have hgl3 : w.heap.size < gl := by have := H1S.out; omega
  have HVA := Lib.hid (values_any q (M : Int) HZ.out (by omega) W2)
  clear hW2 d0 d1 d2 d3 d4 d5 d6 d7 d8 d9 HQ T1 hmk hgl
  obtain ⟨d0, d1, d2, d3, d4, d5, d6, d7, d8, d9⟩ := HQ2.out.cellsAt
  go_wp2_with fail
  refine HVA.out.mono ?_
  rintro e w3 ⟨rfl, hg3⟩
  have t3 := Pk.turn_of hg3
  have T3 := Lib.hid (T2.out.trans t3 (fun _ _ h => h))
  have R3 := Lib.hid (own_grow R2.out hg3)
  have HQ3 := Lib.hid (HQ2.out.old t3)
  have RD3 := Lib.hid (In.Turn.rd T3.out HR.out id id)
  have h23 := hg3.size
  clear hg3 t3 HVA R2 HQ2 T2 d0 d1 d2 d3 d4 d5 d6 d7 d8 d9
  dsimp only
  have HLF := Lib.hid (Oct.left_yes b g rest w3 RD3.out)
  have HBY := Lib.hid (Oct.bytes_yes b g rest rest.length w3 RD3.out (Nat.le_refl _) (by have := HRB.out.2; omega))
  go_wp2_with fail
  refine HLF.out.mono ?_
  rintro e w3' ⟨rfl, rfl⟩
  dsimp only
  go_wp2_with fail
  refine HBY.out.mono ?_
  intro e w4 hx
  obtain ⟨xb, xq, rfl, hxq, hown4, hg4, hr4⟩ := hx.value
  rw [List.take_of_length_le (Nat.le_refl _)] at hxq hown4
  subst hxq
  have t4 := turn_read hg4
  have S4 := Lib.hid (Bs.Seg.own hown4)
  have T4 : Hid (Turn w w4 (At b)) := Lib.hid ((T3.out.mono (fun _ _ e => e.elim) : Turn w w3 (At b)).trans t4 (fun _ _ h => h))
  have TT4 : Hid (Turn w3 w4 (At b)) := Lib.hid t4
  have R4 : Hid (w4.ownsRow gl 24 3 (.slice (some ⟨gl, 0, none⟩) q.n q.n) q.n (flatC (List.replicate q.n zeroC))) := Lib.hid (own_keep R3.out hg4 (fun g' e1 e2 => by cases e2; have := R3.out.lt _ rfl; simp [Value.ownBlock] at e1; omega))
  have HQ4 := Lib.hid (HQ3.out.turn t4 (by omega))
  have h34 := hg4.size
  have T3' : Hid (Turn w w3 (At b)) := Lib.hid (T3.out.mono (fun _ _ e => e.elim))
  clear hown4 hg4 hr4 hx t4 R3 HQ3 RD3 HLF HBY T3
  dsimp only
  obtain ⟨d0, d1, d2, d3, d4, d5, d6, d7, d8, d9⟩ := HQ4.out.cellsAt
  go_upto_region 5 with (fail)
  clear d0 d1 d2 d3 d4 d5 d6 d7 d8 d9
  obtain ⟨d0, d1, d2, d3, d4, d5, d6, d7, d8, d9⟩ := HQ4.out.cellsAt
  have HCO := Lib.hid (fun W => coderOf_any q.kind W (by rw [HKK.out]; decide) (by rw [HKK.out]; decide))
  have HV2 := Lib.hid (fun W => values_any q (M : Int) HZ.out (by omega) W)
  have hmeth := fun (cb : Nat) (W : World) => meth_getCells_I cb W
  have hahead := fun (cb : Nat) (W : World) => ahead_I cb W
  go_cut [9, 10] (fun _ ev wx => ∃ er : Int, er ≠ 0 ∧ ev = .int .i64 er ∧ Turn w wx (At b))
  case first =>
      go_region_held3 (fun w' => w'.cell? ⟨w.heap.size, 0, none⟩ = some (.int .i64 q.kind) ∧ w'.cell? ⟨w.heap.size, 1, none⟩ = some (.slice q.a q.n q.c) ∧ w'.cell? ⟨w.heap.size, 2, none⟩ = some (.int .i64 q.z.cnt) ∧ w'.cell? ⟨w.heap.size, 3, none⟩ = some (.int .i64 q.z.nul) ∧
          w'.cell? ⟨w.heap.size, 4, none⟩ = some (.int .i64 q.z.min.k) ∧ w'.cell? ⟨w.heap.size, 5, none⟩ = some (.int .i64 q.z.min.n) ∧ w'.cell? ⟨w.heap.size, 6, none⟩ = some (.string q.z.min.s) ∧ w'.cell? ⟨w.heap.size, 7, none⟩ = some (.int .i64 q.z.max.k) ∧ w'.cell? ⟨w.heap.size, 8, none⟩ = some (.int .i64 q.z.max.n) ∧ w'.cell? ⟨w.heap.size, 9, none⟩ = some (.string q.z.max.s)) (go_keep)
        (first
          | (go_at_call 31
             (with_reducible refine (HCO.out _).mono ?_)
             rintro e wv ⟨v2, rfl, hv, htv0⟩
             obtain ⟨cb, rfl, hbx⟩ : ∃ cb, v2 = .iface 99 (.agg #[.func (.func 89) #[] #[], .func (.func 90) #[] #[], .func (.func 91) #[] #[], .func (.func 93) #[] #[], .func (.func 95) #[] #[], .func (.func 140) #[] #[.pointer (some ⟨cb, 0, none⟩)]]) ∧ BoxI wv cb := by
               rcases hv with ⟨h, b, e1, e2⟩ | ⟨h, e1⟩ | ⟨h, b, e1, e2⟩
               · exact ⟨b, e1, e2⟩
               · have := HKK.out; omega
               · have := HKK.out; omega
             have BXv := Lib.hid hbx
             have htv := (Turn.drew w4 nowhere).trans htv0 (fun _ _ h => h)
             have HQv := Lib.hid (HQ4.out.old htv)
             have TTv := Lib.hid (TT4.out.trans htv (fun _ _ e => e.elim))
             have Rv := Lib.hid (own_grow R4.out htv.grown)
             have SVv := Lib.hid (S4.out.grown htv.grown)
             have h4v := htv.size
             obtain ⟨p0, p1, p2, p3, p4, p5, p6, p7, p8, p9⟩ := HQv.out.cellsAt
             clear hv htv htv0)
          | (go_at_call 61
             (with_reducible refine (HV2.out _).mono ?_)
             rintro e wu ⟨rfl, hgu⟩
             have HQu := Lib.hid (HQv.out.old (Pk.turn_of hgu))
             have TTu := Lib.hid (TTv.out.trans (Pk.turn_of hgu) (fun _ _ e => e.elim))
             have Ru := Lib.hid (own_grow Rv.out hgu)
             have SVu := Lib.hid (SVv.out.grown hgu)
             have BXu := Lib.hid (BXv.out.old (Pk.turn_of hgu))
             have hvu := hgu.size
             obtain ⟨r0, r1, r2, r3, r4, r5, r6, r7, r8, r9⟩ := HQu.out.cellsAt
             clear hgu)
          | (go_at_call 236
             (with_reducible refine (HTT.out cb _ _ _ BXu.out SVu.out).mono ?_)
             rintro e wx ⟨htx, er, her, rfl⟩
             have HQx := Lib.hid (HQu.out.old htx)
             have TTx := Lib.hid (TTu.out.trans htx (fun _ _ e => e.elim))
             have Rx := Lib.hid (own_grow Ru.out htx.grown)
             skip
             have hux := htx.size
             obtain ⟨x0, x1, x2, x3, x4, x5, x6, x7, x8, x9⟩ := HQx.out.cellsAt
             clear htx)
          | fail)
      all_goals
        go_wp2
        go_meet
        case rel => exact ⟨er, her, rfl, T3'.out.trans TTx.out (fun _ _ h => h)⟩
  case rest =>
    obtain ⟨er, her, rfl, hfin⟩ := hcut
    have hq : (er != 0) = true := bne_iff_ne.2 her
    have HF : Hid (CellsX b w q.n none (.returned (.tuple #[.slice none 0 0, .int .i64 er])) wc) := Lib.hid ⟨hfin, er, her, rfl⟩
    clear her hfin d0 d1 d2 d3 d4 d5 d6 d7 d8 d9 hmeth hahead
    go_wp2
    go_ret2
    exact HF.out

set_option maxRecDepth 100000 in
set_option maxHeartbeats 8000000 in
theorem getSeg_yes_I (q : Hd) (b g : Nat) (nl : List Bool) (rest : List Int) (M : Nat) (cs : List Cel) (w : World) (hk : q.kind = 1) (hs : Bl.Seg w q.a q.n q.c nl) (hn : q.n ≤ 4096) (hz : q.z.cnt - q.z.nul = (M : Int)) (hM : q.n = cnt nl + M) (hM0 : 0 < M) (hr : Rd w b g rest) (hab : ∀ ad, q.a = some ad → q.n ≠ 0 → ad.block ≠ b) (hrb : Oct.IsB rest) (hrl : rest.length ≤ 100000000)
    (HT : ∀ (cb : Nat) (a : Option Addr) (c : Nat) (W : World), BoxI W cb → Bs.Seg W a rest.length c rest → Calls Tryz.prog 236 #[.agg #[.func (.func 89) #[] #[], .func (.func 90) #[] #[], .func (.func 91) #[] #[], .func (.func 93) #[] #[], .func (.func 95) #[] #[], .func (.func 140) #[] #[.pointer (some ⟨cb, 0, none⟩)]], .slice a rest.length c, .int .i64 (M : Int)] W (GotC W M cs)) :
    Calls Tryz.prog 35 #[.agg #[.int .i64 q.kind, .slice q.a q.n q.c, .int .i64 q.z.cnt, .int .i64 q.z.nul, .int .i64 q.z.min.k, .int .i64 q.z.min.n, .string q.z.min.s, .int .i64 q.z.max.k, .int .i64 q.z.max.n, .string q.z.max.s], .pointer (some ⟨b, 0, none⟩)] w (CellsX b w q.n (some (mergeS nl cs))) := by
  have hmk := make_cells q.n (by omega)
  have hq0 := heap_alloc_new w (.cells #[.int .i64 q.kind, .slice q.a q.n q.c, .int .i64 q.z.cnt, .int .i64 q.z.nul, .int .i64 q.z.min.k, .int .i64 q.z.min.n, .string q.z.min.s, .int .i64 q.z.max.k, .int .i64 q.z.max.n, .string q.z.max.s] 69)
  have HQ := Lib.hid (show HB (w.alloc (.cells #[.int .i64 q.kind, .slice q.a q.n q.c, .int .i64 q.z.cnt, .int .i64 q.z.nul, .int .i64 q.z.min.k, .int .i64 q.z.min.n, .string q.z.min.s, .int .i64 q.z.max.k, .int .i64 q.z.max.n, .string q.z.max.s] 69)) w.heap.size q from hq0)
  have hnl := hs.len
  have HNL := Lib.hid hnl
  have hbl := rd_lt hr
  obtain ⟨W1, hW1⟩ : ∃ V, w.alloc (.cells #[.int .i64 q.kind, .slice q.a q.n q.c, .int .i64 q.z.cnt, .int .i64 q.z.nul, .int .i64 q.z.min.k, .int .i64 q.z.min.n, .string q.z.min.s, .int .i64 q.z.max.k, .int .i64 q.z.max.n, .string q.z.max.s] 69) = V := ⟨_, rfl⟩
  rw [hW1] at HQ
  have HW1 := Lib.hid hW1
  have T1 : Hid (Turn w W1 nowhere) := Lib.hid (by rw [← hW1]; exact Turn.alloc _ _ _)
  have h1s : W1.heap.size = w.heap.size + 1 := by rw [← hW1]; simp
  have HS := Lib.hid hs
  have HR := Lib.hid hr
  have HRB := Lib.hid (And.intro hrb hrl)
  have HTT := Lib.hid HT
  have hzM : (M : Int) = 0 → False := by omega
  have HMM := Lib.hid (And.intro hM hM0)
  have HKK := Lib.hid hk
  have HAB := Lib.hid hab
  have hM4 : M ≤ 4096 := by omega
  have qM : ((M : Int) == 0) = false := beq_eq_false_iff_ne.2 (by omega)
  have HZ := Lib.hid hz
  have H1S := Lib.hid h1s
  clear h1s hq0 hW1 hs hr hrb hrl HT hzM hM hM0 hnl hk hz hab
  go_enter Tryz.func35, Tryz.ntmps35
  go_upto_region 1 with (fail)
  rw [HW1.out]
  obtain ⟨d0, d1, d2, d3, d4, d5, d6, d7, d8, d9⟩ := HQ.out.cellsAt
  go_upto_region 2 with (fail)
  have R2 := Lib.hid (made_cells q.n (by omega) W1)
  obtain ⟨W2, hW2⟩ : ∃ V, W1.alloc (.cells (roomC q.n) 24) = V := ⟨_, rfl⟩
  obtain ⟨gl, hgl⟩ : ∃ g, g = W1.heap.size := ⟨_, rfl⟩
  rw [hW2, ← hgl] at R2 ⊢
  have HQ2 : Hid (HB W2 w.heap.size q) := Lib.hid (by rw [← hW2]; exact HQ.out.old (Turn.alloc _ _ _))
  have T2 : Hid (Turn w W2 nowhere) := Lib.hid (by rw [← hW2]; exact T1.out.trans (Turn.alloc _ _ _) (fun _ _ h => h))
  have hgl2 : gl < W2.heap.size := (R2.out.lt _ rfl).2
  have hgl3 : w.heap.size < gl := by have := H1S.out; omega
  have HVA := Lib.hid (values_any q (M : Int) HZ.out (by omega) W2)
  clear hW2 d0 d1 d2 d3 d4 d5 d6 d7 d8 d9 HQ T1 hmk hgl
  obtain ⟨d0, d1, d2, d3, d4, d5, d6, d7, d8, d9⟩ := HQ2.out.cellsAt
  go_wp2_with fail
  refine HVA.out.mono ?_
  rintro e w3 ⟨rfl, hg3⟩
  have t3 := Pk.turn_of hg3
  have T3 := Lib.hid (T2.out.trans t3 (fun _ _ h => h))
  have R3 := Lib.hid (own_grow R2.out hg3)
  have HQ3 := Lib.hid (HQ2.out.old t3)
  have RD3 := Lib.hid (In.Turn.rd T3.out HR.out id id)
  have h23 := hg3.size
  clear hg3 t3 HVA R2 HQ2 T2 d0 d1 d2 d3 d4 d5 d6 d7 d8 d9
  dsimp only
  have HLF := Lib.hid (Oct.left_yes b g rest w3 RD3.out)
  have HBY := Lib.hid (Oct.bytes_yes b g rest rest.length w3 RD3.out (Nat.le_refl _) (by have := HRB.out.2; omega))
  go_wp2_with fail
  refine HLF.out.mono ?_
  rintro e w3' ⟨rfl, rfl⟩
  dsimp only
  go_wp2_with fail
  refine HBY.out.mono ?_
  intro e w4 hx
  obtain ⟨xb, xq, rfl, hxq, hown4, hg4, hr4⟩ := hx.value
  rw [List.take_of_length_le (Nat.le_refl _)] at hxq hown4
  subst hxq
  have t4 := turn_read hg4
  have S4 := Lib.hid (Bs.Seg.own hown4)
  have T4 : Hid (Turn w w4 (At b)) := Lib.hid ((T3.out.mono (fun _ _ e => e.elim) : Turn w w3 (At b)).trans t4 (fun _ _ h => h))
  have TT4 : Hid (Turn w3 w4 (At b)) := Lib.hid t4
  have R4 : Hid (w4.ownsRow gl 24 3 (.slice (some ⟨gl, 0, none⟩) q.n q.n) q.n (flatC (List.replicate q.n zeroC))) := Lib.hid (own_keep R3.out hg4 (fun g' e1 e2 => by cases e2; have := R3.out.lt _ rfl; simp [Value.ownBlock] at e1; omega))
  have HQ4 := Lib.hid (HQ3.out.turn t4 (by omega))
  have h34 := hg4.size
  have T3' : Hid (Turn w w3 (At b)) := Lib.hid (T3.out.mono (fun _ _ e => e.elim))
  clear hown4 hg4 hr4 hx t4 R3 HQ3 RD3 HLF HBY T3
  dsimp only
  obtain ⟨d0, d1, d2, d3, d4, d5, d6, d7, d8, d9⟩ := HQ4.out.cellsAt
  go_upto_region 5 with (fail)
  clear d0 d1 d2 d3 d4 d5 d6 d7 d8 d9
  obtain ⟨d0, d1, d2, d3, d4, d5, d6, d7, d8, d9⟩ := HQ4.out.cellsAt
  have HCO := Lib.hid (fun W => coderOf_any q.kind W (by rw [HKK.out]; decide) (by rw [HKK.out]; decide))
  have HV2 := Lib.hid (fun W => values_any q (M : Int) HZ.out (by omega) W)
  have hmeth := fun (cb : Nat) (W : World) => meth_getCells_I cb W
  have hahead := fun (cb : Nat) (W : World) => ahead_I cb W
  go_cut [9, 10] (fun cv ev wx => ∃ (ca : Option Addr) (ck : Nat), cv = .slice ca M ck ∧ ev = .int .i64 0 ∧ (CSeg wx ca M ck cs ∧ (∀ ad, ca = some ad → gl < ad.block)) ∧ HB wx w.heap.size q ∧ Turn w wx (At b) ∧ wx.ownsRow gl 24 3 (.slice (some ⟨gl, 0, none⟩) q.n q.n) q.n (flatC (List.replicate q.n zeroC)))
  case first =>
      go_region_held3 (fun w' => w'.cell? ⟨w.heap.size, 0, none⟩ = some (.int .i64 q.kind) ∧ w'.cell? ⟨w.heap.size, 1, none⟩ = some (.slice q.a q.n q.c) ∧ w'.cell? ⟨w.heap.size, 2, none⟩ = some (.int .i64 q.z.cnt) ∧ w'.cell? ⟨w.heap.size, 3, none⟩ = some (.int .i64 q.z.nul) ∧
          w'.cell? ⟨w.heap.size, 4, none⟩ = some (.int .i64 q.z.min.k) ∧ w'.cell? ⟨w.heap.size, 5, none⟩ = some (.int .i64 q.z.min.n) ∧ w'.cell? ⟨w.heap.size, 6, none⟩ = some (.string q.z.min.s) ∧ w'.cell? ⟨w.heap.size, 7, none⟩ = some (.int .i64 q.z.max.k) ∧ w'.cell? ⟨w.heap.size, 8, none⟩ = some (.int .i64 q.z.max.n) ∧ w'.cell? ⟨w.heap.size, 9, none⟩ = some (.string q.z.max.s)) (go_keep)
        (first
          | (go_at_call 31
             (with_reducible refine (HCO.out _).mono ?_)
             rintro e wv ⟨v2, rfl, hv, htv0⟩
             obtain ⟨cb, rfl, hbx⟩ : ∃ cb, v2 = .iface 99 (.agg #[.func (.func 89) #[] #[], .func (.func 90) #[] #[], .func (.func 91) #[] #[], .func (.func 93) #[] #[], .func (.func 95) #[] #[], .func (.func 140) #[] #[.pointer (some ⟨cb, 0, none⟩)]]) ∧ BoxI wv cb := by
               rcases hv with ⟨h, b, e1, e2⟩ | ⟨h, e1⟩ | ⟨h, b, e1, e2⟩
               · exact ⟨b, e1, e2⟩
               · have := HKK.out; omega
               · have := HKK.out; omega
             have BXv := Lib.hid hbx
             have htv := (Turn.drew w4 nowhere).trans htv0 (fun _ _ h => h)
             have HQv := Lib.hid (HQ4.out.old htv)
             have TTv := Lib.hid (TT4.out.trans htv (fun _ _ e => e.elim))
             have Rv := Lib.hid (own_grow R4.out htv.grown)
             have SVv := Lib.hid (S4.out.grown htv.grown)
             have h4v := htv.size
             obtain ⟨p0, p1, p2, p3, p4, p5, p6, p7, p8, p9⟩ := HQv.out.cellsAt
             clear hv htv htv0)
          | (go_at_call 61
             (with_reducible refine (HV2.out _).mono ?_)
             rintro e wu ⟨rfl, hgu⟩
             have HQu := Lib.hid (HQv.out.old (Pk.turn_of hgu))
             have TTu := Lib.hid (TTv.out.trans (Pk.turn_of hgu) (fun _ _ e => e.elim))
             have Ru := Lib.hid (own_grow Rv.out hgu)
             have SVu := Lib.hid (SVv.out.grown hgu)
             have BXu := Lib.hid (BXv.out.old (Pk.turn_of hgu))
             have hvu := hgu.size
             obtain ⟨r0, r1, r2, r3, r4, r5, r6, r7, r8, r9⟩ := HQu.out.cellsAt
             clear hgu)
          | (go_at_call 236
             (with_reducible refine (HTT.out cb _ _ _ BXu.out SVu.out).mono ?_)
             rintro e wx ⟨htx, ca, ck, rfl, hsx, hfx⟩
             have HQx := Lib.hid (HQu.out.old htx)
             have TTx := Lib.hid (TTu.out.trans htx (fun _ _ e => e.elim))
             have Rx := Lib.hid (own_grow Ru.out htx.grown)
             have CX := Lib.hid (And.intro hsx hfx)
             have hux := htx.size
             obtain ⟨x0, x1, x2, x3, x4, x5, x6, x7, x8, x9⟩ := HQx.out.cellsAt
             clear htx)
          | fail)
      all_goals
        go_wp2
        go_meet
        case rel => exact ⟨ca, ck, rfl, rfl, ⟨hsx, fun ad e => by have := hfx ad e; omega⟩, HQx.out, T3'.out.trans TTx.out (fun _ _ h => h), Rx.out⟩
  case rest =>
    obtain ⟨ca, ck, rfl, rfl, hcs, hq5, ht5, hr5⟩ := hcut
    have CC := Lib.hid hcs
    have HQ5 := Lib.hid hq5
    have T5 := Lib.hid ht5
    have R5 := Lib.hid hr5
    have SF : Bl.Seg wc q.a q.n q.c nl := flags_turn HS.out ht5 (fun ad e h0 => HAB.out ad e h0)
    have hnlc : (nl.length : Int) - (cnt nl : Int) = (M : Int) := by have h1 := HNL.out; have h2 := HMM.out.1; omega
    have HSF : Hid (Nu.spreadF nl (M : Int) = placesF 0 nl) := Lib.hid (if_pos hnlc)
    have hsp := Nu.spread_own q.a q.n q.c nl (M : Int) q.n wc SF (by omega) (by rw [HSF.out, Nu.places_len]; exact HNL.out)
    rw [HSF.out] at hsp
    have HSP := Lib.hid hsp
    have hglc : gl < wc.heap.size := (hr5.lt _ rfl).2
    clear hcs hq5 ht5 hr5 SF hnlc hsp HSF d0 d1 d2 d3 d4 d5 d6 d7 d8 d9 hmeth hahead
    obtain ⟨d0, d1, d2, d3, d4, d5, d6, d7, d8, d9⟩ := HQ5.out.cellsAt
    go_wp2_with fail
    refine HSP.out.mono ?_
    rintro e w6 ⟨sa, sk, rfl, hown6, ht6⟩
    have O6 := Lib.hid hown6
    have T6 : Hid (Turn w w6 (At b)) := Lib.hid (T5.out.trans ht6 (fun _ _ e => e.elim))
    have R6 := Lib.hid (own_grow R5.out ht6.grown)
    have C6 : Hid (CSeg w6 ca M ck cs) := Lib.hid (CC.out.1.old ht6.grown)
    have h56 := ht6.size
    have hgl6 : w.heap.size < gl := hgl3
    have HL0 : Hid (fillD nl cs 0 = List.replicate q.n zeroC) := Lib.hid (by rw [fillD_zero, HNL.out])
    clear hown6 ht6 T5 R5 HSP d0 d1 d2 d3 d4 d5 d6 d7 d8 d9
    dsimp only
    go_wp2
    go_loopw [50] (fun iv wx => ∃ k : Nat, iv = .int .i64 k ∧ k ≤ q.n ∧ wx.ownsRow gl 24 3 (.slice (some ⟨gl, 0, none⟩) q.n q.n) q.n (flatC (fillD nl cs k)) ∧ Turn w6 wx (· = gl)) (fun iv _ => q.n - (intOf iv).toNat)
    case atStart => exact ⟨0, rfl, Nat.zero_le _, by rw [HL0.out]; exact R6.out, Turn.refl _ _⟩
    case round =>
      obtain ⟨k, rfl, hk, rk, tk⟩ := hrel
      have RK := Lib.hid rk
      have TK := Lib.hid tk
      clear rk tk R6 HL0
      by_cases hlt : k < q.n
      · obtain ⟨gs, cgs, es⟩ := Nu.ownsRow_form O6.out (by omega)
        obtain ⟨rfl, rfl⟩ : sa = some ⟨gs, 0, none⟩ ∧ sk = cgs := by cases es; exact ⟨rfl, rfl⟩
        have hkl : k < nl.length := by rw [HNL.out]; exact hlt
        obtain ⟨x, hx⟩ : ∃ x, nl.getD k false = x := ⟨_, rfl⟩
        have hpa := places_at2 nl k hkl x hx
        have hpc := O6.out.cells (g := gs) rfl k (.int .i64 ((placesF 0 nl).getD k 0)) (by rw [List.getElem?_map, List.getElem?_eq_getElem (by rw [Nu.places_len]; exact hkl)]; simp [List.getD, Nu.places_len, hkl])
        have hgsl := O6.out.lt gs rfl
        have hpc2 := TK.out.cell hpc (by rw [Addr.add_lit]; show ¬ gs = gl; omega)
        rw [Addr.add_lit, Nat.zero_add, hpa] at hpc2
        have HST := Lib.hid (fillD_step nl cs k hkl x hx)
        have hlt2 : (k : Int) < (q.n : Int) := by omega
        cases x with
        | true =>
          rw [if_pos rfl] at hpc2
          have HST2 := Lib.hid (HST.out.trans (if_pos rfl))
          clear hx hpa hpc es HST
          go_wp2
          go_roundw
          case rel => exact ⟨k + 1, by go_num, by omega, by rw [HST2.out]; exact RK.out, TK.out⟩
          case measure => simp [intOf]; omega
        | false =>
          rw [if_neg (by decide)] at hpc2
          obtain ⟨i, hi⟩ : ∃ i, i = nextP (nl.take k) := ⟨_, rfl⟩
          have hiM : i < M := by have h1 := next_lt nl k hkl hx; have h2 := HMM.out.1; have h3 := HNL.out; omega
          rw [← hi] at hpc2
          have HST2 := Lib.hid (HST.out.trans (if_neg (by decide)))
          rw [← hi] at HST2
          have C7 : CSeg wr ca M ck cs := cseg_turn C6.out TK.out (fun ad e h => by have h1 := CC.out.2 ad e; have h2 : ad.block = gl := h; omega)
          obtain ⟨B, O, rfl, hcx⟩ := C7.form (by omega)
          obtain ⟨y, hy⟩ : ∃ y, y = cs.getD i zeroC := ⟨_, rfl⟩
          rw [← hy] at HST2
          obtain ⟨c0, c1, c2⟩ := cells_at C7 hiM hy
          obtain ⟨x0, x1, x2⟩ := (CSeg.own RK.out).cells0 k hlt
          have f0 := RK.out.frozenAt (k * 3)
          have f1 := RK.out.frozenAt (k * 3 + 1)
          have f2 := RK.out.frozenAt (k * 3 + 2)
          have hrs := row_set RK.out k y (by rw [fillD_len _ _ _ (by omega)]; exact hkl)
          have HRS := Lib.hid hrs
          have hi0 : (0 : Int) ≤ (i : Int) := by omega
          have hi1 : (i : Int) < (M : Int) := by omega
          clear hx hpa hpc es HST hcx hi hy hrs
          go_upto_region 13 with (fail)
          obtain ⟨W7, hW7⟩ : ∃ V, ((wr.setCell ⟨gl, k * 3, none⟩ (.int .i64 y.k)).setCell ⟨gl, k * 3 + 1, none⟩ (.int .i64 y.n)).setCell ⟨gl, k * 3 + 2, none⟩ (.string y.s) = V := ⟨_, rfl⟩
          rw [hW7] at HRS ⊢
          have R7 : Hid (W7.ownsRow gl 24 3 (.slice (some ⟨gl, 0, none⟩) q.n q.n) q.n (flatC (fillD nl cs (k + 1)))) := Lib.hid (by rw [HST2.out]; exact HRS.out.1)
          have T7 := Lib.hid (TK.out.trans (Turn.of_grown HRS.out.2 (fun i e _ => (Option.some.inj e).symm)) (fun _ _ h => h))
          clear hW7 HRS HST2 c0 c1 c2 x0 x1 x2 f0 f1 f2 hpc2 C7 RK TK
          go_wp2
          go_roundw
          case rel => exact ⟨k + 1, by go_num, by omega, R7.out, T7.out⟩
          case measure => simp [intOf]; omega
      · obtain rfl : k = q.n := by omega
        have hF : fillD nl cs q.n = mergeS nl cs := by have h := fillD_all nl cs; rwa [HNL.out] at h
        rw [hF] at RK
        have HF : Hid (CellsX b w q.n (some (mergeS nl cs)) (.returned (.tuple #[.slice (some ⟨gl, 0, none⟩) q.n q.n, .int .i64 0])) wr) := Lib.hid ⟨T6.out.trans TK.out (fun i hi e => by have h2 : i = gl := e; omega), _, _, rfl, CSeg.own RK.out⟩
        clear hF hlt RK TK
        go_wp2
        go_ret2
        exact HF.out

set_option maxRecDepth 100000 in
set_option maxHeartbeats 8000000 in
theorem getSeg_no_B (q : Hd) (b g : Nat) (nl : List Bool) (rest : List Int) (M : Nat) (w : World) (hk : q.kind = 2) (hs : Bl.Seg w q.a q.n q.c nl) (hn : q.n ≤ 4096) (hz : q.z.cnt - q.z.nul = (M : Int)) (hM : q.n = cnt nl + M) (hM0 : 0 < M) (hr : Rd w b g rest) (hab : ∀ ad, q.a = some ad → q.n ≠ 0 → ad.block ≠ b) (hrb : Oct.IsB rest) (hrl : rest.length ≤ 100000000)
    (HT : ∀ (a : Option Addr) (c : Nat) (W : World), Bs.Seg W a rest.length c rest → Calls Tryz.prog 240 #[.agg #[.func (.func 98) #[] #[], .func (.func 99) #[] #[], .func (.func 100) #[] #[], .func (.func 101) #[] #[], .func (.func 102) #[] #[], .func (.func 103) #[] #[]], .slice a rest.length c, .int .i64 (M : Int)] W (NoX W)) :
    Calls Tryz.prog 35 #[.agg #[.int .i64 q.kind, .slice q.a q.n q.c, .int .i64 q.z.cnt, .int .i64 q.z.nul, .int .i64 q.z.min.k, .int .i64 q.z.min.n, .string q.z.min.s, .int .i64 q.z.max.k, .int .i64 q.z.max.n, .string q.z.max.s], .pointer (some ⟨b, 0, none⟩)] w (CellsX b w q.n (none)) := by
  have hmk := make_cells q.n (by omega)
  have hq0 := heap_alloc_new w (.cells #[.int .i64 q.kind, .slice q.a q.n q.c, .int .i64 q.z.cnt, .int .i64 q.z.nul, .int .i64 q.z.min.k, .int .i64 q.z.min.n, .string q.z.min.s, .int .i64 q.z.max.k, .int .i64 q.z.max.n, .string q.z.max.s] 69)
  have HQ := Lib.hid (show HB (w.alloc (.cells #[.int .i64 q.kind, .slice q.a q.n q.c, .int .i64 q.z.cnt, .int .i64 q.z.nul, .int .i64 q.z.min.k, .int .i64 q.z.min.n, .string q.z.min.s, .int .i64 q.z.max.k, .int .i64 q.z.max.n, .string q.z.max.s] 69)) w.heap.size q from hq0)
  have hnl := hs.len
  have HNL := Lib.hid hnl
  have hbl := rd_lt hr
  obtain ⟨W1, hW1⟩ : ∃ V, w.alloc (.cells #[.int .i64 q.kind, .slice q.a q.n q.c, .int .i64 q.z.cnt, .int .i64 q.z.nul, .int .i64 q.z.min.k, .int .i64 q.z.min.n, .string q.z.min.s, .int .i64 q.z.max.k, .int .i64 q.z.max.n, .string q.z.max.s] 69) = V := ⟨_, rfl⟩
  rw [hW1] at HQ
  have HW1 := Lib.hid hW1
  have T1 : Hid (Turn w W1 nowhere) := Lib.hid (by rw [← hW1]; exact Turn.alloc _ _ _)
  have h1s : W1.heap.size = w.heap.size + 1 := by rw [← hW1]; simp
  have HS := Lib.hid hs
  have HR := Lib.hid hr
  have HRB := Lib.hid (And.intro hrb hrl)
  have HTT := Lib.hid HT
  have hzM : (M : Int) = 0 → False := by omega
  have HMM := Lib.hid (And.intro hM hM0)
  have HKK := Lib.hid hk
  have HAB := Lib.hid hab
  have hM4 : M ≤ 4096 := by omega
  have qM : ((M : Int) == 0) = false := beq_eq_false_iff_ne.2 (by omega)
  have HZ := Lib.hid hz
  have H1S := Lib.hid h1s
  clear h1s hq0 hW1 hs hr hrb hrl HT hzM hM hM0 hnl hk hz hab
  go_enter Tryz.func35, Tryz.ntmps35
  go_upto_region 1 with (fail)
  rw [HW1.out]
  obtain ⟨d0, d1, d2, d3, d4, d5, d6, d7, d8, d9⟩ := HQ.out.cellsAt
  go_upto_region 2 with (fail)
  have R2 := Lib.hid (made_cells q.n (by omega) W1)
  obtain ⟨W2, hW2⟩ : ∃ V, W1.alloc (.cells (roomC q.n) 24) = V := ⟨_, rfl⟩
  obtain ⟨gl, hgl⟩ : ∃ g, g = W1.heap.size := ⟨_, rfl⟩
  rw [hW2, ← hgl] at R2 ⊢
  have HQ2 : Hid (HB W2 w.heap.size q) := Lib.hid (by rw [← hW2]; exact HQ.out.old (Turn.alloc _ _ _))
  have T2 : Hid (Turn w W2 nowhere) := Lib.hid (by rw [← hW2]; exact T1.out.trans (Turn.alloc _ _ _) (fun _ _ h => h))
  have hgl2 : gl < W2.heap.size := (R2.out.lt _ rfl).2
  have hgl3 : w.heap.size < gl := by have := H1S.out; omega
  have HVA := Lib.hid (values_any q (M : Int) HZ.out (by omega) W2)
  clear hW2 d0 d1 d2 d3 d4 d5 d6 d7 d8 d9 HQ T1 hmk hgl
  obtain ⟨d0, d1, d2, d3, d4, d5, d6, d7, d8, d9⟩ := HQ2.out.cellsAt
  go_wp2_with fail
  refine HVA.out.mono ?_
  rintro e w3 ⟨rfl, hg3⟩
  have t3 := Pk.turn_of hg3
  have T3 := Lib.hid (T2.out.trans t3 (fun _ _ h => h))
  have R3 := Lib.hid (own_grow R2.out hg3)
  have HQ3 := Lib.hid (HQ2.out.old t3)
  have RD3 := Lib.hid (In.Turn.rd T3.out HR.out id id)
  have h23 := hg3.size
  clear hg3 t3 HVA R2 HQ2 T2 d0 d1 d2 d3 d4 d5 d6 d7 d8 d9
  dsimp only
  have HLF := Lib.hid (Oct.left_yes b g rest w3 RD3.out)
  have HBY := Lib.hid (Oct.bytes_yes b g rest rest.length w3 RD3.out (Nat.le_refl _) (by have := HRB.out.2; omega))
  go_wp2_with fail
  refine HLF.out.mono ?_
  rintro e w3' ⟨rfl, rfl⟩
  dsimp only
  go_wp2_with fail
  refine HBY.out.mono ?_
  intro e w4 hx
  obtain ⟨xb, xq, rfl, hxq, hown4, hg4, hr4⟩ := hx.value
  rw [List.take_of_length_le (Nat.le_refl _)] at hxq hown4
  subst hxq
  have t4 := turn_read hg4
  have S4 := Lib.hid (Bs.Seg.own hown4)
  have T4 : Hid (Turn w w4 (At b)) := Lib.hid ((T3.out.mono (fun _ _ e => e.elim) : Turn w w3 (At b)).trans t4 (fun _ _ h => h))
  have TT4 : Hid (Turn w3 w4 (At b)) := Lib.hid t4
  have R4 : Hid (w4.ownsRow gl 24 3 (.slice (some ⟨gl, 0, none⟩) q.n q.n) q.n (flatC (List.replicate q.n zeroC))) := Lib.hid (own_keep R3.out hg4 (fun g' e1 e2 => by cases e2; have := R3.out.lt _ rfl; simp [Value.ownBlock] at e1; omega))
  have HQ4 := Lib.hid (HQ3.out.turn t4 (by omega))
  have h34 := hg4.size
  have T3' : Hid (Turn w w3 (At b)) := Lib.hid (T3.out.mono (fun _ _ e => e.elim))
  clear hown4 hg4 hr4 hx t4 R3 HQ3 RD3 HLF HBY T3
  dsimp only
  obtain ⟨d0, d1, d2, d3, d4, d5, d6, d7, d8, d9⟩ := HQ4.out.cellsAt
  go_upto_region 5 with (fail)
  clear d0 d1 d2 d3 d4 d5 d6 d7 d8 d9
  obtain ⟨d0, d1, d2, d3, d4, d5, d6, d7, d8, d9⟩ := HQ4.out.cellsAt
  have HCO := Lib.hid (fun W => coderOf_any q.kind W (by rw [HKK.out]; decide) (by rw [HKK.out]; decide))
  have HV2 := Lib.hid (fun W => values_any q (M : Int) HZ.out (by omega) W)
  have hmeth := fun (W : World) => meth_getCells_B W
  have hahead := fun (W : World) => ahead_B W
  go_cut [9, 10] (fun _ ev wx => ∃ er : Int, er ≠ 0 ∧ ev = .int .i64 er ∧ Turn w wx (At b))
  case first =>
      go_region_held3 (fun w' => w'.cell? ⟨w.heap.size, 0, none⟩ = some (.int .i64 q.kind) ∧ w'.cell? ⟨w.heap.size, 1, none⟩ = some (.slice q.a q.n q.c) ∧ w'.cell? ⟨w.heap.size, 2, none⟩ = some (.int .i64 q.z.cnt) ∧ w'.cell? ⟨w.heap.size, 3, none⟩ = some (.int .i64 q.z.nul) ∧
          w'.cell? ⟨w.heap.size, 4, none⟩ = some (.int .i64 q.z.min.k) ∧ w'.cell? ⟨w.heap.size, 5, none⟩ = some (.int .i64 q.z.min.n) ∧ w'.cell? ⟨w.heap.size, 6, none⟩ = some (.string q.z.min.s) ∧ w'.cell? ⟨w.heap.size, 7, none⟩ = some (.int .i64 q.z.max.k) ∧ w'.cell? ⟨w.heap.size, 8, none⟩ = some (.int .i64 q.z.max.n) ∧ w'.cell? ⟨w.heap.size, 9, none⟩ = some (.string q.z.max.s)) (go_keep)
        (first
          | (go_at_call 31
             (with_reducible refine (HCO.out _).mono ?_)
             rintro e wv ⟨v2, rfl, hv, htv0⟩
             obtain rfl : v2 = .iface 108 (.agg #[.func (.func 98) #[] #[], .func (.func 99) #[] #[], .func (.func 100) #[] #[], .func (.func 101) #[] #[], .func (.func 102) #[] #[], .func (.func 103) #[] #[]]) := by
               rcases hv with ⟨h, _⟩ | ⟨h, e1⟩ | ⟨h, _⟩
               · have := HKK.out; omega
               · exact e1
               · have := HKK.out; omega
             have htv := (Turn.drew w4 nowhere).trans htv0 (fun _ _ h => h)
             have HQv := Lib.hid (HQ4.out.old htv)
             have TTv := Lib.hid (TT4.out.trans htv (fun _ _ e => e.elim))
             have Rv := Lib.hid (own_grow R4.out htv.grown)
             have SVv := Lib.hid (S4.out.grown htv.grown)
             have h4v := htv.size
             obtain ⟨p0, p1, p2, p3, p4, p5, p6, p7, p8, p9⟩ := HQv.out.cellsAt
             clear hv htv htv0)
          | (go_at_call 61
             (with_reducible refine (HV2.out _).mono ?_)
             rintro e wu ⟨rfl, hgu⟩
             have HQu := Lib.hid (HQv.out.old (Pk.turn_of hgu))
             have TTu := Lib.hid (TTv.out.trans (Pk.turn_of hgu) (fun _ _ e => e.elim))
             have Ru := Lib.hid (own_grow Rv.out hgu)
             have SVu := Lib.hid (SVv.out.grown hgu)
             skip
             have hvu := hgu.size
             obtain ⟨r0, r1, r2, r3, r4, r5, r6, r7, r8, r9⟩ := HQu.out.cellsAt
             clear hgu)
          | (go_at_call 240
             (with_reducible refine (HTT.out _ _ _ SVu.out).mono ?_)
             rintro e wx ⟨htx, er, her, rfl⟩
             have HQx := Lib.hid (HQu.out.old htx)
             have TTx := Lib.hid (TTu.out.trans htx (fun _ _ e => e.elim))
             have Rx := Lib.hid (own_grow Ru.out htx.grown)
             skip
             have hux := htx.size
             obtain ⟨x0, x1, x2, x3, x4, x5, x6, x7, x8, x9⟩ := HQx.out.cellsAt
             clear htx)
          | fail)
      all_goals
        go_wp2
        go_meet
        case rel => exact ⟨er, her, rfl, T3'.out.trans TTx.out (fun _ _ h => h)⟩
  case rest =>
    obtain ⟨er, her, rfl, hfin⟩ := hcut
    have hq : (er != 0) = true := bne_iff_ne.2 her
    have HF : Hid (CellsX b w q.n none (.returned (.tuple #[.slice none 0 0, .int .i64 er])) wc) := Lib.hid ⟨hfin, er, her, rfl⟩
    clear her hfin d0 d1 d2 d3 d4 d5 d6 d7 d8 d9 hmeth hahead
    go_wp2
    go_ret2
    exact HF.out

set_option maxRecDepth 100000 in
set_option maxHeartbeats 8000000 in
theorem getSeg_yes_B (q : Hd) (b g : Nat) (nl : List Bool) (rest : List Int) (M : Nat) (cs : List Cel) (w : World) (hk : q.kind = 2) (hs : Bl.Seg w q.a q.n q.c nl) (hn : q.n ≤ 4096) (hz : q.z.cnt - q.z.nul = (M : Int)) (hM : q.n = cnt nl + M) (hM0 : 0 < M) (hr : Rd w b g rest) (hab : ∀ ad, q.a = some ad → q.n ≠ 0 → ad.block ≠ b) (hrb : Oct.IsB rest) (hrl : rest.length ≤ 100000000)
    (HT : ∀ (a : Option Addr) (c : Nat) (W : World), Bs.Seg W a rest.length c rest → Calls Tryz.prog 240 #[.agg #[.func (.func 98) #[] #[], .func (.func 99) #[] #[], .func (.func 100) #[] #[], .func (.func 101) #[] #[], .func (.func 102) #[] #[], .func (.func 103) #[] #[]], .slice a rest.length c, .int .i64 (M : Int)] W (GotC W M cs)) :
    Calls Tryz.prog 35 #[.agg #[.int .i64 q.kind, .slice q.a q.n q.c, .int .i64 q.z.cnt, .int .i64 q.z.nul, .int .i64 q.z.min.k, .int .i64 q.z.min.n, .string q.z.min.s, .int .i64 q.z.max.k, .int .i64 q.z.max.n, .string q.z.max.s], .pointer (some ⟨b, 0, none⟩)] w (CellsX b w q.n (some (mergeS nl cs))) := by
  have hmk := make_cells q.n (by omega)
  have hq0 := heap_alloc_new w (.cells #[.int .i64 q.kind, .slice q.a q.n q.c, .int .i64 q.z.cnt, .int .i64 q.z.nul, .int .i64 q.z.min.k, .int .i64 q.z.min.n, .string q.z.min.s, .int .i64 q.z.max.k, .int .i64 q.z.max.n, .string q.z.max.s] 69)
  have HQ := Lib.hid (show HB (w.alloc (.cells #[.int .i64 q.kind, .slice q.a q.n q.c, .int .i64 q.z.cnt, .int .i64 q.z.nul, .int .i64 q.z.min.k, .int .i64 q.z.min.n, .string q.z.min.s, .int .i64 q.z.max.k, .int .i64 q.z.max.n, .string q.z.max.s] 69)) w.heap.size q from hq0)
  have hnl := hs.len
  have HNL := Lib.hid hnl
  have hbl := rd_lt hr
  obtain ⟨W1, hW1⟩ : ∃ V, w.alloc (.cells #[.int .i64 q.kind, .slice q.a q.n q.c, .int .i64 q.z.cnt, .int .i64 q.z.nul, .int .i64 q.z.min.k, .int .i64 q.z.min.n, .string q.z.min.s, .int .i64 q.z.max.k, .int .i64 q.z.max.n, .string q.z.max.s] 69) = V := ⟨_, rfl⟩
  rw [hW1] at HQ
  have HW1 := Lib.hid hW1
  have T1 : Hid (Turn w W1 nowhere) := Lib.hid (by rw [← hW1]; exact Turn.alloc _ _ _)
  have h1s : W1.heap.size = w.heap.size + 1 := by rw [← hW1]; simp
  have HS := Lib.hid hs
  have HR := Lib.hid hr
  have HRB := Lib.hid (And.intro hrb hrl)
  have HTT := Lib.hid HT
  have hzM : (M : Int) = 0 → False := by omega
  have HMM := Lib.hid (And.intro hM hM0)
  have HKK := Lib.hid hk
  have HAB := Lib.hid hab
  have hM4 : M ≤ 4096 := by omega
  have qM : ((M : Int) == 0) = false := beq_eq_false_iff_ne.2 (by omega)
  have HZ := Lib.hid hz
  have H1S := Lib.hid h1s
  clear h1s hq0 hW1 hs hr hrb hrl HT hzM hM hM0 hnl hk hz hab
  go_enter Tryz.func35, Tryz.ntmps35
  go_upto_region 1 with (fail)
  rw [HW1.out]
  obtain ⟨d0, d1, d2, d3, d4, d5, d6, d7, d8, d9⟩ := HQ.out.cellsAt
  go_upto_region 2 with (fail)
  have R2 := Lib.hid (made_cells q.n (by omega) W1)
  obtain ⟨W2, hW2⟩ : ∃ V, W1.alloc (.cells (roomC q.n) 24) = V := ⟨_, rfl⟩
  obtain ⟨gl, hgl⟩ : ∃ g, g = W1.heap.size := ⟨_, rfl⟩
  rw [hW2, ← hgl] at R2 ⊢
  have HQ2 : Hid (HB W2 w.heap.size q) := Lib.hid (by rw [← hW2]; exact HQ.out.old (Turn.alloc _ _ _))
  have T2 : Hid (Turn w W2 nowhere) := Lib.hid (by rw [← hW2]; exact T1.out.trans (Turn.alloc _ _ _) (fun _ _ h => h))
  have hgl2 : gl < W2.heap.size := (R2.out.lt _ rfl).2
  have hgl3 : w.heap.size < gl := by have := H1S.out; omega
  have HVA := Lib.hid (values_any q (M : Int) HZ.out (by omega) W2)
  clear hW2 d0 d1 d2 d3 d4 d5 d6 d7 d8 d9 HQ T1 hmk hgl
  obtain ⟨d0, d1, d2, d3, d4, d5, d6, d7, d8, d9⟩ := HQ2.out.cellsAt
  go_wp2_with fail
  refine HVA.out.mono ?_
  rintro e w3 ⟨rfl, hg3⟩
  have t3 := Pk.turn_of hg3
  have T3 := Lib.hid (T2.out.trans t3 (fun _ _ h => h))
  have R3 := Lib.hid (own_grow R2.out hg3)
  have HQ3 := Lib.hid (HQ2.out.old t3)
  have RD3 := Lib.hid (In.Turn.rd T3.out HR.out id id)
  have h23 := hg3.size
  clear hg3 t3 HVA R2 HQ2 T2 d0 d1 d2 d3 d4 d5 d6 d7 d8 d9
  dsimp only
  have HLF := Lib.hid (Oct.left_yes b g rest w3 RD3.out)
  have HBY := Lib.hid (Oct.bytes_yes b g rest rest.length w3 RD3.out (Nat.le_refl _) (by have := HRB.out.2; omega))
  go_wp2_with fail
  refine HLF.out.mono ?_
  rintro e w3' ⟨rfl, rfl⟩
  dsimp only
  go_wp2_with fail
  refine HBY.out.mono ?_
  intro e w4 hx
  obtain ⟨xb, xq, rfl, hxq, hown4, hg4, hr4⟩ := hx.value
  rw [List.take_of_length_le (Nat.le_refl _)] at hxq hown4
  subst hxq
  have t4 := turn_read hg4
  have S4 := Lib.hid (Bs.Seg.own hown4)
  have T4 : Hid (Turn w w4 (At b)) := Lib.hid ((T3.out.mono (fun _ _ e => e.elim) : Turn w w3 (At b)).trans t4 (fun _ _ h => h))
  have TT4 : Hid (Turn w3 w4 (At b)) := Lib.hid t4
  have R4 : Hid (w4.ownsRow gl 24 3 (.slice (some ⟨gl, 0, none⟩) q.n q.n) q.n (flatC (List.replicate q.n zeroC))) := Lib.hid (own_keep R3.out hg4 (fun g' e1 e2 => by cases e2; have := R3.out.lt _ rfl; simp [Value.ownBlock] at e1; omega))
  have HQ4 := Lib.hid (HQ3.out.turn t4 (by omega))
  have h34 := hg4.size
  have T3' : Hid (Turn w w3 (At b)) := Lib.hid (T3.out.mono (fun _ _ e => e.elim))
  clear hown4 hg4 hr4 hx t4 R3 HQ3 RD3 HLF HBY T3
  dsimp only
  obtain ⟨d0, d1, d2, d3, d4, d5, d6, d7, d8, d9⟩ := HQ4.out.cellsAt
  go_upto_region 5 with (fail)
  clear d0 d1 d2 d3 d4 d5 d6 d7 d8 d9
  obtain ⟨d0, d1, d2, d3, d4, d5, d6, d7, d8, d9⟩ := HQ4.out.cellsAt
  have HCO := Lib.hid (fun W => coderOf_any q.kind W (by rw [HKK.out]; decide) (by rw [HKK.out]; decide))
  have HV2 := Lib.hid (fun W => values_any q (M : Int) HZ.out (by omega) W)
  have hmeth := fun (W : World) => meth_getCells_B W
  have hahead := fun (W : World) => ahead_B W
  go_cut [9, 10] (fun cv ev wx => ∃ (ca : Option Addr) (ck : Nat), cv = .slice ca M ck ∧ ev = .int .i64 0 ∧ (CSeg wx ca M ck cs ∧ (∀ ad, ca = some ad → gl < ad.block)) ∧ HB wx w.heap.size q ∧ Turn w wx (At b) ∧ wx.ownsRow gl 24 3 (.slice (some ⟨gl, 0, none⟩) q.n q.n) q.n (flatC (List.replicate q.n zeroC)))
  case first =>
      go_region_held3 (fun w' => w'.cell? ⟨w.heap.size, 0, none⟩ = some (.int .i64 q.kind) ∧ w'.cell? ⟨w.heap.size, 1, none⟩ = some (.slice q.a q.n q.c) ∧ w'.cell? ⟨w.heap.size, 2, none⟩ = some (.int .i64 q.z.cnt) ∧ w'.cell? ⟨w.heap.size, 3, none⟩ = some (.int .i64 q.z.nul) ∧
          w'.cell? ⟨w.heap.size, 4, none⟩ = some (.int .i64 q.z.min.k) ∧ w'.cell? ⟨w.heap.size, 5, none⟩ = some (.int .i64 q.z.min.n) ∧ w'.cell? ⟨w.heap.size, 6, none⟩ = some (.string q.z.min.s) ∧ w'.cell? ⟨w.heap.size, 7, none⟩ = some (.int .i64 q.z.max.k) ∧ w'.cell? ⟨w.heap.size, 8, none⟩ = some (.int .i64 q.z.max.n) ∧ w'.cell? ⟨w.heap.size, 9, none⟩ = some (.string q.z.max.s)) (go_keep)
        (first
          | (go_at_call 31
             (with_reducible refine (HCO.out _).mono ?_)
             rintro e wv ⟨v2, rfl, hv, htv0⟩
             obtain rfl : v2 = .iface 108 (.agg #[.func (.func 98) #[] #[], .func (.func 99) #[] #[], .func (.func 100) #[] #[], .func (.func 101) #[] #[], .func (.func 102) #[] #[], .func (.func 103) #[] #[]]) := by
               rcases hv with ⟨h, _⟩ | ⟨h, e1⟩ | ⟨h, _⟩
               · have := HKK.out; omega
               · exact e1
               · have := HKK.out; omega
             have htv := (Turn.drew w4 nowhere).trans htv0 (fun _ _ h => h)
             have HQv := Lib.hid (HQ4.out.old htv)
             have TTv := Lib.hid (TT4.out.trans htv (fun _ _ e => e.elim))
             have Rv := Lib.hid (own_grow R4.out htv.grown)
             have SVv := Lib.hid (S4.out.grown htv.grown)
             have h4v := htv.size
             obtain ⟨p0, p1, p2, p3, p4, p5, p6, p7, p8, p9⟩ := HQv.out.cellsAt
             clear hv htv htv0)
          | (go_at_call 61
             (with_reducible refine (HV2.out _).mono ?_)
             rintro e wu ⟨rfl, hgu⟩
             have HQu := Lib.hid (HQv.out.old (Pk.turn_of hgu))
             have TTu := Lib.hid (TTv.out.trans (Pk.turn_of hgu) (fun _ _ e => e.elim))
             have Ru := Lib.hid (own_grow Rv.out hgu)
             have SVu := Lib.hid (SVv.out.grown hgu)
             skip
             have hvu := hgu.size
             obtain ⟨r0, r1, r2, r3, r4, r5, r6, r7, r8, r9⟩ := HQu.out.cellsAt
             clear hgu)
          | (go_at_call 240
             (with_reducible refine (HTT.out _ _ _ SVu.out).mono ?_)
             rintro e wx ⟨htx, ca, ck, rfl, hsx, hfx⟩
             have HQx := Lib.hid (HQu.out.old htx)
             have TTx := Lib.hid (TTu.out.trans htx (fun _ _ e => e.elim))
             have Rx := Lib.hid (own_grow Ru.out htx.grown)
             have CX := Lib.hid (And.intro hsx hfx)
             have hux := htx.size
             obtain ⟨x0, x1, x2, x3, x4, x5, x6, x7, x8, x9⟩ := HQx.out.cellsAt
             clear htx)
          | fail)
      all_goals
        go_wp2
        go_meet
        case rel => exact ⟨ca, ck, rfl, rfl, ⟨hsx, fun ad e => by have := hfx ad e; omega⟩, HQx.out, T3'.out.trans TTx.out (fun _ _ h => h), Rx.out⟩
  case rest =>
    obtain ⟨ca, ck, rfl, rfl, hcs, hq5, ht5, hr5⟩ := hcut
    have CC := Lib.hid hcs
    have HQ5 := Lib.hid hq5
    have T5 := Lib.hid ht5
    have R5 := Lib.hid hr5
    have SF : Bl.Seg wc q.a q.n q.c nl := flags_turn HS.out ht5 (fun ad e h0 => HAB.out ad e h0)
    have hnlc : (nl.length : Int) - (cnt nl : Int) = (M : Int) := by have h1 := HNL.out; have h2 := HMM.out.1; omega
    have HSF : Hid (Nu.spreadF nl (M : Int) = placesF 0 nl) := Lib.hid (if_pos hnlc)
    have hsp := Nu.spread_own q.a q.n q.c nl (M : Int) q.n wc SF (by omega) (by rw [HSF.out, Nu.places_len]; exact HNL.out)
    rw [HSF.out] at hsp
    have HSP := Lib.hid hsp
    have hglc : gl < wc.heap.size := (hr5.lt _ rfl).2
    clear hcs hq5 ht5 hr5 SF hnlc hsp HSF d0 d1 d2 d3 d4 d5 d6 d7 d8 d9 hmeth hahead
    obtain ⟨d0, d1, d2, d3, d4, d5, d6, d7, d8, d9⟩ := HQ5.out.cellsAt
    go_wp2_with fail
    refine HSP.out.mono ?_
    rintro e w6 ⟨sa, sk, rfl, hown6, ht6⟩
    have O6 := Lib.hid hown6
    have T6 : Hid (Turn w w6 (At b)) := Lib.hid (T5.out.trans ht6 (fun _ _ e => e.elim))
    have R6 := Lib.hid (own_grow R5.out ht6.grown)
    have C6 : Hid (CSeg w6 ca M ck cs) := Lib.hid (CC.out.1.old ht6.grown)
    have h56 := ht6.size
    have hgl6 : w.heap.size < gl := hgl3
    have HL0 : Hid (fillD nl cs 0 = List.replicate q.n zeroC) := Lib.hid (by rw [fillD_zero, HNL.out])
    clear hown6 ht6 T5 R5 HSP d0 d1 d2 d3 d4 d5 d6 d7 d8 d9
    dsimp only
    go_wp2
    go_loopw [50] (fun iv wx => ∃ k : Nat, iv = .int .i64 k ∧ k ≤ q.n ∧ wx.ownsRow gl 24 3 (.slice (some ⟨gl, 0, none⟩) q.n q.n) q.n (flatC (fillD nl cs k)) ∧ Turn w6 wx (· = gl)) (fun iv _ => q.n - (intOf iv).toNat)
    case atStart => exact ⟨0, rfl, Nat.zero_le _, by rw [HL0.out]; exact R6.out, Turn.refl _ _⟩
    case round =>
      obtain ⟨k, rfl, hk, rk, tk⟩ := hrel
      have RK := Lib.hid rk
      have TK := Lib.hid tk
      clear rk tk R6 HL0
      by_cases hlt : k < q.n
      · obtain ⟨gs, cgs, es⟩ := Nu.ownsRow_form O6.out (by omega)
        obtain ⟨rfl, rfl⟩ : sa = some ⟨gs, 0, none⟩ ∧ sk = cgs := by cases es; exact ⟨rfl, rfl⟩
        have hkl : k < nl.length := by rw [HNL.out]; exact hlt
        obtain ⟨x, hx⟩ : ∃ x, nl.getD k false = x := ⟨_, rfl⟩
        have hpa := places_at2 nl k hkl x hx
        have hpc := O6.out.cells (g := gs) rfl k (.int .i64 ((placesF 0 nl).getD k 0)) (by rw [List.getElem?_map, List.getElem?_eq_getElem (by rw [Nu.places_len]; exact hkl)]; simp [List.getD, Nu.places_len, hkl])
        have hgsl := O6.out.lt gs rfl
        have hpc2 := TK.out.cell hpc (by rw [Addr.add_lit]; show ¬ gs = gl; omega)
        rw [Addr.add_lit, Nat.zero_add, hpa] at hpc2
        have HST := Lib.hid (fillD_step nl cs k hkl x hx)
        have hlt2 : (k : Int) < (q.n : Int) := by omega
        cases x with
        | true =>
          rw [if_pos rfl] at hpc2
          have HST2 := Lib.hid (HST.out.trans (if_pos rfl))
          clear hx hpa hpc es HST
          go_wp2
          go_roundw
          case rel => exact ⟨k + 1, by go_num, by omega, by rw [HST2.out]; exact RK.out, TK.out⟩
          case measure => simp [intOf]; omega
        | false =>
          rw [if_neg (by decide)] at hpc2
          obtain ⟨i, hi⟩ : ∃ i, i = nextP (nl.take k) := ⟨_, rfl⟩
          have hiM : i < M := by have h1 := next_lt nl k hkl hx; have h2 := HMM.out.1; have h3 := HNL.out; omega
          rw [← hi] at hpc2
          have HST2 := Lib.hid (HST.out.trans (if_neg (by decide)))
          rw [← hi] at HST2
          have C7 : CSeg wr ca M ck cs := cseg_turn C6.out TK.out (fun ad e h => by have h1 := CC.out.2 ad e; have h2 : ad.block = gl := h; omega)
          obtain ⟨B, O, rfl, hcx⟩ := C7.form (by omega)
          obtain ⟨y, hy⟩ : ∃ y, y = cs.getD i zeroC := ⟨_, rfl⟩
          rw [← hy] at HST2
          obtain ⟨c0, c1, c2⟩ := cells_at C7 hiM hy
          obtain ⟨x0, x1, x2⟩ := (CSeg.own RK.out).cells0 k hlt
          have f0 := RK.out.frozenAt (k * 3)
          have f1 := RK.out.frozenAt (k * 3 + 1)
          have f2 := RK.out.frozenAt (k * 3 + 2)
          have hrs := row_set RK.out k y (by rw [fillD_len _ _ _ (by omega)]; exact hkl)
          have HRS := Lib.hid hrs
          have hi0 : (0 : Int) ≤ (i : Int) := by omega
          have hi1 : (i : Int) < (M : Int) := by omega
          clear hx hpa hpc es HST hcx hi hy hrs
          go_upto_region 13 with (fail)
          obtain ⟨W7, hW7⟩ : ∃ V, ((wr.setCell ⟨gl, k * 3, none⟩ (.int .i64 y.k)).setCell ⟨gl, k * 3 + 1, none⟩ (.int .i64 y.n)).setCell ⟨gl, k * 3 + 2, none⟩ (.string y.s) = V := ⟨_, rfl⟩
          rw [hW7] at HRS ⊢
          have R7 : Hid (W7.ownsRow gl 24 3 (.slice (some ⟨gl, 0, none⟩) q.n q.n) q.n (flatC (fillD nl cs (k + 1)))) := Lib.hid (by rw [HST2.out]; exact HRS.out.1)
          have T7 := Lib.hid (TK.out.trans (Turn.of_grown HRS.out.2 (fun i e _ => (Option.some.inj e).symm)) (fun _ _ h => h))
          clear hW7 HRS HST2 c0 c1 c2 x0 x1 x2 f0 f1 f2 hpc2 C7 RK TK
          go_wp2
          go_roundw
          case rel => exact ⟨k + 1, by go_num, by omega, R7.out, T7.out⟩
          case measure => simp [intOf]; omega
      · obtain rfl : k = q.n := by omega
        have hF : fillD nl cs q.n = mergeS nl cs := by have h := fillD_all nl cs; rwa [HNL.out] at h
        rw [hF] at RK
        have HF : Hid (CellsX b w q.n (some (mergeS nl cs)) (.returned (.tuple #[.slice (some ⟨gl, 0, none⟩) q.n q.n, .int .i64 0])) wr) := Lib.hid ⟨T6.out.trans TK.out (fun i hi e => by have h2 : i = gl := e; omega), _, _, rfl, CSeg.own RK.out⟩
        clear hF hlt RK TK
        go_wp2
        go_ret2
        exact HF.out

set_option maxRecDepth 100000 in
set_option maxHeartbeats 8000000 in
theorem getSeg_no_T (q : Hd) (b g : Nat) (nl : List Bool) (rest : List Int) (M : Nat) (w : World) (hk : q.kind = 3) (hs : Bl.Seg w q.a q.n q.c nl) (hn : q.n ≤ 4096) (hz : q.z.cnt - q.z.nul = (M : Int)) (hM : q.n = cnt nl + M) (hM0 : 0 < M) (hr : Rd w b g rest) (hab : ∀ ad, q.a = some ad → q.n ≠ 0 → ad.block ≠ b) (hrb : Oct.IsB rest) (hrl : rest.length ≤ 100000000)
    (HT : ∀ (cb : Nat) (a : Option Addr) (c : Nat) (W : World), BoxT W cb → Bs.Seg W a rest.length c rest → Calls Tryz.prog 244 #[.agg #[.func (.func 105) #[] #[], .func (.func 106) #[] #[], .func (.func 107) #[] #[], .func (.func 108) #[] #[], .func (.func 109) #[] #[], .func (.func 146) #[] #[.pointer (some ⟨cb, 0, none⟩)]], .slice a rest.length c, .int .i64 (M : Int)] W (NoX W)) :
    Calls Tryz.prog 35 #[.agg #[.int .i64 q.kind, .slice q.a q.n q.c, .int .i64 q.z.cnt, .int .i64 q.z.nul, .int .i64 q.z.min.k, .int .i64 q.z.min.n, .string q.z.min.s, .int .i64 q.z.max.k, .int .i64 q.z.max.n, .string q.z.max.s], .pointer (some ⟨b, 0, none⟩)] w (CellsX b w q.n (none)) := by
  have hmk := make_cells q.n (by omega)
  have hq0 := heap_alloc_new w (.cells #[.int .i64 q.kind, .slice q.a q.n q.c, .int .i64 q.z.cnt, .int .i64 q.z.nul, .int .i64 q.z.min.k, .int .i64 q.z.min.n, .string q.z.min.s, .int .i64 q.z.max.k, .int .i64 q.z.max.n, .string q.z.max.s] 69)
  have HQ := Lib.hid (show HB (w.alloc (.cells #[.int .i64 q.kind, .slice q.a q.n q.c, .int .i64 q.z.cnt, .int .i64 q.z.nul, .int .i64 q.z.min.k, .int .i64 q.z.min.n, .string q.z.min.s, .int .i64 q.z.max.k, .int .i64 q.z.max.n, .string q.z.max.s] 69)) w.heap.size q from hq0)
  have hnl := hs.len
  have HNL := Lib.hid hnl
  have hbl := rd_lt hr
  obtain ⟨W1, hW1⟩ : ∃ V, w.alloc (.cells #[.int .i64 q.kind, .slice q.a q.n q.c, .int .i64 q.z.cnt, .int .i64 q.z.nul, .int .i64 q.z.min.k, .int .i64 q.z.min.n, .string q.z.min.s, .int .i64 q.z.max.k, .int .i64 q.z.max.n, .string q.z.max.s] 69) = V := ⟨_, rfl⟩
  rw [hW1] at HQ
  have HW1 := Lib.hid hW1
  have T1 : Hid (Turn w W1 nowhere) := Lib.hid (by rw [← hW1]; exact Turn.alloc _ _ _)
  have h1s : W1.heap.size = w.heap.size + 1 := by rw [← hW1]; simp
  have HS := Lib.hid hs
  have HR := Lib.hid hr
  have HRB := Lib.hid (And.intro hrb hrl)
  have HTT := Lib.hid HT
  have hzM : (M : Int) = 0 → False := by omega
  have HMM := Lib.hid (And.intro hM hM0)
  have HKK := Lib.hid hk
  have HAB := Lib.hid hab
  have hM4 : M ≤ 4096 := by omega
  have qM : ((M : Int) == 0) = false := beq_eq_false_iff_ne.2 (by omega)
  have HZ := Lib.hid hz
  have H1S := Lib.hid h1s
  clear h1s hq0 hW1 hs hr hrb hrl HT hzM hM hM0 hnl hk hz hab
  go_enter Tryz.func35, Tryz.ntmps35
  go_upto_region 1 with (fail)
  rw [HW1.out]
  obtain ⟨d0, d1, d2, d3, d4, d5, d6, d7, d8, d9⟩ := HQ.out.cellsAt
  go_upto_region 2 with (fail)
  have R2 := Lib.hid (made_cells q.n (by omega) W1)
  obtain ⟨W2, hW2⟩ : ∃ V, W1.alloc (.cells (roomC q.n) 24) = V := ⟨_, rfl⟩
  obtain ⟨gl, hgl⟩ : ∃ g, g = W1.heap.size := ⟨_, rfl⟩
  rw [hW2, ← hgl] at R2 ⊢
  have HQ2 : Hid (HB W2 w.heap.size q) := Lib.hid (by rw [← hW2]; exact HQ.out.old (Turn.alloc _ _ _))
  have T2 : Hid (Turn w W2 nowhere) := Lib.hid (by rw [← hW2]; exact T1.out.trans (Turn.alloc _ _ _) (fun _ _ h => h))
  have hgl2 : gl < W2.heap.size := (R2.out.lt _ rfl).2
  have hgl3 : w.heap.size < gl := by have := H1S.out; omega
  have HVA := Lib.hid (values_any q (M : Int) HZ.out (by omega) W2)
  clear hW2 d0 d1 d2 d3 d4 d5 d6 d7 d8 d9 HQ T1 hmk hgl
  obtain ⟨d0, d1, d2, d3, d4, d5, d6, d7, d8, d9⟩ := HQ2.out.cellsAt
  go_wp2_with fail
  refine HVA.out.mono ?_
  rintro e w3 ⟨rfl, hg3⟩
  have t3 := Pk.turn_of hg3
  have T3 := Lib.hid (T2.out.trans t3 (fun _ _ h => h))
  have R3 := Lib.hid (own_grow R2.out hg3)
  have HQ3 := Lib.hid (HQ2.out.old t3)
  have RD3 := Lib.hid (In.Turn.rd T3.out HR.out id id)
  have h23 := hg3.size
  clear hg3 t3 HVA R2 HQ2 T2 d0 d1 d2 d3 d4 d5 d6 d7 d8 d9
  dsimp only
  have HLF := Lib.hid (Oct.left_yes b g rest w3 RD3.out)
  have HBY := Lib.hid (Oct.bytes_yes b g rest rest.length w3 RD3.out (Nat.le_refl _) (by have := HRB.out.2; omega))
  go_wp2_with fail
  refine HLF.out.mono ?_
  rintro e w3' ⟨rfl, rfl⟩
  dsimp only
  go_wp2_with fail
  refine HBY.out.mono ?_
  intro e w4 hx
  obtain ⟨xb, xq, rfl, hxq, hown4, hg4, hr4⟩ := hx.value
  rw [List.take_of_length_le (Nat.le_refl _)] at hxq hown4
  subst hxq
  have t4 := turn_read hg4
  have S4 := Lib.hid (Bs.Seg.own hown4)
  have T4 : Hid (Turn w w4 (At b)) := Lib.hid ((T3.out.mono (fun _ _ e => e.elim) : Turn w w3 (At b)).trans t4 (fun _ _ h => h))
  have TT4 : Hid (Turn w3 w4 (At b)) := Lib.hid t4
  have R4 : Hid (w4.ownsRow gl 24 3 (.slice (some ⟨gl, 0, none⟩) q.n q.n) q.n (flatC (List.replicate q.n zeroC))) := Lib.hid (own_keep R3.out hg4 (fun g' e1 e2 => by cases e2; have := R3.out.lt _ rfl; simp [Value.ownBlock] at e1; omega))
  have HQ4 := Lib.hid (HQ3.out.turn t4 (by omega))
  have h34 := hg4.size
  have T3' : Hid (Turn w w3 (At b)) := Lib.hid (T3.out.mono (fun _ _ e => e.elim))
  clear hown4 hg4 hr4 hx t4 R3 HQ3 RD3 HLF HBY T3
  dsimp only
  obtain ⟨d0, d1, d2, d3, d4, d5, d6, d7, d8, d9⟩ := HQ4.out.cellsAt
  go_upto_region 5 with (fail)
  clear d0 d1 d2 d3 d4 d5 d6 d7 d8 d9
  obtain ⟨d0, d1, d2, d3, d4, d5, d6, d7, d8, d9⟩ := HQ4.out.cellsAt
  have HCO := Lib.hid (fun W => coderOf_any q.kind W (by rw [HKK.out]; decide) (by rw [HKK.out]; decide))
  have HV2 := Lib.hid (fun W => values_any q (M : Int) HZ.out (by omega) W)
  have hmeth := fun (cb : Nat) (W : World) => meth_getCells_T cb W
  have hahead := fun (cb : Nat) (W : World) => ahead_T cb W
  go_cut [9, 10] (fun _ ev wx => ∃ er : Int, er ≠ 0 ∧ ev = .int .i64 er ∧ Turn w wx (At b))
  case first =>
      go_region_held3 (fun w' => w'.cell? ⟨w.heap.size, 0, none⟩ = some (.int .i64 q.kind) ∧ w'.cell? ⟨w.heap.size, 1, none⟩ = some (.slice q.a q.n q.c) ∧ w'.cell? ⟨w.heap.size, 2, none⟩ = some (.int .i64 q.z.cnt) ∧ w'.cell? ⟨w.heap.size, 3, none⟩ = some (.int .i64 q.z.nul) ∧
          w'.cell? ⟨w.heap.size, 4, none⟩ = some (.int .i64 q.z.min.k) ∧ w'.cell? ⟨w.heap.size, 5, none⟩ = some (.int .i64 q.z.min.n) ∧ w'.cell? ⟨w.heap.size, 6, none⟩ = some (.string q.z.min.s) ∧ w'.cell? ⟨w.heap.size, 7, none⟩ = some (.int .i64 q.z.max.k) ∧ w'.cell? ⟨w.heap.size, 8, none⟩ = some (.int .i64 q.z.max.n) ∧ w'.cell? ⟨w.heap.size, 9, none⟩ = some (.string q.z.max.s)) (go_keep)
        (first
          | (go_at_call 31
             (with_reducible refine (HCO.out _).mono ?_)
             rintro e wv ⟨v2, rfl, hv, htv0⟩
             obtain ⟨cb, rfl, hbx⟩ : ∃ cb, v2 = .iface 117 (.agg #[.func (.func 105) #[] #[], .func (.func 106) #[] #[], .func (.func 107) #[] #[], .func (.func 108) #[] #[], .func (.func 109) #[] #[], .func (.func 146) #[] #[.pointer (some ⟨cb, 0, none⟩)]]) ∧ BoxT wv cb := by
               rcases hv with ⟨h, b, e1, e2⟩ | ⟨h, e1⟩ | ⟨h, b, e1, e2⟩
               · have := HKK.out; omega
               · have := HKK.out; omega
               · exact ⟨b, e1, e2⟩
             have BXv := Lib.hid hbx
             have htv := (Turn.drew w4 nowhere).trans htv0 (fun _ _ h => h)
             have HQv := Lib.hid (HQ4.out.old htv)
             have TTv := Lib.hid (TT4.out.trans htv (fun _ _ e => e.elim))
             have Rv := Lib.hid (own_grow R4.out htv.grown)
             have SVv := Lib.hid (S4.out.grown htv.grown)
             have h4v := htv.size
             obtain ⟨p0, p1, p2, p3, p4, p5, p6, p7, p8, p9⟩ := HQv.out.cellsAt
             clear hv htv htv0)
          | (go_at_call 61
             (with_reducible refine (HV2.out _).mono ?_)
             rintro e wu ⟨rfl, hgu⟩
             have HQu := Lib.hid (HQv.out.old (Pk.turn_of hgu))
             have TTu := Lib.hid (TTv.out.trans (Pk.turn_of hgu) (fun _ _ e => e.elim))
             have Ru := Lib.hid (own_grow Rv.out hgu)
             have SVu := Lib.hid (SVv.out.grown hgu)
             have BXu := Lib.hid (BXv.out.old (Pk.turn_of hgu))
             have hvu := hgu.size
             obtain ⟨r0, r1, r2, r3, r4, r5, r6, r7, r8, r9⟩ := HQu.out.cellsAt
             clear hgu)
          | (go_at_call 244
             (with_reducible refine (HTT.out cb _ _ _ BXu.out SVu.out).mono ?_)
             rintro e wx ⟨htx, er, her, rfl⟩
             have HQx := Lib.hid (HQu.out.old htx)
             have TTx := Lib.hid (TTu.out.trans htx (fun _ _ e => e.elim))
             have Rx := Lib.hid (own_grow Ru.out htx.grown)
             skip
             have hux := htx.size
             obtain ⟨x0, x1, x2, x3, x4, x5, x6, x7, x8, x9⟩ := HQx.out.cellsAt
             clear htx)
          | fail)
      all_goals
        go_wp2
        go_meet
        case rel => exact ⟨er, her, rfl, T3'.out.trans TTx.out (fun _ _ h => h)⟩
  case rest =>
    obtain ⟨er, her, rfl, hfin⟩ := hcut
    have hq : (er != 0) = true := bne_iff_ne.2 her
    have HF : Hid (CellsX b w q.n none (.returned (.tuple #[.slice none 0 0, .int .i64 er])) wc) := Lib.hid ⟨hfin, er, her, rfl⟩
    clear her hfin d0 d1 d2 d3 d4 d5 d6 d7 d8 d9 hmeth hahead
    go_wp2
    go_ret2
    exact HF.out

set_option maxRecDepth 100000 in
set_option maxHeartbeats 8000000 in
theorem getSeg_yes_T (q : Hd) (b g : Nat) (nl : List Bool) (rest : List Int) (M : Nat) (cs : List Cel) (w : World) (hk : q.kind = 3) (hs : Bl.Seg w q.a q.n q.c nl) (hn : q.n ≤ 4096) (hz : q.z.cnt - q.z.nul = (M : Int)) (hM : q.n = cnt nl + M) (hM0 : 0 < M) (hr : Rd w b g rest) (hab : ∀ ad, q.a = some ad → q.n ≠ 0 → ad.block ≠ b) (hrb : Oct.IsB rest) (hrl : rest.length ≤ 100000000)
    (HT : ∀ (cb : Nat) (a : Option Addr) (c : Nat) (W : World), BoxT W cb → Bs.Seg W a rest.length c rest → Calls Tryz.prog 244 #[.agg #[.func (.func 105) #[] #[], .func (.func 106) #[] #[], .func (.func 107) #[] #[], .func (.func 108) #[] #[], .func (.func 109) #[] #[], .func (.func 146) #[] #[.pointer (some ⟨cb, 0, none⟩)]], .slice a rest.length c, .int .i64 (M : Int)] W (GotC W M cs)) :
    Calls Tryz.prog 35 #[.agg #[.int .i64 q.kind, .slice q.a q.n q.c, .int .i64 q.z.cnt, .int .i64 q.z.nul, .int .i64 q.z.min.k, .int .i64 q.z.min.n, .string q.z.min.s, .int .i64 q.z.max.k, .int .i64 q.z.max.n, .string q.z.max.s], .pointer (some ⟨b, 0, none⟩)] w (CellsX b w q.n (some (mergeS nl cs))) := by
  have hmk := make_cells q.n (by omega)
  have hq0 := heap_alloc_new w (.cells #[.int .i64 q.kind, .slice q.a q.n q.c, .int .i64 q.z.cnt, .int .i64 q.z.nul, .int .i64 q.z.min.k, .int .i64 q.z.min.n, .string q.z.min.s, .int .i64 q.z.max.k, .int .i64 q.z.max.n, .string q.z.max.s] 69)
  have HQ := Lib.hid (show HB (w.alloc (.cells #[.int .i64 q.kind, .slice q.a q.n q.c, .int .i64 q.z.cnt, .int .i64 q.z.nul, .int .i64 q.z.min.k, .int .i64 q.z.min.n, .string q.z.min.s, .int .i64 q.z.max.k, .int .i64 q.z.max.n, .string q.z.max.s] 69)) w.heap.size q from hq0)
  have hnl := hs.len
  have HNL := Lib.hid hnl
  have hbl := rd_lt hr
  obtain ⟨W1, hW1⟩ : ∃ V, w.alloc (.cells #[.int .i64 q.kind, .slice q.a q.n q.c, .int .i64 q.z.cnt, .int .i64 q.z.nul, .int .i64 q.z.min.k, .int .i64 q.z.min.n, .string q.z.min.s, .int .i64 q.z.max.k, .int .i64 q.z.max.n, .string q.z.max.s] 69) = V := ⟨_, rfl⟩
  rw [hW1] at HQ
  have HW1 := Lib.hid hW1
  have T1 : Hid (Turn w W1 nowhere) := Lib.hid (by rw [← hW1]; exact Turn.alloc _ _ _)
  have h1s : W1.heap.size = w.heap.size + 1 := by rw [← hW1]; simp
  have HS := Lib.hid hs
  have HR := Lib.hid hr
  have HRB := Lib.hid (And.intro hrb hrl)
  have HTT := Lib.hid HT
  have hzM : (M : Int) = 0 → False := by omega
  have HMM := Lib.hid (And.intro hM hM0)
  have HKK := Lib.hid hk
  have HAB := Lib.hid hab
  have hM4 : M ≤ 4096 := by omega
  have qM : ((M : Int) == 0) = false := beq_eq_false_iff_ne.2 (by omega)
  have HZ := Lib.hid hz
  have H1S := Lib.hid h1s
  clear h1s hq0 hW1 hs hr hrb hrl HT hzM hM hM0 hnl hk hz hab
  go_enter Tryz.func35, Tryz.ntmps35
  go_upto_region 1 with (fail)
  rw [HW1.out]
  obtain ⟨d0, d1, d2, d3, d4, d5, d6, d7, d8, d9⟩ := HQ.out.cellsAt
  go_upto_region 2 with (fail)
  have R2 := Lib.hid (made_cells q.n (by omega) W1)
  obtain ⟨W2, hW2⟩ : ∃ V, W1.alloc (.cells (roomC q.n) 24) = V := ⟨_, rfl⟩
  obtain ⟨gl, hgl⟩ : ∃ g, g = W1.heap.size := ⟨_, rfl⟩
  rw [hW2, ← hgl] at R2 ⊢
  have HQ2 : Hid (HB W2 w.heap.size q) := Lib.hid (by rw [← hW2]; exact HQ.out.old (Turn.alloc _ _ _))
  have T2 : Hid (Turn w W2 nowhere) := Lib.hid (by rw [← hW2]; exact T1.out.trans (Turn.alloc _ _ _) (fun _ _ h => h))
  have hgl2 : gl < W2.heap.size := (R2.out.lt _ rfl).2
  have hgl3 : w.heap.size < gl := by have := H1S.out; omega
  have HVA := Lib.hid (values_any q (M : Int) HZ.out (by omega) W2)
  clear hW2 d0 d1 d2 d3 d4 d5 d6 d7 d8 d9 HQ T1 hmk hgl
  obtain ⟨d0, d1, d2, d3, d4, d5, d6, d7, d8, d9⟩ := HQ2.out.cellsAt
  go_wp2_with fail
  refine HVA.out.mono ?_
  rintro e w3 ⟨rfl, hg3⟩
  have t3 := Pk.turn_of hg3
  have T3 := Lib.hid (T2.out.trans t3 (fun _ _ h => h))
  have R3 := Lib.hid (own_grow R2.out hg3)
  have HQ3 := Lib.hid (HQ2.out.old t3)
  have RD3 := Lib.hid (In.Turn.rd T3.out HR.out id id)
  have h23 := hg3.size
  clear hg3 t3 HVA R2 HQ2 T2 d0 d1 d2 d3 d4 d5 d6 d7 d8 d9
  dsimp only
  have HLF := Lib.hid (Oct.left_yes b g rest w3 RD3.out)
  have HBY := Lib.hid (Oct.bytes_yes b g rest rest.length w3 RD3.out (Nat.le_refl _) (by have := HRB.out.2; omega))
  go_wp2_with fail
  refine HLF.out.mono ?_
  rintro e w3' ⟨rfl, rfl⟩
  dsimp only
  go_wp2_with fail
  refine HBY.out.mono ?_
  intro e w4 hx
  obtain ⟨xb, xq, rfl, hxq, hown4, hg4, hr4⟩ := hx.value
  rw [List.take_of_length_le (Nat.le_refl _)] at hxq hown4
  subst hxq
  have t4 := turn_read hg4
  have S4 := Lib.hid (Bs.Seg.own hown4)
  have T4 : Hid (Turn w w4 (At b)) := Lib.hid ((T3.out.mono (fun _ _ e => e.elim) : Turn w w3 (At b)).trans t4 (fun _ _ h => h))
  have TT4 : Hid (Turn w3 w4 (At b)) := Lib.hid t4
  have R4 : Hid (w4.ownsRow gl 24 3 (.slice (some ⟨gl, 0, none⟩) q.n q.n) q.n (flatC (List.replicate q.n zeroC))) := Lib.hid (own_keep R3.out hg4 (fun g' e1 e2 => by cases e2; have := R3.out.lt _ rfl; simp [Value.ownBlock] at e1; omega))
  have HQ4 := Lib.hid (HQ3.out.turn t4 (by omega))
  have h34 := hg4.size
  have T3' : Hid (Turn w w3 (At b)) := Lib.hid (T3.out.mono (fun _ _ e => e.elim))
  clear hown4 hg4 hr4 hx t4 R3 HQ3 RD3 HLF HBY T3
  dsimp only
  obtain ⟨d0, d1, d2, d3, d4, d5, d6, d7, d8, d9⟩ := HQ4.out.cellsAt
  go_upto_region 5 with (fail)
  clear d0 d1 d2 d3 d4 d5 d6 d7 d8 d9
  obtain ⟨d0, d1, d2, d3, d4, d5, d6, d7, d8, d9⟩ := HQ4.out.cellsAt
  have HCO := Lib.hid (fun W => coderOf_any q.kind W (by rw [HKK.out]; decide) (by rw [HKK.out]; decide))
  have HV2 := Lib.hid (fun W => values_any q (M : Int) HZ.out (by omega) W)
  have hmeth := fun (cb : Nat) (W : World) => meth_getCells_T cb W
  have hahead := fun (cb : Nat) (W : World) => ahead_T cb W
  go_cut [9, 10] (fun cv ev wx => ∃ (ca : Option Addr) (ck : Nat), cv = .slice ca M ck ∧ ev = .int .i64 0 ∧ (CSeg wx ca M ck cs ∧ (∀ ad, ca = some ad → gl < ad.block)) ∧ HB wx w.heap.size q ∧ Turn w wx (At b) ∧ wx.ownsRow gl 24 3 (.slice (some ⟨gl, 0, none⟩) q.n q.n) q.n (flatC (List.replicate q.n zeroC)))
  case first =>
      go_region_held3 (fun w' => w'.cell? ⟨w.heap.size, 0, none⟩ = some (.int .i64 q.kind) ∧ w'.cell? ⟨w.heap.size, 1, none⟩ = some (.slice q.a q.n q.c) ∧ w'.cell? ⟨w.heap.size, 2, none⟩ = some (.int .i64 q.z.cnt) ∧ w'.cell? ⟨w.heap.size, 3, none⟩ = some (.int .i64 q.z.nul) ∧
          w'.cell? ⟨w.heap.size, 4, none⟩ = some (.int .i64 q.z.min.k) ∧ w'.cell? ⟨w.heap.size, 5, none⟩ = some (.int .i64 q.z.min.n) ∧ w'.cell? ⟨w.heap.size, 6, none⟩ = some (.string q.z.min.s) ∧ w'.cell? ⟨w.heap.size, 7, none⟩ = some (.int .i64 q.z.max.k) ∧ w'.cell? ⟨w.heap.size, 8, none⟩ = some (.int .i64 q.z.max.n) ∧ w'.cell? ⟨w.heap.size, 9, none⟩ = some (.string q.z.max.s)) (go_keep)
        (first
          | (go_at_call 31
             (with_reducible refine (HCO.out _).mono ?_)
             rintro e wv ⟨v2, rfl, hv, htv0⟩
             obtain ⟨cb, rfl, hbx⟩ : ∃ cb, v2 = .iface 117 (.agg #[.func (.func 105) #[] #[], .func (.func 106) #[] #[], .func (.func 107) #[] #[], .func (.func 108) #[] #[], .func (.func 109) #[] #[], .func (.func 146) #[] #[.pointer (some ⟨cb, 0, none⟩)]]) ∧ BoxT wv cb := by
               rcases hv with ⟨h, b, e1, e2⟩ | ⟨h, e1⟩ | ⟨h, b, e1, e2⟩
               · have := HKK.out; omega
               · have := HKK.out; omega
               · exact ⟨b, e1, e2⟩
             have BXv := Lib.hid hbx
             have htv := (Turn.drew w4 nowhere).trans htv0 (fun _ _ h => h)
             have HQv := Lib.hid (HQ4.out.old htv)
             have TTv := Lib.hid (TT4.out.trans htv (fun _ _ e => e.elim))
             have Rv := Lib.hid (own_grow R4.out htv.grown)
             have SVv := Lib.hid (S4.out.grown htv.grown)
             have h4v := htv.size
             obtain ⟨p0, p1, p2, p3, p4, p5, p6, p7, p8, p9⟩ := HQv.out.cellsAt
             clear hv htv htv0)
          | (go_at_call 61
             (with_reducible refine (HV2.out _).mono ?_)
             rintro e wu ⟨rfl, hgu⟩
             have HQu := Lib.hid (HQv.out.old (Pk.turn_of hgu))
             have TTu := Lib.hid (TTv.out.trans (Pk.turn_of hgu) (fun _ _ e => e.elim))
             have Ru := Lib.hid (own_grow Rv.out hgu)
             have SVu := Lib.hid (SVv.out.grown hgu)
             have BXu := Lib.hid (BXv.out.old (Pk.turn_of hgu))
             have hvu := hgu.size
             obtain ⟨r0, r1, r2, r3, r4, r5, r6, r7, r8, r9⟩ := HQu.out.cellsAt
             clear hgu)
          | (go_at_call 244
             (with_reducible refine (HTT.out cb _ _ _ BXu.out SVu.out).mono ?_)
             rintro e wx ⟨htx, ca, ck, rfl, hsx, hfx⟩
             have HQx := Lib.hid (HQu.out.old htx)
             have TTx := Lib.hid (TTu.out.trans htx (fun _ _ e => e.elim))
             have Rx := Lib.hid (own_grow Ru.out htx.grown)
             have CX := Lib.hid (And.intro hsx hfx)
             have hux := htx.size
             obtain ⟨x0, x1, x2, x3, x4, x5, x6, x7, x8, x9⟩ := HQx.out.cellsAt
             clear htx)
          | fail)
      all_goals
        go_wp2
        go_meet
        case rel => exact ⟨ca, ck, rfl, rfl, ⟨hsx, fun ad e => by have := hfx ad e; omega⟩, HQx.out, T3'.out.trans TTx.out (fun _ _ h => h), Rx.out⟩
  case rest =>
    obtain ⟨ca, ck, rfl, rfl, hcs, hq5, ht5, hr5⟩ := hcut
    have CC := Lib.hid hcs
    have HQ5 := Lib.hid hq5
    have T5 := Lib.hid ht5
    have R5 := Lib.hid hr5
    have SF : Bl.Seg wc q.a q.n q.c nl := flags_turn HS.out ht5 (fun ad e h0 => HAB.out ad e h0)
    have hnlc : (nl.length : Int) - (cnt nl : Int) = (M : Int) := by have h1 := HNL.out; have h2 := HMM.out.1; omega
    have HSF : Hid (Nu.spreadF nl (M : Int) = placesF 0 nl) := Lib.hid (if_pos hnlc)
    have hsp := Nu.spread_own q.a q.n q.c nl (M : Int) q.n wc SF (by omega) (by rw [HSF.out, Nu.places_len]; exact HNL.out)
    rw [HSF.out] at hsp
    have HSP := Lib.hid hsp
    have hglc : gl < wc.heap.size := (hr5.lt _ rfl).2
    clear hcs hq5 ht5 hr5 SF hnlc hsp HSF d0 d1 d2 d3 d4 d5 d6 d7 d8 d9 hmeth hahead
    obtain ⟨d0, d1, d2, d3, d4, d5, d6, d7, d8, d9⟩ := HQ5.out.cellsAt
    go_wp2_with fail
    refine HSP.out.mono ?_
    rintro e w6 ⟨sa, sk, rfl, hown6, ht6⟩
    have O6 := Lib.hid hown6
    have T6 : Hid (Turn w w6 (At b)) := Lib.hid (T5.out.trans ht6 (fun _ _ e => e.elim))
    have R6 := Lib.hid (own_grow R5.out ht6.grown)
    have C6 : Hid (CSeg w6 ca M ck cs) := Lib.hid (CC.out.1.old ht6.grown)
    have h56 := ht6.size
    have hgl6 : w.heap.size < gl := hgl3
    have HL0 : Hid (fillD nl cs 0 = List.replicate q.n zeroC) := Lib.hid (by rw [fillD_zero, HNL.out])
    clear hown6 ht6 T5 R5 HSP d0 d1 d2 d3 d4 d5 d6 d7 d8 d9
    dsimp only
    go_wp2
    go_loopw [50] (fun iv wx => ∃ k : Nat, iv = .int .i64 k ∧ k ≤ q.n ∧ wx.ownsRow gl 24 3 (.slice (some ⟨gl, 0, none⟩) q.n q.n) q.n (flatC (fillD nl cs k)) ∧ Turn w6 wx (· = gl)) (fun iv _ => q.n - (intOf iv).toNat)
    case atStart => exact ⟨0, rfl, Nat.zero_le _, by rw [HL0.out]; exact R6.out, Turn.refl _ _⟩
    case round =>
      obtain ⟨k, rfl, hk, rk, tk⟩ := hrel
      have RK := Lib.hid rk
      have TK := Lib.hid tk
      clear rk tk R6 HL0
      by_cases hlt : k < q.n
      · obtain ⟨gs, cgs, es⟩ := Nu.ownsRow_form O6.out (by omega)
        obtain ⟨rfl, rfl⟩ : sa = some ⟨gs, 0, none⟩ ∧ sk = cgs := by cases es; exact ⟨rfl, rfl⟩
        have hkl : k < nl.length := by rw [HNL.out]; exact hlt
        obtain ⟨x, hx⟩ : ∃ x, nl.getD k false = x := ⟨_, rfl⟩
        have hpa := places_at2 nl k hkl x hx
        have hpc := O6.out.cells (g := gs) rfl k (.int .i64 ((placesF 0 nl).getD k 0)) (by rw [List.getElem?_map, List.getElem?_eq_getElem (by rw [Nu.places_len]; exact hkl)]; simp [List.getD, Nu.places_len, hkl])
        have hgsl := O6.out.lt gs rfl
        have hpc2 := TK.out.cell hpc (by rw [Addr.add_lit]; show ¬ gs = gl; omega)
        rw [Addr.add_lit, Nat.zero_add, hpa] at hpc2
        have HST := Lib.hid (fillD_step nl cs k hkl x hx)
        have hlt2 : (k : Int) < (q.n : Int) := by omega
        cases x with
        | true =>
          rw [if_pos rfl] at hpc2
          have HST2 := Lib.hid (HST.out.trans (if_pos rfl))
          clear hx hpa hpc es HST
          go_wp2
          go_roundw
          case rel => exact ⟨k + 1, by go_num, by omega, by rw [HST2.out]; exact RK.out, TK.out⟩
          case measure => simp [intOf]; omega
        | false =>
          rw [if_neg (by decide)] at hpc2
          obtain ⟨i, hi⟩ : ∃ i, i = nextP (nl.take k) := ⟨_, rfl⟩
          have hiM : i < M := by have h1 := next_lt nl k hkl hx; have h2 := HMM.out.1; have h3 := HNL.out; omega
          rw [← hi] at hpc2
          have HST2 := Lib.hid (HST.out.trans (if_neg (by decide)))
          rw [← hi] at HST2
          have C7 : CSeg wr ca M ck cs := cseg_turn C6.out TK.out (fun ad e h => by have h1 := CC.out.2 ad e; have h2 : ad.block = gl := h; omega)
          obtain ⟨B, O, rfl, hcx⟩ := C7.form (by omega)
          obtain ⟨y, hy⟩ : ∃ y, y = cs.getD i zeroC := ⟨_, rfl⟩
          rw [← hy] at HST2
          obtain ⟨c0, c1, c2⟩ := cells_at C7 hiM hy
          obtain ⟨x0, x1, x2⟩ := (CSeg.own RK.out).cells0 k hlt
          have f0 := RK.out.frozenAt (k * 3)
          have f1 := RK.out.frozenAt (k * 3 + 1)
          have f2 := RK.out.frozenAt (k * 3 + 2)
          have hrs := row_set RK.out k y (by rw [fillD_len _ _ _ (by omega)]; exact hkl)
          have HRS := Lib.hid hrs
          have hi0 : (0 : Int) ≤ (i : Int) := by omega
          have hi1 : (i : Int) < (M : Int) := by omega
          clear hx hpa hpc es HST hcx hi hy hrs
          go_upto_region 13 with (fail)
          obtain ⟨W7, hW7⟩ : ∃ V, ((wr.setCell ⟨gl, k * 3, none⟩ (.int .i64 y.k)).setCell ⟨gl, k * 3 + 1, none⟩ (.int .i64 y.n)).setCell ⟨gl, k * 3 + 2, none⟩ (.string y.s) = V := ⟨_, rfl⟩
          rw [hW7] at HRS ⊢
          have R7 : Hid (W7.ownsRow gl 24 3 (.slice (some ⟨gl, 0, none⟩) q.n q.n) q.n (flatC (fillD nl cs (k + 1)))) := Lib.hid (by rw [HST2.out]; exact HRS.out.1)
          have T7 := Lib.hid (TK.out.trans (Turn.of_grown HRS.out.2 (fun i e _ => (Option.some.inj e).symm)) (fun _ _ h => h))
          clear hW7 HRS HST2 c0 c1 c2 x0 x1 x2 f0 f1 f2 hpc2 C7 RK TK
          go_wp2
          go_roundw
          case rel => exact ⟨k + 1, by go_num, by omega, R7.out, T7.out⟩
          case measure => simp [intOf]; omega
      · obtain rfl : k = q.n := by omega
        have hF : fillD nl cs q.n = mergeS nl cs := by have h := fillD_all nl cs; rwa [HNL.out] at h
        rw [hF] at RK
        have HF : Hid (CellsX b w q.n (some (mergeS nl cs)) (.returned (.tuple #[.slice (some ⟨gl, 0, none⟩) q.n q.n, .int .i64 0])) wr) := Lib.hid ⟨T6.out.trans TK.out (fun i hi e => by have h2 : i = gl := e; omega), _, _, rfl, CSeg.own RK.out⟩
        clear hF hlt RK TK
        go_wp2
        go_ret2
        exact HF.out
end Go.Proofs.YtljanfnhmhimiaaGreat.Sg
