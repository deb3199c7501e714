/-
  The program's bytes of a super: headOf, put, data.
-/
import Derived.Test.YtfojkglindpjjaaDoorSuCheck
import Derived.Test.YtfojkglindpjjaaDoorOctRd
import Derived.Test.YtfojkglindpjjaaDoorRef1
namespace Go.Proofs.YtfojkglindpjjaaDoor.Su
open Go.RowKit Bs Dv Gr
open Oct (putB)
open Ref1 (GrowB)

theorem own_grown {w w' : World} {base e s n : Nat} {v : Value} {xs : List Value} (h : w.ownsRow base e s v n xs) (hg : w.grownBy w' none) : w'.ownsRow base e s v n xs :=
  h.kept hg (by cases hv : v.ownBlock <;> simp)
theorem below_from {B : Nat} {w w' : World} (h : w.grownBy w' none) (hB : B ≤ w.heap.size) : Below B w w' := (Below.refl B w).grown h hB (fun _ e => by cases e)
theorem own_shape {w : World} {base e n : Nat} {v : Value} {xs : List Value} (h : w.ownsRow base e 1 v n xs) (h0 : 0 < n) : ∃ g c, v = .slice (some ⟨g, 0, none⟩) n c := by
  rcases h.2 with ⟨rfl, rfl⟩ | ⟨g, c, cur, rfl, _⟩
  · omega
  · exact ⟨g, c, rfl⟩

/-! ### the table of how many bytes the numbers ahead have -/
def szL : List Nat := [4, 4, 4, 2]
def T4 (w : World) : Prop := ∀ j, j < 4 → w.cell? ⟨0, j, none⟩ = some (.int .i64 ((szL.getD j 0 : Nat) : Int))
theorem T4.grown {w w' : World} (h : T4 w) (k : w.grownBy w' none) : T4 w' := fun j hj => k.cell (h j hj) (by simp)
theorem T4.below {w w' : World} (h : T4 w) (k : Below w.heap.size w w') : T4 w' := h.grown (below_grown k)
theorem sz_bd {k : Nat} (h : k < 4) : 1 ≤ szL.getD k 0 ∧ szL.getD k 0 ≤ 8 := by
  rcases (show k = 0 ∨ k = 1 ∨ k = 2 ∨ k = 3 by omega) with rfl | rfl | rfl | rfl <;> decide

/-- the bytes of the first k numbers -/
def headB (v : List Int) : Nat → List Int
  | 0 => []
  | k + 1 => headB v k ++ putB (szL.getD k 0) (v.getD k 0)
def headN : Nat → Nat
  | 0 => 0
  | k + 1 => headN k + szL.getD k 0
theorem head_len (v : List Int) : ∀ k, (headB v k).length = headN k
  | 0 => rfl
  | k + 1 => by rw [headB, List.length_append, head_len v k, Oct.putB_length]; rfl
theorem head_data (s : Sup) : headB [s.size, s.blocks, s.root, (s.pages.length : Int)] 4 ++ fours s.pages = dataS s := by
  show ((([] ++ putB 4 s.size) ++ putB 4 s.blocks) ++ putB 4 s.root) ++ putB 2 (s.pages.length : Int) ++ fours s.pages = dataS s
  unfold dataS
  simp only [List.nil_append, List.append_assoc]

theorem results_cell_alone {fn : Func} {p : Tmp} {ty : TypeId} (h : fn.results = #[.cell p ty]) (tmps : Array Value) (P : Program) (w : World) :
    (results fn tmps).run P w = ((asAddr (tmps.getD p undef)).run P w).andThen fun a w₁ => (loadVar ty a).run P w₁ := by
  simp only [results, h]
  simp [Sem.run_bind, Result.andThen]
theorem run_results_row {P : Program} {fn : Func} {p : Tmp} {ty : TypeId} (h : fn.results = #[.cell p ty]) (tmps : Array Value) (w : World) (g : Nat) (t : TypeId) (cs : Array Value) (fr : Nat × Nat) (d : TypeDesc)
    (hp : tmps.getD p undef = .pointer (some ⟨g, 0, none⟩)) (hg : w.heap[g]? = some (.cells cs t fr))
    (hu : P.underlying ty = some d) (hd : (match d with | .struct _ | .array _ _ => true | _ => false) = true) (hi : (P.info? ty).map (·.size) = some cs.size) :
    (results fn tmps).run P w = .ok (.agg cs) w := by
  rw [results_cell_alone h, hp]
  simp [asAddr, Result.andThen, run_loadVar_row w g t ty cs fr d hg hu hd hi]

/-- a head in a block of its own -/
def HB (w : World) (g : Nat) (gen size blocks root m : Int) : Prop := w.heap[g]? = some (.cells #[.int .u64 gen, .int .i64 size, .int .i64 blocks, .int .u32 root, .int .i64 m] 70 (0, 0))
theorem HB.old {w w' : World} {g : Nat} {gen size blocks root m : Int} (h : HB w g gen size blocks root m) (k : w.grownBy w' none) : HB w' g gen size blocks root m := block_old h k
theorem HB.cells {w : World} {g : Nat} {gen size blocks root m : Int} (h : HB w g gen size blocks root m) : w.cell? ⟨g, 0, none⟩ = some (.int .u64 gen) ∧ w.cell? ⟨g, 1, none⟩ = some (.int .i64 size) ∧ w.cell? ⟨g, 2, none⟩ = some (.int .i64 blocks) ∧
    w.cell? ⟨g, 3, none⟩ = some (.int .u32 root) ∧ w.cell? ⟨g, 4, none⟩ = some (.int .i64 m) := by
  refine ⟨?_, ?_, ?_, ?_, ?_⟩ <;> rw [cell_of_row w g _ _ _ _ h] <;> rfl
theorem info_head : (Tryd.prog.info? 70).map (·.size) = some 5 := by kernel_rfl
theorem wpList_store_head {w : World} {ops : Array Oper} {rest : List Oper} {o : Oper} {a : Act} {Q : Exit → Act → World → Prop} (hgd : o.guard = none) (x y : Operand) (ho : o.op = .store 70 x y)
    (g : Nat) (hx : a.eval x = .pointer (some ⟨g, 0, none⟩)) (gen size blocks root m : Int) (hy : a.eval y = .agg #[.int .u64 gen, .int .i64 size, .int .i64 blocks, .int .u32 root, .int .i64 m])
    (o0 o1 o2 o3 o4 : Int) (hg : HB w g o0 o1 o2 o3 o4)
    (h : ∀ w', HB w' g gen size blocks root m → Turn w w' (· = g) → wpList Tryd.prog ops Q rest (a.put o.dst undef) w') : wpList Tryd.prog ops Q (o :: rest) a w := by
  refine wpList_store_row hgd _ x y ho g _ hx hy _ _ hg info_head rfl (by simp [Value.oneCell']) ?_
  exact h _ (setRow_heap w g _ _ _ _ hg) ⟨rfl, rfl, rfl, by simp [World.setRow], fun k _ hk => setRow_other w g k _ hk⟩

set_option maxHeartbeats 1000000 in
theorem headOf_any (s : Sup) (a : Option Addr) (n c : Nat) (w : World) :
    Calls Tryd.prog 46 #[.agg #[.int .u64 s.gen, .int .i64 s.size, .int .i64 s.blocks, .int .u32 s.root, .slice a n c]] w fun e w' => e = .returned (.agg #[.int .u64 s.gen, .int .i64 s.size, .int .i64 s.blocks, .int .u32 s.root, .int .i64 n]) ∧ w.grownBy w' none := by
  have HB0 := Lib.hid (SB.new w s a n c)
  have HG0 := Lib.hid (grown_alloc w (.cells #[.int .u64 s.gen, .int .i64 s.size, .int .i64 s.blocks, .int .u32 s.root, .slice a n c] 29))
  obtain ⟨W0, hW0⟩ : ∃ X, w.alloc (.cells #[.int .u64 s.gen, .int .i64 s.size, .int .i64 s.blocks, .int .u32 s.root, .slice a n c] 29) = X := ⟨_, rfl⟩
  rw [hW0] at HB0 HG0
  have Q0 : Hid (HB (W0.alloc (.cells #[.int .u64 0, .int .i64 0, .int .i64 0, .int .u32 0, .int .i64 0] 70)) W0.heap.size 0 0 0 0 0) := Lib.hid (heap_alloc_new W0 _)
  have HG1 := Lib.hid (grown_then HG0.out (grown_alloc W0 (.cells #[.int .u64 0, .int .i64 0, .int .i64 0, .int .u32 0, .int .i64 0] 70)))
  obtain ⟨c0, c1, c2, c3, c4⟩ := (HB0.out.old (grown_alloc W0 (.cells #[.int .u64 0, .int .i64 0, .int .i64 0, .int .u32 0, .int .i64 0] 70))).cells
  have hsz : w.heap.size ≤ W0.heap.size := HG0.out.size
  go_enter Tryd.func46, Tryd.ntmps46
  go_wp2_with (first
    | (with_reducible refine wpList_store_head rfl (.tmp 2) (.tmp 12) rfl W0.heap.size rfl s.gen s.size s.blocks s.root n rfl _ _ _ _ _ Q0.out ?_; intro w2 hq2 ht2)
    | fail)
  refine bodyPost_ret (run_results_row rfl _ _ _ _ _ (0, 0) _ rfl hq2 Tryd.underlying70 rfl info_head) rfl ⟨rfl, grown_put HG1.out ht2 hsz⟩

theorem u64n {n : Nat} (h : n ≤ 1000000) : IntKind.u64.wrap (n : Int) = (n : Int) := by rw [IntKind.wrap_u64]; omega
theorem u64i {v : Int} (h : 0 ≤ v ∧ v < 4294967296) : IntKind.u64.wrap v = v := by rw [IntKind.wrap_u64]; omega

set_option maxRecDepth 100000 in
set_option maxHeartbeats 2000000 in
theorem headPut_any (gen size blocks root : Int) (n : Nat) (w : World) (h1 : 0 ≤ size ∧ size < 4294967296) (h2 : 0 ≤ blocks ∧ blocks < 4294967296) (h3 : 0 ≤ root ∧ root < 4294967296) (h4 : n ≤ 1000000) (hT : T4 w) :
    Calls Tryd.prog 53 #[.agg #[.int .u64 gen, .int .i64 size, .int .i64 blocks, .int .u32 root, .int .i64 n]] w (GrowB w.heap.size w (headB [size, blocks, root, (n : Int)] 4) 14) := by
  obtain ⟨i0, hi, hz0, hz1, hz2⟩ := info_parts info_u8
  have e1 := u64i h1
  have e2 := u64i h2
  have e3 := u64i h3
  have e4 := u64n h4
  have hv : ∀ k : Nat, k < 4 → ∀ W, (Instr.index 91 (.agg #[.int .u64 size, .int .u64 blocks, .int .u64 root, .int .u64 n]) (.int .i64 (k : Int))).run Tryd.prog W = .ok (.int .u64 ([size, blocks, root, (n : Int)].getD k 0)) W := fun k hk W => by
    rcases (show k = 0 ∨ k = 1 ∨ k = 2 ∨ k = 3 by omega) with rfl | rfl | rfl | rfl <;> rfl
  have hvb : ∀ k, k < 4 → 0 ≤ [size, blocks, root, (n : Int)].getD k 0 ∧ [size, blocks, root, (n : Int)].getD k 0 < 18446744073709551616 := fun k hk => by
    rcases (show k = 0 ∨ k = 1 ∨ k = 2 ∨ k = 3 by omega) with rfl | rfl | rfl | rfl <;> simp <;> omega
  have HV := Lib.hid hv
  have HVB := Lib.hid hvb
  have B0 : Hid (HB (w.alloc (.cells #[.int .u64 gen, .int .i64 size, .int .i64 blocks, .int .u32 root, .int .i64 n] 70)) w.heap.size gen size blocks root n) := Lib.hid (heap_alloc_new w _)
  have G0 := Lib.hid (grown_alloc w (.cells #[.int .u64 gen, .int .i64 size, .int .i64 blocks, .int .u32 root, .int .i64 n] 70))
  obtain ⟨W0, hW0⟩ : ∃ X, w.alloc (.cells #[.int .u64 gen, .int .i64 size, .int .i64 blocks, .int .u32 root, .int .i64 n] 70) = X := ⟨_, rfl⟩
  rw [hW0] at B0 G0
  have HL0 := Lib.hid (below_from G0.out (Nat.le_refl w.heap.size))
  have HT := Lib.hid hT
  obtain ⟨c0, c1, c2, c3, c4⟩ := B0.out.cells
  obtain ⟨v, hvv⟩ : ∃ v, [size, blocks, root, (n : Int)] = v := ⟨_, rfl⟩
  rw [hvv] at HV HVB ⊢
  clear h1 h2 h3 h4 hv hvb hT hvv
  go_enter Tryd.func53, Tryd.ntmps53
  go_wp2
  clear c0 c1 c2 c3 c4 B0
  go_loopw [3, 21] (fun so si wr => ∃ (k : Nat) (V : Value), k ≤ 4 ∧ si = .int .i64 k ∧ V = so ∧ Hid (wr.ownsRow w.heap.size 5 1 V (headN k) ((headB v k).map (Value.int .u8))) ∧ Hid (Below w.heap.size w wr)) (fun _ si _ => 4 - (intOf si).toNat)
  case atStart => exact ⟨0, _, Nat.zero_le _, rfl, rfl, Lib.hid ⟨rfl, .inl ⟨rfl, rfl⟩⟩, HL0⟩
  case round =>
    obtain ⟨k, V, hk, rfl, rfl, HO, HB1⟩ := hrel
    by_cases hlt : k < 4
    · have hsz := sz_bd hlt
      have t1 := (HT.out.below HB1.out) k hlt
      have hx := HV.out k hlt
      have hxb := HVB.out k hlt
      have hN : headN k ≤ 100 := by rcases (show k = 0 ∨ k = 1 ∨ k = 2 ∨ k = 3 by omega) with rfl | rfl | rfl | rfl <;> decide
      have HS : Hid (headB v (k + 1) = headB v k ++ putB (szL.getD k 0) (v.getD k 0) ∧ headN (k + 1) = headN k + szL.getD k 0) := Lib.hid ⟨rfl, rfl⟩
      obtain ⟨m, hm⟩ : ∃ m, szL.getD k 0 = m := ⟨_, rfl⟩
      obtain ⟨x, hxx⟩ : ∃ x, v.getD k 0 = x := ⟨_, rfl⟩
      obtain ⟨q, hq⟩ : ∃ q, headN k = q := ⟨_, rfl⟩
      rw [hm] at hsz t1 HS
      rw [hxx] at hx hxb HS
      rw [hq] at HO hN HS
      clear hm hxx hq
      have HP := Lib.hid (Oct.put_yes none 0 0 [] x m wr (Seg.nil wr) hxb.1 hxb.2 hsz.1 hsz.2 (by decide))
      clear hxb
      go_wp2_with fail
      refine HP.out.mono ?_
      rintro e w1 hnew
      rw [List.nil_append] at hnew
      obtain ⟨g, q1, rfl, hf⟩ := hnew.value
      obtain ⟨hq1, hown1, hg⟩ := hf.is
      rw [Oct.putB_length] at hq1
      subst hq1
      have HSG := Lib.hid ((Seg.own hown1).at_ _ rfl)
      have HO1 := Lib.hid (own_grown HO.out hg)
      have HB2 := Lib.hid (HB1.out.trans (below_from hg HB1.out.size))
      have hsz1 : w.heap.size ≤ w1.heap.size := HB2.out.size
      have HL : Hid (((putB q1 x).map (Value.int .u8)).length = q1 * 1) := Lib.hid (by rw [List.length_map, Oct.putB_length, Nat.mul_one])
      clear hnew hf hown1 hg HO HB1 HP t1 hx
      dsimp only
      go_wp2_with (first
        | (at_builtin; refine wpList_append_own _ rfl (.tmp 25) (.tmp 30) 48 rfl w.heap.size 5 i0 (.int .u8 0) 1 1 Tryd.underlying48 hi hz0 hz1 hz2 rfl (by decide) V q ((headB v k).map (Value.int .u8)) rfl HO1.out ⟨g, 0, none⟩ q1 q1 ((putB q1 x).map (Value.int .u8)) rfl HL.out HSG.out (ints_oneCell _ _) (by unfold maxLen; omega) (by omega) hsz1 ?_; intro v' w2 hown2 hgrow2 _)
        | fail)
      have HO2 : Hid (w2.ownsRow w.heap.size 5 1 v' (headN (k + 1)) ((headB v (k + 1)).map (Value.int .u8))) := Lib.hid (by rw [HS.out.1, HS.out.2, List.map_append]; exact hown2)
      have HB3 := Lib.hid (HB2.out.grown hgrow2 hsz1 (fun i e => (HO1.out.lt i e).1))
      clear hown2 hgrow2 HO1 HB2
      go_roundw
      case rel => exact ⟨k + 1, _, by omega, by go_num, rfl, HO2, HB3⟩
      case measure => simp [intOf]; omega
    · obtain rfl : k = 4 := by omega
      obtain ⟨g', c', rfl⟩ := own_shape HO.out (by decide)
      have HF : Hid (GrowB w.heap.size w (headB v 4) 14 (.returned (.slice (some ⟨g', 0, none⟩) 14 c')) wr) := Lib.hid ⟨g', c', rfl, HO.out, HB1.out⟩
      clear HO HB1
      go_wp2
      go_ret
      exact HF.out
end Go.Proofs.YtfojkglindpjjaaDoor.Su
