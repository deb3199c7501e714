/-
  The program's readHead.
-/
import Derived.Test.YtfojkglindpjjaaDoorSuPut
import Derived.Test.YtfojkglindpjjaaDoorSuGetN
namespace Go.Proofs.YtfojkglindpjjaaDoor.Su
open Go.RowKit Bs Dv Gr
open Oct (ofB Rd ReadN)
open Fr (block_turn)

/-- numbers in block g -/
def Nl (w : World) (g : Nat) (l : List Int) : Prop := ∀ j, j < l.length → w.cell? ⟨g, j, none⟩ = some (.int .u64 (l.getD j 0)) ∧ w.frozen? ⟨g, j, none⟩ = false
theorem Nl.turn {w w' : World} {g : Nat} {l : List Int} {S : Nat → Prop} (h : Nl w g l) (k : Turn w w' S) (hS : ¬ S g) : Nl w' g l := fun j hj => by
  obtain ⟨h1, h2⟩ := h j hj
  exact ⟨k.cell h1 hS, (k.frozen (p := ⟨g, j, none⟩) (World.block_lt_of_cell? w _ h1) hS).trans h2⟩
theorem Nl.set {w : World} {g : Nat} {l : List Int} (h : Nl w g l) (p : Nat) (x : Int) : Nl (w.setCell ⟨g, p, none⟩ (.int .u64 x)) g (l.set p x) := fun j hj => by
  rw [List.length_set] at hj
  obtain ⟨h1, h2⟩ := h j hj
  refine ⟨?_, by rw [World.frozen?_setCell]; exact h2⟩
  by_cases e : p = j
  · subst e
    rw [World.cell?_setCell_same _ _ _ h1]
    simp [List.getD, hj]
  · rw [World.cell?_setCell_other _ _ _ _ (fun q => e (by cases q; rfl)), h1]
    simp [List.getD, List.getElem?_set_ne e]
/-- the number that stands k-th, ahead of the pages -/
def fieldB (l : List Int) (k : Nat) : Int := ofB ((l.drop (headN k)).take (szL.getD k 0))
/-- the first k of them; noughts behind -/
def valsB (l : List Int) (k : Nat) : List Int := (List.range 4).map fun j => if j < k then fieldB l j else 0
theorem vals_len (l : List Int) (k : Nat) : (valsB l k).length = 4 := by simp [valsB]
theorem vals_set (l : List Int) (k : Nat) (h : k < 4) : (valsB l k).set k (fieldB l k) = valsB l (k + 1) := by
  rcases (show k = 0 ∨ k = 1 ∨ k = 2 ∨ k = 3 by omega) with rfl | rfl | rfl | rfl <;> rfl
theorem field_bd {l : List Int} (hb : Bs.IsB l) (k : Nat) (h : k < 4) : 0 ≤ fieldB l k ∧ fieldB l k < 4294967296 := by
  unfold fieldB
  have h1 := Oct.ofB_bound ((l.drop (headN k)).take (szL.getD k 0)) (fun x hx => hb x (List.mem_of_mem_drop (List.mem_of_mem_take hx)))
  have h2 : ((l.drop (headN k)).take (szL.getD k 0)).length ≤ 4 := by
    rw [List.length_take]
    have : szL.getD k 0 ≤ 4 := by rcases (show k = 0 ∨ k = 1 ∨ k = 2 ∨ k = 3 by omega) with rfl | rfl | rfl | rfl <;> decide
    omega
  refine ⟨h1.1, Int.lt_of_lt_of_le h1.2 ?_⟩
  generalize ((l.drop (headN k)).take (szL.getD k 0)).length = k at h2
  have : k = 0 ∨ k = 1 ∨ k = 2 ∨ k = 3 ∨ k = 4 := by omega
  rcases this with rfl | rfl | rfl | rfl | rfl <;> (show _ ≤ (4294967296 : Int); decide)
theorem field_mod {l : List Int} : fieldB l 3 = ofB ((l.drop 12).take 2) := rfl

/-- What readHead hands back. -/
def HeadX (w : World) (b g : Nat) (gen : Int) (l : List Int) (e : Ending) (w' : World) : Prop :=
  w.grownBy w' (some b) ∧ ((14 ≤ l.length ∧ e = .returned (.tuple #[.agg #[.int .u64 gen, .int .i64 (fieldB l 0), .int .i64 (fieldB l 1), .int .u32 (fieldB l 2), .int .i64 (fieldB l 3)], .bool true]) ∧ Rd w' b g (l.drop 14)) ∨
    (l.length < 14 ∧ e = .returned (.tuple #[.agg #[.int .u64 0, .int .i64 0, .int .i64 0, .int .u32 0, .int .i64 0], .bool false])))

theorem idx4 (k : Nat) (hk : k < 4) (W : World) : (Instr.index 92 (.agg #[.int .i64 4, .int .i64 4, .int .i64 4, .int .i64 2]) (.int .i64 (k : Int))).run Tryd.prog W = .ok (.int .i64 ((szL.getD k 0 : Nat) : Int)) W := by
  rcases (show k = 0 ∨ k = 1 ∨ k = 2 ∨ k = 3 by omega) with rfl | rfl | rfl | rfl <;> rfl
theorem run_results_head {fn : Func} {p u : Tmp} (h : fn.results = #[.cell p 70, .tmp u]) (tmps : Array Value) (w : World) (g : Nat) (gen size blocks root m : Int) (hp : tmps.getD p undef = .pointer (some ⟨g, 0, none⟩))
    (hg : HB w g gen size blocks root m) (v : Value) (hv : tmps.getD u undef = v) : (results fn tmps).run Tryd.prog w = .ok (.tuple #[.agg #[.int .u64 gen, .int .i64 size, .int .i64 blocks, .int .u32 root, .int .i64 m], v]) w := by
  rw [← hv]
  exact results_cell_pair h tmps w g _ _ _ _ hp hg Tryd.underlying70 rfl info_head
theorem HB.not {w w' : World} {g k : Nat} {gen size blocks root m : Int} (h : HB w g gen size blocks root m) (t : Turn w w' (· = k)) (hne : g ≠ k) : HB w' g gen size blocks root m := block_turn h t hne
theorem turn_some {w w' : World} {b : Nat} (h : w.grownBy w' (some b)) : Turn w w' (· = b) := Turn.of_grown h (fun _ e _ => (Option.some.inj e).symm)
theorem grown_some {w w' : World} {b : Nat} (h : Turn w w' (· = b)) : w.grownBy w' (some b) := ⟨h.os, h.tape, h.output, h.size, fun i hi hn => h.block i hi (fun e => hn (by rw [e]))⟩

set_option maxRecDepth 100000 in
set_option maxHeartbeats 4000000 in
theorem readHead_any (gen : Int) (b g : Nat) (l : List Int) (w : World) (hr : Rd w b g l) (hb : Bs.IsB l) (hbl : b < w.heap.size) (hgl : g < w.heap.size) (hT : T4 w) :
    Calls Tryd.prog 43 #[.int .u64 gen, .pointer (some ⟨b, 0, none⟩)] w (HeadX w b g gen l) := by
  have G0 := grown_alloc w (.cells #[.int .u64 0, .int .i64 0, .int .i64 0, .int .u32 0, .int .i64 0] 70)
  have Q0 : HB (w.alloc (.cells #[.int .u64 0, .int .i64 0, .int .i64 0, .int .u32 0, .int .i64 0] 70)) w.heap.size 0 0 0 0 0 := heap_alloc_new w _
  obtain ⟨W0, hW0⟩ : ∃ X, w.alloc (.cells #[.int .u64 0, .int .i64 0, .int .i64 0, .int .u32 0, .int .i64 0] 70) = X := ⟨_, rfl⟩
  rw [hW0] at G0 Q0
  have hs0 : W0.heap.size = w.heap.size + 1 := by rw [← hW0]; simp
  have G1 := grown_then G0 (grown_alloc W0 (.cells #[.int .u64 0, .int .u64 0, .int .u64 0, .int .u64 0] 91))
  have Q1 := Q0.old (grown_alloc W0 (.cells #[.int .u64 0, .int .u64 0, .int .u64 0, .int .u64 0] 91))
  have N1 : Nl (W0.alloc (.cells #[.int .u64 0, .int .u64 0, .int .u64 0, .int .u64 0] 91)) W0.heap.size (valsB l 0) := fun j hj => by
    have q := heap_alloc_new W0 (.cells #[.int .u64 0, .int .u64 0, .int .u64 0, .int .u64 0] 91)
    refine ⟨?_, by simp only [World.frozen?, q]; simp⟩
    rw [cell_of_row _ _ _ _ _ _ q]
    rw [vals_len] at hj
    rcases (show j = 0 ∨ j = 1 ∨ j = 2 ∨ j = 3 by omega) with rfl | rfl | rfl | rfl <;> rfl
  obtain ⟨W1, hW1⟩ : ∃ X, W0.alloc (.cells #[.int .u64 0, .int .u64 0, .int .u64 0, .int .u64 0] 91) = X := ⟨_, rfl⟩
  rw [hW1] at G1 Q1 N1
  have HR1 := Lib.hid (hr.kept G1 (by simp) (by simp))
  have HQ1 := Lib.hid Q1
  have HN1 := Lib.hid N1
  have HG1 := Lib.hid G1
  have t0 : W1.cell? ⟨0, 0, none⟩ = some (.int .i64 4) := (hT.grown G1) 0 (by decide)
  have t1 : W1.cell? ⟨0, 1, none⟩ = some (.int .i64 4) := (hT.grown G1) 1 (by decide)
  have t2 : W1.cell? ⟨0, 2, none⟩ = some (.int .i64 4) := (hT.grown G1) 2 (by decide)
  have t3 : W1.cell? ⟨0, 3, none⟩ = some (.int .i64 2) := (hT.grown G1) 3 (by decide)
  have HB := Lib.hid hb
  obtain ⟨vb, hvb⟩ : ∃ v, v = w.heap.size + 1 := ⟨_, rfl⟩
  obtain ⟨hd, hhd⟩ : ∃ v, v = w.heap.size := ⟨_, rfl⟩
  rw [hs0, ← hvb] at HN1
  rw [← hhd] at HQ1
  clear hr hb hT G0 Q0 G1 Q1 N1
  go_enter Tryd.func43, Tryd.ntmps43
  go_wp2
  rw [← hvb, ← hhd]
  have hbd : b < hd := by omega
  have hgd : g < hd := by omega
  have hdv : hd < vb := by omega
  have hwd : w.heap.size ≤ hd := by omega
  have HIX := Lib.hid idx4
  have HLEN := Lib.hid (rfl : l.length = l.length)
  obtain ⟨n, hn⟩ : ∃ n, n = l.length := ⟨_, rfl⟩
  have HN := Lib.hid hn
  clear t0 t1 t2 t3 hW0 hW1 hs0 hvb hhd hbl hgl hn
  go_loopw [12] (fun si wr => ∃ k : Nat, k ≤ 4 ∧ si = .int .i64 k ∧ headN k ≤ n ∧ Hid (Rd wr b g (l.drop (headN k))) ∧ Hid (w.grownBy wr (some b)) ∧ Hid (Nl wr vb (valsB l k)) ∧ Hid (Su.HB wr hd 0 0 0 0 0)) (fun si _ => 4 - (intOf si).toNat)
  case atStart => exact ⟨0, by omega, rfl, Nat.zero_le _, HR1, Lib.hid (grown_some (Turn.mono (grown_turn HG1.out) (fun _ _ h => h.elim))), HN1, HQ1⟩
  case round =>
    clear HR1 HN1 HQ1 HG1
    obtain ⟨k, hk, rfl, hkn, HR, HG, HN4, HQ⟩ := hrel
    by_cases hlt : k < 4
    · have hsz := sz_bd hlt
      have hix := HIX.out k hlt
      have hNx : headN (k + 1) = headN k + szL.getD k 0 := rfl
      have HFB : Hid (fieldB l k = ofB ((l.drop (headN k)).take (szL.getD k 0))) := Lib.hid rfl
      have HVS := Lib.hid (vals_set l k hlt)
      have hfb := field_bd HB.out k hlt
      have hdl : (l.drop (headN k)).length = n - headN k := by rw [List.length_drop, HN.out]
      have hbk : Bs.IsB (l.drop (headN k)) := fun x hx => HB.out x (List.mem_of_mem_drop hx)
      obtain ⟨m, hm⟩ : ∃ m, szL.getD k 0 = m := ⟨_, rfl⟩
      rw [hm] at hsz hNx HFB hix
      by_cases hfit : m ≤ (l.drop (headN k)).length
      · have HNU := Lib.hid (Oct.number_yes b g _ m wr HR.out hbk hsz.1 hsz.2 hfit)
        have hkn1 : headN (k + 1) ≤ n := by omega
        have HDR : Hid ((l.drop (headN k)).drop m = l.drop (headN (k + 1))) := Lib.hid (by rw [List.drop_drop, hNx])
        rw [← HFB.out] at HNU
        obtain ⟨x, hx⟩ : ∃ x, fieldB l k = x := ⟨_, rfl⟩
        rw [hx] at HNU hfb HVS
        clear hm hdl hbk hfit hNx HFB hx hsz
        go_wp2_with fail
        refine HNU.out.mono ?_
        rintro e w1 ⟨rfl, hg1, hr1⟩
        have HR1 : Hid (Rd w1 b g (l.drop (headN (k + 1)))) := Lib.hid (by rw [← HDR.out]; exact hr1)
        have ht1 := turn_some hg1
        have hT1 := (turn_some HG.out).trans ht1 (fun _ _ h => h)
        have hN1 := HN4.out.turn ht1 (by omega)
        have HQ1 := Lib.hid (HQ.out.not ht1 (by omega))
        obtain ⟨v0, v1⟩ := hN1 k (by rw [vals_len]; exact hlt)
        have hN2 := hN1.set k x
        rw [HVS.out] at hN2
        obtain ⟨y, hy⟩ : ∃ y, (valsB l k).getD k 0 = y := ⟨_, rfl⟩
        rw [hy] at v0
        have ht2 := Turn.setCell w1 ⟨vb, k, none⟩ (.int .u64 x) (S := (· = vb)) rfl
        obtain ⟨W2, hW2⟩ : ∃ X, w1.setCell ⟨vb, k, none⟩ (.int .u64 x) = X := ⟨_, rfl⟩
        rw [hW2] at hN2 ht2
        have HN2 := Lib.hid hN2
        have HR2 : Hid (Rd W2 b g (l.drop (headN (k + 1)))) := Lib.hid (HR1.out.kept (grown_some ht2) (by simp; omega) (by simp; omega))
        have HQ2 := Lib.hid (HQ1.out.not ht2 (by omega))
        have HG2 : Hid (w.grownBy W2 (some b)) := Lib.hid (grown_some (hT1.trans ht2 (fun i h e => by omega)))
        clear hr1 hg1 ht1 hT1 hN1 hN2 hy ht2 HNU HR HG HN4 HQ HR1 HQ1 HDR HVS hkn
        dsimp only
        go_wp2
        go_roundw
        case rel => exact ⟨k + 1, by omega, by go_num, hkn1, HR2, HG2, HN2, HQ2⟩
        case measure => simp [intOf]; omega
      · have HNU := Lib.hid (Oct.number_more b g _ (m : Int) wr HR.out (by omega) (by omega) (by omega))
        have hl14 : l.length < 14 := by
          rw [← HN.out]
          have e1 : headN (k + 1) ≤ 14 := by rcases (show k = 0 ∨ k = 1 ∨ k = 2 ∨ k = 3 by omega) with rfl | rfl | rfl | rfl <;> decide
          omega
        have HL14 := Lib.hid hl14
        clear hm hdl hbk hfit hNx HFB hsz hl14
        go_wp2_with fail
        refine HNU.out.mono ?_
        rintro e w1 ⟨rfl, rfl⟩
        dsimp only
        go_wp2_with (first
          | (with_reducible refine wpList_store_head rfl (.tmp 4) (.tmp 24) rfl hd rfl 0 0 0 0 0 rfl _ _ _ _ _ HQ.out ?_; intro w2 hq2 ht2)
          | fail)
        refine bodyPost_ret (run_results_head rfl _ _ _ _ _ _ _ _ rfl hq2 (.bool false) rfl) rfl ⟨?_, .inr ⟨HL14.out, rfl⟩⟩
        exact grown_some ((turn_some HG.out).trans ht2 (fun i h e => by omega))
    · obtain rfl : k = 4 := by omega
      obtain ⟨p0, f0⟩ := HN4.out 0 (by rw [vals_len]; decide)
      obtain ⟨p1, f1⟩ := HN4.out 1 (by rw [vals_len]; decide)
      obtain ⟨p2, f2⟩ := HN4.out 2 (by rw [vals_len]; decide)
      obtain ⟨p3, f3⟩ := HN4.out 3 (by rw [vals_len]; decide)
      have b0 := field_bd HB.out 0 (by decide)
      have b1 := field_bd HB.out 1 (by decide)
      have b2 := field_bd HB.out 2 (by decide)
      have b3 := field_bd HB.out 3 (by decide)
      have HL14 : Hid (14 ≤ l.length) := Lib.hid (by rw [← HN.out]; exact hkn)
      have c0 : wr.cell? ⟨vb, 0, none⟩ = some (.int .u64 (fieldB l 0)) := p0
      have c1 : wr.cell? ⟨vb, 1, none⟩ = some (.int .u64 (fieldB l 1)) := p1
      have c2 : wr.cell? ⟨vb, 2, none⟩ = some (.int .u64 (fieldB l 2)) := p2
      have c3 : wr.cell? ⟨vb, 3, none⟩ = some (.int .u64 (fieldB l 3)) := p3
      clear p0 p1 p2 p3
      obtain ⟨x0, hx0⟩ : ∃ x, fieldB l 0 = x := ⟨_, rfl⟩
      rw [hx0] at c0 b0
      have HX0 := Lib.hid hx0
      clear hx0
      obtain ⟨x1, hx1⟩ : ∃ x, fieldB l 1 = x := ⟨_, rfl⟩
      rw [hx1] at c1 b1
      have HX1 := Lib.hid hx1
      clear hx1
      obtain ⟨x2, hx2⟩ : ∃ x, fieldB l 2 = x := ⟨_, rfl⟩
      rw [hx2] at c2 b2
      have HX2 := Lib.hid hx2
      clear hx2
      obtain ⟨x3, hx3⟩ : ∃ x, fieldB l 3 = x := ⟨_, rfl⟩
      rw [hx3] at c3 b3
      have HX3 := Lib.hid hx3
      clear hx3
      have e0 : IntKind.i64.wrap x0 = x0 := IntWalk.i64_in _ (by omega)
      have e1 : IntKind.i64.wrap x1 = x1 := IntWalk.i64_in _ (by omega)
      have e2 : IntKind.u32.wrap x2 = x2 := by rw [IntKind.wrap_u32]; omega
      have e3 : IntKind.i64.wrap x3 = x3 := IntWalk.i64_in _ (by omega)
      clear f0 f1 f2 f3 b0 b1 b2 b3
      go_wp2_with (first
        | (with_reducible refine wpList_store_head rfl (.tmp 4) (.tmp 43) rfl hd rfl gen x0 x1 x2 x3 rfl _ _ _ _ _ HQ.out ?_; intro w2 hq2 ht2)
        | fail)
      refine bodyPost_ret (run_results_head rfl _ _ _ _ _ _ _ _ rfl hq2 (.bool true) rfl) rfl ⟨?_, .inl ⟨HL14.out, by rw [HX0.out, HX1.out, HX2.out, HX3.out], ?_⟩⟩
      · exact grown_some ((turn_some HG.out).trans ht2 (fun i h e => by omega))
      · exact HR.out.kept (grown_some ht2) (by simp; omega) (by simp; omega)
end Go.Proofs.YtfojkglindpjjaaDoor.Su
