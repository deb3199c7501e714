/-
  The document's counts: Clone, Take with held counts.
-/
import Derived.Test.YtkinmcnmdfpjbaaCnRefT
import Derived.Test.YtkinmcnmdfpjbaaCnAll
import Derived.Test.YtkinmcnmdfpjbaaSuEq
import Derived.Deep.RegionHeldLaw
namespace Go.Proofs.Ytkinmcnmdfpjbaa.Cn
open Go.RowKit Bs Dv Gr

theorem step_append_j {P : Program} {w : World} {ops : Array Oper} {o : Oper} {a : Act} {K : Act → World → Prop} {Q : Exit → Act → World → Prop} {E : Prop} (hgd : o.guard = none) (s x : Operand) (t : TypeId)
    (ho : o.op = .call { callee := .builtin .append, args := #[s, x], argTypes := #[t, t] }) (base : Nat) (e : TypeId) (i : TypeInfo) (ht : P.underlying t = some (.slice e)) (hi : P.info? e = some i) (hz : i.zero = some (.int .i64 0)) (hsize : i.size = 1) (hby : i.bytes = 8)
    (g n0 c0 : Nat) (xs : List Value) (hs : a.eval s = .slice (some ⟨g, 0, none⟩) n0 c0) (hown : w.ownsRow base e 1 (.slice (some ⟨g, 0, none⟩) n0 c0) n0 xs)
    (sp : Option Addr) (n c : Nat) (l : List Int) (hx : a.eval x = .slice sp n c) (hseg : Js.Seg w sp n c l) (hbytes : (n0 + n) * 8 ≤ 140737488355328) (hbase : base ≤ w.heap.size)
    (h : ∀ g' c' w', w'.ownsRow base e 1 (.slice (some ⟨g', 0, none⟩) (n0 + n) c') (n0 + n) (xs ++ l.map (Value.int .i64)) → w.grownBy w' (some g) → K (a.put o.dst (.slice (some ⟨g', 0, none⟩) (n0 + n) c')) w') :
    if Region.wanted o (yielded ops a.tmps) = true then Oper.wp P o a w K Q else E := by
  have hw : Region.wanted o (yielded ops a.tmps) = true := by simp [Region.wanted, hgd]
  rw [if_pos hw]
  exact Js.wp_append_seg s x t ho base e i ht hi hz hsize hby g n0 c0 xs hs hown sp n c l hx hseg hbytes hbase h
theorem rcj_seg {w : World} {g h cap : Nat} {size : Int} {N : List Int} (hc : RC w g h cap size N) (hm : cap ≤ maxLen) : Js.Seg w (some ⟨h, 0, none⟩) N.length cap N := by
  refine ⟨rfl, hc.le, hm, (fun e => by cases e), fun ad had j u hu => ?_⟩
  cases had
  rw [List.getElem?_map] at hu
  cases hq : N[j]? with
  | none => rw [hq] at hu; cases hu
  | some x =>
    rw [hq] at hu
    have h2 := (hc.row j (List.getElem?_eq_some_iff.1 hq).1).1
    rw [List.getD_eq_getElem?_getD, hq] at h2
    rw [Addr.add_lit, Nat.zero_add, ← Option.some.inj hu]
    exact h2
/-- a row of numbers that a call has built -/
theorem jr_own {w : World} {base e g c : Nat} {N : List Int} (h : w.ownsRow base e 1 (.slice (some ⟨g, 0, none⟩) N.length c) N.length (N.map (Value.int .i64))) : JR w g N ∧ N.length ≤ c ∧ c ≤ maxLen ∧ base ≤ g ∧ g < w.heap.size := by
  rcases h.2 with ⟨e, _⟩ | ⟨g', cap, cur, e, hb, hg, h1, h2, _⟩
  · cases e
  · cases e
    refine ⟨fun j hj => ⟨?_, by simp [World.frozen?, hg]⟩, h1, h2, hb, (Array.getElem?_eq_some_iff.1 hg).1⟩
    have := h.cells (g := g) rfl j (.int .i64 (N.getD j 0)) (by rw [List.getElem?_map, List.getElem?_eq_getElem hj, List.getD_eq_getElem?_getD, List.getElem?_eq_getElem hj]; rfl)
    rwa [Addr.add_lit, Nat.zero_add] at this

theorem grown_row {w W w3 : World} {r : Nat} (hW : w.grownBy W none) (hg : W.grownBy w3 (some r)) (hr : w.heap.size ≤ r) : w.grownBy w3 none := ⟨hg.os.trans hW.os, hg.tape.trans hW.tape, hg.output.trans hW.output, Nat.le_trans hW.size hg.size, fun i hi _ => (hg.block i (Nat.lt_of_lt_of_le hi hW.size) (fun e => by have := Option.some.inj e; omega)).trans (hW.block i hi (by simp))⟩
def RCloneX (w : World) (size : Int) (N : List Int) (e : Ending) (w' : World) : Prop :=
  ∃ g2 h2 cap2, e = .returned (.pointer (some ⟨g2, 0, none⟩)) ∧ RC w' g2 h2 cap2 size N ∧ cap2 ≤ maxLen ∧ w.grownBy w' none ∧ w.heap.size ≤ g2 ∧ w.heap.size ≤ h2
/-- the copy: the row behind the append, the struct behind the row -/
theorem rclone_end {w W w3 : World} {size : Int} {N : List Int} {g3 c3 : Nat} (hW : w.grownBy W none) (hs : N.length ≤ 4096) (ho : w3.ownsRow w.heap.size 3 1 (.slice (some ⟨g3, 0, none⟩) N.length c3) N.length (N.map (Value.int .i64))) {r : Nat} (hr : w.heap.size ≤ r) (hg : W.grownBy w3 (some r)) :
    RCloneX w size N (.returned (.pointer (some ⟨w3.heap.size, 0, none⟩))) (w3.alloc (.cells #[.int .i64 size, .int .i64 (N.length : Int), .slice (some ⟨g3, 0, none⟩) N.length c3] 56)) := by
  obtain ⟨hj, h1, h2, h3, h4⟩ := jr_own ho
  have hg0 : w.grownBy w3 none := grown_row hW hg hr
  exact ⟨w3.heap.size, g3, c3, rfl, ⟨heap_alloc_new _ _, hj.turn (Turn.alloc w3 _ nowhere) id, by omega, h1, hs⟩, h2, grown_then hg0 (grown_alloc _ _), hg0.size, h3⟩
set_option maxHeartbeats 2000000 in
theorem rclone_any (g h cap : Nat) (size : Int) (N : List Int) (w : World) (hc : RC w g h cap size N) (hm : cap ≤ maxLen) :
    Calls Try.prog 26 #[.pointer (some ⟨g, 0, none⟩)] w (RCloneX w size N) := by
  obtain ⟨i0, hi, hz0, hz1, hz2⟩ := info_parts Js.info_int
  have c0 : w.cell? ⟨g, 0, none⟩ = some (.int .i64 size) := by rw [cell_of_row _ _ _ _ _ _ hc.box]; rfl
  have c1 : w.cell? ⟨g, 1, none⟩ = some (.int .i64 (N.length : Int)) := by rw [cell_of_row _ _ _ _ _ _ hc.box]; rfl
  have c2 : w.cell? ⟨g, 2, none⟩ = some (.slice (some ⟨h, 0, none⟩) N.length cap) := by rw [cell_of_row _ _ _ _ _ _ hc.box]; rfl
  have HSG := Lib.hid (fun W (k : w.grownBy W none) => rcj_seg (hc.turn (grown_turn k) id id) hm)
  have HS := Lib.hid hc.small
  have HG1 : Hid (w.grownBy (w.drew.alloc (.cells #[] 3)) none) := Lib.hid (grown_then (grown_drew w) (grown_alloc _ _))
  have HG2 : Hid (w.grownBy (w.alloc (.cells #[] 3)).drew none) := Lib.hid (grown_then (grown_alloc _ _) (grown_drew _))
  have HO1 : Hid ((w.drew.alloc (.cells #[] 3)).ownsRow w.heap.size 3 1 (.slice (some ⟨w.heap.size, 0, none⟩) 0 0) 0 []) := Lib.hid (World.ownsRow_made (base := w.heap.size) (e := 3) (size := 1) w.drew #[] 0 (Nat.le_refl _) (by unfold maxLen; omega) rfl)
  have HO2 : Hid ((w.alloc (.cells #[] 3)).drew.ownsRow w.heap.size 3 1 (.slice (some ⟨w.heap.size, 0, none⟩) 0 0) 0 []) := Lib.hid (World.ownsRow_made (base := w.heap.size) (e := 3) (size := 1) w #[] 0 (Nat.le_refl _) (by unfold maxLen; omega) rfl)
  have HEND := Lib.hid (fun W w3 g3 c3 (hW : w.grownBy W none) ho hg => rclone_end (size := size) (N := N) (W := W) (w3 := w3) (g3 := g3) (c3 := c3) hW hc.small ho (Nat.le_refl w.heap.size) hg)
  obtain ⟨L, hL⟩ : ∃ L, N.length = L := ⟨_, rfl⟩
  rw [hL] at c1 c2 HSG HS HEND
  have hL4 := HS.out
  clear hc hL
  go_enter Try.func26, Try.ntmps26
  go_upto_region 1 with (fail)
  go_region_held_law (fun w' => w'.cell? ⟨g, 0, none⟩ = some (.int .i64 size) ∧ w'.cell? ⟨g, 1, none⟩ = some (.int .i64 (L : Int)) ∧ w'.cell? ⟨g, 2, none⟩ = some (.slice (some ⟨h, 0, none⟩) L cap))
    (first
      | go_keep
      | (have hk := (grown_turn HGA.out)
         exact ⟨hk.cell c0 id, hk.cell c1 id, hk.cell c2 id⟩))
    ((refine step_append_j rfl (.tmp 7) (.tmp 11) 53 rfl w.heap.size 3 i0 Try.underlying53 hi hz0 hz1 hz2 w.heap.size 0 0 [] rfl (by first | exact HO1.out | exact HO2.out) (some ⟨h, 0, none⟩) L cap N rfl (by first | exact HSG.out _ HG1.out | exact HSG.out _ HG2.out) (by omega) (by first | exact HG1.out.size | exact HG2.out.size) ?_
      intro g1 c1' w1 hown1 hgrow1
      simp only [Nat.zero_add, List.nil_append] at hown1 ⊢
      have HX : Hid (RCloneX w size N (.returned (.pointer (some ⟨w1.heap.size, 0, none⟩))) (w1.alloc (.cells #[.int .i64 size, .int .i64 (L : Int), .slice (some ⟨g1, 0, none⟩) L c1'] 56))) := Lib.hid (by first | exact HEND.out _ _ _ _ HG1.out hown1 hgrow1 | exact HEND.out _ _ _ _ HG2.out hown1 hgrow1)
      have HGA : Hid (w.grownBy w1 none) := Lib.hid (by first | exact grown_row HG1.out hgrow1 (Nat.le_refl _) | exact grown_row HG2.out hgrow1 (Nat.le_refl _))
      clear hown1 hgrow1
      have k0 := (grown_turn HGA.out).cell c0 id
      have k1 := (grown_turn HGA.out).cell c1 id
      have k2 := (grown_turn HGA.out).cell c2 id))
  go_wp2
  go_ret
  exact HX.out

set_option maxHeartbeats 2000000 in
theorem rtake_held (g h cap : Nat) (size : Int) (N : List Int) (g2 h2 cap2 : Nat) (H : List Int) (w : World) (hc : RC w g h cap size N) (hd : RC w g2 h2 cap2 size H) (hsame : H.length = N.length) :
    Calls Try.prog 23 #[.pointer (some ⟨g, 0, none⟩), .pointer (some ⟨g2, 0, none⟩)] w (TookX H N g h cap size w) := by
  have HC := Lib.hid hc
  have HD := Lib.hid hd
  have hle := hc.le
  have hle2 := hd.le
  have hs := hc.small
  have HSE := Lib.hid (fun w (hc : RC w g h cap size N) k x (hk : k < N.length) => hc.set k x hk)
  have HF : Hid (∀ j, freeC H N j ↔ 2 ≤ j ∧ j < N.length ∧ N.getD j 0 = 0 ∧ H.getD j 0 = 0) := Lib.hid (fun j => Iff.rfl)
  have a0 : ∀ q : Gw w, q.at_.cell? ⟨g, 0, none⟩ = some (.int .i64 size) := fun q => by rw [cell_of_row _ _ _ _ _ _ (hc.turn (grown_turn q.grown) id id).box]; rfl
  have a1 : ∀ q : Gw w, q.at_.cell? ⟨g, 1, none⟩ = some (.int .i64 (N.length : Int)) := fun q => by rw [cell_of_row _ _ _ _ _ _ (hc.turn (grown_turn q.grown) id id).box]; rfl
  have b0 : ∀ q : Gw w, q.at_.cell? ⟨g2, 0, none⟩ = some (.int .i64 size) := fun q => by rw [cell_of_row _ _ _ _ _ _ (hd.turn (grown_turn q.grown) id id).box]; rfl
  have b1 : ∀ q : Gw w, q.at_.cell? ⟨g2, 1, none⟩ = some (.int .i64 (H.length : Int)) := fun q => by rw [cell_of_row _ _ _ _ _ _ (hd.turn (grown_turn q.grown) id id).box]; rfl
  have hnq := fun W => Su.neq_geo size (H.length : Int) size (N.length : Int) W
  rw [decide_eq_true rfl, hsame, decide_eq_true rfl] at hnq
  rw [hsame] at b1 hle2
  obtain ⟨L, hL⟩ : ∃ L, N.length = L := ⟨_, rfl⟩
  have HL := Lib.hid hL
  have HL2 : Hid (H.length = L) := Lib.hid (hsame.trans hL)
  rw [hL] at hle hle2 hs HSE HF a1 b1 hnq
  clear hc hd hL hsame
  go_enter Try.func23, Try.ntmps23
  go_upto_region 1 with (fail)
  refine wp_region_grow (by kernel_rfl) ?_
  repeat (go_big_quiet_step (fail))
  refine wpQuiet_nil ?_
  rintro _ ⟨pw, rfl⟩
  have HT1 : Hid (Turn w pw.at_ nowhere) := Lib.hid (grown_turn pw.grown)
  obtain ⟨W1, hW1⟩ : ∃ X, X = pw.at_ := ⟨_, rfl⟩
  rw [← hW1] at HT1 ⊢
  have HC1 := Lib.hid (HC.out.turn HT1.out id id)
  have HD1 := Lib.hid (HD.out.turn HT1.out id id)
  clear hW1 pw HC HD a0 a1 b0 b1 hnq
  have c2 : W1.cell? ⟨g, 1 + 1, none⟩ = some (.slice (some ⟨h, 0, none⟩) L cap) := by rw [cell_of_row _ _ _ _ _ _ HC1.out.box, ← HL.out]; rfl
  go_wp2
  clear c2
  go_loopw [6] (fun s6 wr => ∃ i : Nat, i ≤ max L 2 ∧ 2 ≤ i ∧ s6 = .int .i64 i ∧ Hid (∀ j, j < i → ¬ freeC H N j) ∧ Hid (Turn W1 wr nowhere)) (fun s6 _ => L - (intOf s6).toNat)
  case atStart => exact ⟨2, by omega, by omega, rfl, Lib.hid (fun j hj hf => by have := hf.1; omega), Lib.hid (Turn.refl _ _)⟩
  case round =>
    obtain ⟨i, hi, hi2, rfl, HNF, HTW⟩ := hrel
    have HCW := Lib.hid (HC1.out.turn HTW.out id id)
    have HDW := Lib.hid (HD1.out.turn HTW.out id id)
    have c2 : wr.cell? ⟨g, 2, none⟩ = some (.slice (some ⟨h, 0, none⟩) L cap) := by rw [cell_of_row _ _ _ _ _ _ HCW.out.box, ← HL.out]; rfl
    have d2 : wr.cell? ⟨g2, 2, none⟩ = some (.slice (some ⟨h2, 0, none⟩) L cap2) := by rw [cell_of_row _ _ _ _ _ _ HDW.out.box, ← HL2.out]; rfl
    by_cases hlt : i < L
    · have hq : decide (i < L) = true := decide_eq_true hlt
      obtain ⟨hcell, hfr⟩ := HCW.out.row i (by rw [HL.out]; exact hlt)
      have dcell := (HDW.out.row i (by rw [HL2.out]; exact hlt)).1
      have HS2 := Lib.hid (HSE.out wr HCW.out i 1 hlt)
      have HFI := Lib.hid (HF.out i)
      obtain ⟨x, hx⟩ : ∃ x, N.getD i 0 = x := ⟨_, rfl⟩
      obtain ⟨y, hy⟩ : ∃ y, H.getD i 0 = y := ⟨_, rfl⟩
      rw [hx] at hcell HFI
      rw [hy] at dcell HFI
      clear hx hy
      have e1 : IntKind.u32.wrap (i : Int) = (i : Int) := by rw [IntKind.wrap_u32]; omega
      by_cases h0 : x = 0
      · have q0 : (x == 0) = true := beq_iff_eq.2 h0
        by_cases h1 : y = 0
        · have q1 : (y == 0) = true := beq_iff_eq.2 h1
          have HX : Hid (TookX H N g h cap size w (.returned (.tuple #[.int .u32 (i : Int), .int .i64 0])) (wr.setCell ⟨h, i, none⟩ (.int .i64 1))) := Lib.hid ⟨(((HT1.out.trans HTW.out (fun _ _ e => e)).mono (fun _ _ e => e.elim) : Turn w wr (· = h)).trans HS2.out.2 (fun _ _ e => e)), .inl ⟨i, .one i (HFI.out.2 ⟨hi2, hlt, h0, h1⟩) HNF.out, rfl, HS2.out.1⟩⟩
          clear h0 h1 HS2 HFI
          go_wp2
          go_ret2
          exact HX.out
        · have q1 : (y == 0) = false := beq_eq_false_iff_ne.2 h1
          have HN2 : Hid (∀ j, j < i + 1 → ¬ freeC H N j) := Lib.hid (fun j hj => by
            by_cases e : j = i
            · rw [e]; exact fun hf => h1 (HFI.out.1 hf).2.2.2
            · exact HNF.out j (by omega))
          clear h0 h1 HS2 HFI HNF
          go_wp2
          go_roundw
          case rel => exact ⟨i + 1, by omega, by omega, by go_num, HN2, HTW⟩
          case measure => simp [intOf]; omega
      · have q0 : (x == 0) = false := beq_eq_false_iff_ne.2 h0
        have HN2 : Hid (∀ j, j < i + 1 → ¬ freeC H N j) := Lib.hid (fun j hj => by
          by_cases e : j = i
          · rw [e]; exact fun hf => h0 (HFI.out.1 hf).2.2.1
          · exact HNF.out j (by omega))
        clear h0 HS2 HFI HNF
        go_wp2
        go_roundw
        case rel => exact ⟨i + 1, by omega, by omega, by go_num, HN2, HTW⟩
        case measure => simp [intOf]; omega
    · have hq : decide (i < L) = false := decide_eq_false hlt
      have HX : Hid (TookX H N g h cap size w (.returned (.tuple #[.int .u32 0, .int .i64 9])) wr) := Lib.hid ⟨(HT1.out.trans HTW.out (fun _ _ e => e)).mono (fun _ _ e => e.elim), .inr ⟨.full fun j hf => HNF.out j (by have := ((HF.out j).1 hf).2.1; omega) hf, rfl, HCW.out⟩⟩
      clear HNF
      go_wp2
      go_ret2
      exact HX.out
end Go.Proofs.Ytkinmcnmdfpjbaa.Cn
