/-
  The document's reader: New, Number, Var; its runs, read.
-/
import Derived.Test.YteolpjlpjjjchaaInRefA
namespace Go.Proofs.Yteolpjlpjjjchaa.In
open Go.RowKit Go.Joins
open Bs (info_u8)
open Oct (readV ofB VInv)
open Dv (Turn nowhere)

/-- The document's reader in memory: the bytes that are left. -/
structure RR (w : World) (b g : Nat) (l : List Int) : Prop where
  ne : g ≠ b
  cells : ∃ o c, w.cell? ⟨b, 0, none⟩ = some (.slice (some ⟨g, o, none⟩) l.length c) ∧ l.length ≤ c ∧ c ≤ maxLen ∧ ∀ j, j < l.length → w.cell? ⟨g, o + j, none⟩ = some (.int .u8 (l.getD j 0))
  free : w.frozen? ⟨b, 0, none⟩ = false
theorem RR.lt {w : World} {b g : Nat} {l : List Int} (h : RR w b g l) : b < w.heap.size := by
  obtain ⟨o, c, h0, _⟩ := h.cells
  exact World.block_lt_of_cell? w _ h0
theorem RR.turn {w w' : World} {b g : Nat} {l : List Int} {S : Nat → Prop} (h : RR w b g l) (k : Turn w w' S) (h1 : ¬ S b) (h2 : ¬ S g) : RR w' b g l := by
  have lt := h.lt
  obtain ⟨o, c, h0, hle, hc, hj⟩ := h.cells
  exact ⟨h.ne, ⟨o, c, k.cell h0 h1, hle, hc, fun j hjl => k.cell (hj j hjl) h2⟩, (k.frozen (p := ⟨b, 0, none⟩) lt h1).trans h.free⟩
/-- the reader goes on by n bytes -/
theorem RR.next {w : World} {b g o c n : Nat} {l : List Int} (h : RR w b g l) (h0 : w.cell? ⟨b, 0, none⟩ = some (.slice (some ⟨g, o, none⟩) l.length c)) (hle : l.length ≤ c) (hc : c ≤ maxLen) (hj : ∀ j, j < l.length → w.cell? ⟨g, o + j, none⟩ = some (.int .u8 (l.getD j 0))) (hn : n ≤ l.length) (v : Option Addr)
    (hv : v = if c = n then some ⟨g, o, none⟩ else some ⟨g, o + n, none⟩) :
    RR (w.setCell ⟨b, 0, none⟩ (.slice v (l.length - n) (c - n))) b g (l.drop n) := by
  have hT : Turn w (w.setCell ⟨b, 0, none⟩ (.slice v (l.length - n) (c - n))) (At b) := Turn.setCell w ⟨b, 0, none⟩ _ rfl
  have hcell : (w.setCell ⟨b, 0, none⟩ (.slice v (l.length - n) (c - n))).cell? ⟨b, 0, none⟩ = some (.slice v (l.length - n) (c - n)) := World.cell?_setCell_same _ _ _ h0
  refine ⟨h.ne, ?_, by rw [World.frozen?_setCell]; exact h.free⟩
  by_cases hcn : c = n
  · rw [if_pos hcn] at hv
    subst hv
    refine ⟨o, c - n, by rw [hcell, List.length_drop], by rw [List.length_drop]; omega, by omega, fun j hjl => ?_⟩
    rw [List.length_drop] at hjl
    omega
  · rw [if_neg hcn] at hv
    subst hv
    refine ⟨o + n, c - n, by rw [hcell, List.length_drop], by rw [List.length_drop]; omega, by omega, fun j hjl => ?_⟩
    rw [List.length_drop] at hjl
    have h1 := hT.cell (hj (n + j) (by omega)) (fun e => h.ne e)
    rw [Nat.add_assoc, h1]
    simp [List.getD]

/-- A new reader. -/
def RNew2 (w : World) (l : List Int) (e : Ending) (w' : World) : Prop :=
  ∃ b g, e = .returned (.pointer (some ⟨b, 0, none⟩)) ∧ w.heap.size ≤ b ∧ RR w' b g l ∧ w.grownBy w' none ∧ g < w'.heap.size

set_option maxRecDepth 100000 in
set_option maxHeartbeats 1000000 in
theorem rnew_any (a : Option Addr) (n c : Nat) (l : List Int) (w : World) (hs : Bs.Seg w a n c l) (hn : n ≤ 140737488355328) :
    Calls Try.prog 35 #[.slice a n c] w (RNew2 w l) := by
  obtain ⟨i0, hi, hz0, hz1, hz2⟩ := info_parts info_u8
  have hl := hs.len
  have h0 := World.ownsRow_made (base := w.heap.size) (e := 5) (size := 1) w #[] 0 (Nat.le_refl _) (by unfold maxLen; omega) rfl
  have HO0 : Hid ((w.alloc (.cells #[] 5)).ownsRow w.heap.size 5 1 (.slice (some ⟨w.heap.size, 0, none⟩) 0 0) 0 ([] : List Value)) := Lib.hid h0
  have HS := Lib.hid (hs.grown (World.grownBy_alloc w (.cells #[] 5) none))
  have HW : Hid (w.heap.size ≤ (w.alloc (.cells #[] 5)).heap.size) := Lib.hid (by simp)
  clear h0 hs
  go_enter Try.func35, Try.ntmps35
  go_wp2_with (at_builtin; refine Bs.wpList_append_seg rfl (.tmp 3) (.tmp 4) 23 rfl w.heap.size 5 i0 Try.underlying23 hi hz0 hz1 hz2 w.heap.size 0 0 [] rfl HO0.out a n c l rfl HS.out (by omega) HW.out ?_; intro g1 c1 w1 hown1 hgrow1)
  have hlt := (hown1.lt g1 rfl).2
  have hs1 := Bs.Seg.own (l := l) (by simpa using hown1)
  have hcells : ∀ j, j < l.length → w1.cell? ⟨g1, 0 + j, none⟩ = some (.int .u8 (l.getD j 0)) := fun j hj => by
    have := hs1.at_ _ rfl j (.int .u8 (l.getD j 0)) (by simp [List.getD, hj])
    rw [Addr.add_lit] at this
    exact this
  have hA : Turn w1 (w1.alloc (.cells #[.slice (some ⟨g1, 0, none⟩) n c1] 69)) nowhere := Turn.alloc _ _ _
  have hF : RNew2 w l (.returned (.pointer (some ⟨w1.heap.size, 0, none⟩))) (w1.alloc (.cells #[.slice (some ⟨g1, 0, none⟩) n c1] 69)) := by
    have hgr : w.grownBy w1 none := Bs.grownBy_trans (World.grownBy_alloc w _ none) hgrow1 (fun j e => by cases e; exact Nat.le_refl _)
    refine ⟨w1.heap.size, g1, rfl, hgr.size, ⟨by omega, ⟨0, c1, ?_, ?_, hs1.cap, fun j hj => hA.cell (hcells j hj) id⟩, ?_⟩, Bs.grownBy_trans hgr (World.grownBy_alloc w1 _ none) (fun j e => by cases e), by simp; omega⟩
    · rw [hl]; exact World.cell?_alloc_at _ _ _ _ rfl
    · have := hs1.le; omega
    · exact World.frozen?_alloc_at _ _ _ _ rfl
  have HF := Lib.hid hF
  clear hown1 hgrow1 hs1 hcells hA hF hlt
  go_ret
  exact HF.out

/-- The document's reader has read: the number, the error; what is left. -/
def RRead (b g : Nat) (w : World) (v E : Int) (r : List Int) (e : Ending) (w' : World) : Prop :=
  e = .returned (.tuple #[.int .u64 v, .int .i64 E]) ∧ Turn w w' (At b) ∧ RR w' b g r

set_option maxRecDepth 100000 in
set_option maxHeartbeats 1000000 in
theorem rnumber_more (b g : Nat) (l : List Int) (n : Nat) (w : World) (h : RR w b g l) (n1 : 1 ≤ n) (n8 : n ≤ 8) (hn : l.length < n) :
    Calls Try.prog 36 #[.pointer (some ⟨b, 0, none⟩), .int .i64 n] w (RRead b g w 0 7 l) := by
  obtain ⟨o, c, h0, hle, hc, hj⟩ := h.cells
  have H := Lib.hid h
  obtain ⟨m, hm⟩ : ∃ m, l.length = m := ⟨_, rfl⟩
  rw [hm] at h0 hn
  have a1 : ¬ n < 1 := by omega
  have a2 : ¬ 8 < n := by omega
  clear hj hle hc h hm
  go_enter Try.func36, Try.ntmps36
  go_wp2
  go_ret2
  exact ⟨rfl, Turn.refl _ _, H.out⟩

set_option maxRecDepth 100000 in
set_option maxHeartbeats 1000000 in
theorem rnumber_yes (b g : Nat) (l : List Int) (n : Nat) (w : World) (h : RR w b g l) (hb : Oct.IsB l) (n1 : 1 ≤ n) (n8 : n ≤ 8) (hn : n ≤ l.length) :
    Calls Try.prog 36 #[.pointer (some ⟨b, 0, none⟩), .int .i64 n] w (RRead b g w (ofB (l.take n)) 0 (l.drop n)) := by
  obtain ⟨o, c, h0, hle, hc, hj⟩ := h.cells
  have H := Lib.hid h
  have hf := h.free
  have hseg : Bs.Seg w (some ⟨g, o, none⟩) n c (l.take n) := by
    refine ⟨by rw [List.length_take]; omega, by omega, hc, (fun e => by cases e), fun ad had j u hu => ?_⟩
    cases had
    have hjn : j < n := by
      have := (List.getElem?_eq_some_iff.1 hu).1
      simp at this
      omega
    rw [Addr.add_lit, hj j (by omega)]
    rw [List.getElem?_map, List.getElem?_take_of_lt hjn, List.getElem?_eq_getElem (by omega)] at hu
    simp [List.getD, List.getElem?_eq_getElem (show j < l.length by omega)]
    simpa using hu
  have HOf := Lib.hid (Ref1.rof_any g o n c _ w hseg (isB_take hb n) n8)
  have HNext := Lib.hid (fun v hv => RR.next (n := n) h h0 hle hc hj hn v hv)
  obtain ⟨z, hz⟩ : ∃ z, ofB (l.take n) = z := ⟨_, rfl⟩
  rw [hz] at HOf ⊢
  obtain ⟨m, hm⟩ : ∃ m, l.length = m := ⟨_, rfl⟩
  rw [hm] at h0 hn HNext hle
  have a1 : ¬ n < 1 := by omega
  have a2 : ¬ 8 < n := by omega
  have a3 : ¬ m < n := by omega
  unfold maxLen at hc
  clear hj h hm hseg hz
  have HT : Hid (∀ v, Turn w (w.setCell ⟨b, 0, none⟩ v) (At b)) := Lib.hid (fun v => Turn.setCell w ⟨b, 0, none⟩ v rfl)
  by_cases hcn : c = n
  · subst hcn
    obtain rfl : m = c := by omega
    have HF : Hid (RRead b g w z 0 (l.drop m) (.returned (.tuple #[.int .u64 z, .int .i64 0])) (w.setCell ⟨b, 0, none⟩ (.slice (some ⟨g, o, none⟩) (m - m) (m - m)))) := Lib.hid ⟨rfl, HT.out _, HNext.out _ (by rw [if_pos rfl])⟩
    go_enter Try.func36, Try.ntmps36
    go_wp2_with (first
      | (go_at_call 58; refine HOf.out.mono ?_; rintro e w' ⟨rfl, rfl⟩)
      | fail)
    go_ret2
    rw [Nat.sub_self] at HF
    exact HF.out
  · have HF : Hid (RRead b g w z 0 (l.drop n) (.returned (.tuple #[.int .u64 z, .int .i64 0])) (w.setCell ⟨b, 0, none⟩ (.slice (some ⟨g, o + n, none⟩) (m - n) (c - n)))) := Lib.hid ⟨rfl, HT.out _, HNext.out _ (by rw [if_neg hcn])⟩
    go_enter Try.func36, Try.ntmps36
    go_wp2_with (first
      | (go_at_call 58; refine HOf.out.mono ?_; rintro e w' ⟨rfl, rfl⟩)
      | fail)
    go_ret2
    exact HF.out
end Go.Proofs.Yteolpjlpjjjchaa.In
namespace Go.Proofs.Yteolpjlpjjjchaa.In
open Go.RowKit Go.Joins
open Oct (readV ofB VInv)
open Dv (Turn nowhere)

theorem and127_fin : ∀ x : Fin 256, bits .and .u8 ((x.val : Nat) : Int) 127 = ((x.val : Nat) : Int) % 128 := by decide +kernel
theorem and127 (x : Int) (h0 : 0 ≤ x) (h1 : x < 256) : bits .and .u8 x 127 = x % 128 := by
  obtain ⟨n, rfl⟩ : ∃ n : Nat, x = (n : Int) := ⟨x.toNat, by omega⟩
  exact and127_fin ⟨n, by omega⟩

/-- What Var of the document answers. -/
def RVarX (b g : Nat) (w : World) (l : List Int) (e : Ending) (w' : World) : Prop := RRead b g w (readV 0 0 l).1 (readV 0 0 l).2.1 (l.drop (readV 0 0 l).2.2) e w'
theorem RVarX.err {b g : Nat} {w : World} {l : List Int} {x : Int} (hr : readV 0 0 l = (0, x, 0)) (h : RR w b g l) : RVarX b g w l (.returned (.tuple #[.int .u64 0, .int .i64 x])) w := by
  unfold RVarX
  rw [hr]
  exact ⟨rfl, Turn.refl _ _, h⟩

set_option maxRecDepth 100000 in
set_option maxHeartbeats 2000000 in
theorem rvar_any (b g : Nat) (l : List Int) (w : World) (h : RR w b g l) (hb : Oct.IsB l) :
    Calls Try.prog 37 #[.pointer (some ⟨b, 0, none⟩)] w (RVarX b g w l) := by
  obtain ⟨o, c, h0, hle, hc, hj⟩ := h.cells
  have hf := h.free
  have HNext := Lib.hid (fun n hn v hv => RR.next (n := n) h h0 hle hc hj hn v hv)
  unfold maxLen at hc
  have HJ := Lib.hid hj
  have HI := Lib.hid (fun k acc (hi : VInv l k acc) (hk : k < l.length) => hi.round hk hb)
  have HE := Lib.hid (fun acc (hi : VInv l l.length acc) => hi.end)
  have HT : Hid (∀ v, Turn w (w.setCell ⟨b, 0, none⟩ v) (At b)) := Lib.hid (fun v => Turn.setCell w ⟨b, 0, none⟩ v rfl)
  have H := Lib.hid h
  obtain ⟨n, hn⟩ : ∃ n, n = l.length := ⟨_, rfl⟩
  have HN := Lib.hid hn
  rw [← hn] at h0 hle HNext
  clear hj hb h hn
  go_enter Try.func37, Try.ntmps37
  go_wp2
  go_loop [4, 5] (fun sv si => ∃ (k : Nat) (acc : Int), k ≤ 10 ∧ si = .int .i64 k ∧ sv = .int .u64 acc ∧ Hid ((k ≤ 9 ∧ k ≤ n ∧ VInv l k acc) ∨ (k = 10 ∧ readV 0 0 l = (0, 4, 0)))) (fun _ si => 10 - (intOf si).toNat)
  case atStart => exact ⟨0, 0, by decide, rfl, rfl, Lib.hid (.inl ⟨by decide, Nat.zero_le _, VInv.start l⟩)⟩
  case round =>
    obtain ⟨k, acc, hk, rfl, rfl, HA⟩ := hrel
    rcases HA.out with ⟨k9, kn, hA⟩ | ⟨rfl, hr⟩
    · have HV := Lib.hid hA
      have hk10 : (k : Int) < 10 := by omega
      clear hA HA
      by_cases hlt : k < n
      · obtain ⟨x0, x1, a0, hA, hrest⟩ := HI.out k acc HV.out (by have := HN.out; omega)
        have g1 := HJ.out k (by have := HN.out; omega)
        obtain ⟨x, hx⟩ : ∃ x, x = l.getD k 0 := ⟨_, rfl⟩
        rw [← hx] at x0 x1 hA hrest g1
        have hand := and127 x x0 x1
        clear hx
        by_cases cA : k = 9 ∧ 1 < x % 128
        · have HF := Lib.hid (hA ⟨cA.1, by omega⟩)
          obtain ⟨rfl, cx⟩ := cA
          clear hA hrest
          go_wp2
          go_ret2
          exact RVarX.err HF.out H.out
        · by_cases cB : 128 ≤ x
          · by_cases e9 : k = 9
            · subst e9
              have y1 : ¬ 1 < x % 128 := fun h => cA ⟨rfl, h⟩
              have HF := Lib.hid (hA ⟨rfl, by omega⟩)
              have yb : 0 ≤ x % 128 ∧ x % 128 < 128 := by omega
              obtain ⟨y, hy⟩ : ∃ y, x % 128 = y := ⟨_, rfl⟩
              rw [hy] at hand y1 yb
              have hlt128 : ¬ x < 128 := by omega
              clear hA hrest cA hy
              go_wp2
              go_round
              case rel => exact ⟨10, _, by decide, by go_num, rfl, Lib.hid (.inr ⟨rfl, HF.out⟩)⟩
              case measure => simp [intOf]
            · obtain ⟨y0, y1, ho, hB, hC, hD⟩ := hrest (fun h => e9 h.1)
              have HBv := Lib.hid (hB cB)
              have k9' : ((k : Int) == 9) = false := by simp; omega
              have hlt128 : ¬ x < 128 := by omega
              have hk8 : k ≤ 8 := by omega
              clear hA hrest hB hC hD cA e9
              go_wp2
              go_round
              case rel => exact ⟨k + 1, acc + x % 128 * 2 ^ (7 * k), by omega, by go_num, rfl, Lib.hid (.inl ⟨by omega, by omega, HBv.out⟩)⟩
              case measure => simp [intOf]; omega
          · have hyx : x % 128 = x := by omega
            have hlt128 : x < 128 := by omega
            have cA2 : ¬ (k = 9 ∧ 1 < x) := fun h => cA ⟨h.1, by omega⟩
            obtain ⟨y0, y1, ho, hB, hC, hD⟩ := hrest cA2
            rw [hyx] at hand y0 y1 ho hD
            have HC2 := Lib.hid hC
            have HD := Lib.hid hD
            clear hA hrest hB hC hD cA hyx
            have hand0 : bits .and .u8 0 127 = 0 := and127 0 (by decide) (by decide)
            by_cases cz : x = 0 ∧ 0 < k
            · have HF := Lib.hid (HC2.out cz)
              have xz : (x == 0) = true := by simp; omega
              have kp : (0 : Int) < (k : Int) := by omega
              have ho0 : bits BinOp.or IntKind.u64 acc 0 = acc := by rw [cz.1] at ho; simpa using ho
              by_cases e9 : k = 9
              · have k9' : ((k : Int) == 9) = true := by simp; omega
                have x1' : ¬ 1 < x := by omega
                clear cA2 cz e9
                go_wp2
                go_ret2
                exact RVarX.err HF.out H.out
              · have k9' : ((k : Int) == 9) = false := by simp; omega
                clear cA2 cz e9
                go_wp2
                go_ret2
                exact RVarX.err HF.out H.out
            · have HF := Lib.hid (HD.out (by omega) cz)
              by_cases e9 : k = 9
              · have x1' : ¬ 1 < x := fun h => cA2 ⟨e9, h⟩
                have xz : (x == 0) = false := by simp; omega
                have k9' : ((k : Int) == 9) = true := by simp; omega
                clear cA2 cz e9
                by_cases hcn : c = k + 1
                · obtain rfl : n = k + 1 := by omega
                  subst hcn
                  have HR : Hid (RVarX b g w l (.returned (.tuple #[.int .u64 (acc + x * 2 ^ (7 * k)), .int .i64 0])) (w.setCell ⟨b, 0, none⟩ (.slice (some ⟨g, o, none⟩) (k + 1 - (k + 1)) (k + 1 - (k + 1))))) := Lib.hid (by
                    unfold RVarX
                    rw [HF.out]
                    exact ⟨rfl, HT.out _, HNext.out (k + 1) (Nat.le_refl _) _ (by rw [if_pos rfl])⟩)
                  rw [Nat.sub_self] at HR
                  go_wp2
                  go_ret2
                  exact HR.out
                · have HR : Hid (RVarX b g w l (.returned (.tuple #[.int .u64 (acc + x * 2 ^ (7 * k)), .int .i64 0])) (w.setCell ⟨b, 0, none⟩ (.slice (some ⟨g, o + (k + 1), none⟩) (n - (k + 1)) (c - (k + 1))))) := Lib.hid (by
                    unfold RVarX
                    rw [HF.out]
                    exact ⟨rfl, HT.out _, HNext.out (k + 1) (by omega) _ (by rw [if_neg hcn])⟩)
                  go_wp2
                  go_ret2
                  exact HR.out
              · have k9' : ((k : Int) == 9) = false := by simp; omega
                by_cases ez : x = 0
                · have xz : (x == 0) = true := by simp; omega
                  have kp : (k : Int) ≤ 0 := by omega
                  have kp2 : decide ((0 : Int) < (k : Int)) = false := by simp; omega
                  have ho0 : bits BinOp.or IntKind.u64 acc 0 = acc := by rw [ez] at ho; simpa using ho
                  have HF2 : Hid (readV 0 0 l = (acc, 0, k + 1)) := Lib.hid (by have := HF.out; rw [ez] at this; simpa using this)
                  clear cA2 cz e9
                  by_cases hcn : c = k + 1
                  · obtain rfl : n = k + 1 := by omega
                    subst hcn
                    have HR : Hid (RVarX b g w l (.returned (.tuple #[.int .u64 acc, .int .i64 0])) (w.setCell ⟨b, 0, none⟩ (.slice (some ⟨g, o, none⟩) (k + 1 - (k + 1)) (k + 1 - (k + 1))))) := Lib.hid (by
                      unfold RVarX
                      rw [HF2.out]
                      exact ⟨rfl, HT.out _, HNext.out (k + 1) (Nat.le_refl _) _ (by rw [if_pos rfl])⟩)
                    rw [Nat.sub_self] at HR
                    go_wp2
                    go_ret2
                    exact HR.out
                  · have HR : Hid (RVarX b g w l (.returned (.tuple #[.int .u64 acc, .int .i64 0])) (w.setCell ⟨b, 0, none⟩ (.slice (some ⟨g, o + (k + 1), none⟩) (n - (k + 1)) (c - (k + 1))))) := Lib.hid (by
                      unfold RVarX
                      rw [HF2.out]
                      exact ⟨rfl, HT.out _, HNext.out (k + 1) (by omega) _ (by rw [if_neg hcn])⟩)
                    go_wp2
                    go_ret2
                    exact HR.out
                · have xz : (x == 0) = false := by simp; omega
                  clear cA2 cz e9
                  by_cases hcn : c = k + 1
                  · obtain rfl : n = k + 1 := by omega
                    subst hcn
                    have HR : Hid (RVarX b g w l (.returned (.tuple #[.int .u64 (acc + x * 2 ^ (7 * k)), .int .i64 0])) (w.setCell ⟨b, 0, none⟩ (.slice (some ⟨g, o, none⟩) (k + 1 - (k + 1)) (k + 1 - (k + 1))))) := Lib.hid (by
                      unfold RVarX
                      rw [HF.out]
                      exact ⟨rfl, HT.out _, HNext.out (k + 1) (Nat.le_refl _) _ (by rw [if_pos rfl])⟩)
                    rw [Nat.sub_self] at HR
                    go_wp2
                    go_ret2
                    exact HR.out
                  · have HR : Hid (RVarX b g w l (.returned (.tuple #[.int .u64 (acc + x * 2 ^ (7 * k)), .int .i64 0])) (w.setCell ⟨b, 0, none⟩ (.slice (some ⟨g, o + (k + 1), none⟩) (n - (k + 1)) (c - (k + 1))))) := Lib.hid (by
                      unfold RVarX
                      rw [HF.out]
                      exact ⟨rfl, HT.out _, HNext.out (k + 1) (by omega) _ (by rw [if_neg hcn])⟩)
                    go_wp2
                    go_ret2
                    exact HR.out
      · obtain rfl : k = n := by omega
        have HF := Lib.hid (HE.out acc (by rw [← HN.out]; exact HV.out))
        have hk10' : k < 10 := by omega
        clear hlt kn hk10
        go_wp2
        go_ret2
        exact RVarX.err HF.out H.out
    · have HF := Lib.hid hr
      clear hr HA
      go_wp2
      go_ret2
      exact RVarX.err HF.out H.out
end Go.Proofs.Yteolpjlpjjjchaa.In
namespace Go.Proofs.Yteolpjlpjjjchaa.In
open Go.RowKit Go.Joins
open Is (IsI)
open Oct (readV ofB)
open Dv (Turn nowhere)

theorem turn_own {a w w' : World} {b : Nat} {row : Option Nat} (h : Turn a w (At b)) (k : w.grownBy w' row) (hr : ∀ i, row = some i → a.heap.size ≤ i) : Turn a w' (At b) :=
  turn_more h (Turn.of_grown (S := fun i => a.heap.size ≤ i) k (fun i e _ => hr i e)) (fun _ hi => .inr hi)
theorem RR.own {w w' : World} {b g N : Nat} {l : List Int} {row : Option Nat} (h : RR w b g l) (k : w.grownBy w' row) (hr : ∀ i, row = some i → N ≤ i) (hb : b < N) (hg : g < N) : RR w' b g l :=
  h.turn (Turn.of_grown (S := fun i => N ≤ i) k (fun i e _ => hr i e)) (Nat.not_le.2 hb) (Nat.not_le.2 hg)
theorem own_turnV {w w' : World} {base e s n b : Nat} {V : Value} {xs : List Value} (h : w.ownsRow base e s V n xs) (k : Turn w w' (At b)) (hb : b < base) : w'.ownsRow base e s V n xs := by
  refine ⟨h.1, ?_⟩
  rcases h.2 with h' | ⟨g', cap, cur, e1, hb', hgg, rest⟩
  · exact .inl h'
  · exact .inr ⟨g', cap, cur, e1, hb', (k.block g' (Array.getElem?_eq_some_iff.1 hgg).1 (by unfold At; omega)).trans hgg, rest⟩
/-- a row of numbers of the call's own, as a slice -/
theorem own_slice {w : World} {base n : Nat} {V : Value} {l : List Int} (h : w.ownsRow base 2 1 V n (l.map (Value.int .i64))) : ∃ a c, V = .slice a n c ∧ Is.Seg w a n c l := by
  have h1 := h.1
  rw [List.length_map, Nat.mul_one] at h1
  have hh := h
  rcases h.2 with ⟨rfl, rfl⟩ | ⟨g', cap, cur, rfl, _⟩
  · obtain rfl := List.eq_nil_of_length_eq_zero h1
    exact ⟨none, 0, rfl, Is.Seg.nil w⟩
  · exact ⟨_, cap, rfl, Is.Seg.own hh⟩

/-- What eight bytes tell, or that there are no more. -/
theorem rnumber8_any (b g : Nat) (l : List Int) (w : World) (h : RR w b g l) (hb : Oct.IsB l) : ∃ v E r, (8 ≤ l.length → v = ofB (l.take 8) ∧ E = 0 ∧ r = l.drop 8) ∧ (l.length < 8 → E = 7) ∧
    Calls Try.prog 36 #[.pointer (some ⟨b, 0, none⟩), .int .i64 8] w (RRead b g w v E r) := by
  by_cases h8 : l.length < 8
  · exact ⟨0, 7, l, fun h => by omega, fun _ => rfl, rnumber_more b g l 8 w h (by decide) (by decide) h8⟩
  · exact ⟨_, 0, _, fun _ => ⟨rfl, rfl, rfl⟩, fun h => by omega, rnumber_yes b g l 8 w h hb (by decide) (by decide) (by omega)⟩

/-- What the document's runs answers. -/
def RGetsX (b g : Nat) (w : World) (r : Option (List Int × List Int)) (e : Ending) (w' : World) : Prop :=
  Turn w w' (At b) ∧ match r with
    | some (l, rest) => ∃ a c, e = .returned (.tuple #[.slice a l.length c, .bool true]) ∧ Is.Seg w' a l.length c l ∧ RR w' b g rest
    | none => e = .returned (.tuple #[.slice none 0 0, .bool false])

set_option maxRecDepth 100000 in
set_option maxHeartbeats 2000000 in
theorem rruns06_any (b g n : Nat) (bs : List Int) (w : World) (h : RR w b g bs) (hg : g < w.heap.size) (hb : Oct.IsB bs) (hn : n ≤ 65536) :
    Calls Try.prog 38 #[.pointer (some ⟨b, 0, none⟩), .int .i64 n] w (RGetsX b g w (decR false n none n bs)) := by
  obtain ⟨i0, hi, hz0, hz1, hz2⟩ := info_parts Is.info_i64
  have HBL := Lib.hid h.lt
  have HGL := Lib.hid hg
  have HR0 := Lib.hid h
  have HE0 : Hid (∃ f, n ≤ f ∧ decR false n none n bs = (decR false f ([] : List Int).getLast? n bs).map (fun p => (([] : List Int) ++ p.1, p.2))) := Lib.hid ⟨n, Nat.le_refl _, by simp⟩
  have HB0 := Lib.hid hb
  obtain ⟨X, hX⟩ : ∃ X, X = decR false n none n bs := ⟨_, rfl⟩
  rw [← hX] at HE0 ⊢
  clear h hg hb hX
  go_enter Try.func38, Try.ntmps38
  go_wp2
  go_loopg [6] n (fun gh so wr => ∃ (k : Nat) (acc rest : List Int) (aV : Option Addr) (cV : Nat), k + gh = n ∧ so = .slice aV k cV ∧ Hid (wr.ownsRow w.heap.size 2 1 (.slice aV k cV) k (acc.map (Value.int .i64))) ∧
      Hid (RR wr b g rest) ∧ Hid (Oct.IsB rest) ∧ Hid (∃ f, gh ≤ f ∧ X = (decR false f acc.getLast? gh rest).map (fun p => (acc ++ p.1, p.2))) ∧ Hid (Turn w wr (At b)))
  case atStart => exact ⟨0, [], bs, none, 0, by omega, rfl, Lib.hid (World.ownsRow_nil _ _ _ _), HR0, HB0, HE0, Lib.hid (Turn.refl _ _)⟩
  case round =>
    obtain ⟨k, acc, rest, aV, cV, hk, rfl, HO, HR, HB, HE, HT⟩ := hrel
    have hal : acc.length = k := by have := HO.out.1; rw [List.length_map] at this; omega
    cases gk with
    | zero =>
      obtain rfl : k = n := by omega
      have HF : Hid (RGetsX b g w X (.returned (.tuple #[.slice aV k cV, .bool true])) wr) := Lib.hid (by
        obtain ⟨f, _, hd⟩ := HE.out
        have hd2 : X = some (acc, rest) := by rw [hd, decR_zero]; simp
        rw [hd2]
        obtain ⟨a', c', e, hs⟩ := own_slice HO.out
        cases e
        exact ⟨HT.out, _, _, by rw [hal], by rw [hal]; exact hs, HR.out⟩)
      clear hal
      go_wp2
      go_ret2
      exact HF.out
    | succ m =>
      obtain ⟨f1, hf1, hd⟩ := HE.out
      obtain ⟨f, rfl⟩ : ∃ f', f1 = f' + 1 := ⟨f1 - 1, by omega⟩
      have hstep := decR_step false f m acc rest X hd
      have hf : m ≤ f := by omega
      clear hd hf1
      have HV := Lib.hid (rvar_any b g rest wr HR.out HB.out)
      unfold RVarX at HV
      have hrd := var_readV rest HB.out
      obtain ⟨q, er, nn, hq⟩ : ∃ q er nn, readV 0 0 rest = (q, er, nn) := ⟨_, _, _, rfl⟩
      rw [hq] at hstep HV
      have hrd := hrd q nn
      rw [hq] at hrd
      dsimp only at hstep HV
      obtain ⟨rest2, hrest2⟩ : ∃ r, r = rest.drop nn := ⟨_, rfl⟩
      have HB2 : Hid (Oct.IsB rest2) := Lib.hid (by rw [hrest2]; exact isB_drop HB.out nn)
      rw [← hrest2] at hstep HV
      clear hq hrest2
      go_wp2_with fail
      refine HV.out.mono ?_
      rintro e w1 ⟨rfl, ht1, hr1⟩
      obtain ⟨z, E8, rest3, hz8, hm8, hnum⟩ := rnumber8_any b g rest2 w1 hr1 HB2.out
      have HN := Lib.hid hnum
      have HT1 : Hid (Turn w w1 (At b)) := Lib.hid (turn_more HT.out ht1 (fun i e => .inl e))
      have HO1 := Lib.hid (own_turnV HO.out ht1 HBL.out)
      clear ht1 hr1 hnum HV
      dsimp only
      go_wp2_with fail
      refine HN.out.mono ?_
      rintro e w2 ⟨rfl, ht2, hr2⟩
      have HT2 : Hid (Turn w w2 (At b)) := Lib.hid (turn_more HT1.out ht2 (fun i e => .inl e))
      have HO2 := Lib.hid (own_turnV HO1.out ht2 HBL.out)
      have HR2 := Lib.hid hr2
      clear ht2 hr2 HN HO1 HT1
      dsimp only
      by_cases her : er = 0
      · subst her
        obtain ⟨q0, q1, -⟩ := hrd rfl
        by_cases h8 : rest2.length < 8
        · have hE8 := hm8 h8
          subst hE8
          have HX := Lib.hid (hstep.2.1 rfl h8)
          have HF : Hid (RGetsX b g w X (.returned (.tuple #[.slice none 0 0, .bool false])) w2) := Lib.hid (by rw [HX.out]; exact ⟨HT2.out, rfl⟩)
          clear hstep h8 hz8 hm8 hal hrd q0 q1
          go_wp2
          go_ret2
          exact HF.out
        · have h8' : 8 ≤ rest2.length := by omega
          obtain ⟨hz, rfl, hr3⟩ := hz8 h8'
          have hs3 := hstep.2.2 rfl h8'
          have hzb := ofB_bd8 (rest2.take 8) (isB_take HB2.out 8) (by rw [List.length_take]; omega)
          rw [← hz] at hzb hs3
          rw [← hr3] at hs3
          have HB3 : Hid (Oct.IsB rest3) := Lib.hid (by rw [hr3]; exact isB_drop HB2.out 8)
          rw [← wrap_sg z hzb.1 hzb.2] at hs3
          obtain ⟨M, hM⟩ : ∃ M, M = m + 1 := ⟨_, rfl⟩
          rw [← hM] at hs3
          have M1 : 1 ≤ M := by omega
          have Mn : M + k = n := by omega
          obtain ⟨z', hz'⟩ : ∃ z', wrap64 z = z' := ⟨_, rfl⟩
          rw [hz'] at hs3
          have hMe : (n : Int) - (k : Int) = (M : Int) := by omega
          have hM0 : M ≤ 65536 := by omega
          by_cases hbad : q < 1 ∨ (M : Int) < q ∨ (false = true ∧ acc.getLast? = some z')
          · have HX := Lib.hid (hs3.1 hbad)
            have hcs : q < 1 ∨ (¬ q < 1 ∧ (M : Int) < q) := by
              rcases hbad with h | h | h
              · exact .inl h
              · by_cases h1 : q < 1
                · exact .inl h1
                · exact .inr ⟨h1, h⟩
              · cases h.1
            have HF : Hid (RGetsX b g w X (.returned (.tuple #[.slice none 0 0, .bool false])) w2) := Lib.hid (by rw [HX.out]; exact ⟨HT2.out, rfl⟩)
            have HMd := Lib.hid hMe
            clear hstep hz8 hm8 hz hr3 hs3 hbad h8 h8' hal hrd hM M1 Mn hk hf hzb
            rcases hcs with c1 | ⟨c1, c2⟩
            · clear q0 q1
              go_wp2
              go_ret2
              exact HF.out
            · have c2' : decide ((M : Int) < q) = true := decide_eq_true c2
              clear c2
              go_wp2
              go_ret2
              exact HF.out
          · have hX := hs3.2 hbad
            obtain ⟨C, rfl⟩ : ∃ C : Nat, q = (C : Int) := ⟨q.toNat, by omega⟩
            rw [Int.toNat_natCast] at hX
            have C1 : 1 ≤ C := by omega
            have CM : C ≤ M := by omega
            have HE2 : Hid (∃ f, M - C ≤ f ∧ X = (decR false f (acc ++ List.replicate C z').getLast? (M - C) rest3).map (fun p => ((acc ++ List.replicate C z') ++ p.1, p.2))) := Lib.hid ⟨f, by omega, hX⟩
            have hC1 : ¬ (C : Int) < 1 := by omega
            have hcM : ¬ M < C := by omega
            have HK := Lib.hid (show 1 ≤ C ∧ C ≤ M ∧ M + k = n ∧ M ≤ 65536 ∧ M = m + 1 from ⟨C1, CM, Mn, hM0, hM⟩)
            clear hstep hz8 hm8 hz hr3 hs3 hbad h8 h8' hal hrd hM M1 Mn hk hf hzb hX CM q0 q1 C1
            go_wp2
            go_loopg [6, 7] C (fun gj so sq wx => ∃ (j : Nat) (aW : Option Addr) (cW : Nat), j + gj = C ∧ so = .slice aW (k + j) cW ∧ sq = .int .u64 gj ∧ Hid (wx.ownsRow w.heap.size 2 1 (.slice aW (k + j) cW) (k + j) ((acc ++ List.replicate j z').map (Value.int .i64))) ∧ Hid (Turn w wx (At b)) ∧ Hid (RR wx b g rest3))
            case atStart => exact ⟨0, aV, cV, by omega, rfl, rfl, Lib.hid (by simpa using HO2.out), HT2, HR2⟩
            case round =>
              obtain ⟨j, aW, cW, hj, rfl, rfl, HOj, HTj, HRj⟩ := hrel
              cases gk with
              | zero =>
                obtain rfl : j = C := by omega
                have HG := Lib.hid (show k + j + (M - j) = n from by have := HK.out; omega)
                clear hj hcM hC1 hMe
                go_wp2
                go_roundg (M - j)
                case rel => exact ⟨k + j, acc ++ List.replicate j z', rest3, aW, cW, HG.out, rfl, HOj, HRj, HB3, HE2, HTj⟩
                case measure => have := HK.out; omega
              | succ gj =>
                have hgj : gj ≤ 65536 := by have := HK.out; omega
                have hkj : k + j ≤ 65536 := by have := HK.out; omega
                have HJ := Lib.hid (show j + 1 + gj = C from by omega)
                have HJM := Lib.hid hj
                have HW : Hid (w.heap.size ≤ wr.heap.size) := Lib.hid HTj.out.size
                clear hj hcM hC1 hMe
                go_wp2_with (at_builtin; refine wpList_append_own _ rfl (.tmp 48) (.tmp 51) 27 rfl w.heap.size 2 i0 (.int .i64 0) 1 8 Try.underlying27 hi hz0 hz1 hz2 rfl (by decide) (.slice aW (k + j) cW) (k + j) _ rfl (HOj.out.alloc _) ⟨wr.heap.size, 0, none⟩ 1 1 [.int .i64 z'] rfl rfl (by intro t u ht; match t, ht with | 0, ht => simp at ht; subst ht; exact Pk.cell_new wr _ _) (by intro u hu; simp at hu; subst hu; rfl) (by unfold maxLen; omega) (by omega) (by have := HW.out; simp; omega) ?_; intro v5 w5 hown5 hgrow5 _)
                obtain ⟨g5, c5, rfl⟩ := ownsRow_form hown5 (by omega)
                have HO5 : Hid (w5.ownsRow w.heap.size 2 1 (.slice (some ⟨g5, 0, none⟩) (k + (j + 1)) c5) (k + (j + 1)) ((acc ++ List.replicate (j + 1) z').map (Value.int .i64))) := Lib.hid (by
                  rw [List.replicate_succ', ← List.append_assoc, List.map_append]
                  exact hown5)
                have hrow : ∀ i, (Value.slice aW (k + j) cW).ownBlock = some i → w.heap.size ≤ i := fun i e => (HOj.out.lt i e).1
                have HT5 : Hid (Turn w w5 (At b)) := Lib.hid (turn_own (turn_more HTj.out (Turn.alloc wr _ (At b)) (fun i e => .inl e)) hgrow5 hrow)
                have HR5 : Hid (RR w5 b g rest3) := Lib.hid (RR.own (N := w.heap.size) (HRj.out.turn (Turn.alloc wr _ nowhere) id id) hgrow5 hrow HBL.out HGL.out)
                clear hown5 hgrow5 hrow
                go_roundg gj
                case rel => exact ⟨j + 1, some ⟨g5, 0, none⟩, c5, HJ.out, rfl, by first | rfl | (congr 1; omega) | simp, HO5, HT5, HR5⟩
                case measure => omega
      · have HX := Lib.hid (hstep.1 her)
        have HF : Hid (RGetsX b g w X (.returned (.tuple #[.slice none 0 0, .bool false])) w2) := Lib.hid (by rw [HX.out]; exact ⟨HT2.out, rfl⟩)
        clear hstep hz8 hm8 hal hrd
        go_wp2
        go_ret2
        exact HF.out
end Go.Proofs.Yteolpjlpjjjchaa.In
