/-
  The helpers of the statements: Same, Own; and 'lives'.
-/
import Derived.Test.YtjjkckocdenncaaOctVarR
import Derived.Laws.AppendOwnNone
import Derived.Laws.BytesArg
namespace Go.Proofs.Ytjjkckocdenncaa.Oct
open Go.RowKit

set_option maxHeartbeats 400000 in
theorem same_yes (a0 a1 : Option Addr) (n c0 c1 : Nat) (l : List Int) (w : World) (h0 : Seg w a0 n c0 l) (h1 : Seg w a1 n c1 l) :
    Calls Try.prog 12 #[.slice a0 n c0, .slice a1 n c1] w fun e w' => e = .returned (.bool true) ∧ ∃ m, w' = w.drewN m := by
  by_cases hn : n = 0
  · subst hn
    go_enter Try.func12, Try.ntmps12
    go_wp2
    refine wp_loop_rounds 1 ?_
    rw [rounds_succ]
    go_wp2
    go_ret
    exact ⟨rfl, 0, rfl⟩
  · obtain ⟨g0, o0, rfl, k0⟩ := h0.addr (by omega)
    obtain ⟨g1, o1, rfl, k1⟩ := h1.addr (by omega)
    have hm := h0.cap
    have hle := h0.le
    unfold maxLen at hm
    have K0 := Lib.hid k0
    have K1 := Lib.hid k1
    clear k0 k1 h0 h1
    go_enter Try.func12, Try.ntmps12
    go_wp2
    go_loopw [5] (fun si wr => ∃ k m : Nat, k ≤ n ∧ si = .int .i64 k ∧ wr = w.drewN m) (fun si _ => n - (intOf si).toNat)
    case atStart => exact ⟨0, 0, Nat.zero_le _, rfl, rfl⟩
    case round =>
      obtain ⟨k, m, hk, rfl, rfl⟩ := hrel
      by_cases hlt : k < n
      · have q0 := K0.out k hlt
        have q1 := K1.out k hlt
        go_wp2
        go_quiet (fail)
        go_wp2
        go_roundw
        case rel => exact ⟨k + 1, m + nq, by omega, by go_num, by simp⟩
        case measure => simp [intOf]; omega
      · obtain rfl : k = n := by omega
        go_wp2
        go_ret
        exact ⟨rfl, m, rfl⟩

/-- A row of the call's own that is not nil. -/
theorem own_shape {w : World} {base e n : Nat} {v : Value} {xs : List Value} (h : w.ownsRow base e 1 v n xs) (hv : ¬ v = .slice none 0 0) : ∃ g c, v = .slice (some ⟨g, 0, none⟩) n c := by
  rcases h.2 with ⟨e, _⟩ | ⟨g, c, cur, e, _⟩
  · exact absurd e hv
  · exact ⟨g, c, e⟩

/-- Own: new memory that reads as l. -/
def NewC (w : World) (n : Nat) (l : List Int) (e : Ending) (w' : World) : Prop :=
  ∃ g c, e = .returned (.slice (some ⟨g, 0, none⟩) n c) ∧ w'.ownsRow w.heap.size 5 1 (.slice (some ⟨g, 0, none⟩) n c) n (l.map (Value.int .u8)) ∧ w.grownBy w' none

set_option maxHeartbeats 400000 in
theorem own_any (a0 : Option Addr) (n c0 : Nat) (l : List Int) (w : World) (h0 : Seg w a0 n c0 l) (hn : n ≤ 140737488355328) :
    Calls Try.prog 19 #[.slice a0 n c0] w (NewC w n l) := by
  obtain ⟨i0, hi, hz0, hz1, hz2⟩ := info_parts info_u8
  have hown := World.ownsRow_made (base := w.heap.size) (e := 5) (size := 1) w #[] 0 (Nat.le_refl _) (by unfold maxLen; omega) rfl
  have hl0 : (l.map (Value.int .u8)).length = n * 1 := by simp [h0.len]
  have HL0 := Lib.hid hl0
  cases a0 with
  | none =>
    obtain ⟨rfl, rfl⟩ := h0.nil_ rfl
    have hl : l = [] := List.eq_nil_of_length_eq_zero h0.len
    have HE : Hid (NewC w 0 l (.returned (.slice (some ⟨w.heap.size, 0, none⟩) 0 0)) (w.alloc (.cells #[] 5))) := Lib.hid ⟨_, _, rfl, by rw [hl]; exact hown, World.grownBy_alloc w _ none⟩
    clear hl hl0 h0
    go_enter Try.func19, Try.ntmps19
    go_wp2_with (at_builtin; refine wpList_append_own_none rfl (.tmp 3) (.tmp 4) 25 rfl w.heap.size 5 i0 1 Try.underlying25 hi (.slice (some ⟨w.heap.size, 0, none⟩) 0 0) 0 [] rfl hown rfl ?_)
    go_ret
    exact HE.out
  | some ad =>
    have s0 : ∀ j u, (l.map (Value.int .u8))[j]? = some u → (w.alloc (.cells #[] 5)).cell? (ad.add j) = some u := fun j u hu => (World.grownBy_alloc w _ none).cell (h0.at_ ad rfl j u hu) (by simp)
    have S0 := Lib.hid s0
    clear hl0 h0 s0
    go_enter Try.func19, Try.ntmps19
    go_wp2_with (at_builtin; refine wpList_append_own _ rfl (.tmp 3) (.tmp 4) 25 rfl w.heap.size 5 i0 (.int .u8 0) 1 1 Try.underlying25 hi hz0 hz1 hz2 rfl (by decide) (.slice (some ⟨w.heap.size, 0, none⟩) 0 0) 0 [] rfl hown ad n c0 (l.map (Value.int .u8)) rfl HL0.out S0.out (ints_oneCell _ _) (by unfold maxLen; omega) (by omega) (by simp) ?_; intro v' w1 hown1 hgrow1 hnil)
    obtain ⟨g, c, rfl⟩ := own_shape hown1 (by rw [hnil]; simp)
    rw [Nat.zero_add, List.nil_append] at hown1
    have hfin : NewC w n l (.returned (.slice (some ⟨g, 0, none⟩) n c)) w1 := ⟨g, c, rfl, hown1, grownBy_trans (World.grownBy_alloc w _ none) hgrow1 (fun i e => by cases e; exact Nat.le_refl _)⟩
    have HE := Lib.hid hfin
    clear hfin hown1 hgrow1 hnil
    go_wp2
    go_ret
    first | exact HE.out | (rw [Nat.zero_add]; exact HE.out)

theorem conv_any (g o n c : Nat) (l : List Int) (w : World) (h : Seg w (some ⟨g, o, none⟩) n c l) : (convert 25 9 (.slice (some ⟨g, o, none⟩) n c)).run Try.prog w = .ok (.string (strOfNums l)) w := by
  refine run_convert_bytes_arg w 25 5 Try.underlying25 Try.underlying5 g o n c l h.len (fun j hj => ?_) 9 Try.underlying9
  obtain ⟨g', o', e, hh⟩ := h.addr (by omega)
  cases e
  exact hh j hj

set_option maxHeartbeats 400000 in
theorem lives_any (w : World) :
    Calls Try.prog 7 #[] w fun e w' => e = .returned (.bool true) ∧ w.grownBy w' none := by
  go_enter Try.func7, Try.ntmps7
  go_wp2_with fail
  refine (putVar_any none 0 0 [] 300 w (Seg.nil w) (by omega) (by omega) (by omega)).mono ?_
  rintro e w1 ⟨g, rfl, hown, hg⟩
  have e : ([] ++ varB 9 300) = [172, 2] := by decide
  rw [e] at hown ⊢
  have hc := conv_any g 0 2 2 [172, 2] w1 (Seg.own hown)
  rw [show strOfNums [172, 2] = ⟨#[172, 2]⟩ from by decide] at hc
  clear hown e
  have HG := Lib.hid hg
  clear hg
  go_wp2_with (go_at_call 18; refine (zig_any _ _ (by omega) (by omega)).mono ?_; rintro e w' ⟨rfl, rfl⟩)
  go_ret
  exact ⟨rfl, HG.out⟩

/-- The first m of what a slice reads. -/
theorem Seg.take {w : World} {a : Option Addr} {n c m : Nat} {l : List Int} (h : Seg w a n c l) (hm : m ≤ n) : Seg w a m c (l.take m) := by
  refine ⟨by rw [List.length_take, h.len]; omega, Nat.le_trans hm h.le, h.cap, fun e => ⟨by have := (h.nil_ e).1; omega, (h.nil_ e).2⟩, fun ad had j u hu => h.at_ ad had j u ?_⟩
  rw [List.map_take] at hu
  have hj : j < m := by
    have := (List.getElem?_eq_some_iff.1 hu).1
    rw [List.length_take] at this
    omega
  rwa [List.getElem?_take_of_lt hj] at hu

/-- An argument's row of bytes, as a slice that reads. -/
theorem Seg.row {w : World} {x : Addr} {n c : Nat} {zs : List Int} (hl : n ≤ c) (hm : c ≤ maxLen) (hz : zs.length = c) (hcell : ∀ i, i < zs.length → w.cell? (x.add i) = some (.int .u8 (zs.getD i 0))) :
    Seg w (some x) n c (zs.take n) := by
  refine ⟨by rw [List.length_take]; omega, hl, hm, (fun e => by cases e), ?_⟩
  intro ad had j u hu
  cases had
  have hj : j < n := by
    have := (List.getElem?_eq_some_iff.1 hu).1
    simp at this
    omega
  rw [hcell j (by omega)]
  rw [List.getElem?_map, List.getElem?_take_of_lt hj] at hu
  simp only [List.getD]
  cases hq : zs[j]? with
  | none => rw [hq] at hu; cases hu
  | some y => rw [hq] at hu; exact hu
theorem isB_row {zs : List Int} (h : ∀ n ∈ zs, (Lit.int .u8 n).wf = true) (n : Nat) : IsB (zs.take n) := by
  intro x hx
  have := h x (List.mem_of_mem_take hx)
  have : 0 ≤ x ∧ x ≤ 255 := by simpa [Lit.wf, IntKind.min, IntKind.max, IntKind.signed, IntKind.bits] using this
  omega
end Go.Proofs.Ytjjkckocdenncaa.Oct
