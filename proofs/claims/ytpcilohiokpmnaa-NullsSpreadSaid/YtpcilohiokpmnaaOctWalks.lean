/-
  Contracts of package octet's plain functions and of the copying ones: add, isSize, Zig, Zag, Len64's caller groups is apart (XOctVar).
-/
import Derived.Test.YtpcilohiokpmnaaRows
import Derived.Test.YtpcilohiokpmnaaOctNum
import Derived.WalkKit
import Derived.WalkLawsBesides
import Derived.BigQuiet
import Derived.Deep.QuietTactic
import Derived.Lib.Hide
import Derived.LaidEqlPtr
namespace Go.Proofs.Ytpcilohiokpmnaa.Oct
open Go.RowKit

/-- A slice of bytes that reads as the list l. -/
structure Seg (w : World) (a : Option Addr) (n c : Nat) (l : List Int) : Prop where
  len : l.length = n
  le : n ≤ c
  cap : c ≤ maxLen
  nil_ : a = none → n = 0 ∧ c = 0
  at_ : ∀ ad, a = some ad → ∀ j u, (l.map (Value.int .u8))[j]? = some u → w.cell? (ad.add j) = some u

theorem Seg.nil (w : World) : Seg w none 0 0 [] := ⟨rfl, Nat.le_refl _, by unfold maxLen; omega, fun _ => ⟨rfl, rfl⟩, fun _ h => by cases h⟩

/-- A slice of the call's own reads as what it owns. -/
theorem Seg.own {w : World} {base e g n c : Nat} {l : List Int} (h : w.ownsRow base e 1 (.slice (some ⟨g, 0, none⟩) n c) n (l.map (Value.int .u8))) : Seg w (some ⟨g, 0, none⟩) n c l := by
  have hl : l.length = n := by simpa using h.1
  refine ⟨hl, ?_, ?_, fun e => by (cases e), ?_⟩
  · rcases h.2 with ⟨e, _⟩ | ⟨g', cap, cur, e, _, _, h1, h2, _⟩
    · cases e
    · cases e; exact h1
  · rcases h.2 with ⟨e, _⟩ | ⟨g', cap, cur, e, _, _, h1, h2, _⟩
    · cases e
    · cases e; exact h2
  · intro ad had j u hu
    cases had
    exact h.cells rfl j u hu

theorem Seg.kept {w w' : World} {a : Option Addr} {n c : Nat} {l : List Int} (h : Seg w a n c l) {row : Option Nat} (hg : w.grownBy w' row) (hne : ∀ ad, a = some ad → row ≠ some ad.block) : Seg w' a n c l := by
  refine ⟨h.len, h.le, h.cap, h.nil_, fun ad had j u hu => hg.cell (h.at_ ad had j u hu) ?_⟩
  intro e
  have : (ad.add j).block = ad.block := by unfold Addr.add; split <;> rfl
  rw [this] at e
  exact hne ad had e.symm

theorem info_u8 : (Try.prog.info? 5).map (fun i => (i.zero, i.size, i.bytes)) = some (some (.int .u8 0), 1, 1) := by kernel_rfl

set_option maxHeartbeats 400000 in
theorem add_any (a0 a1 : Option Addr) (n0 c0 n1 c1 : Nat) (l0 l1 : List Int) (w : World) (h0 : Seg w a0 n0 c0 l0) (h1 : Seg w a1 n1 c1 l1) (hn : n0 + n1 ≤ 281474976710656) :
    Calls Try.prog 46 #[.slice a0 n0 c0, .slice a1 n1 c1] w fun e w' =>
      e = .returned (.slice (some ⟨w.heap.size, 0, none⟩) (n0 + n1) (n0 + n1)) ∧
      w'.ownsRow w.heap.size 5 1 (.slice (some ⟨w.heap.size, 0, none⟩) (n0 + n1) (n0 + n1)) (n0 + n1) ((l0 ++ l1).map (Value.int .u8)) ∧ w.grownBy w' none := by
  obtain ⟨i0, hi, hz0, hz1, hz2⟩ := info_parts info_u8
  have hl0 : (l0.map (Value.int .u8)).length = n0 * 1 := by simp [h0.len]
  have hl1 : (l1.map (Value.int .u8)).length = n1 * 1 := by simp [h1.len]
  have b0 : (0 : Int) ≤ (n0 : Int) + (n1 : Int) := by omega
  have HL0 := Lib.hid hl0; clear hl0
  have HL1 := Lib.hid hl1; clear hl1
  go_enter Try.func46, Try.ntmps46
  go_wp2_with (at_make; refine wpList_make_own _ rfl _ _ 23 rfl w.heap.size 5 i0 (.int .u8 0) 1 Try.underlying23 hi hz0 hz1 _ _ _ (n0 + n1) rfl rfl (by omega) ?b2 ?b3 (Nat.le_refl _) ?_)
  case b2 => rw [hz2]; omega
  case b3 => unfold maxLen; omega
  intro w0 hown0 hgrow0
  have s0 : ∀ ad, a0 = some ad → ∀ j u, (l0.map (Value.int .u8))[j]? = some u → w0.cell? (ad.add j) = some u := fun ad had j u hu => hgrow0.cell (h0.at_ ad had j u hu) (by simp)
  have lt1 : ∀ ad, a1 = some ad → ∀ j u, (l1.map (Value.int .u8))[j]? = some u → (ad.add j).block < w.heap.size := fun ad had j u hu => World.block_lt_of_cell? w _ (h1.at_ ad had j u hu)
  have s1 : ∀ ad, a1 = some ad → ∀ j u, (l1.map (Value.int .u8))[j]? = some u → w0.cell? (ad.add j) = some u := fun ad had j u hu => hgrow0.cell (h1.at_ ad had j u hu) (by simp)
  have n0' := h0.nil_
  have n1' := h1.nil_
  go_wp2_with (first
    | (at_builtin; refine wpList_append_fits_any _ rfl (.tmp 12) (.tmp 13) 23 rfl w.heap.size 5 i0 1 Try.underlying23 hi hz1 w.heap.size 0 (n0 + n1) _ rfl hown0 a0 n0 c0 (l0.map (Value.int .u8)) rfl HL0.out n0' s0 (ints_oneCell _ _) (by omega) ?_; intro w1 hown1 hgrow1; simp only [Nat.zero_add, List.nil_append] at hown1)
    | (at_builtin; refine wpList_append_fits_any _ rfl (.tmp 14) (.tmp 15) 23 rfl w.heap.size 5 i0 1 Try.underlying23 hi hz1 w.heap.size n0 (n0 + n1) _ rfl hown1 a1 n1 c1 (l1.map (Value.int .u8)) rfl HL1.out n1' (fun ad had j u hu => hgrow1.cell (s1 ad had j u hu) (fun e => by have h2 := lt1 ad had j u hu; have h3 := Option.some.inj e; omega)) (ints_oneCell _ _) (by omega) ?_; intro w2 hown2 hgrow2))
  go_ret
  refine ⟨rfl, by simpa using hown2, ⟨hgrow2.os.trans (hgrow1.os.trans hgrow0.os), hgrow2.tape.trans (hgrow1.tape.trans hgrow0.tape), hgrow2.output.trans (hgrow1.output.trans hgrow0.output), Nat.le_trans hgrow0.size (Nat.le_trans hgrow1.size hgrow2.size), fun k hk _ => ?_⟩⟩
  have hne : some k ≠ some w.heap.size := fun e => by have := Option.some.inj e; omega
  exact (hgrow2.block k (Nat.lt_of_lt_of_le hk (Nat.le_trans hgrow0.size hgrow1.size)) hne).trans ((hgrow1.block k (Nat.lt_of_lt_of_le hk hgrow0.size) hne).trans (hgrow0.block k hk (by simp)))

/-- Is n a number's size? -/
theorem isSize_any (n : Int) (w : World) : Calls Try.prog 54 #[.int .i64 n] w fun e w' => e = .returned (.bool (decide (1 ≤ n ∧ n ≤ 8))) ∧ w = w' := by
  by_cases h1 : 1 ≤ n
  · by_cases h2 : n ≤ 8
    · go_enter Try.func54, Try.ntmps54
      go_wp2
      go_ret
      exact ⟨by simp [h1, h2], rfl⟩
    · have h2' : decide (n ≤ 8) = false := by simpa using h2
      go_enter Try.func54, Try.ntmps54
      go_wp2
      go_ret
      exact ⟨rfl, rfl⟩
  · have h1' : decide (1 ≤ n) = false := by simpa using h1
    go_enter Try.func54, Try.ntmps54
    go_wp2
    go_ret
    exact ⟨rfl, rfl⟩

theorem ret_int {k : IntKind} {a b : Int} (h : a = b) : Ending.returned (.int k a) = .returned (.int k b) := by rw [h]

/-- Block b is a reader of New's, at which the bytes l are left; its bytes lie in block g. -/
structure Rd (w : World) (b g : Nat) (l : List Int) : Prop where
  ne : g ≠ b
  cells : ∃ o c, w.cell? ⟨b, 0, none⟩ = some (.slice (some ⟨g, o, none⟩) l.length c) ∧ l.length ≤ c ∧ c ≤ maxLen ∧ ∀ j, j < l.length → w.cell? ⟨g, o + j, none⟩ = some (.int .u8 (l.getD j 0))
  self : w.cell? ⟨b, 1, none⟩ = some (.pointer (some ⟨b, 0, none⟩))
  free : w.frozen? ⟨b, 0, none⟩ = false

theorem Rd.kept {w w' : World} {b g : Nat} {l : List Int} (h : Rd w b g l) {row : Option Nat} (hg : w.grownBy w' row) (h1 : row ≠ some b) (h2 : row ≠ some g) : Rd w' b g l := by
  obtain ⟨o, c, h0, hle, hc, hj⟩ := h.cells
  have lt := World.block_lt_of_cell? w _ h0
  refine ⟨h.ne, ⟨o, c, hg.cell h0 (fun e => h1 e.symm), hle, hc, fun j hjl => hg.cell (hj j hjl) (fun e => h2 e.symm)⟩, hg.cell h.self (fun e => h1 e.symm), ?_⟩
  rw [World.frozen?_of_block (hg.block b lt (fun e => h1 e.symm))]
  exact h.free

theorem info_reader : (Try.prog.info? 75).isSome = true := by kernel_rfl
theorem eql_reader (a : Addr) (w : World) : (binOp .eql 50 (.pointer (some a)) (.pointer (some a))).run Try.prog w = .ok (.bool true) w := by
  obtain ⟨j, hj⟩ := Option.isSome_iff_exists.1 info_reader
  exact run_eql_ptr_same w a Try.underlying50 hj

theorem valid_yes (b : Nat) (w : World) (h : w.cell? ⟨b, 1, none⟩ = some (.pointer (some ⟨b, 0, none⟩))) : Calls Try.prog 52 #[.pointer (some ⟨b, 0, none⟩)] w fun e w' => e = .returned (.bool true) ∧ w = w' := by
  have he := eql_reader ⟨b, 0, none⟩
  go_enter Try.func52, Try.ntmps52
  go_wp2
  go_ret
  exact ⟨rfl, rfl⟩

theorem valid_nil (w : World) : Calls Try.prog 52 #[.pointer none] w fun e w' => e = .returned (.bool false) ∧ w = w' := by
  go_enter Try.func52, Try.ntmps52
  go_wp2
  go_ret
  exact ⟨rfl, rfl⟩

theorem left_yes (b g : Nat) (l : List Int) (w : World) (h : Rd w b g l) : Calls Try.prog 31 #[.pointer (some ⟨b, 0, none⟩)] w fun e w' => e = .returned (.int .i64 l.length) ∧ w = w' := by
  obtain ⟨o, c, h0, hle, hc, hj⟩ := h.cells
  go_enter Try.func31, Try.ntmps31
  go_wp2_with (go_at_call 52; refine (valid_yes b _ h.self).mono ?_; rintro e w' ⟨rfl, rfl⟩)
  go_ret
  exact ⟨rfl, rfl⟩

theorem left_nil (w : World) : Calls Try.prog 31 #[.pointer none] w fun e w' => e = .returned (.int .i64 0) ∧ w = w' := by
  go_enter Try.func31, Try.ntmps31
  go_wp2_with (go_at_call 52; refine (valid_nil _).mono ?_; rintro e w' ⟨rfl, rfl⟩)
  go_ret
  exact ⟨rfl, rfl⟩

/-- cut: n bytes from the front are handed out as they lie; the rest is left. -/
theorem Rd.cut {w : World} {b g : Nat} {l : List Int} (n : Nat) (o o' c c' m : Nat) (h : Rd w b g l) (h0 : w.cell? ⟨b, 0, none⟩ = some (.slice (some ⟨g, o, none⟩) l.length c)) (hm : m = l.length - n) (hle : l.length ≤ c) (hle' : m ≤ c') (hc : c' ≤ maxLen) (hc2 : c ≤ maxLen)
    (hj : ∀ j, j < l.length → w.cell? ⟨g, o + j, none⟩ = some (.int .u8 (l.getD j 0))) (ho : n < l.length → o' = o + n) (hn : n ≤ l.length) :
    Rd (w.setCell ⟨b, 0, none⟩ (.slice (some ⟨g, o', none⟩) m c')) b g (l.drop n) ∧ w.grownBy (w.setCell ⟨b, 0, none⟩ (.slice (some ⟨g, o', none⟩) m c')) (some b) ∧
      Seg (w.setCell ⟨b, 0, none⟩ (.slice (some ⟨g, o', none⟩) m c')) (some ⟨g, o, none⟩) n c (l.take n) := by
  have hne := h.ne
  have hlen : (l.drop n).length = m := by simp; omega
  refine ⟨⟨hne, ⟨o', c', ?_, by omega, hc, ?_⟩, ?_, ?_⟩, ⟨rfl, rfl, rfl, by simp, fun k _ hk => Below.heap_setCell _ _ _ _ (fun e => hk (by rw [e]))⟩, ⟨by simp; omega, by omega, hc2, (fun e => by cases e), ?_⟩⟩
  · rw [World.cell?_setCell_same _ _ _ h0, hlen]
  · intro j hjl
    rw [World.cell?_setCell_other _ _ _ _ (by intro e; exact hne (congrArg Addr.block e).symm)]
    have : n < l.length := by simp at hjl; omega
    rw [ho this, Nat.add_assoc, hj (n + j) (by simp at hjl; omega)]
    simp [List.getD]
  · rw [World.cell?_setCell_other _ _ _ _ (by intro e; cases e)]
    exact h.self
  · rw [World.frozen?_setCell]
    exact h.free
  · intro ad had j u hu
    cases had
    have hjn : j < n := by
      have := (List.getElem?_eq_some_iff.1 hu).1
      simp at this
      omega
    rw [Addr.add_lit, World.cell?_setCell_other _ _ _ _ (by intro e; exact hne (congrArg Addr.block e).symm), hj j (by omega)]
    rw [List.getElem?_map, List.getElem?_take_of_lt hjn] at hu
    simp only [List.getD]
    cases hq : l[j]? with
    | none => rw [hq] at hu; cases hu
    | some y => rw [hq] at hu; exact hu

theorem cut_any (b g : Nat) (l : List Int) (n : Nat) (w : World) (h : Rd w b g l) (hn : n ≤ l.length) :
    Calls Try.prog 53 #[.pointer (some ⟨b, 0, none⟩), .int .i64 n] w fun e w' =>
      ∃ o c, e = .returned (.slice (some ⟨g, o, none⟩) n c) ∧ Rd w' b g (l.drop n) ∧ w.grownBy w' (some b) ∧ Seg w' (some ⟨g, o, none⟩) n c (l.take n) := by
  obtain ⟨o, c, h0, hle, hc, hj⟩ := h.cells
  have hf := h.free
  have hs := h.self
  have hne := h.ne
  unfold maxLen at hc
  have hc2 : c ≤ maxLen := by unfold maxLen; omega
  by_cases hcn : c = n
  · subst hcn
    have R := Rd.cut c o o c 0 0 h h0 (by omega) hle (by omega) (by unfold maxLen; omega) hc2 hj (fun hh => by omega) hn
    have HR := Lib.hid R
    clear R hj h
    go_enter Try.func53, Try.ntmps53
    go_wp2
    go_ret
    exact ⟨o, c, rfl, HR.out⟩
  · have R := Rd.cut n o (o + n) c (c - n) (l.length - n) h h0 rfl hle (by omega) (by unfold maxLen; omega) hc2 hj (fun hh => rfl) hn
    have HR := Lib.hid R
    clear R hj h
    go_enter Try.func53, Try.ntmps53
    go_wp2
    go_ret
    exact ⟨o, c, rfl, HR.out⟩

end Go.Proofs.Ytpcilohiokpmnaa.Oct
