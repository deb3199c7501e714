/-
  What the program's and the document's functions do, in memory and as plain functions: OctWalks, OctVar, OctPut, OctRead, OctVarR, OctPutN.
-/
import Derived.Test.YtljanfnhmhimiaaGreatRows
import Derived.WalkKit
import Derived.WalkLawsBesides
import Derived.BigQuiet
import Derived.Deep.QuietTactic
import Derived.Lib.Hide
import Derived.LaidEqlPtr
import Derived.Laws.BitsAllLaws
import Derived.Laws.Bits128
import Derived.Test.YtljanfnhmhimiaaGreatSmB

namespace Go.Proofs.YtljanfnhmhimiaaGreat.Oct
open Go.RowKit

/-- A slice of bytes that reads as the list l. -/
structure Seg (w : World) (a : Option Addr) (n c : Nat) (l : List Int) : Prop where
  len : l.length = n
  le : n ≤ c
  cap : c ≤ maxLen
  nil_ : a = none → n = 0 ∧ c = 0
  at_ : ∀ ad, a = some ad → ∀ j u, (l.map (Value.int .u8))[j]? = some u → w.cell? (ad.add j) = some u

theorem Seg.nil (w : World) : Seg w none 0 0 [] := ⟨rfl, Nat.le_refl _, by unfold maxLen; omega, fun _ => ⟨rfl, rfl⟩, fun _ h => by cases h⟩

/-- A slice of the call's own reads as what it owns. -/
theorem Seg.own {w : World} {base e g n c : Nat} {l : List Int} (h : w.ownsRow base e 1 (.slice (some ⟨g, 0, none⟩) n c) n (l.map (Value.int .u8))) : Seg w (some ⟨g, 0, none⟩) n c l := by
  have hl : l.length = n := by simpa using h.1
  refine ⟨hl, ?_, ?_, fun e => by (cases e), ?_⟩
  · rcases h.2 with ⟨e, _⟩ | ⟨g', cap, cur, e, _, _, h1, h2, _⟩
    · cases e
    · cases e; exact h1
  · rcases h.2 with ⟨e, _⟩ | ⟨g', cap, cur, e, _, _, h1, h2, _⟩
    · cases e
    · cases e; exact h2
  · intro ad had j u hu
    cases had
    exact h.cells rfl j u hu

theorem Seg.kept {w w' : World} {a : Option Addr} {n c : Nat} {l : List Int} (h : Seg w a n c l) {row : Option Nat} (hg : w.grownBy w' row) (hne : ∀ ad, a = some ad → row ≠ some ad.block) : Seg w' a n c l := by
  refine ⟨h.len, h.le, h.cap, h.nil_, fun ad had j u hu => hg.cell (h.at_ ad had j u hu) ?_⟩
  intro e
  have : (ad.add j).block = ad.block := by unfold Addr.add; split <;> rfl
  rw [this] at e
  exact hne ad had e.symm

theorem info_u8 : (Tryz.prog.info? 5).map (fun i => (i.zero, i.size, i.bytes)) = some (some (.int .u8 0), 1, 1) := by kernel_rfl

set_option maxHeartbeats 400000 in
theorem add_any (a0 a1 : Option Addr) (n0 c0 n1 c1 : Nat) (l0 l1 : List Int) (w : World) (h0 : Seg w a0 n0 c0 l0) (h1 : Seg w a1 n1 c1 l1) (hn : n0 + n1 ≤ 281474976710656) :
    Calls Tryz.prog 82 #[.slice a0 n0 c0, .slice a1 n1 c1] w fun e w' =>
      e = .returned (.slice (some ⟨w.heap.size, 0, none⟩) (n0 + n1) (n0 + n1)) ∧
      w'.ownsRow w.heap.size 5 1 (.slice (some ⟨w.heap.size, 0, none⟩) (n0 + n1) (n0 + n1)) (n0 + n1) ((l0 ++ l1).map (Value.int .u8)) ∧ w.grownBy w' none := by
  obtain ⟨i0, hi, hz0, hz1, hz2⟩ := info_parts info_u8
  have hl0 : (l0.map (Value.int .u8)).length = n0 * 1 := by simp [h0.len]
  have hl1 : (l1.map (Value.int .u8)).length = n1 * 1 := by simp [h1.len]
  have b0 : (0 : Int) ≤ (n0 : Int) + (n1 : Int) := by omega
  have HL0 := Lib.hid hl0; clear hl0
  have HL1 := Lib.hid hl1; clear hl1
  go_enter Tryz.func82, Tryz.ntmps82
  go_wp2_with (at_make; refine wpList_make_own _ rfl _ _ 45 rfl w.heap.size 5 i0 (.int .u8 0) 1 Tryz.underlying45 hi hz0 hz1 _ _ _ (n0 + n1) rfl rfl (by omega) ?b2 ?b3 (Nat.le_refl _) ?_)
  case b2 => rw [hz2]; omega
  case b3 => unfold maxLen; omega
  intro w0 hown0 hgrow0
  have s0 : ∀ ad, a0 = some ad → ∀ j u, (l0.map (Value.int .u8))[j]? = some u → w0.cell? (ad.add j) = some u := fun ad had j u hu => hgrow0.cell (h0.at_ ad had j u hu) (by simp)
  have lt1 : ∀ ad, a1 = some ad → ∀ j u, (l1.map (Value.int .u8))[j]? = some u → (ad.add j).block < w.heap.size := fun ad had j u hu => World.block_lt_of_cell? w _ (h1.at_ ad had j u hu)
  have s1 : ∀ ad, a1 = some ad → ∀ j u, (l1.map (Value.int .u8))[j]? = some u → w0.cell? (ad.add j) = some u := fun ad had j u hu => hgrow0.cell (h1.at_ ad had j u hu) (by simp)
  have n0' := h0.nil_
  have n1' := h1.nil_
  go_wp2_with (first
    | (at_builtin; refine wpList_append_fits_any _ rfl (.tmp 12) (.tmp 13) 45 rfl w.heap.size 5 i0 1 Tryz.underlying45 hi hz1 w.heap.size 0 (n0 + n1) _ rfl hown0 a0 n0 c0 (l0.map (Value.int .u8)) rfl HL0.out n0' s0 (ints_oneCell _ _) (by omega) ?_; intro w1 hown1 hgrow1; simp only [Nat.zero_add, List.nil_append] at hown1)
    | (at_builtin; refine wpList_append_fits_any _ rfl (.tmp 14) (.tmp 15) 45 rfl w.heap.size 5 i0 1 Tryz.underlying45 hi hz1 w.heap.size n0 (n0 + n1) _ rfl hown1 a1 n1 c1 (l1.map (Value.int .u8)) rfl HL1.out n1' (fun ad had j u hu => hgrow1.cell (s1 ad had j u hu) (fun e => by have h2 := lt1 ad had j u hu; have h3 := Option.some.inj e; omega)) (ints_oneCell _ _) (by omega) ?_; intro w2 hown2 hgrow2))
  go_ret
  refine ⟨rfl, by simpa using hown2, ⟨hgrow2.os.trans (hgrow1.os.trans hgrow0.os), hgrow2.tape.trans (hgrow1.tape.trans hgrow0.tape), hgrow2.output.trans (hgrow1.output.trans hgrow0.output), Nat.le_trans hgrow0.size (Nat.le_trans hgrow1.size hgrow2.size), fun k hk _ => ?_⟩⟩
  have hne : some k ≠ some w.heap.size := fun e => by have := Option.some.inj e; omega
  exact (hgrow2.block k (Nat.lt_of_lt_of_le hk (Nat.le_trans hgrow0.size hgrow1.size)) hne).trans ((hgrow1.block k (Nat.lt_of_lt_of_le hk hgrow0.size) hne).trans (hgrow0.block k hk (by simp)))

/-- Is n a number's size? -/
theorem isSize_any (n : Int) (w : World) : Calls Tryz.prog 137 #[.int .i64 n] w fun e w' => e = .returned (.bool (decide (1 ≤ n ∧ n ≤ 8))) ∧ w = w' := by
  by_cases h1 : 1 ≤ n
  · by_cases h2 : n ≤ 8
    · go_enter Tryz.func137, Tryz.ntmps137
      go_wp2
      go_ret
      exact ⟨by simp [h1, h2], rfl⟩
    · have h2' : decide (n ≤ 8) = false := by simpa using h2
      go_enter Tryz.func137, Tryz.ntmps137
      go_wp2
      go_ret
      exact ⟨rfl, rfl⟩
  · have h1' : decide (1 ≤ n) = false := by simpa using h1
    go_enter Tryz.func137, Tryz.ntmps137
    go_wp2
    go_ret
    exact ⟨rfl, rfl⟩

theorem ret_int {k : IntKind} {a b : Int} (h : a = b) : Ending.returned (.int k a) = .returned (.int k b) := by rw [h]

/-- Block b is a reader of New's, at which the bytes l are left; its bytes lie in block g. -/
structure Rd (w : World) (b g : Nat) (l : List Int) : Prop where
  ne : g ≠ b
  cells : ∃ o c, w.cell? ⟨b, 0, none⟩ = some (.slice (some ⟨g, o, none⟩) l.length c) ∧ l.length ≤ c ∧ c ≤ maxLen ∧ ∀ j, j < l.length → w.cell? ⟨g, o + j, none⟩ = some (.int .u8 (l.getD j 0))
  self : w.cell? ⟨b, 1, none⟩ = some (.pointer (some ⟨b, 0, none⟩))
  free : w.frozen? ⟨b, 0, none⟩ = false

theorem Rd.kept {w w' : World} {b g : Nat} {l : List Int} (h : Rd w b g l) {row : Option Nat} (hg : w.grownBy w' row) (h1 : row ≠ some b) (h2 : row ≠ some g) : Rd w' b g l := by
  obtain ⟨o, c, h0, hle, hc, hj⟩ := h.cells
  have lt := World.block_lt_of_cell? w _ h0
  refine ⟨h.ne, ⟨o, c, hg.cell h0 (fun e => h1 e.symm), hle, hc, fun j hjl => hg.cell (hj j hjl) (fun e => h2 e.symm)⟩, hg.cell h.self (fun e => h1 e.symm), ?_⟩
  rw [World.frozen?_of_block (hg.block b lt (fun e => h1 e.symm))]
  exact h.free

theorem info_reader : (Tryz.prog.info? 163).isSome = true := by kernel_rfl
theorem eql_reader (a : Addr) (w : World) : (binOp .eql 70 (.pointer (some a)) (.pointer (some a))).run Tryz.prog w = .ok (.bool true) w := by
  obtain ⟨j, hj⟩ := Option.isSome_iff_exists.1 info_reader
  exact run_eql_ptr_same w a Tryz.underlying70 hj

theorem valid_yes (b : Nat) (w : World) (h : w.cell? ⟨b, 1, none⟩ = some (.pointer (some ⟨b, 0, none⟩))) : Calls Tryz.prog 118 #[.pointer (some ⟨b, 0, none⟩)] w fun e w' => e = .returned (.bool true) ∧ w = w' := by
  have he := eql_reader ⟨b, 0, none⟩
  go_enter Tryz.func118, Tryz.ntmps118
  go_wp2
  go_ret
  exact ⟨rfl, rfl⟩

theorem left_yes (b g : Nat) (l : List Int) (w : World) (h : Rd w b g l) : Calls Tryz.prog 64 #[.pointer (some ⟨b, 0, none⟩)] w fun e w' => e = .returned (.int .i64 l.length) ∧ w = w' := by
  obtain ⟨o, c, h0, hle, hc, hj⟩ := h.cells
  go_enter Tryz.func64, Tryz.ntmps64
  go_wp2_with (go_at_call 118; refine (valid_yes b _ h.self).mono ?_; rintro e w' ⟨rfl, rfl⟩)
  go_ret
  exact ⟨rfl, rfl⟩

/-- cut: n bytes from the front are handed out as they lie; the rest is left. -/
theorem Rd.cut {w : World} {b g : Nat} {l : List Int} (n : Nat) (o o' c c' m : Nat) (h : Rd w b g l) (h0 : w.cell? ⟨b, 0, none⟩ = some (.slice (some ⟨g, o, none⟩) l.length c)) (hm : m = l.length - n) (hle : l.length ≤ c) (hle' : m ≤ c') (hc : c' ≤ maxLen) (hc2 : c ≤ maxLen)
    (hj : ∀ j, j < l.length → w.cell? ⟨g, o + j, none⟩ = some (.int .u8 (l.getD j 0))) (ho : n < l.length → o' = o + n) (hn : n ≤ l.length) :
    Rd (w.setCell ⟨b, 0, none⟩ (.slice (some ⟨g, o', none⟩) m c')) b g (l.drop n) ∧ w.grownBy (w.setCell ⟨b, 0, none⟩ (.slice (some ⟨g, o', none⟩) m c')) (some b) ∧
      Seg (w.setCell ⟨b, 0, none⟩ (.slice (some ⟨g, o', none⟩) m c')) (some ⟨g, o, none⟩) n c (l.take n) := by
  have hne := h.ne
  have hlen : (l.drop n).length = m := by simp; omega
  refine ⟨⟨hne, ⟨o', c', ?_, by omega, hc, ?_⟩, ?_, ?_⟩, ⟨rfl, rfl, rfl, by simp, fun k _ hk => Below.heap_setCell _ _ _ _ (fun e => hk (by rw [e]))⟩, ⟨by simp; omega, by omega, hc2, (fun e => by cases e), ?_⟩⟩
  · rw [World.cell?_setCell_same _ _ _ h0, hlen]
  · intro j hjl
    rw [World.cell?_setCell_other _ _ _ _ (by intro e; exact hne (congrArg Addr.block e).symm)]
    have : n < l.length := by simp at hjl; omega
    rw [ho this, Nat.add_assoc, hj (n + j) (by simp at hjl; omega)]
    simp [List.getD]
  · rw [World.cell?_setCell_other _ _ _ _ (by intro e; cases e)]
    exact h.self
  · rw [World.frozen?_setCell]
    exact h.free
  · intro ad had j u hu
    cases had
    have hjn : j < n := by
      have := (List.getElem?_eq_some_iff.1 hu).1
      simp at this
      omega
    rw [Addr.add_lit, World.cell?_setCell_other _ _ _ _ (by intro e; exact hne (congrArg Addr.block e).symm), hj j (by omega)]
    rw [List.getElem?_map, List.getElem?_take_of_lt hjn] at hu
    simp only [List.getD]
    cases hq : l[j]? with
    | none => rw [hq] at hu; cases hu
    | some y => rw [hq] at hu; exact hu

theorem cut_any (b g : Nat) (l : List Int) (n : Nat) (w : World) (h : Rd w b g l) (hn : n ≤ l.length) :
    Calls Tryz.prog 119 #[.pointer (some ⟨b, 0, none⟩), .int .i64 n] w fun e w' =>
      ∃ o c, e = .returned (.slice (some ⟨g, o, none⟩) n c) ∧ Rd w' b g (l.drop n) ∧ w.grownBy w' (some b) ∧ Seg w' (some ⟨g, o, none⟩) n c (l.take n) := by
  obtain ⟨o, c, h0, hle, hc, hj⟩ := h.cells
  have hf := h.free
  have hs := h.self
  have hne := h.ne
  unfold maxLen at hc
  have hc2 : c ≤ maxLen := by unfold maxLen; omega
  by_cases hcn : c = n
  · subst hcn
    have R := Rd.cut c o o c 0 0 h h0 (by omega) hle (by omega) (by unfold maxLen; omega) hc2 hj (fun hh => by omega) hn
    have HR := Lib.hid R
    clear R hj h
    go_enter Tryz.func119, Tryz.ntmps119
    go_wp2
    go_ret
    exact ⟨o, c, rfl, HR.out⟩
  · have R := Rd.cut n o (o + n) c (c - n) (l.length - n) h h0 rfl hle (by omega) (by unfold maxLen; omega) hc2 hj (fun hh => rfl) hn
    have HR := Lib.hid R
    clear R hj h
    go_enter Tryz.func119, Tryz.ntmps119
    go_wp2
    go_ret
    exact ⟨o, c, rfl, HR.out⟩

end Go.Proofs.YtljanfnhmhimiaaGreat.Oct

namespace Go.Proofs.YtljanfnhmhimiaaGreat.Oct
open Go.RowKit

/-- x has n bits -/
def HasBits (x : Int) (n : Int) : Prop := 0 ≤ n ∧ n ≤ 64 ∧ x < 2 ^ n.toNat ∧ (1 ≤ n → 2 ^ (n.toNat - 1) ≤ x)

def bl : Nat → Nat → Nat
  | 0, _ => 0
  | f + 1, k => if k = 0 then 0 else bl f (k / 2) + 1
theorem bl_spec (f : Nat) : ∀ k : Nat, k < 2 ^ f → k < 2 ^ bl f k ∧ (1 ≤ k → 1 ≤ bl f k ∧ 2 ^ (bl f k - 1) ≤ k) ∧ bl f k ≤ f := by
  induction f with
  | zero => intro k hk; simp at hk; subst hk; simp [bl]
  | succ f ih =>
    intro k hk
    simp only [bl]
    by_cases h : k = 0
    · rw [if_pos h]; subst h; simp
    · rw [if_neg h]
      have := ih (k / 2) (by rw [Nat.pow_succ] at hk; omega)
      obtain ⟨h1, h2, h3⟩ := this
      refine ⟨by rw [Nat.pow_succ]; omega, fun _ => ⟨by omega, ?_⟩, by omega⟩
      rw [Nat.add_sub_cancel]
      by_cases h4 : k / 2 = 0
      · have : bl f (k / 2) = 0 := by rw [h4]; cases f <;> simp [bl]
        rw [this]; simp; omega
      · obtain ⟨h5, h6⟩ := h2 (by omega)
        rw [show bl f (k / 2) = (bl f (k / 2) - 1) + 1 from by omega, Nat.pow_succ]
        omega
def tabB (t : ByteArray) : Bool := t.size == 256 && (List.range 256).all fun k => (t.data.toList.getD k 0).toNat == bl 8 k
theorem tab_get (t : ByteArray) (ht : tabB t = true) (k : Nat) (h : k < t.size) : (t[k]'h).toNat = bl 8 k := by
  simp only [tabB, Bool.and_eq_true, beq_iff_eq, List.all_eq_true, List.mem_range] at ht
  have h2 := ht.2 k (by omega)
  rw [← h2]
  have h3 : k < t.data.toList.length := by simpa using h
  rw [List.getD_eq_getElem?_getD, List.getElem?_eq_getElem h3]
  rfl

theorem wrap_sum (S : Int) (s b : Nat) (hS : S = s) (hs' : s ≤ 56) (hb : b ≤ 8) : wrap64 (S + wrap64 (b : Int)) = ((s + b : Nat) : Int) := by
  have e1 : wrap64 (b : Int) = b := IntWalk.wrap64_in _ (by omega)
  rw [e1, IntWalk.wrap64_in _ (by omega)]
  omega

theorem bits_sum (x i : Int) (s b : Nat) (hi : i = x / 2 ^ s) (hs : s = 0 ∨ 1 ≤ i) (h0 : 0 ≤ x) (hs' : s ≤ 56) (b1 : i.toNat < 2 ^ b) (b2 : 1 ≤ i.toNat → 1 ≤ b ∧ 2 ^ (b - 1) ≤ i.toNat) (b3 : b ≤ 8) (b0 : i.toNat = 0 → b = 0) :
    HasBits x ((s + b : Nat) : Int) := by
  have hD : (0 : Int) < 2 ^ s := Int.pow_pos (by decide)
  have hi0 : 0 ≤ i := by rw [hi]; exact Int.ediv_nonneg h0 (Int.le_of_lt hD)
  have lo : i * 2 ^ s ≤ x := by rw [hi]; exact Int.ediv_mul_le _ (Int.ne_of_gt hD)
  have hi' : x < (i + 1) * 2 ^ s := by rw [hi]; exact Int.lt_ediv_add_one_mul_self _ hD
  clear hi
  have b1' : i + 1 ≤ 2 ^ b := by
    have h : ((i.toNat : Nat) : Int) + 1 ≤ ((2 ^ b : Nat) : Int) := by exact_mod_cast b1
    rw [Int.natCast_pow] at h
    have : ((i.toNat : Nat) : Int) = i := Int.toNat_of_nonneg hi0
    rw [this] at h
    exact h
  refine ⟨by omega, by omega, ?_, fun h1 => ?_⟩
  · rw [Int.toNat_natCast, Nat.add_comm, Int.pow_add]
    exact Int.lt_of_lt_of_le hi' (Int.mul_le_mul_of_nonneg_right b1' (Int.le_of_lt hD))
  · rw [Int.toNat_natCast]
    by_cases hk : 1 ≤ i
    · obtain ⟨b4, b5⟩ := b2 (by omega)
      have b5' : (2 : Int) ^ (b - 1) ≤ i := by
        have h : ((2 ^ (b - 1) : Nat) : Int) ≤ (i.toNat : Int) := by exact_mod_cast b5
        rw [Int.natCast_pow, Int.toNat_of_nonneg hi0] at h
        exact h
      rw [show s + b - 1 = (b - 1) + s from by omega, Int.pow_add]
      exact Int.le_trans (Int.mul_le_mul_of_nonneg_right b5' (Int.le_of_lt hD)) lo
    · have h2 : i.toNat = 0 := by omega
      have := b0 h2
      omega

theorem bits_fin (t : ByteArray) (ht : tabB t = true) (x S i : Int) (s : Nat) (h : i.toNat < t.size) (hS : S = s) (hi : i = x / 2 ^ s) (hs : s = 0 ∨ 1 ≤ i) (h0 : 0 ≤ x) (hs' : s ≤ 56) (hi2 : i < 256) :
    HasBits x (wrap64 (S + wrap64 ((t[i.toNat]'h).toNat : Int))) := by
  rw [tab_get t ht]
  have hb := bl_spec 8 i.toNat (by omega)
  have hb0 : i.toNat = 0 → bl 8 i.toNat = 0 := fun e => by rw [e]; rfl
  generalize bl 8 i.toNat = b at hb hb0
  rw [wrap_sum S s b hS hs' hb.2.2]
  exact bits_sum x i s b hi hs h0 hs' hb.1 hb.2.1 hb.2.2 hb0

theorem wrap_twice (b : Nat) (hb : b ≤ 8) : wrap64 (wrap64 (b : Int)) = ((0 + b : Nat) : Int) := by
  have e1 : wrap64 (b : Int) = b := IntWalk.wrap64_in _ (by omega)
  rw [e1, e1]
  omega

theorem bits_fin0 (t : ByteArray) (ht : tabB t = true) (x : Int) (h : x.toNat < t.size) (h0 : 0 ≤ x) (hi2 : x < 256) :
    HasBits x (wrap64 (wrap64 ((t[x.toNat]'h).toNat : Int))) := by
  rw [tab_get t ht]
  have hb := bl_spec 8 x.toNat (by omega)
  have hb0 : x.toNat = 0 → bl 8 x.toNat = 0 := fun e => by rw [e]; rfl
  generalize bl 8 x.toNat = b at hb hb0
  rw [wrap_twice b hb.2.2]
  exact bits_sum x x 0 b (by show x = x / 1; omega) (.inl rfl) h0 (by decide) hb.1 hb.2.1 hb.2.2 hb0

set_option maxRecDepth 100000 in
set_option maxHeartbeats 1000000 in
theorem len64_any (x : Int) (w : World) (h0 : 0 ≤ x) (h1 : x < 18446744073709551616) :
    Calls Tryz.prog 136 #[.int .u64 x] w fun e w' => ∃ n, e = .returned (.int .i64 n) ∧ HasBits x n ∧ w = w' := by
  by_cases a : 4294967296 ≤ x
  · by_cases b : 65536 ≤ x / 4294967296
    · by_cases c : 256 ≤ x / 4294967296 / 65536
      · have E : Hid (x / 4294967296 / 65536 / 256 = x / 2 ^ 56) := Lib.hid (by show _ = x / 72057594037927936; omega)
        have d1 : 1 ≤ x / 4294967296 / 65536 / 256 := by omega
        have d2 : x / 4294967296 / 65536 / 256 < 256 := by omega
        go_enter Tryz.func136, Tryz.ntmps136
        go_wp2
        go_ret
        exact ⟨_, rfl, bits_fin _ (by kernel_rfl) x _ _ 56 _ rfl E.out (.inr d1) h0 (by decide) d2, rfl⟩
      · have E : Hid (x / 4294967296 / 65536 = x / 2 ^ 48) := Lib.hid (by show _ = x / 281474976710656; omega)
        have d1 : 1 ≤ x / 4294967296 / 65536 := by omega
        have d2 : x / 4294967296 / 65536 < 256 := by omega
        go_enter Tryz.func136, Tryz.ntmps136
        go_wp2
        go_ret
        exact ⟨_, rfl, bits_fin _ (by kernel_rfl) x _ _ 48 _ rfl E.out (.inr d1) h0 (by decide) d2, rfl⟩
    · by_cases c : 256 ≤ x / 4294967296
      · have E : Hid (x / 4294967296 / 256 = x / 2 ^ 40) := Lib.hid (by show _ = x / 1099511627776; omega)
        have d1 : 1 ≤ x / 4294967296 / 256 := by omega
        have d2 : x / 4294967296 / 256 < 256 := by omega
        go_enter Tryz.func136, Tryz.ntmps136
        go_wp2
        go_ret
        exact ⟨_, rfl, bits_fin _ (by kernel_rfl) x _ _ 40 _ rfl E.out (.inr d1) h0 (by decide) d2, rfl⟩
      · have E : Hid (x / 4294967296 = x / 2 ^ 32) := Lib.hid (by show _ = x / 4294967296; omega)
        have d1 : 1 ≤ x / 4294967296 := by omega
        have d2 : x / 4294967296 < 256 := by omega
        go_enter Tryz.func136, Tryz.ntmps136
        go_wp2
        go_ret
        exact ⟨_, rfl, bits_fin _ (by kernel_rfl) x _ _ 32 _ rfl E.out (.inr d1) h0 (by decide) d2, rfl⟩
  · by_cases b : 65536 ≤ x
    · by_cases c : 256 ≤ x / 65536
      · have E : Hid (x / 65536 / 256 = x / 2 ^ 24) := Lib.hid (by show _ = x / 16777216; omega)
        have d1 : 1 ≤ x / 65536 / 256 := by omega
        have d2 : x / 65536 / 256 < 256 := by omega
        go_enter Tryz.func136, Tryz.ntmps136
        go_wp2
        go_ret
        exact ⟨_, rfl, bits_fin _ (by kernel_rfl) x _ _ 24 _ rfl E.out (.inr d1) h0 (by decide) d2, rfl⟩
      · have E : Hid (x / 65536 = x / 2 ^ 16) := Lib.hid (by show _ = x / 65536; omega)
        have d1 : 1 ≤ x / 65536 := by omega
        have d2 : x / 65536 < 256 := by omega
        go_enter Tryz.func136, Tryz.ntmps136
        go_wp2
        go_ret
        exact ⟨_, rfl, bits_fin _ (by kernel_rfl) x _ _ 16 _ rfl E.out (.inr d1) h0 (by decide) d2, rfl⟩
    · by_cases c : 256 ≤ x
      · have E : Hid (x / 256 = x / 2 ^ 8) := Lib.hid (by show _ = x / 256; omega)
        have d1 : 1 ≤ x / 256 := by omega
        have d2 : x / 256 < 256 := by omega
        go_enter Tryz.func136, Tryz.ntmps136
        go_wp2
        go_ret
        exact ⟨_, rfl, bits_fin _ (by kernel_rfl) x _ _ 8 _ rfl E.out (.inr d1) h0 (by decide) d2, rfl⟩
      · have d2 : x < 256 := by omega
        go_enter Tryz.func136, Tryz.ntmps136
        go_wp2
        go_ret
        exact ⟨_, rfl, bits_fin0 _ (by kernel_rfl) x _ h0 d2, rfl⟩

/-- 128 ^ k -/
theorem varB_len (k : Nat) : ∀ (v : Int) (g : Nat), 0 ≤ v → 1 ≤ g → g ≤ k + 1 → v < 128 ^ g → (2 ≤ g → 128 ^ (g - 1) ≤ v) → (varB k v).length = g := by
  induction k with
  | zero => intro v g _ h1 h2 _ _; have : g = 1 := by omega
            subst this; rfl
  | succ k ih =>
    intro v g h0 h1 h2 h3 h4
    simp only [varB]
    by_cases hg : g = 1
    · subst hg
      have h3' : v < 128 := by simpa using h3
      rw [if_pos h3']
      rfl
    · have h5 := h4 (by omega)
      have hp : (1 : Int) ≤ 128 ^ (g - 2) := Int.pow_pos (n := 128) (m := g - 2) (by decide)
      have e1 : (128 : Int) ^ (g - 1) = 128 ^ (g - 2) * 128 := by rw [← Int.pow_succ]; congr 1; omega
      have e2 : (128 : Int) ^ g = 128 ^ (g - 1) * 128 := by rw [← Int.pow_succ]; congr 1; omega
      rw [if_neg (by omega), List.length_cons, ih (v / 128) (g - 1) (by omega) (by omega) (by omega)]
      · omega
      · rw [e2] at h3
        exact Int.ediv_lt_of_lt_mul (by decide) h3
      · intro h6
        rw [show g - 1 - 1 = g - 2 from by omega]
        rw [e1] at h5
        exact (Int.le_ediv_iff_mul_le (by decide)).2 h5

theorem nat_or_one (v : Nat) : v ||| 1 = 2 * (v / 2) + 1 := by
  have h1 : v = 2 ^ 1 * (v / 2) ||| v % 2 := by
    rw [← Nat.two_pow_add_eq_or_of_lt (by omega : v % 2 < 2 ^ 1)]
    omega
  have h2 : v % 2 ||| 1 = 1 := by
    rcases Nat.mod_two_eq_zero_or_one v with h | h <;> rw [h] <;> rfl
  have h3 : v ||| 1 = 2 ^ 1 * (v / 2) ||| 1 := by
    have : (2 ^ 1 * (v / 2) ||| v % 2) ||| 1 = 2 ^ 1 * (v / 2) ||| 1 := by rw [Nat.or_assoc, h2]
    rw [← h1] at this
    exact this
  rw [h3, ← Nat.two_pow_add_eq_or_of_lt (by decide : 1 < 2 ^ 1)]

theorem or_one (v : Int) (h0 : 0 ≤ v) (h1 : v < 18446744073709551616) : bits BinOp.or IntKind.u64 v 1 = 2 * (v / 2) + 1 := by
  rw [u64_or v 1 h0 h1 (by decide) (by decide)]
  have : (1 : Int).toNat = 1 := rfl
  rw [this, nat_or_one]
  omega

theorem groups_num (v n : Int) (h0 : 0 ≤ v) (h : HasBits (2 * (v / 2) + 1) n) : 1 ≤ n ∧ (n + 6) / 7 = ((varB 9 v).length : Int) := by
  obtain ⟨b0, b1, b2, b3⟩ := h
  have hn : 1 ≤ n := by
    by_cases hz : n = 0
    · subst hz; simp at b2; omega
    · omega
  refine ⟨hn, ?_⟩
  have b4 := b3 hn
  obtain ⟨m, rfl⟩ := Int.eq_ofNat_of_zero_le b0
  rw [Int.toNat_natCast] at b2 b4
  have hg : (((m : Nat) : Int) + 6) / 7 = (((m + 6) / 7 : Nat) : Int) := by omega
  rw [hg, varB_len 9 v ((m + 6) / 7) h0 (by omega) (by omega)]
  · have e : (128 : Int) ^ ((m + 6) / 7) = 2 ^ (7 * ((m + 6) / 7)) := by rw [Int.pow_mul]; rfl
    rw [e]
    have : (2 : Int) ^ m ≤ 2 ^ (7 * ((m + 6) / 7)) := by exact_mod_cast Nat.pow_le_pow_right (by decide : 0 < 2) (by omega : m ≤ 7 * ((m + 6) / 7))
    omega
  · intro h2
    have e : (128 : Int) ^ ((m + 6) / 7 - 1) = 2 ^ (7 * ((m + 6) / 7 - 1)) := by rw [Int.pow_mul]; rfl
    rw [e]
    have h3 : (2 : Int) ^ (7 * ((m + 6) / 7 - 1)) ≤ 2 ^ (m - 1) := by exact_mod_cast Nat.pow_le_pow_right (by decide : 0 < 2) (by omega : 7 * ((m + 6) / 7 - 1) ≤ m - 1)
    have h4 : (2 : Int) ^ (7 * ((m + 6) / 7 - 1)) = 2 * 2 ^ (7 * ((m + 6) / 7 - 1) - 1) := by
      rw [Int.mul_comm, ← Int.pow_succ]
      congr 1
      omega
    omega

set_option maxHeartbeats 400000 in
theorem groups_any (v : Int) (w : World) (h0 : 0 ≤ v) (h1 : v < 18446744073709551616) :
    Calls Tryz.prog 81 #[.int .u64 v] w fun e w' => e = .returned (.int .i64 (varB 9 v).length) ∧ w = w' := by
  have HO := Lib.hid (or_one v h0 h1)
  have HN := Lib.hid (groups_num v · h0)
  go_enter Tryz.func81, Tryz.ntmps81
  go_wp2_with fail
  rw [HO.out]
  refine (len64_any _ _ (by omega) (by omega)).mono ?_
  rintro e w' ⟨n, rfl, hb, rfl⟩
  obtain ⟨hn, hl⟩ := HN.out n hb
  have hn2 := hb.2.1
  have HL := Lib.hid hl
  clear hl hb
  go_wp2
  go_ret
  exact ⟨ret_int (by rw [← HL.out]; try omega), rfl⟩
end Go.Proofs.YtljanfnhmhimiaaGreat.Oct

namespace Go.Proofs.YtljanfnhmhimiaaGreat.Oct
open Go.RowKit

/-- What is handed back is new memory that reads as l; nothing that was there has turned. -/
def NewB (w : World) (l : List Int) (e : Ending) (w' : World) : Prop :=
  ∃ g, e = .returned (.slice (some ⟨g, 0, none⟩) l.length l.length) ∧ w'.ownsRow w.heap.size 5 1 (.slice (some ⟨g, 0, none⟩) l.length l.length) l.length (l.map (Value.int .u8)) ∧ w.grownBy w' none

theorem grownBy_trans {a b c : World} {r : Option Nat} (h : a.grownBy b none) (k : b.grownBy c r) (hr : ∀ i, r = some i → a.heap.size ≤ i) : a.grownBy c none :=
  ⟨k.os.trans h.os, k.tape.trans h.tape, k.output.trans h.output, Nat.le_trans h.size k.size, fun i hi _ => (k.block i (Nat.lt_of_lt_of_le hi h.size) (fun e => by have := hr i e.symm; omega)).trans (h.block i hi (by simp))⟩

theorem ownsRow_mono {w : World} {b b' e s : Nat} {v : Value} {n : Nat} {xs : List Value} (h : w.ownsRow b e s v n xs) (hb : b' ≤ b) : w.ownsRow b' e s v n xs := by
  refine ⟨h.1, ?_⟩
  rcases h.2 with h2 | ⟨g, cap, cur, h3, h4, h5⟩
  · exact .inl h2
  · exact .inr ⟨g, cap, cur, h3, by omega, h5⟩

theorem varB_two (k : Nat) (v : Int) (h : 2 ≤ (varB k v).length) : ∃ k', k = k' + 1 ∧ 128 ≤ v ∧ varB k v = (v % 128 + 128) :: varB k' (v / 128) := by
  cases k with
  | zero => simp [varB] at h
  | succ k =>
    simp only [varB] at h ⊢
    by_cases hv : v < 128
    · rw [if_pos hv] at h; simp at h
    · rw [if_neg hv]; exact ⟨k, rfl, by omega, rfl⟩

theorem varB_one (k : Nat) (v : Int) (h : (varB k v).length ≤ 1) (hv : v < 2 * 128 ^ k) : v < 128 ∧ varB k v = [v] := by
  cases k with
  | zero => simp at hv; exact ⟨by omega, rfl⟩
  | succ k =>
    simp only [varB] at h ⊢
    by_cases hv' : v < 128
    · rw [if_pos hv']; exact ⟨hv', rfl⟩
    · rw [if_neg hv', List.length_cons] at h
      have := varB_pos k (v / 128)
      omega

/-- One round of PutVar. -/
theorem put_step (xs : List Int) (k : Nat) (cur v : Int) (h : xs ++ varB k cur = varB 9 v) (hl : xs.length + k = 9) (h2 : xs.length + 1 < (varB 9 v).length) (hb : cur < 2 * 128 ^ k) :
    ∃ k', k = k' + 1 ∧ (xs ++ [cur % 128 + 128]) ++ varB k' (cur / 128) = varB 9 v ∧ cur / 128 < 2 * 128 ^ k' := by
  have h3 : 2 ≤ (varB k cur).length := by rw [← h] at h2; simp at h2; omega
  obtain ⟨k', rfl, h4, h5⟩ := varB_two k cur h3
  refine ⟨k', rfl, by rw [← h, h5]; simp, ?_⟩
  rw [Int.pow_succ, ← Int.mul_assoc] at hb
  exact Int.ediv_lt_of_lt_mul (by decide) hb

/-- What holds of PutVar's slots behind k rounds. -/
def PutInv (v : Int) (xs : List Int) (k : Nat) (cur : Int) : Prop := xs.length = k ∧ k ≤ 9 ∧ xs ++ varB (9 - k) cur = varB 9 v ∧ cur < 2 * 128 ^ (9 - k)
theorem PutInv.start (v : Int) (h1 : v < 18446744073709551616) : PutInv v [] 0 v := ⟨rfl, by decide, rfl, h1⟩
theorem PutInv.step {v : Int} {xs : List Int} {k : Nat} {cur : Int} (h : PutInv v xs k cur) (hl : k + 1 < (varB 9 v).length) : PutInv v (xs ++ [cur % 128 + 128]) (k + 1) (cur / 128) := by
  obtain ⟨h1, h2, h3, h4⟩ := h
  obtain ⟨k', e, h5, h6⟩ := put_step xs (9 - k) cur v h3 (by omega) (by omega) h4
  have : 9 - (k + 1) = k' := by omega
  exact ⟨by simp [h1], by omega, by rw [this]; exact h5, by rw [this]; exact h6⟩
theorem PutInv.last {v : Int} {xs : List Int} {k : Nat} {cur : Int} (h : PutInv v xs k cur) (hl : (varB 9 v).length ≤ k + 1) : cur < 128 ∧ xs ++ [cur] = varB 9 v := by
  obtain ⟨h1, h2, h3, h4⟩ := h
  have h5 : (varB (9 - k) cur).length ≤ 1 := by rw [← h3, List.length_append] at hl; omega
  obtain ⟨h6, h7⟩ := varB_one _ cur h5 h4
  exact ⟨h6, by rw [← h7]; exact h3⟩

set_option maxRecDepth 100000 in
set_option maxHeartbeats 1000000 in
theorem putVar_any (a : Option Addr) (n c : Nat) (l : List Int) (v : Int) (w : World) (hs : Seg w a n c l) (h0 : 0 ≤ v) (h1 : v < 18446744073709551616) (hn : n ≤ 140737488355328) :
    Calls Tryz.prog 49 #[.slice a n c, .int .u64 v] w (NewB w (l ++ varB 9 v)) := by
  obtain ⟨i0, hi, hz0, hz1, hz2⟩ := info_parts info_u8
  have hp := varB_pos 9 v
  have hm := varB_le 9 v
  obtain ⟨L, hL⟩ : ∃ L, L = (varB 9 v).length := ⟨_, rfl⟩
  have HG := Lib.hid (groups_any v · h0 h1)
  have HN := Lib.hid hn
  rw [← hL] at hp hm
  have HL := Lib.hid hL
  clear hL
  have hk0 : ∀ (w : World), (Instr.makeSlice 45 (.int .i64 0) (.int .i64 10)).run Tryz.prog w = .ok (.slice (some ⟨w.heap.size, 0, none⟩) 0 10) (w.alloc (.cells #[.int .u8 0, .int .u8 0, .int .u8 0, .int .u8 0, .int .u8 0, .int .u8 0, .int .u8 0, .int .u8 0, .int .u8 0, .int .u8 0] 5)) := fun _ => by kernel_rfl
  go_enter Tryz.func49, Tryz.ntmps49
  go_wp2_with (go_at_call 81; refine (HG.out _).mono ?_; rw [← HL.out]; rintro e w' ⟨rfl, rfl⟩)
  go_loopw [1, 5, 10] (fun sv low i wr => ∃ (k : Nat) (xs : List Int) (cur : Int), k + 1 ≤ L ∧ 0 ≤ cur ∧ cur < 18446744073709551616 ∧ i = .int .i64 k ∧ sv = .int .u64 cur ∧ low = .slice (some ⟨w.heap.size, 0, none⟩) k 10 ∧
      wr.ownsRow w.heap.size 5 1 (.slice (some ⟨w.heap.size, 0, none⟩) k 10) k (xs.map (Value.int .u8)) ∧ PutInv v xs k cur ∧ w.grownBy wr none)
    (fun _ _ i _ => L - (intOf i).toNat)
  case atStart => exact ⟨0, [], v, by omega, h0, h1, rfl, rfl, rfl, World.ownsRow_made w _ 10 (Nat.le_refl _) (by unfold maxLen; omega) rfl, PutInv.start v h1, World.grownBy_alloc w _ none⟩
  case round =>
    obtain ⟨k, xs, cur, hk, c0, c1, rfl, rfl, rfl, hown, hinv, hgr⟩ := hrel
    have HI := Lib.hid hinv; clear hinv
    have ho := u8_or128_right (cur % 128) (by omega) (by omega)
    by_cases hlt : k + 1 < L
    · have hlt' : (k : Int) < (L : Int) - 1 := by omega
      go_wp2_with (at_builtin; refine wpList_append_fits _ rfl (.tmp 12) (.tmp 17) 45 rfl w.heap.size 5 i0 1 Tryz.underlying45 hi hz1 w.heap.size k 10 _ rfl (hown.alloc _) ⟨wr.heap.size, 0, none⟩ 1 1 [.int .u8 (cur % 128 + 128)] rfl rfl (by intro t u ht; match t, ht with | 0, ht => simp at ht; subst ht; simp [Addr.add]) (by intro u hu; simp at hu; subst hu; rfl) (by omega) ?_; intro w1 hown1 hgrow1)
      go_roundw
      case rel =>
        have hl := HL.out
        exact ⟨k + 1, xs ++ [cur % 128 + 128], cur / 128, by omega, by omega, by omega, by go_num, rfl, rfl, by simpa using hown1, HI.out.step (by omega),
          grownBy_trans (grownBy_trans hgr (World.grownBy_alloc wr _ none) (fun _ e => by cases e)) hgrow1 (fun i e => by cases e; exact Nat.le_refl _)⟩
      case measure => simp [intOf]; omega
    · have hlt' : (L : Int) - 1 ≤ (k : Int) := by omega
      have hlast := HI.out.last (by rw [← HL.out]; omega)
      have c2 := hlast.1
      have HX := Lib.hid hlast.2
      clear hlast ho
      have hs' : ∀ w1 : World, w.grownBy w1 none → Seg w1 a n c l := fun w1 h => hs.kept h (fun _ _ e => by cases e)
      have HS := Lib.hid hs'
      clear hs' hs
      go_wp2_with (first
        | (at_builtin; refine wpList_append_fits _ rfl (.tmp 23) (.tmp 26) 45 rfl w.heap.size 5 i0 1 Tryz.underlying45 hi hz1 w.heap.size k 10 _ rfl (hown.alloc _) ⟨wr.heap.size, 0, none⟩ 1 1 [.int .u8 cur] rfl rfl (by intro t u ht; match t, ht with | 0, ht => simp at ht; subst ht; simp [Addr.add]) (by intro u hu; simp at hu; subst hu; rfl) (by omega) ?_; intro w1 hown1 hgrow1)
        | fail)
      have hg1 := grownBy_trans (grownBy_trans hgr (World.grownBy_alloc wr _ none) (fun _ e => by cases e)) hgrow1 (fun i e => by cases e; exact Nat.le_refl _)
      have hown2 : w1.ownsRow w.heap.size 5 1 (.slice (some ⟨w.heap.size, 0, none⟩) (k + 1) 10) (k + 1) ((xs ++ [cur]).map (Value.int .u8)) := by simpa using hown1
      rw [HX.out] at hown2
      have hsz := hg1.size
      refine (add_any a (some ⟨w.heap.size, 0, none⟩) n c (k + 1) 10 l (varB 9 v) w1 (HS.out _ hg1) (Seg.own hown2) (by have := HN.out; omega)).mono ?_
      rintro e w2 ⟨rfl, hown3, hg2⟩
      have hlen : (l ++ varB 9 v).length = n + (k + 1) := by
        have h1 := (HS.out _ hg1).len
        have h2 := HL.out
        rw [List.length_append]
        omega
      have HLen := Lib.hid hlen
      have hfin : NewB w (l ++ varB 9 v) (.returned (.slice (some ⟨w1.heap.size, 0, none⟩) (n + (k + 1)) (n + (k + 1)))) w2 := by
        unfold NewB
        rw [hlen]
        exact ⟨_, rfl, ownsRow_mono hown3 hsz, grownBy_trans hg1 hg2 (fun _ e => by cases e)⟩
      have HF := Lib.hid hfin
      clear hfin hlen hown3 hg2 hown2 hown1 hgrow1 hgr hown
      go_wp2
      go_ret
      exact HF.out

/-- A contract of isSize's for each of its answers. -/
theorem isSize_yes (n : Int) (w : World) (h1 : 1 ≤ n) (h2 : n ≤ 8) : Calls Tryz.prog 137 #[.int .i64 n] w fun e w' => e = .returned (.bool true) ∧ w = w' :=
  (isSize_any n w).mono fun e w' ⟨he, hw⟩ => ⟨by rw [he, decide_eq_true ⟨h1, h2⟩], hw⟩
/-- add, as what it hands back. -/
theorem add_new (a0 a1 : Option Addr) (n0 c0 n1 c1 : Nat) (l0 l1 : List Int) (w : World) (h0 : Seg w a0 n0 c0 l0) (h1 : Seg w a1 n1 c1 l1) (hn : n0 + n1 ≤ 281474976710656) :
    Calls Tryz.prog 82 #[.slice a0 n0 c0, .slice a1 n1 c1] w (NewB w (l0 ++ l1)) :=
  (add_any a0 a1 n0 c0 n1 c1 l0 l1 w h0 h1 hn).mono fun e w' ⟨he, ho, hg⟩ => by
    have hl : (l0 ++ l1).length = n0 + n1 := by rw [List.length_append, h0.len, h1.len]
    unfold NewB
    rw [hl]
    exact ⟨_, he, ho, hg⟩

/-- NewB over a world in which nothing old has turned yet. -/
theorem NewB.trans {w w1 w' : World} {l : List Int} {e : Ending} (h : NewB w1 l e w') (hg : w.grownBy w1 none) : NewB w l e w' := by
  obtain ⟨g, he, ho, hg2⟩ := h
  exact ⟨g, he, ownsRow_mono ho hg.size, grownBy_trans hg hg2 (fun _ e => by cases e)⟩

/-- The value handed back, its length under a name of its own. -/
theorem NewB.value {w w' : World} {l : List Int} {e : Ending} (h : NewB w l e w') : ∃ g q, e = .returned (.slice (some ⟨g, 0, none⟩) q q) ∧ NewB w l (.returned (.slice (some ⟨g, 0, none⟩) q q)) w' := by
  obtain ⟨g, he, ho⟩ := h
  exact ⟨g, l.length, he, g, rfl, ho⟩

/-- What NewB says of a value that is written out. -/
theorem NewB.is {w w' : World} {l : List Int} {g q : Nat} (h : NewB w l (.returned (.slice (some ⟨g, 0, none⟩) q q)) w') :
    q = l.length ∧ w'.ownsRow w.heap.size 5 1 (.slice (some ⟨g, 0, none⟩) q q) q (l.map (Value.int .u8)) ∧ w.grownBy w' none := by
  obtain ⟨g', he, ho, hg⟩ := h
  cases he
  exact ⟨rfl, ho, hg⟩
end Go.Proofs.YtljanfnhmhimiaaGreat.Oct

namespace Go.Proofs.YtljanfnhmhimiaaGreat.Oct
open Go.RowKit

theorem Seg.addr {w : World} {a : Option Addr} {n c : Nat} {l : List Int} (h : Seg w a n c l) (hn : 0 < n) : ∃ g o, a = some ⟨g, o, none⟩ ∧ ∀ j, j < n → w.cell? ⟨g, o + j, none⟩ = some (.int .u8 (l.getD j 0)) := by
  have hl := h.len
  cases a with
  | none => have := h.nil_ rfl; omega
  | some ad =>
    have hc := h.at_ ad rfl
    obtain ⟨g, o, spot⟩ := ad
    have h0 := hc 0 (.int .u8 (l.getD 0 0)) (by simp [List.getD]; rw [List.getElem?_eq_getElem (by omega)]; rfl)
    have hspot : spot = none := by simpa [Addr.add] using World.cell?_spot h0
    subst hspot
    refine ⟨g, o, rfl, fun j hj => ?_⟩
    have h1 := hc j (.int .u8 (l.getD j 0)) (by simp [List.getD]; rw [List.getElem?_eq_getElem (by omega)]; rfl)
    rw [Addr.add_lit] at h1
    exact h1

theorem or_add (acc x : Int) (s : Nat) (h0 : 0 ≤ acc) (h1 : acc < 2 ^ s) (h2 : 0 ≤ x) (h3 : x * 2 ^ s < 18446744073709551616) (h4 : s < 64) : bits BinOp.or IntKind.u64 acc (x * 2 ^ s) = acc + x * 2 ^ s := by
  have hp : (0 : Int) < 2 ^ s := Int.pow_pos (by decide)
  have h5 : 0 ≤ x * 2 ^ s := Int.mul_nonneg h2 (Int.le_of_lt hp)
  have h6 : (2 : Int) ^ s ≤ 2 ^ 63 := by exact_mod_cast Nat.pow_le_pow_right (by decide : 0 < 2) (by omega : s ≤ 63)
  have h7 : (2 : Int) ^ 63 = 9223372036854775808 := by decide
  rw [u64_or acc _ h0 (by omega) h5 h3]
  obtain ⟨a, rfl⟩ := Int.eq_ofNat_of_zero_le h0
  obtain ⟨y, rfl⟩ := Int.eq_ofNat_of_zero_le h2
  have e : (y : Int) * 2 ^ s = ((2 ^ s * y : Nat) : Int) := by rw [Nat.mul_comm, Int.natCast_mul, Int.natCast_pow]; rfl
  rw [e, Int.toNat_natCast, Int.toNat_natCast, Nat.or_comm, ← Nat.two_pow_add_eq_or_of_lt (by exact_mod_cast h1), Int.natCast_add, Int.add_comm]

/-- One byte more. -/
theorem of_step (l : List Int) (k : Nat) (hk : k < l.length) (hb : IsB l) (h8 : l.length ≤ 8) :
    0 ≤ ofB (l.take k) ∧ ofB (l.take k) < 2 ^ (8 * k) ∧ 0 ≤ l.getD k 0 ∧ l.getD k 0 < 256 ∧ l.getD k 0 * 2 ^ (8 * k) < 18446744073709551616 ∧ 0 ≤ l.getD k 0 * 2 ^ (8 * k) ∧ ofB (l.take (k + 1)) = ofB (l.take k) + l.getD k 0 * 2 ^ (8 * k) := by
  have e : ∀ i : Nat, (256 : Int) ^ i = 2 ^ (8 * i) := fun i => by rw [Int.pow_mul]; rfl
  have h1 := ofB_bound (l.take k) (fun x hx => hb x (List.mem_of_mem_take hx))
  have hlk : (l.take k).length = k := by rw [List.length_take]; omega
  rw [hlk, e] at h1
  have hg : l.getD k 0 = l[k] := by simp [List.getD, hk]
  have h2 := hb (l[k]) (List.getElem_mem hk)
  rw [hg]
  have hp : (0 : Int) < 2 ^ (8 * k) := Int.pow_pos (by decide)
  have h3 : l[k] * 2 ^ (8 * k) < 256 * 2 ^ (8 * k) := Int.mul_lt_mul_of_pos_right h2.2 hp
  have h4 : (256 : Int) * 2 ^ (8 * k) ≤ 18446744073709551616 := by
    have : (256 : Int) * 2 ^ (8 * k) = 2 ^ (8 + 8 * k) := by rw [Int.pow_add]; rfl
    rw [this]
    have h5 : (2 : Nat) ^ (8 + 8 * k) ≤ 18446744073709551616 := Nat.le_trans (Nat.pow_le_pow_right (by decide : 0 < 2) (by omega : 8 + 8 * k ≤ 64)) (by decide)
    have h6 : ((2 ^ (8 + 8 * k) : Nat) : Int) ≤ 18446744073709551616 := by omega
    rw [Int.natCast_pow] at h6
    exact h6
  refine ⟨h1.1, h1.2, h2.1, h2.2, by omega, Int.mul_nonneg h2.1 (Int.le_of_lt hp), ?_⟩
  rw [List.take_succ_eq_append_getElem hk, ofB_snoc, hlk, e]

set_option maxRecDepth 100000 in
set_option maxHeartbeats 400000 in
theorem of_any (g o n c : Nat) (l : List Int) (w : World) (hs : Seg w (some ⟨g, o, none⟩) n c l) (hb : IsB l) (h8 : n ≤ 8) :
    Calls Tryz.prog 138 #[.slice (some ⟨g, o, none⟩) n c] w fun e w' => e = .returned (.int .u64 (ofB l)) ∧ w = w' := by
  have hl := hs.len
  have hc : ∀ j, j < n → w.cell? ⟨g, o + j, none⟩ = some (.int .u8 (l.getD j 0)) := fun j hj => by
    obtain ⟨g', o', e, h⟩ := hs.addr (by omega)
    cases e
    exact h j hj
  have HS := Lib.hid (fun k (hk : k < n) => of_step l k (by omega) hb (by omega))
  have HT := Lib.hid (List.take_of_length_le (Nat.le_of_eq hl))
  have HC := Lib.hid hc
  clear hl hs hb hc
  go_enter Tryz.func138, Tryz.ntmps138
  go_wp2
  go_loop [3, 11] (fun sv si => ∃ (k : Nat) (acc : Int), k ≤ n ∧ si = .int .i64 k ∧ sv = .int .u64 acc ∧ Hid (acc = ofB (l.take k))) (fun _ si => n - (intOf si).toNat)
  case atStart => exact ⟨0, 0, Nat.zero_le _, rfl, rfl, rfl⟩
  case round =>
    obtain ⟨k, acc, hk, rfl, rfl, HA⟩ := hrel
    by_cases hlt : k < n
    · have g1 := HC.out k hlt
      obtain ⟨s1, s2, s3, s4, s5, s6, s7⟩ := HS.out k hlt
      rw [← HA.out] at s1 s2 s7
      have HS7 := Lib.hid s7
      obtain ⟨x, hx⟩ : ∃ x, x = l.getD k 0 := ⟨_, rfl⟩
      rw [← hx] at g1 s3 s4 s5 s6
      have HX := Lib.hid hx
      have ho := or_add acc x (8 * k) s1 s2 s3 s5 (by omega)
      clear hx s7
      go_wp2
      go_round
      case rel => exact ⟨k + 1, acc + x * 2 ^ (8 * k), by omega, by go_num, rfl, Lib.hid (by rw [HS7.out, HX.out])⟩
      case measure => simp [intOf]; omega
    · obtain rfl : k = n := by omega
      go_wp2
      go_ret
      exact ⟨ret_int (by rw [HA.out, HT.out]), rfl⟩

/-- Bytes: the first n bytes, as new memory; the reader has the rest. -/
def ReadB (b g : Nat) (w : World) (l r : List Int) (e : Ending) (w' : World) : Prop :=
  ∃ x, e = .returned (.tuple #[.slice (some ⟨x, 0, none⟩) l.length l.length, .int .i64 0]) ∧ w'.ownsRow w.heap.size 5 1 (.slice (some ⟨x, 0, none⟩) l.length l.length) l.length (l.map (Value.int .u8)) ∧ w.grownBy w' (some b) ∧ Rd w' b g r

theorem ReadB.value {b g : Nat} {w w' : World} {l r : List Int} {e : Ending} (h : ReadB b g w l r e w') :
    ∃ x q, e = .returned (.tuple #[.slice (some ⟨x, 0, none⟩) q q, .int .i64 0]) ∧ q = l.length ∧ w'.ownsRow w.heap.size 5 1 (.slice (some ⟨x, 0, none⟩) q q) q (l.map (Value.int .u8)) ∧ w.grownBy w' (some b) ∧ Rd w' b g r := by
  obtain ⟨x, he, ho⟩ := h
  exact ⟨x, l.length, he, rfl, ho⟩

set_option maxRecDepth 100000 in
set_option maxHeartbeats 400000 in
theorem bytes_yes (b g : Nat) (l : List Int) (n : Nat) (w : World) (h : Rd w b g l) (hn : n ≤ l.length) (hl : n ≤ 140737488355328) :
    Calls Tryz.prog 63 #[.pointer (some ⟨b, 0, none⟩), .int .i64 n] w (ReadB b g w (l.take n) (l.drop n)) := by
  obtain ⟨o, c, h0, hle, hc, hj⟩ := h.cells
  have HV := Lib.hid (valid_yes b w h.self)
  have HC := Lib.hid (cut_any b g l n w h hn)
  clear hj
  go_enter Tryz.func63, Tryz.ntmps63
  go_wp2_with (first
    | (go_at_call 118; refine HV.out.mono ?_; rintro e w' ⟨rfl, rfl⟩)
    | fail)
  refine HC.out.mono ?_
  rintro e w1 ⟨o', c', rfl, hr, hg, hs⟩
  have ht : (l.take n).length = n := by rw [List.length_take]; omega
  have HA := Lib.hid (add_any _ none n c' 0 0 _ [] w1 hs (Seg.nil w1) (by omega))
  go_wp2_with fail
  refine HA.out.mono ?_
  rintro e w2 ⟨rfl, hown, hg2⟩
  rw [List.append_nil, Nat.add_zero] at hown
  have lt : b < w.heap.size := World.block_lt_of_cell? w _ h0
  have hsz := hg.size
  have hfin : ReadB b g w (l.take n) (l.drop n) (.returned (.tuple #[.slice (some ⟨w1.heap.size, 0, none⟩) n n, .int .i64 0])) w2 := by
    unfold ReadB
    rw [ht]
    refine ⟨_, rfl, ownsRow_mono hown hsz, ⟨hg2.os.trans hg.os, hg2.tape.trans hg.tape, hg2.output.trans hg.output, Nat.le_trans hsz hg2.size, fun k hk hkb => (hg2.block k (by omega) (by simp)).trans (hg.block k hk hkb)⟩, hr.kept hg2 (by simp) (by simp)⟩
  have HF := Lib.hid hfin
  clear hfin hown hg hg2 hr hs ht h0 h
  go_wp2
  go_ret2
  exact HF.out

/-- Number: the number of the first n bytes; the reader has the rest. -/
def ReadN (b g : Nat) (w : World) (v : Int) (r : List Int) (e : Ending) (w' : World) : Prop :=
  e = .returned (.tuple #[.int .u64 v, .int .i64 0]) ∧ w.grownBy w' (some b) ∧ Rd w' b g r

set_option maxRecDepth 100000 in
set_option maxHeartbeats 400000 in
theorem number_yes (b g : Nat) (l : List Int) (n : Nat) (w : World) (h : Rd w b g l) (hb : IsB l) (n1 : 1 ≤ n) (n8 : n ≤ 8) (hn : n ≤ l.length) :
    Calls Tryz.prog 94 #[.pointer (some ⟨b, 0, none⟩), .int .i64 n] w (ReadN b g w (ofB (l.take n)) (l.drop n)) := by
  obtain ⟨o, c, h0, hle, hc, hj⟩ := h.cells
  have HV := Lib.hid (valid_yes b w h.self)
  have HC := Lib.hid (cut_any b g l n w h hn)
  have HB : Hid (IsB (l.take n)) := Lib.hid (fun x hx => hb x (List.mem_of_mem_take hx))
  clear hj hb
  go_enter Tryz.func94, Tryz.ntmps94
  go_wp2_with (first
    | (go_at_call 118; refine HV.out.mono ?_; rintro e w' ⟨rfl, rfl⟩)
    | (go_at_call 137; refine (isSize_yes _ _ (by omega) (by omega)).mono ?_; rintro e w' ⟨rfl, rfl⟩)
    | fail)
  refine HC.out.mono ?_
  rintro e w1 ⟨o', c', rfl, hr, hg, hs⟩
  have HA := Lib.hid (of_any g o' n c' _ w1 hs HB.out n8)
  have HR := Lib.hid hr
  have HG := Lib.hid hg
  clear hr hg hs
  go_wp2_with fail
  refine HA.out.mono ?_
  rintro e w2 ⟨rfl, rfl⟩
  go_wp2
  go_ret2
  exact ⟨rfl, HG.out, HR.out⟩

set_option maxRecDepth 100000 in
set_option maxHeartbeats 400000 in
theorem number_more (b g : Nat) (l : List Int) (n : Int) (w : World) (h : Rd w b g l) (n1 : 1 ≤ n) (n8 : n ≤ 8) (hn : (l.length : Int) < n) :
    Calls Tryz.prog 94 #[.pointer (some ⟨b, 0, none⟩), .int .i64 n] w fun e w' => e = .returned (.tuple #[.int .u64 0, .int .i64 7]) ∧ w = w' := by
  obtain ⟨o, c, h0, hle, hc, hj⟩ := h.cells
  have HV := Lib.hid (valid_yes b w h.self)
  clear hj
  go_enter Tryz.func94, Tryz.ntmps94
  go_wp2_with (first
    | (go_at_call 118; refine HV.out.mono ?_; rintro e w' ⟨rfl, rfl⟩)
    | (go_at_call 137; refine (isSize_yes _ _ (by omega) (by omega)).mono ?_; rintro e w' ⟨rfl, rfl⟩)
    | fail)
  go_ret2
  exact ⟨rfl, rfl⟩

end Go.Proofs.YtljanfnhmhimiaaGreat.Oct

namespace Go.Proofs.YtljanfnhmhimiaaGreat.Oct
open Go.RowKit

/-- What Var answers, and what it leaves. -/
def ReadV (b g : Nat) (w : World) (l : List Int) (e : Ending) (w' : World) : Prop :=
  e = .returned (.tuple #[.int .u64 (readV 0 0 l).1, .int .i64 (readV 0 0 l).2.1]) ∧ w.grownBy w' (some b) ∧ Rd w' b g (l.drop (readV 0 0 l).2.2)

/-- Where Var stands behind k bytes. -/
def VInv (l : List Int) (k : Nat) (acc : Int) : Prop := readV k acc (l.drop k) = readV 0 0 l ∧ k ≤ 9 ∧ 0 ≤ acc ∧ acc < 2 ^ (7 * k)

theorem VInv.start (l : List Int) : VInv l 0 0 := ⟨rfl, by decide, by decide, by decide⟩

theorem VInv.end {l : List Int} {acc : Int} (h : VInv l l.length acc) : readV 0 0 l = (0, 7, 0) := by
  have := h.1
  rw [List.drop_length] at this
  rw [← this, readV]

theorem pow7_le (k : Nat) (hk : k ≤ 9) : (2 : Int) ^ (7 * k) ≤ 9223372036854775808 := by
  have h5 : (2 : Nat) ^ (7 * k) ≤ 9223372036854775808 := Nat.le_trans (Nat.pow_le_pow_right (by decide : 0 < 2) (by omega : 7 * k ≤ 63)) (by decide)
  have h6 : ((2 ^ (7 * k) : Nat) : Int) ≤ 9223372036854775808 := by omega
  rw [Int.natCast_pow] at h6
  exact h6

theorem pow7_lt (k : Nat) (hk : k ≤ 8) : (128 : Int) * 2 ^ (7 * k) ≤ 9223372036854775808 := by
  have h := pow7_le (k + 1) (by omega)
  have e : (2 : Int) ^ (7 * (k + 1)) = 128 * 2 ^ (7 * k) := by rw [Nat.mul_add, Int.pow_add, Int.mul_comm]; rfl
  omega

/-- The facts of a round at a byte. -/
theorem VInv.round {l : List Int} {k : Nat} {acc : Int} (h : VInv l k acc) (hk : k < l.length) (hb : IsB l) :
    0 ≤ l.getD k 0 ∧ l.getD k 0 < 256 ∧ 0 ≤ acc ∧
    (k = 9 ∧ 1 < l.getD k 0 → readV 0 0 l = (0, 4, 0)) ∧
    (¬ (k = 9 ∧ 1 < l.getD k 0) →
      0 ≤ l.getD k 0 % 128 * 2 ^ (7 * k) ∧ l.getD k 0 % 128 * 2 ^ (7 * k) < 18446744073709551616 ∧
      bits BinOp.or IntKind.u64 acc (l.getD k 0 % 128 * 2 ^ (7 * k)) = acc + l.getD k 0 % 128 * 2 ^ (7 * k) ∧
      (128 ≤ l.getD k 0 → VInv l (k + 1) (acc + l.getD k 0 % 128 * 2 ^ (7 * k))) ∧
      (l.getD k 0 = 0 ∧ 0 < k → readV 0 0 l = (0, 4, 0)) ∧
      (l.getD k 0 < 128 → ¬ (l.getD k 0 = 0 ∧ 0 < k) → readV 0 0 l = (acc + l.getD k 0 % 128 * 2 ^ (7 * k), 0, k + 1))) := by
  obtain ⟨h1, h2, h3, h4⟩ := h
  have hd : l.drop k = l.getD k 0 :: l.drop (k + 1) := by rw [List.drop_eq_getElem_cons hk]; simp [List.getD, hk]
  have hx := hb (l.getD k 0) (by simp [List.getD, hk])
  generalize l.getD k 0 = x at *
  rw [hd, readV] at h1
  have hp : (0 : Int) < 2 ^ (7 * k) := Int.pow_pos (by decide)
  refine ⟨hx.1, hx.2, h3, fun hc => by rw [← h1, if_pos hc], fun hc => ?_⟩
  rw [if_neg hc] at h1
  have hy : 0 ≤ x % 128 * 2 ^ (7 * k) := Int.mul_nonneg (by omega) (Int.le_of_lt hp)
  have hz : x % 128 * 2 ^ (7 * k) < 18446744073709551616 := by
    by_cases h9 : k = 9
    · subst h9
      have : x % 128 ≤ 1 := by omega
      have h7 := pow7_le 9 (by decide)
      have := Int.mul_le_mul_of_nonneg_right this (Int.le_of_lt hp)
      omega
    · have h7 := pow7_lt k (by omega)
      have : x % 128 ≤ 128 := by omega
      have := Int.mul_le_mul_of_nonneg_right this (Int.le_of_lt hp)
      omega
  refine ⟨hy, hz, or_add acc (x % 128) (7 * k) h3 h4 (by omega) hz (by omega), fun hge => ?_, fun hc2 => ?_, fun hlt hc2 => ?_⟩
  · rw [if_pos hge] at h1
    refine ⟨h1, by omega, by omega, ?_⟩
    have e : (2 : Int) ^ (7 * (k + 1)) = 128 * 2 ^ (7 * k) := by rw [Nat.mul_add, Int.pow_add, Int.mul_comm]; rfl
    rw [e]
    have : x % 128 ≤ 127 := by omega
    have := Int.mul_le_mul_of_nonneg_right this (Int.le_of_lt hp)
    omega
  · rw [if_neg (by omega), if_pos hc2] at h1
    exact h1.symm
  · rw [if_neg (by omega), if_neg hc2] at h1
    exact h1.symm

theorem ReadV.err {b g : Nat} {w : World} {l : List Int} {x : Int} (hr : readV 0 0 l = (0, x, 0)) (h : Rd w b g l) : ReadV b g w l (.returned (.tuple #[.int .u64 0, .int .i64 x])) w := by
  unfold ReadV
  rw [hr]
  exact ⟨rfl, World.grownBy.refl _ _, h⟩
theorem ReadV.ok {b g n : Nat} {w w' : World} {l : List Int} {v : Int} (hr : readV 0 0 l = (v, 0, n)) (h : Rd w' b g (l.drop n)) (hg : w.grownBy w' (some b)) : ReadV b g w l (.returned (.tuple #[.int .u64 v, .int .i64 0])) w' := by
  unfold ReadV
  rw [hr]
  exact ⟨rfl, hg, h⟩

set_option maxRecDepth 100000 in
set_option maxHeartbeats 2000000 in
theorem var_any (b g : Nat) (l : List Int) (w : World) (h : Rd w b g l) (hb : IsB l) :
    Calls Tryz.prog 115 #[.pointer (some ⟨b, 0, none⟩)] w (ReadV b g w l) := by
  obtain ⟨o, c, h0, hle, hc, hj⟩ := h.cells
  unfold maxLen at hc
  have HV := Lib.hid (valid_yes b w h.self)
  have HC := Lib.hid (fun n hn => cut_any b g l n w h hn)
  have HJ := Lib.hid hj
  have HI := Lib.hid (fun k acc (hi : VInv l k acc) (hk : k < l.length) => hi.round hk hb)
  have HE := Lib.hid (fun acc (hi : VInv l l.length acc) => hi.end)
  have H := Lib.hid h
  obtain ⟨n, hn⟩ : ∃ n, n = l.length := ⟨_, rfl⟩
  have HN := Lib.hid hn
  rw [← hn] at h0 hle
  clear hj hb h hn
  go_enter Tryz.func115, Tryz.ntmps115
  go_wp2_with (go_at_call 118; refine HV.out.mono ?_; rintro e w' ⟨rfl, rfl⟩)
  go_loop [4, 15] (fun sv si => ∃ (k : Nat) (acc : Int), k ≤ n ∧ si = .int .i64 k ∧ sv = .int .u64 acc ∧ Hid (VInv l k acc)) (fun _ si => n - (intOf si).toNat)
  case atStart => exact ⟨0, 0, Nat.zero_le _, rfl, rfl, Lib.hid (VInv.start l)⟩
  case round =>
    obtain ⟨k, acc, hk, rfl, rfl, HA⟩ := hrel
    by_cases hlt : k < n
    · obtain ⟨x0, x1, a0, hA, hrest⟩ := HI.out k acc HA.out (by have := HN.out; omega)
      have g1 := HJ.out k (by have := HN.out; omega)
      obtain ⟨x, hx⟩ : ∃ x, x = l.getD k 0 := ⟨_, rfl⟩
      rw [← hx] at x0 x1 hA hrest g1
      have kle : k ≤ 9 := HA.out.2.1
      clear hx
      by_cases cA : k = 9 ∧ 1 < x
      · have HF := Lib.hid (hA cA)
        obtain ⟨rfl, cx⟩ := cA
        clear hA hrest
        go_wp2
        go_ret2
        exact ReadV.err HF.out H.out
      · obtain ⟨y0, y1, ho, hB, hC, hD⟩ := hrest cA
        have HB := Lib.hid hB
        have HC2 := Lib.hid hC
        have HD := Lib.hid hD
        have HNC := Lib.hid cA
        clear hA hrest hB hC hD
        by_cases cB : 128 ≤ x
        · have k9 : ((k : Int) == 9) = false := by simp; omega
          clear cA
          go_wp2
          go_round
          case rel => exact ⟨k + 1, acc + x % 128 * 2 ^ (7 * k), by omega, by go_num, rfl, Lib.hid (HB.out cB)⟩
          case measure => simp [intOf]; omega
        · have x127 : x ≤ 127 := by omega
          by_cases cz : x = 0 ∧ 0 < k
          · have HF := Lib.hid (HC2.out cz)
            have xz : (x == 0) = true := by simp; omega
            have kp : (0 : Int) < (k : Int) := by omega
            by_cases e9 : k = 9
            · have k9 : ((k : Int) == 9) = true := by simp; omega
              have x1' : x ≤ 1 := by omega
              clear cA cz e9
              go_wp2
              go_ret2
              exact ReadV.err HF.out H.out
            · have k9 : ((k : Int) == 9) = false := by simp; omega
              clear cA cz e9
              go_wp2
              go_ret2
              exact ReadV.err HF.out H.out
          · have HF := Lib.hid (HD.out (by omega) cz)
            have HCut := Lib.hid (HC.out (k + 1) (by have := HN.out; omega))
            rw [show (((k + 1 : Nat)) : Int) = (k : Int) + 1 from by omega] at HCut
            by_cases e9 : k = 9
            · have k9 : ((k : Int) == 9) = true := by simp; omega
              have x1' : x ≤ 1 := by omega
              have xz : (x == 0) = false := by simp; omega
              clear cA cz e9
              go_wp2_with (go_at_call 119; refine HCut.out.mono ?_; rintro e w1 ⟨o', c', rfl, hr, hg, _⟩)
              go_ret2
              exact ReadV.ok HF.out hr hg
            · have k9 : ((k : Int) == 9) = false := by simp; omega
              by_cases ez : x = 0
              · have xz : (x == 0) = true := by simp; omega
                have kp : (k : Int) ≤ 0 := by omega
                have kp2 : decide ((0 : Int) < (k : Int)) = false := by simp; omega
                have ho0 : bits BinOp.or IntKind.u64 acc 0 = acc := by rw [ez] at ho; simpa using ho
                have HF2 : Hid (readV 0 0 l = (acc, 0, k + 1)) := Lib.hid (by have := HF.out; rw [ez] at this; simpa using this)
                clear cA cz e9
                go_wp2_with (go_at_call 119; refine HCut.out.mono ?_; rintro e w1 ⟨o', c', rfl, hr, hg, _⟩)
                go_ret2
                exact ReadV.ok HF2.out hr hg
              · have xz : (x == 0) = false := by simp; omega
                clear cA cz e9
                go_wp2_with (go_at_call 119; refine HCut.out.mono ?_; rintro e w1 ⟨o', c', rfl, hr, hg, _⟩)
                go_ret2
                exact ReadV.ok HF.out hr hg
    · obtain rfl : k = n := by omega
      have HF : Hid (readV 0 0 l = (0, 7, 0)) := by
        have hn := HN.out
        subst hn
        exact Lib.hid (HE.out acc HA.out)
      go_wp2
      go_ret2
      exact ReadV.err HF.out H.out
end Go.Proofs.YtljanfnhmhimiaaGreat.Oct

namespace Go.Proofs.YtljanfnhmhimiaaGreat.Oct
open Go.RowKit

theorem putB_snoc (k : Nat) (v : Int) : putB (k + 1) v = putB k v ++ [v / 2 ^ (8 * k) % 256] := by
  rw [putB_succ_last, Int.pow_mul]
  rfl

set_option maxRecDepth 100000 in
set_option maxHeartbeats 1000000 in
theorem put_yes (a : Option Addr) (n c : Nat) (l : List Int) (v : Int) (m : Nat) (w : World) (hs : Seg w a n c l) (_h0 : 0 ≤ v) (_h1 : v < 18446744073709551616) (m1 : 1 ≤ m) (m8 : m ≤ 8) (hn : n ≤ 140737488355328) :
    Calls Tryz.prog 92 #[.slice a n c, .int .u64 v, .int .i64 m] w (NewB w (l ++ putB m v)) := by
  obtain ⟨i0, hi, hz0, hz1, hz2⟩ := info_parts info_u8
  have HN := Lib.hid hn
  have hk0 : ∀ (w : World), (Instr.makeSlice 45 (.int .i64 0) (.int .i64 8)).run Tryz.prog w = .ok (.slice (some ⟨w.heap.size, 0, none⟩) 0 8) (w.alloc (.cells #[.int .u8 0, .int .u8 0, .int .u8 0, .int .u8 0, .int .u8 0, .int .u8 0, .int .u8 0, .int .u8 0] 5)) := fun _ => by kernel_rfl
  go_enter Tryz.func92, Tryz.ntmps92
  go_wp2_with (go_at_call 137; refine (isSize_yes _ _ (by omega) (by omega)).mono ?_; rintro e w' ⟨rfl, rfl⟩)
  go_loopw [7, 16] (fun low i wr => ∃ (k : Nat), k ≤ m ∧ i = .int .i64 k ∧ low = .slice (some ⟨w.heap.size, 0, none⟩) k 8 ∧
      wr.ownsRow w.heap.size 5 1 (.slice (some ⟨w.heap.size, 0, none⟩) k 8) k ((putB k v).map (Value.int .u8)) ∧ w.grownBy wr none)
    (fun _ i _ => m - (intOf i).toNat)
  case atStart => exact ⟨0, by omega, rfl, rfl, World.ownsRow_made w _ 8 (Nat.le_refl _) (by unfold maxLen; omega) rfl, World.grownBy_alloc w _ none⟩
  case round =>
    obtain ⟨k, hk, rfl, rfl, hown, hgr⟩ := hrel
    by_cases hlt : k < m
    · have HP := Lib.hid (putB_snoc k v)
      go_wp2_with (at_builtin; refine wpList_append_fits _ rfl (.tmp 19) (.tmp 25) 45 rfl w.heap.size 5 i0 1 Tryz.underlying45 hi hz1 w.heap.size k 8 _ rfl (hown.alloc _) ⟨wr.heap.size, 0, none⟩ 1 1 [.int .u8 (v / 2 ^ (8 * k) % 256)] rfl rfl (by intro t u ht; match t, ht with | 0, ht => simp at ht; subst ht; simp [Addr.add]) (by intro u hu; simp at hu; subst hu; rfl) (by omega) ?_; intro w1 hown1 hgrow1)
      go_roundw
      case rel =>
        exact ⟨k + 1, by omega, by go_num, rfl, by rw [HP.out]; simpa using hown1,
          grownBy_trans (grownBy_trans hgr (World.grownBy_alloc wr _ none) (fun _ e => by cases e)) hgrow1 (fun i e => by cases e; exact Nat.le_refl _)⟩
      case measure => simp [intOf]; omega
    · obtain rfl : k = m := by omega
      have hs1 := hs.kept hgr (fun _ _ e => by cases e)
      have HA := Lib.hid (add_new a (some ⟨w.heap.size, 0, none⟩) n c k 8 l (putB k v) wr hs1 (Seg.own hown) (by omega))
      clear hs1 hown hs
      go_wp2_with fail
      refine HA.out.mono ?_
      rintro e w2 hnew
      obtain ⟨g, q, rfl, hf⟩ := (hnew.trans hgr).value
      have HF := Lib.hid hf
      clear hf hnew
      go_wp2
      go_ret
      exact HF.out
end Go.Proofs.YtljanfnhmhimiaaGreat.Oct
