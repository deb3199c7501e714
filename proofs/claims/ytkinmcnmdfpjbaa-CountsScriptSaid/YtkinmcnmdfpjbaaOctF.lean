/-
  Numbers as bytes: the program's add, isSize, Put, Of; over the slices of Base.
-/
import Derived.Test.YtkinmcnmdfpjbaaBase
import Derived.Test.YtkinmcnmdfpjbaaOctNum
import Derived.Laws.Bits128
import Derived.Lib.SmallJoins
namespace Go.Proofs.Ytkinmcnmdfpjbaa.Oct
open Go.RowKit Go.Joins
open Bs (Seg grownBy_trans ownsRow_mono info_u8 ret_int NewB)

set_option maxHeartbeats 400000 in
theorem add_any (a0 a1 : Option Addr) (n0 c0 n1 c1 : Nat) (l0 l1 : List Int) (w : World) (h0 : Seg w a0 n0 c0 l0) (h1 : Seg w a1 n1 c1 l1) (hn : n0 + n1 ≤ 281474976710656) :
    Calls Try.prog 56 #[.slice a0 n0 c0, .slice a1 n1 c1] w fun e w' =>
      e = .returned (.slice (some ⟨w.heap.size, 0, none⟩) (n0 + n1) (n0 + n1)) ∧
      w'.ownsRow w.heap.size 5 1 (.slice (some ⟨w.heap.size, 0, none⟩) (n0 + n1) (n0 + n1)) (n0 + n1) ((l0 ++ l1).map (Value.int .u8)) ∧ w.grownBy w' none := by
  obtain ⟨i0, hi, hz0, hz1, hz2⟩ := info_parts info_u8
  have hl0 : (l0.map (Value.int .u8)).length = n0 * 1 := by simp [h0.len]
  have hl1 : (l1.map (Value.int .u8)).length = n1 * 1 := by simp [h1.len]
  have b0 : (0 : Int) ≤ (n0 : Int) + (n1 : Int) := by omega
  have HL0 := Lib.hid hl0; clear hl0
  have HL1 := Lib.hid hl1; clear hl1
  go_enter Try.func56, Try.ntmps56
  go_wp2_with (at_make; refine wpList_make_own _ rfl _ _ 85 rfl w.heap.size 5 i0 (.int .u8 0) 1 Try.underlying85 hi hz0 hz1 _ _ _ (n0 + n1) rfl rfl (by omega) ?b2 ?b3 (Nat.le_refl _) ?_)
  case b2 => rw [hz2]; omega
  case b3 => unfold maxLen; omega
  intro w0 hown0 hgrow0
  have s0 : ∀ ad, a0 = some ad → ∀ j u, (l0.map (Value.int .u8))[j]? = some u → w0.cell? (ad.add j) = some u := fun ad had j u hu => hgrow0.cell (h0.at_ ad had j u hu) (by simp)
  have lt1 : ∀ ad, a1 = some ad → ∀ j u, (l1.map (Value.int .u8))[j]? = some u → (ad.add j).block < w.heap.size := fun ad had j u hu => World.block_lt_of_cell? w _ (h1.at_ ad had j u hu)
  have s1 : ∀ ad, a1 = some ad → ∀ j u, (l1.map (Value.int .u8))[j]? = some u → w0.cell? (ad.add j) = some u := fun ad had j u hu => hgrow0.cell (h1.at_ ad had j u hu) (by simp)
  have n0' := h0.nil_
  have n1' := h1.nil_
  go_wp2_with (first
    | (at_builtin; refine wpList_append_fits_any _ rfl (.tmp 12) (.tmp 13) 85 rfl w.heap.size 5 i0 1 Try.underlying85 hi hz1 w.heap.size 0 (n0 + n1) _ rfl hown0 a0 n0 c0 (l0.map (Value.int .u8)) rfl HL0.out n0' s0 (ints_oneCell _ _) (by omega) ?_; intro w1 hown1 hgrow1; simp only [Nat.zero_add, List.nil_append] at hown1)
    | (at_builtin; refine wpList_append_fits_any _ rfl (.tmp 14) (.tmp 15) 85 rfl w.heap.size 5 i0 1 Try.underlying85 hi hz1 w.heap.size n0 (n0 + n1) _ rfl hown1 a1 n1 c1 (l1.map (Value.int .u8)) rfl HL1.out n1' (fun ad had j u hu => hgrow1.cell (s1 ad had j u hu) (fun e => by have h2 := lt1 ad had j u hu; have h3 := Option.some.inj e; omega)) (ints_oneCell _ _) (by omega) ?_; intro w2 hown2 hgrow2))
  go_ret
  refine ⟨rfl, by simpa using hown2, ⟨hgrow2.os.trans (hgrow1.os.trans hgrow0.os), hgrow2.tape.trans (hgrow1.tape.trans hgrow0.tape), hgrow2.output.trans (hgrow1.output.trans hgrow0.output), Nat.le_trans hgrow0.size (Nat.le_trans hgrow1.size hgrow2.size), fun k hk _ => ?_⟩⟩
  have hne : some k ≠ some w.heap.size := fun e => by have := Option.some.inj e; omega
  exact (hgrow2.block k (Nat.lt_of_lt_of_le hk (Nat.le_trans hgrow0.size hgrow1.size)) hne).trans ((hgrow1.block k (Nat.lt_of_lt_of_le hk hgrow0.size) hne).trans (hgrow0.block k hk (by simp)))

/-- Is n a number's size? -/
theorem isSize_any (n : Int) (w : World) : Calls Try.prog 55 #[.int .i64 n] w fun e w' => e = .returned (.bool (decide (1 ≤ n ∧ n ≤ 8))) ∧ w = w' := by
  by_cases h1 : 1 ≤ n
  · by_cases h2 : n ≤ 8
    · go_enter Try.func55, Try.ntmps55
      go_wp2
      go_ret
      exact ⟨by simp [h1, h2], rfl⟩
    · have h2' : decide (n ≤ 8) = false := by simpa using h2
      go_enter Try.func55, Try.ntmps55
      go_wp2
      go_ret
      exact ⟨rfl, rfl⟩
  · have h1' : decide (1 ≤ n) = false := by simpa using h1
    go_enter Try.func55, Try.ntmps55
    go_wp2
    go_ret
    exact ⟨rfl, rfl⟩

/-- A contract of isSize's for each of its answers. -/
theorem isSize_yes (n : Int) (w : World) (h1 : 1 ≤ n) (h2 : n ≤ 8) : Calls Try.prog 55 #[.int .i64 n] w fun e w' => e = .returned (.bool true) ∧ w = w' :=
  (isSize_any n w).mono fun e w' ⟨he, hw⟩ => ⟨by rw [he, decide_eq_true ⟨h1, h2⟩], hw⟩
theorem isSize_no (n : Int) (w : World) (h : ¬ (1 ≤ n ∧ n ≤ 8)) : Calls Try.prog 55 #[.int .i64 n] w fun e w' => e = .returned (.bool false) ∧ w = w' :=
  (isSize_any n w).mono fun e w' ⟨he, hw⟩ => ⟨by rw [he, decide_eq_false h], hw⟩

/-- add, as what it hands back. -/
theorem add_new (a0 a1 : Option Addr) (n0 c0 n1 c1 : Nat) (l0 l1 : List Int) (w : World) (h0 : Seg w a0 n0 c0 l0) (h1 : Seg w a1 n1 c1 l1) (hn : n0 + n1 ≤ 281474976710656) :
    Calls Try.prog 56 #[.slice a0 n0 c0, .slice a1 n1 c1] w (NewB w (l0 ++ l1)) :=
  (add_any a0 a1 n0 c0 n1 c1 l0 l1 w h0 h1 hn).mono fun e w' ⟨he, ho, hg⟩ => by
    have hl : (l0 ++ l1).length = n0 + n1 := by rw [List.length_append, h0.len, h1.len]
    unfold NewB
    rw [hl]
    exact ⟨_, he, ho, hg⟩

/-- NewB over a world in which nothing old has turned yet. -/
theorem _root_.Go.Proofs.Ytkinmcnmdfpjbaa.Bs.NewB.trans {w w1 w' : World} {l : List Int} {e : Ending} (h : NewB w1 l e w') (hg : w.grownBy w1 none) : NewB w l e w' := by
  obtain ⟨g, he, ho, hg2⟩ := h
  exact ⟨g, he, ownsRow_mono ho hg.size, grownBy_trans hg hg2 (fun _ e => by cases e)⟩

/-- The value handed back, its length under a name of its own. -/
theorem _root_.Go.Proofs.Ytkinmcnmdfpjbaa.Bs.NewB.value {w w' : World} {l : List Int} {e : Ending} (h : NewB w l e w') : ∃ g q, e = .returned (.slice (some ⟨g, 0, none⟩) q q) ∧ NewB w l (.returned (.slice (some ⟨g, 0, none⟩) q q)) w' := by
  obtain ⟨g, he, ho⟩ := h
  exact ⟨g, l.length, he, g, rfl, ho⟩

/-- What NewB says of a value that is written out. -/
theorem _root_.Go.Proofs.Ytkinmcnmdfpjbaa.Bs.NewB.is {w w' : World} {l : List Int} {g q : Nat} (h : NewB w l (.returned (.slice (some ⟨g, 0, none⟩) q q)) w') :
    q = l.length ∧ w'.ownsRow w.heap.size 5 1 (.slice (some ⟨g, 0, none⟩) q q) q (l.map (Value.int .u8)) ∧ w.grownBy w' none := by
  obtain ⟨g', he, ho, hg⟩ := h
  cases he
  exact ⟨rfl, ho, hg⟩

theorem putB_snoc (k : Nat) (v : Int) : putB (k + 1) v = putB k v ++ [v / 2 ^ (8 * k) % 256] := by
  rw [putB_succ_last, Int.pow_mul]
  rfl

set_option maxHeartbeats 1000000 in
theorem put_yes (a : Option Addr) (n c : Nat) (l : List Int) (v : Int) (m : Nat) (w : World) (hs : Seg w a n c l) (_h0 : 0 ≤ v) (_h1 : v < 18446744073709551616) (m1 : 1 ≤ m) (m8 : m ≤ 8) (hn : n ≤ 140737488355328) :
    Calls Try.prog 53 #[.slice a n c, .int .u64 v, .int .i64 m] w (NewB w (l ++ putB m v)) := by
  obtain ⟨i0, hi, hz0, hz1, hz2⟩ := info_parts info_u8
  have HN := Lib.hid hn
  have hk0 : ∀ (w : World), (Instr.makeSlice 85 (.int .i64 0) (.int .i64 8)).run Try.prog w = .ok (.slice (some ⟨w.heap.size, 0, none⟩) 0 8) (w.alloc (.cells #[.int .u8 0, .int .u8 0, .int .u8 0, .int .u8 0, .int .u8 0, .int .u8 0, .int .u8 0, .int .u8 0] 5)) := fun _ => by kernel_rfl
  go_enter Try.func53, Try.ntmps53
  go_wp2_with (go_at_call 55; refine (isSize_yes _ _ (by omega) (by omega)).mono ?_; rintro e w' ⟨rfl, rfl⟩)
  go_loopw [7, 16] (fun low i wr => ∃ (k : Nat), k ≤ m ∧ i = .int .i64 k ∧ low = .slice (some ⟨w.heap.size, 0, none⟩) k 8 ∧
      wr.ownsRow w.heap.size 5 1 (.slice (some ⟨w.heap.size, 0, none⟩) k 8) k ((putB k v).map (Value.int .u8)) ∧ w.grownBy wr none)
    (fun _ i _ => m - (intOf i).toNat)
  case atStart => exact ⟨0, by omega, rfl, rfl, World.ownsRow_made w _ 8 (Nat.le_refl _) (by unfold maxLen; omega) rfl, World.grownBy_alloc w _ none⟩
  case round =>
    obtain ⟨k, hk, rfl, rfl, hown, hgr⟩ := hrel
    by_cases hlt : k < m
    · have HP := Lib.hid (putB_snoc k v)
      go_wp2_with (at_builtin; refine wpList_append_fits _ rfl (.tmp 19) (.tmp 25) 85 rfl w.heap.size 5 i0 1 Try.underlying85 hi hz1 w.heap.size k 8 _ rfl (hown.alloc _) ⟨wr.heap.size, 0, none⟩ 1 1 [.int .u8 (v / 2 ^ (8 * k) % 256)] rfl rfl (by intro t u ht; match t, ht with | 0, ht => simp at ht; subst ht; simp [Addr.add]) (by intro u hu; simp at hu; subst hu; rfl) (by omega) ?_; intro w1 hown1 hgrow1)
      go_roundw
      case rel =>
        exact ⟨k + 1, by omega, by go_num, rfl, by rw [HP.out]; simpa using hown1,
          grownBy_trans (grownBy_trans hgr (World.grownBy_alloc wr _ none) (fun _ e => by cases e)) hgrow1 (fun i e => by cases e; exact Nat.le_refl _)⟩
      case measure => simp [intOf]; omega
    · obtain rfl : k = m := by omega
      have hs1 := hs.kept hgr (fun _ _ e => by cases e)
      have HA := Lib.hid (add_new a (some ⟨w.heap.size, 0, none⟩) n c k 8 l (putB k v) wr hs1 (Seg.own hown) (by omega))
      clear hs1 hown hs
      go_wp2_with fail
      refine HA.out.mono ?_
      rintro e w2 hnew
      obtain ⟨g, q, rfl, hf⟩ := (hnew.trans hgr).value
      have HF := Lib.hid hf
      clear hf hnew
      go_wp2
      go_ret
      exact HF.out
theorem or_add (acc x : Int) (s : Nat) (h0 : 0 ≤ acc) (h1 : acc < 2 ^ s) (h2 : 0 ≤ x) (h3 : x * 2 ^ s < 18446744073709551616) (h4 : s < 64) : bits BinOp.or IntKind.u64 acc (x * 2 ^ s) = acc + x * 2 ^ s := by
  have hp : (0 : Int) < 2 ^ s := Int.pow_pos (by decide)
  have h5 : 0 ≤ x * 2 ^ s := Int.mul_nonneg h2 (Int.le_of_lt hp)
  have h6 : (2 : Int) ^ s ≤ 2 ^ 63 := by exact_mod_cast Nat.pow_le_pow_right (by decide : 0 < 2) (by omega : s ≤ 63)
  have h7 : (2 : Int) ^ 63 = 9223372036854775808 := by decide
  rw [u64_or acc _ h0 (by omega) h5 h3]
  obtain ⟨a, rfl⟩ := Int.eq_ofNat_of_zero_le h0
  obtain ⟨y, rfl⟩ := Int.eq_ofNat_of_zero_le h2
  have e : (y : Int) * 2 ^ s = ((2 ^ s * y : Nat) : Int) := by rw [Nat.mul_comm, Int.natCast_mul, Int.natCast_pow]; rfl
  rw [e, Int.toNat_natCast, Int.toNat_natCast, Nat.or_comm, ← Nat.two_pow_add_eq_or_of_lt (by exact_mod_cast h1), Int.natCast_add, Int.add_comm]

/-- One byte more. -/
theorem of_step (l : List Int) (k : Nat) (hk : k < l.length) (hb : IsB l) (h8 : l.length ≤ 8) :
    0 ≤ ofB (l.take k) ∧ ofB (l.take k) < 2 ^ (8 * k) ∧ 0 ≤ l.getD k 0 ∧ l.getD k 0 < 256 ∧ l.getD k 0 * 2 ^ (8 * k) < 18446744073709551616 ∧ 0 ≤ l.getD k 0 * 2 ^ (8 * k) ∧ ofB (l.take (k + 1)) = ofB (l.take k) + l.getD k 0 * 2 ^ (8 * k) := by
  have e : ∀ i : Nat, (256 : Int) ^ i = 2 ^ (8 * i) := fun i => by rw [Int.pow_mul]; rfl
  have h1 := ofB_bound (l.take k) (fun x hx => hb x (List.mem_of_mem_take hx))
  have hlk : (l.take k).length = k := by rw [List.length_take]; omega
  rw [hlk, e] at h1
  have hg : l.getD k 0 = l[k] := by simp [List.getD, hk]
  have h2 := hb (l[k]) (List.getElem_mem hk)
  rw [hg]
  have hp : (0 : Int) < 2 ^ (8 * k) := Int.pow_pos (by decide)
  have h3 : l[k] * 2 ^ (8 * k) < 256 * 2 ^ (8 * k) := Int.mul_lt_mul_of_pos_right h2.2 hp
  have h4 : (256 : Int) * 2 ^ (8 * k) ≤ 18446744073709551616 := by
    have : (256 : Int) * 2 ^ (8 * k) = 2 ^ (8 + 8 * k) := by rw [Int.pow_add]; rfl
    rw [this]
    have h5 : (2 : Nat) ^ (8 + 8 * k) ≤ 18446744073709551616 := Nat.le_trans (Nat.pow_le_pow_right (by decide : 0 < 2) (by omega : 8 + 8 * k ≤ 64)) (by decide)
    have h6 : ((2 ^ (8 + 8 * k) : Nat) : Int) ≤ 18446744073709551616 := by omega
    rw [Int.natCast_pow] at h6
    exact h6
  refine ⟨h1.1, h1.2, h2.1, h2.2, by omega, Int.mul_nonneg h2.1 (Int.le_of_lt hp), ?_⟩
  rw [List.take_succ_eq_append_getElem hk, ofB_snoc, hlk, e]

set_option maxHeartbeats 400000 in
theorem of_any (g o n c : Nat) (l : List Int) (w : World) (hs : Seg w (some ⟨g, o, none⟩) n c l) (hb : IsB l) (h8 : n ≤ 8) :
    Calls Try.prog 57 #[.slice (some ⟨g, o, none⟩) n c] w fun e w' => e = .returned (.int .u64 (ofB l)) ∧ w = w' := by
  have hl := hs.len
  have hc : ∀ j, j < n → w.cell? ⟨g, o + j, none⟩ = some (.int .u8 (l.getD j 0)) := fun j hj => by
    obtain ⟨g', o', e, h⟩ := hs.addr (by omega)
    cases e
    exact h j hj
  have HS := Lib.hid (fun k (hk : k < n) => of_step l k (by omega) hb (by omega))
  have HT := Lib.hid (List.take_of_length_le (Nat.le_of_eq hl))
  have HC := Lib.hid hc
  clear hl hs hb hc
  go_enter Try.func57, Try.ntmps57
  go_wp2
  go_loop [3, 11] (fun sv si => ∃ (k : Nat) (acc : Int), k ≤ n ∧ si = .int .i64 k ∧ sv = .int .u64 acc ∧ Hid (acc = ofB (l.take k))) (fun _ si => n - (intOf si).toNat)
  case atStart => exact ⟨0, 0, Nat.zero_le _, rfl, rfl, rfl⟩
  case round =>
    obtain ⟨k, acc, hk, rfl, rfl, HA⟩ := hrel
    by_cases hlt : k < n
    · have g1 := HC.out k hlt
      obtain ⟨s1, s2, s3, s4, s5, s6, s7⟩ := HS.out k hlt
      rw [← HA.out] at s1 s2 s7
      have HS7 := Lib.hid s7
      obtain ⟨x, hx⟩ : ∃ x, x = l.getD k 0 := ⟨_, rfl⟩
      rw [← hx] at g1 s3 s4 s5 s6
      have HX := Lib.hid hx
      have ho := or_add acc x (8 * k) s1 s2 s3 s5 (by omega)
      clear hx s7
      go_wp2
      go_round
      case rel => exact ⟨k + 1, acc + x * 2 ^ (8 * k), by omega, by go_num, rfl, Lib.hid (by rw [HS7.out, HX.out])⟩
      case measure => simp [intOf]; omega
    · obtain rfl : k = n := by omega
      go_wp2
      go_ret
      exact ⟨ret_int (by rw [HA.out, HT.out]), rfl⟩

end Go.Proofs.Ytkinmcnmdfpjbaa.Oct
