/-
  bytes.Clone; Each.
-/
import Derived.Test.YtpjiadoicpfhgaaPkLives
namespace Go.Proofs.Ytpjiadoicpfhgaa.Pk
open Go.RowKit Bs Dv

set_option maxHeartbeats 1000000 in
theorem clone_any (a : Option Addr) (n c : Nat) (l : List Int) (w : World) (hs : Seg w a n c l) (hn : n ≤ 524288) :
    Calls Try.prog 31 #[.slice a n c] w fun e w' => ∃ a' k, e = .returned (.slice a' n k) ∧ Seg w' a' n k l ∧ Turn w w' nowhere ∧ (∀ ad, a' = some ad → w.heap.size ≤ ad.block ∧ ad.block < w'.heap.size) := by
  obtain ⟨i0, hi, hz0, hz1, hz2⟩ := info_parts info_u8
  cases a with
  | none =>
    obtain ⟨rfl, rfl⟩ := hs.nil_ rfl
    have HS := Lib.hid hs
    have heq : ∀ W : World, (binOp .eql 23 (.slice none 0 0) (.slice none 0 0)).run Try.prog W = .ok (.bool true) W := fun W => by kernel_rfl
    clear hs
    go_enter Try.func31, Try.ntmps31
    go_wp2
    go_ret
    exact ⟨none, 0, rfl, HS.out, Turn.refl _ _, fun _ h => by cases h⟩
  | some x =>
    have hown := World.ownsRow_made (base := w.heap.size) (e := 5) (size := 1) w #[] 0 (Nat.le_refl _) (by unfold maxLen; omega) rfl
    have HO := Lib.hid hown
    have HT := Lib.hid (Turn.alloc w (.cells #[] 5) nowhere)
    have HS := Lib.hid (seg_stay hs HT.out)
    have heq : ∀ W : World, (binOp .eql 23 (.slice (some x) n c) (.slice none 0 0)).run Try.prog W = .ok (.bool false) W := fun W => by kernel_rfl
    clear hown hs
    go_enter Try.func31, Try.ntmps31
    go_wp2_with (at_builtin; refine wpList_append_seg rfl (.tmp 5) (.tmp 6) 23 rfl w.heap.size 5 i0 Try.underlying23 hi hz0 hz1 hz2 w.heap.size 0 0 [] rfl HO.out (some x) n c l rfl HS.out (by omega) (by simp) ?_; intro g1 c1 w1 hown1 hgrow1; simp only [Nat.zero_add, List.nil_append] at hown1 ⊢; have HO1 := Lib.hid hown1; have HG1 := Lib.hid hgrow1; clear hown1 hgrow1)
    go_ret
    have hlt := HO1.out.lt _ rfl
    exact ⟨some ⟨g1, 0, none⟩, c1, rfl, Seg.own HO1.out, Turn.trans HT.out (Turn.of_grown (S := fun i => i = w.heap.size) HG1.out (fun i e _ => by cases e; rfl)) (fun i hi e => by omega), fun ad h => by cases h; exact hlt⟩

/-- Each's answer: an iterator over the numbers L, in new memory -/
def EachX (w : World) (L : List Int) (n : Int) (e : Ending) (w' : World) : Prop :=
  ∃ lb P l' cnt v', e = .returned (.func (.func 33) #[] lb) ∧ Iter w' lb P l' cnt v' ∧ (∀ i, P i → w.heap.size ≤ i ∧ i < w'.heap.size) ∧ Turn w w' nowhere ∧ L = getL v' (packN 8 l') cnt ∧ (0 < cnt → (cnt : Int) = n)

set_option maxHeartbeats 1000000 in
theorem each_any (a : Option Addr) (len c : Nat) (l : List Int) (n v : Int) (w : World) (hs : Seg w a len c l) (hb : Fit 8 l) :
    Calls Try.prog 20 #[.slice a len c, .int .i64 n, .int .i64 v] w (EachX w (getR l n v).2 n) := by
  have HC := Lib.hid (check_any a len c l n v w hs hb)
  by_cases hok : (getR l n v).1 = 0
  · rw [hok] at HC
    obtain ⟨hc, hl, hz⟩ : canB n v = true ∧ (len : Int) = sizeF n v ∧ packN 8 l / 2 ^ (n.toNat * v.toNat) = 0 := by
      unfold getR at hok
      by_cases h1 : canB n v = true
      · rw [if_pos h1] at hok
        by_cases h2 : l.length = sizeN n.toNat v.toNat ∧ packN 8 l / 2 ^ (n.toNat * v.toNat) = 0
        · exact ⟨h1, by unfold sizeF; rw [if_pos h1, ← h2.1, hs.len], h2.2⟩
        · rw [if_neg h2] at hok; simp at hok
      · rw [if_neg h1] at hok; simp at hok
    have hc' := (canB_iff _ _).1 hc
    obtain ⟨v, rfl⟩ := Int.eq_ofNat_of_zero_le hc'.2.2.1
    obtain ⟨n, rfl⟩ := Int.eq_ofNat_of_zero_le hc'.1
    rw [sizeF_N hc] at hl
    rw [get_yes hc (by rw [hs.len]; omega) (by simpa only [Int.toNat_natCast] using hz)]
    have hsz := sizeF_bd n v
    rw [sizeF_N hc] at hsz
    have h8 := size8 n v
    have hln : len ≤ 524288 := by omega
    have HCl := Lib.hid (fun W (hs : Seg W a len c l) => clone_any a len c l W hs hln)
    have HS := Lib.hid hs
    have HN := Lib.hid (fun a' k (W : World) (hs : Seg W a' len k l) => numbers_iter a' len k n v l W hs hb (by omega) (by omega) hln (by omega))
    clear hs hok hc hl hz hc' hsz h8 hb
    go_enter Try.func20, Try.ntmps20
    go_wp2_with fail
    refine HC.out.mono ?_
    rintro e w1 ⟨rfl, q, rfl⟩
    have HS1 := Lib.hid (seg_stay HS.out (Turn.drewN w q nowhere))
    dsimp only
    go_wp2_with fail
    refine (HCl.out _ HS1.out).mono ?_
    rintro e w2 ⟨a', k, rfl, hs2, hT2, hfr⟩
    have HS2 := Lib.hid hs2
    have T2 := Lib.hid (Turn.then (Turn.drewN w q nowhere) hT2)
    have HF := Lib.hid hfr
    clear hs2 hT2 hfr
    dsimp only
    go_wp2_with fail
    refine (HN.out _ _ _ HS2.out).mono ?_
    rintro e w3 ⟨lb, rfl, hI, hT3⟩
    have HI := Lib.hid hI
    have T3 := Lib.hid hT3
    clear hI hT3
    dsimp only
    go_wp2
    go_ret
    refine ⟨lb, _, l, n, v, rfl, HI.out, ?_, Turn.then T2.out T3.out, rfl, fun _ => rfl⟩
    have h2 := T2.out.size
    have h3 := T3.out.size
    rintro i (⟨h4, h5⟩ | ⟨ad, h4, _, rfl⟩)
    · omega
    · have h6 := HF.out ad h4
      have h7 : (w.drewN q).heap.size = w.heap.size := rfl
      omega
  · have h2 := get_no l n v hok
    rw [h2]
    generalize (getR l n v).1 = E at HC hok
    have e0 : (E == 0) = false := beq_eq_false_iff_ne.2 hok
    have e1 : (E != 0) = true := bne_iff_ne.2 hok
    have HN := Lib.hid (fun (W : World) => numbers_iter none 0 0 0 0 [] W (Seg.nil W) (fun _ h => by cases h) (by omega) (by omega) (by omega) (by omega))
    clear h2 hok hs hb
    go_enter Try.func20, Try.ntmps20
    go_wp2_with fail
    refine HC.out.mono ?_
    rintro e w1 ⟨rfl, q, rfl⟩
    dsimp only
    go_wp2_with fail
    refine (HN.out _).mono ?_
    rintro e w3 ⟨lb, rfl, hI, hT3⟩
    have HI := Lib.hid hI
    have T3 := Lib.hid hT3
    clear hI hT3
    dsimp only
    go_wp2
    go_ret
    refine ⟨lb, _, [], 0, 0, rfl, HI.out, ?_, Turn.then (Turn.drewN w q nowhere) T3.out, rfl, fun h => absurd h (by decide)⟩
    rintro i (⟨h4, h5⟩ | ⟨ad, h4, _⟩)
    · have h7 : (w.drewN q).heap.size = w.heap.size := rfl
      omega
    · cases h4
end Go.Proofs.Ytpjiadoicpfhgaa.Pk
