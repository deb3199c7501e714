/-
  CrcBehind: with its check behind it every text has the same check.
-/
import Derived.Test.YtdkcieojfkfaiaaCrcKit
namespace Go.Proofs.Ytdkcieojfkfaiaa.Crc
open Go.RowKit Bs Ref1

theorem num_ofB (l : List Int) (h : Bs.IsB l) : (num l : Int) = Oct.ofB l := by
  induction l with
  | nil => rfl
  | cons c r ih =>
    have hc := h c (by simp)
    have hr := ih fun x hx => h x (by simp [hx])
    simp only [num, Oct.ofB]
    omega
theorem num_putB (v : Nat) (h : v < 4294967296) : num (Oct.putB 4 v) = v := by
  have h1 := num_ofB _ (Oct.putB_isB 4 v)
  rw [Oct.ofB_putB 4 v (by omega) (show (v : Int) < 4294967296 by omega)] at h1
  omega
/-- a text with its check behind it -/
def behindC (l : List Int) : List Int := l ++ Oct.putB 4 (crc l : Int)
theorem behindC_length (l : List Int) : (behindC l).length = l.length + 4 := by rw [behindC, List.length_append, Oct.putB_length]
theorem behindC_isB (l : List Int) (h : Bs.IsB l) : Bs.IsB (behindC l) := by
  intro x hx
  rcases List.mem_append.1 hx with h1 | h1
  · exact h x h1
  · exact Oct.putB_isB 4 _ x h1
theorem behindC_crc (l e : List Int) (h : Bs.IsB l) : crc (behindC l ++ e) = ones ^^^ upd entry (halves 32 ones) e :=
  behind l _ e h (Oct.putB_isB 4 _) (Oct.putB_length 4 _) (num_putB _ (crc_lt l h))

theorem below_of {w w' : World} (h : w.grownBy w' none) : Below w.heap.size w w' := ⟨h.os, h.tape, h.output, h.size, fun k hk => h.block k hk (by simp)⟩

/-- What rput leaves behind Own and Of. -/
theorem own_put {w w1 w2 w3 : World} {l : List Int} {n : Nat} {e : Ending} (h1 : w.grownBy w1 none) (h2 : w1.grownBy w2 none) (h3 : GrowB w.heap.size w2 l n e w3) :
    ∃ g c, e = .returned (.slice (some ⟨g, 0, none⟩) n c) ∧ Seg w3 (some ⟨g, 0, none⟩) n c l ∧ w.grownBy w3 none := by
  obtain ⟨g, c, he, ho, hb⟩ := h3
  exact ⟨g, c, he, Seg.own ho, grown_of ((below_of (grownBy_trans h1 h2 (fun _ e => by cases e))).trans hb)⟩

theorem wrap_crc (l : List Int) (h : Bs.IsB l) : IntKind.u64.wrap (crc l : Int) = (crc l : Int) := by
  have h1 := crc_lt l h
  have e : IntKind.u64.wrap (crc l : Int) = (crc l : Int) % 18446744073709551616 := by simp [IntKind.wrap, IntKind.bits, IntKind.signed]
  rw [e]
  omega

theorem rput4_any (base : Nat) (v0 : Value) (n : Nat) (l m : List Int) (w : World) (hown : w.ownsRow base 5 1 v0 n (l.map (Value.int .u8))) (hbase : base ≤ w.heap.size) (hm : Bs.IsB m) (hn : n ≤ 70368744177664) :
    Calls Try.prog 21 #[v0, .int .u64 (crc m : Int), .int .i64 4] w (GrowB base w (l ++ Oct.putB 4 (crc m : Int)) (n + 4)) :=
  rput_any base v0 n l (crc m : Int) 4 w hown hbase (by omega) (by have := crc_lt m hm; omega) (by omega) (by omega) hn

set_option maxRecDepth 100000 in
set_option maxHeartbeats 1000000 in
theorem behind_law (a0 : Option Addr) (n0 c0 : Nat) (l0 : List Int) (a1 : Option Addr) (n1 c1 : Nat) (l1 : List Int) (w : World) (h0 : Seg w a0 n0 c0 l0) (b0 : Bs.IsB l0) (h1 : Seg w a1 n1 c1 l1) (b1 : Bs.IsB l1) :
    Calls Try.prog 8 #[.slice a0 n0 c0, .slice a1 n1 c1] w fun e w' => e = .returned (.bool true) ∧ Below w.heap.size w w' := by
  by_cases hn : 300 < n0 ∨ 300 < n1
  · have hc : (300 : Int) < n0 ∨ ((n0 : Int) ≤ 300 ∧ (300 : Int) < n1) := by omega
    clear hn
    rcases hc with hc | ⟨hc, hd⟩
    all_goals
      go_enter Try.func8, Try.ntmps8
      go_wp2_with fail
      refine (lives_any w).mono ?_
      rintro e w1 ⟨rfl, hg1⟩
      have HG := Lib.hid (below_of hg1)
      clear hg1
      go_wp2
      go_ret
      exact ⟨rfl, HG.out⟩
  · have m0 : (n0 : Int) ≤ 300 := by omega
    have m1 : (n1 : Int) ≤ 300 := by omega
    obtain ⟨i0, hi, hz0, hz1, hz2⟩ := info_parts info_u8
    clear hn
    have H0 := Lib.hid h0
    have H1 := Lib.hid h1
    have B0 := Lib.hid b0
    have B1 := Lib.hid b1
    clear h0 h1 b0 b1
    go_enter Try.func8, Try.ntmps8
    go_wp2_with fail
    refine (lives_any w).mono ?_
    rintro e w1 ⟨rfl, hg1⟩
    have G1 := Lib.hid hg1
    clear hg1
    go_wp2_with fail
    refine (own_any a0 n0 c0 l0 w1 (H0.out.grown G1.out) (by omega)).mono ?_
    rintro e w2 ⟨g2, c2, rfl, hown, hg⟩
    have O2 := Lib.hid hown
    have G2 := Lib.hid hg
    clear hown hg
    go_wp2_with fail
    refine (of_any a0 n0 c0 l0 w2 ((H0.out.grown G1.out).grown G2.out) B0.out).mono ?_
    rintro e w3 ⟨rfl, hg⟩
    have G3 := Lib.hid hg
    clear hg
    go_wp2_with fail
    rw [wrap_crc l0 B0.out]
    refine (rput4_any w1.heap.size _ n0 l0 l0 w3 (O2.out.kept G3.out (.inr (by simp [Value.ownBlock]))) (Nat.le_trans G2.out.size G3.out.size) B0.out (by omega)).mono ?_
    rintro e w4 h4
    obtain ⟨g4, c4, rfl, S4, hg⟩ := own_put G2.out G3.out h4
    have S4 := Lib.hid S4
    have D4 := Lib.hid hg
    have G4 := Lib.hid (grownBy_trans G1.out hg (fun _ e => by cases e))
    clear h4 hg
    go_wp2_with fail
    refine (own_any a1 n1 c1 l1 w4 (H1.out.grown G4.out) (by omega)).mono ?_
    rintro e w5 ⟨g5, c5, rfl, hown, hg⟩
    have O5 := Lib.hid hown
    have G5 := Lib.hid hg
    clear hown hg
    go_wp2_with fail
    refine (of_any a1 n1 c1 l1 w5 ((H1.out.grown G4.out).grown G5.out) B1.out).mono ?_
    rintro e w6 ⟨rfl, hg⟩
    have G6 := Lib.hid hg
    clear hg
    go_wp2_with fail
    rw [wrap_crc l1 B1.out]
    refine (rput4_any w4.heap.size _ n1 l1 l1 w6 (O5.out.kept G6.out (.inr (by simp [Value.ownBlock]))) (Nat.le_trans G5.out.size G6.out.size) B1.out (by omega)).mono ?_
    rintro e w7 h4
    obtain ⟨g7, c7, rfl, S7, hg⟩ := own_put G5.out G6.out h4
    have S7 := Lib.hid S7
    have D7 := Lib.hid hg
    have G7 := Lib.hid (grownBy_trans G4.out hg (fun _ e => by cases e))
    clear h4 hg
    go_wp2_with fail
    refine (of_any _ _ _ (behindC l0) w7 (S4.out.grown D7.out) (behindC_isB l0 B0.out)).mono ?_
    rintro e w8 ⟨rfl, hg⟩
    have G8 := Lib.hid hg
    clear hg
    go_wp2_with fail
    refine (of_any _ _ _ (behindC l1) w8 (S7.out.grown G8.out) (behindC_isB l1 B1.out)).mono ?_
    rintro e w9 ⟨rfl, hg⟩
    have G9 := Lib.hid hg
    clear hg
    have K0 : ∀ l e : List Int, Bs.IsB l → crc (behindC l ++ e) = ones ^^^ upd entry (halves 32 ones) e := behindC_crc
    have q1 : crc (behindC l0) = crc (behindC l1) := by
      have h0 := K0 l0 [] B0.out
      have h1 := K0 l1 [] B1.out
      rw [List.append_nil] at h0 h1
      rw [h0, h1]
    have q2 : ((crc (behindC l0) : Int) == (crc (behindC l1) : Int)) = true := by rw [q1]; exact beq_self_eq_true _
    have E0 := Lib.hid (K0 l0 l1 B0.out)
    have E1 := Lib.hid (K0 l1 l1 B1.out)
    clear q1 K0
    generalize crc (behindC l0) = x0 at q2
    generalize crc (behindC l1) = x1 at q2
    have T9 := Lib.hid (grownBy_trans (grownBy_trans G7.out G8.out (fun _ e => by cases e)) G9.out (fun _ e => by cases e))
    have A9 := Lib.hid ((S4.out.grown D7.out).grown (grownBy_trans G8.out G9.out (fun _ e => by cases e)))
    have C9 := Lib.hid ((S7.out.grown G8.out).grown G9.out)
    go_wp2_with fail
    refine (own_any _ (n0 + 4) c4 (behindC l0) w9 A9.out (by omega)).mono ?_
    rintro e w10 ⟨g10, c10, rfl, hown, hg⟩
    have O10 := Lib.hid hown
    have D10 := Lib.hid hg
    have T10 := Lib.hid (grownBy_trans T9.out hg (fun _ e => by cases e))
    have Z10 := Lib.hid hg.size
    clear hown hg
    have R10 := Lib.hid (H1.out.grown T10.out)
    go_wp2_with (first
      | (at_builtin; refine wpList_wanted (by rfl) (wp_append_seg (.tmp 36) (.tmp 37) 26 rfl w9.heap.size 5 i0 Try.underlying26 hi hz0 hz1 hz2 g10 (n0 + 4) c10 _ rfl O10.out _ n1 c1 l1 rfl R10.out (by omega) Z10.out ?_); intro g11 c11 w11 hown hg; have O11 := Lib.hid hown; have G11 := Lib.hid hg; clear hown hg)
      | fail)
    have P11 : Hid (Seg w11 (some ⟨g11, 0, none⟩) (n0 + 4 + n1) c11 (behindC l0 ++ l1)) := Lib.hid (Seg.own (by rw [List.map_append]; exact O11.out))
    have D11 := Lib.hid (grownBy_trans D10.out G11.out (fun i e => by cases e; exact (O10.out.lt _ rfl).1))
    refine (of_any _ _ _ (behindC l0 ++ l1) w11 P11.out (fun x hx => by rcases List.mem_append.1 hx with h | h; exact behindC_isB l0 B0.out x h; exact B1.out x h)).mono ?_
    rintro e w12 ⟨rfl, hg⟩
    have D12 := Lib.hid (grownBy_trans D11.out hg (fun _ e => by cases e))
    have T12 := Lib.hid (grownBy_trans T9.out D12.out (fun _ e => by cases e))
    have C12 := Lib.hid (C9.out.grown D12.out)
    clear hg
    rw [E0.out]
    generalize ones ^^^ upd entry (halves 32 ones) l1 = z at E0 E1
    go_wp2_with fail
    refine (own_any _ (n1 + 4) c7 (behindC l1) w12 C12.out (by omega)).mono ?_
    rintro e w13 ⟨g13, c13, rfl, hown, hg⟩
    have O13 := Lib.hid hown
    have D13 := Lib.hid hg
    have T13 := Lib.hid (grownBy_trans T12.out hg (fun _ e => by cases e))
    have Z13 := Lib.hid hg.size
    clear hown hg
    have R13 := Lib.hid (H1.out.grown T13.out)
    go_wp2_with (first
      | (at_builtin; refine wpList_wanted (by rfl) (wp_append_seg (.tmp 41) (.tmp 42) 26 rfl w12.heap.size 5 i0 Try.underlying26 hi hz0 hz1 hz2 g13 (n1 + 4) c13 _ rfl O13.out _ n1 c1 l1 rfl R13.out (by omega) Z13.out ?_); intro g14 c14 w14 hown hg; have O14 := Lib.hid hown; have G14 := Lib.hid hg; clear hown hg)
      | fail)
    have P14 : Hid (Seg w14 (some ⟨g14, 0, none⟩) (n1 + 4 + n1) c14 (behindC l1 ++ l1)) := Lib.hid (Seg.own (by rw [List.map_append]; exact O14.out))
    have D14 := Lib.hid (grownBy_trans D13.out G14.out (fun i e => by cases e; exact (O13.out.lt _ rfl).1))
    refine (of_any _ _ _ (behindC l1 ++ l1) w14 P14.out (fun x hx => by rcases List.mem_append.1 hx with h | h; exact behindC_isB l1 B1.out x h; exact B1.out x h)).mono ?_
    rintro e w15 ⟨rfl, hg⟩
    have T15 := Lib.hid (below_of (grownBy_trans (grownBy_trans T12.out D14.out (fun _ e => by cases e)) hg (fun _ e => by cases e)))
    clear hg
    rw [E1.out]
    go_wp2
    go_ret
    exact ⟨rfl, T15.out⟩
end Go.Proofs.Ytdkcieojfkfaiaa.Crc
