/-
  OctetOwn: a reader has bytes of its own.
-/
import Derived.Test.YtjjkckocdenncaaOctKit
namespace Go.Proofs.Ytjjkckocdenncaa.Oct
open Go.RowKit

theorem grown_of {w w' : World} (h : Below w.heap.size w w') : w.grownBy w' none := ⟨h.os, h.tape, h.output, h.size, fun k hk _ => h.block k hk⟩
theorem below_drewN {B : Nat} {a w : World} (m : Nat) (h : Below B a w) : Below B a (w.drewN m) := ⟨h.os, h.tape, h.output, h.size, h.block⟩

set_option maxHeartbeats 1000000 in
theorem own_law (a0 : Option Addr) (n c0 : Nat) (l : List Int) (m : Int) (w : World) (h0 : Seg w a0 n c0 l) :
    Calls Try.prog 5 #[.slice a0 n c0, .int .i64 m] w fun e w' => e = .returned (.bool true) ∧ Below w.heap.size w w' := by
  by_cases hn : 200 < n
  · go_enter Try.func5, Try.ntmps5
    go_wp2_with fail
    refine (lives_any w).mono ?_
    rintro e w1 ⟨rfl, hg1⟩
    go_wp2
    go_ret
    exact ⟨rfl, (Below.refl _ _).grown hg1 (Nat.le_refl _) (fun k h => by cases h)⟩
  · have HL := Lib.hid h0.len
    have H0 := Lib.hid (fun w1 (h : w.grownBy w1 none) => h0.kept h (fun _ _ e => by cases e))
    clear h0
    go_enter Try.func5, Try.ntmps5
    go_wp2_with fail
    refine (lives_any w).mono ?_
    rintro e w1 ⟨rfl, hg1⟩
    go_wp2_with (first
      | (go_at_call 10; refine (number_nil _ _).mono ?_; rintro e w' ⟨rfl, rfl⟩)
      | (go_at_call 9; refine (var_nil _).mono ?_; rintro e w' ⟨rfl, rfl⟩)
      | (go_at_call 11; refine (bytes_nil _ _).mono ?_; rintro e w' ⟨rfl, rfl⟩)
      | fail)
    refine (own_any a0 n c0 l w1 (H0.out _ hg1) (by omega)).mono ?_
    rintro e w2 ⟨g2, c2, rfl, hown2, hg2⟩
    have hown2b := hown2
    go_wp2_with fail
    refine (new_any _ _ _ l w2 (Seg.own hown2) (by omega)).mono ?_
    rintro e w3 ⟨b3, g3, rfl, hb3, hg3, hr3, hgr3⟩
    have hown3 := hown2b.kept hgr3 (.inr (by simp [Value.ownBlock]))
    go_wp2_with fail
    have HB := Lib.hid hb3
    have hg03 := grownBy_trans (grownBy_trans hg1 hg2 (fun _ e => by cases e)) hgr3 (fun _ e => by cases e)
    have lt2 : w1.heap.size ≤ g2 ∧ g2 < w2.heap.size := hown2b.lt _ rfl
    have hne : ¬ g2 = b3 := by have := lt2.2; omega
    have hne2 : ¬ g2 = g3 := by have := lt2.2; omega
    have lt2' : w.heap.size ≤ g2 := Nat.le_trans hg1.size lt2.1
    have hne' : some g2 ≠ some b3 := fun e => hne (Option.some.inj e)
    have hne2' : some g2 ≠ some g3 := fun e => hne2 (Option.some.inj e)
    have HN1 := Lib.hid hne'
    have HN2 := Lib.hid hne2'
    have HLT := Lib.hid lt2'
    have HB3 := Lib.hid (Nat.le_trans (Nat.le_trans hg1.size hg2.size) hb3)
    have HH := Lib.hid hg03
    have HR := Lib.hid hr3
    have HO := Lib.hid hown3
    have hwf : Below w.heap.size w w3 := (Below.refl _ _).grown hg03 (Nat.le_refl _) (fun k h => by cases h)
    have HW := Lib.hid hwf
    clear hwf hown3 hr3 hg03 hne' hne2' lt2' hne hne2 lt2 hb3 hg3 hgr3 hown2b hown2 hg2
    go_loopw [14] (fun si wr => ∃ (k : Nat) (zs : List Int), k ≤ n ∧ si = .int .i64 k ∧ Hid (Below w.heap.size w wr ∧ Rd wr b3 g3 l ∧ wr.ownsRow w.heap.size 5 1 (.slice (some ⟨g2, 0, none⟩) n c2) n (zs.map (Value.int .u8))))
      (fun si _ => n - (intOf si).toNat)
    case atStart => exact ⟨0, l, Nat.zero_le _, rfl, Lib.hid ⟨HW.out, HR.out, ownsRow_mono HO.out hg1.size⟩⟩
    case round =>
      obtain ⟨k, zs, hk, rfl, HI⟩ := hrel
      by_cases hlt : k < n
      · have hzl : zs.length = n := by simpa using HI.out.2.2.1
        have hcell := HI.out.2.2.cellAt k (by omega)
        have hfree := HI.out.2.2.frozenAt k
        have hst := HI.out.2.2.stored k
        rw [List.getElem?_map, List.getElem?_eq_getElem (by omega)] at hcell
        simp only [Option.map_some] at hcell
        have HS := Lib.hid hst
        clear hst
        go_wp2
        go_roundw
        case rel =>
          refine ⟨k + 1, zs.set k ((zs[k] + 1) % 256), by omega, by go_num, Lib.hid ⟨HI.out.1.setCell HLT.out _, HI.out.2.1.kept (HS.out _).2 HN1.out HN2.out, ?_⟩⟩
          rw [List.map_set]
          exact (HS.out _).1
        case measure => simp [intOf]; omega
      · obtain rfl : k = n := by omega
        have hl : l.length = k := HL.out
        have hb := bytes_yes b3 g3 l k wr HI.out.2.1 (by omega) (by omega)
        rw [List.take_of_length_le (by omega)] at hb
        have HBy := Lib.hid hb
        clear hb hl
        go_wp2_with fail
        refine HBy.out.mono ?_
        rintro e w4 hrb
        obtain ⟨x, q, rfl, hq, hown4, hg4, hr4⟩ := hrb.value
        rw [HL.out] at hq
        subst hq
        have HB4 := Lib.hid ((HI.out.1.trans ((Below.refl _ _).grown hg4 HI.out.1.size (fun i e => by cases e; exact HB3.out))))
        have HS4 := Lib.hid (Seg.own hown4)
        have HS5 := Lib.hid (H0.out w4 (grown_of HB4.out))
        clear hrb hown4 hg4 hr4
        go_wp2_with fail
        refine (left_nil _).mono ?_
        rintro e w' ⟨rfl, rfl⟩
        go_wp2_with fail
        refine (same_yes _ _ q q c0 l w4 HS4.out HS5.out).mono ?_
        rintro e w5 ⟨rfl, mm, rfl⟩
        have HF := Lib.hid (below_drewN mm HB4.out)
        go_wp2
        go_ret
        exact ⟨rfl, HF.out⟩
end Go.Proofs.Ytjjkckocdenncaa.Oct
