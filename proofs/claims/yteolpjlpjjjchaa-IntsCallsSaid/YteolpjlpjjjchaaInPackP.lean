/-
  A column packed: putPacked.
-/
import Derived.Test.YteolpjlpjjjchaaInRuns
namespace Go.Proofs.Yteolpjlpjjjchaa.In
open Go.RowKit Go.Joins
open Is (IsI)
open Bs (info_u8)
open Us (info_u64)
open Ref1 (GrowB)
open Pk (wid putR IsU PutO)

def roomU (S : Nat) : Array Value := madeCells (Value.int .u64 0).cells S
theorem roomU_size (S : Nat) : (roomU S).size = S := size_madeCells _ _
theorem make_roomU (S : Nat) (hS : S ≤ 1000000) (W : World) : (Instr.makeSlice 59 (.int .i64 0) (.int .i64 (S : Int))).run Try.prog W = .ok (.slice (some ⟨W.heap.size, 0, none⟩) 0 S) (W.alloc (.cells (roomU S) 45)) := by
  obtain ⟨i0, hi, hz0, hz1, hz2⟩ := info_parts info_u64
  have h := run_make (P := Try.prog) W 59 45 i0 (.int .u64 0) Try.underlying59 hi hz0 .i64 .i64 0 (S : Int) (by omega) (by omega) (by rw [hz2]; omega) (by omega)
  rw [hz1, Int.toNat_natCast, Nat.mul_one] at h
  exact h
def roomI (S : Nat) : Array Value := madeCells (Value.int .i64 0).cells S
theorem roomI_size (S : Nat) : (roomI S).size = S := size_madeCells _ _
theorem make_roomI (S : Nat) (hS : S ≤ 1000000) (W : World) : (Instr.makeSlice 27 (.int .i64 0) (.int .i64 (S : Int))).run Try.prog W = .ok (.slice (some ⟨W.heap.size, 0, none⟩) 0 S) (W.alloc (.cells (roomI S) 2)) := by
  obtain ⟨i0, hi, hz0, hz1, hz2⟩ := info_parts Is.info_i64
  have h := run_make (P := Try.prog) W 27 2 i0 (.int .i64 0) Try.underlying27 hi hz0 .i64 .i64 0 (S : Int) (by omega) (by omega) (by rw [hz2]; omega) (by omega)
  rw [hz1, Int.toNat_natCast, Nat.mul_one] at h
  exact h

theorem sub_u (x m : Int) : IntKind.u64.wrap (IntKind.u64.wrap x - IntKind.u64.wrap m) = u (x - m) := by
  rw [IntKind.wrap_u64, IntKind.wrap_u64, IntKind.wrap_u64]; unfold u; omega
theorem offs_take (l : List Int) (k : Nat) (x : Int) (h : k < l.length) (hx : l.getD k 0 = x) : (offs l).take (k + 1) = (offs l).take k ++ [u (x - minL l)] := by
  rw [List.take_succ_eq_append_getElem (by rw [offs_length]; exact h), ← hx]
  simp [offs, List.getD, h]

set_option maxRecDepth 100000 in
set_option maxHeartbeats 2000000 in
theorem putPacked_any (a : Option Addr) (n c : Nat) (l : List Int) (w : World) (hs : Is.Seg w a n c l) (hI : IsI l) (hn : n ≤ 65536) :
    Calls Try.prog 53 #[.slice a n c] w (PartX w (packedB l)) := by
  obtain ⟨i0, hi, hz0, hz1, hz2⟩ := info_parts info_u8
  obtain ⟨j0, ji, jz0, jz1, jz2⟩ := info_parts info_u64
  have hcap := hs.cap
  have hle := hs.le
  unfold maxLen at hcap
  have HLen := Lib.hid hs.len
  have HMin := Lib.hid (smallest_any a n c l w hs hI)
  have hmk := make_roomU n (by omega)
  have h0 := World.ownsRow_made (base := w.heap.size) (e := 45) (size := 1) w (roomU n) n (Nat.le_refl _) (by unfold maxLen; omega) (by rw [roomU_size, Nat.mul_one])
  have HO := Lib.hid h0
  have HG : Hid (Below w.heap.size w (w.alloc (.cells (roomU n) 45))) := Lib.hid ((Below.refl _ w).alloc (Nat.le_refl _) _)
  have HSeg := Lib.hid hs
  have HLm := Lib.hid hI
  obtain ⟨m0, hm0⟩ : ∃ m, minL l = m := ⟨_, rfl⟩
  rw [hm0] at HMin
  have HM0 := Lib.hid hm0
  clear h0 hs hI hm0
  go_enter Try.func53, Try.ntmps53
  go_wp2_with (first
    | (go_at_call 64; refine HMin.out.mono ?_; rintro e w' ⟨rfl, rfl⟩)
    | fail)
  go_loopw [4, 18] (fun so si wr => ∃ (k : Nat) (V : Value), k ≤ n ∧ si = .int .i64 k ∧ V = so ∧ Hid (∃ g cc, V = .slice (some ⟨g, 0, none⟩) k cc) ∧ Hid (wr.ownsRow w.heap.size 45 1 V k (((offs l).take k).map (Value.int .u64))) ∧ Hid (Below w.heap.size w wr))
    (fun _ si _ => n - (intOf si).toNat)
  case atStart => exact ⟨0, _, Nat.zero_le _, rfl, rfl, Lib.hid ⟨_, _, rfl⟩, HO, HG⟩
  case round =>
    obtain ⟨k, V, hk, rfl, rfl, HV, HO, HB⟩ := hrel
    by_cases hlt : k < n
    · have hseg := iseg_below HSeg.out HB.out rfl
      obtain ⟨gA, oA, rfl, hc⟩ := hseg.addr (by omega)
      have g1 := hc k hlt
      obtain ⟨x, hx⟩ : ∃ x, l.getD k 0 = x := ⟨_, rfl⟩
      rw [hx] at g1
      have HP := Lib.hid (offs_take l k x (by have := HLen.out; omega) hx)
      have hsub := sub_u x m0
      have HS1 := Lib.hid hsub
      obtain ⟨y, hy⟩ : ∃ y, IntKind.u64.wrap (IntKind.u64.wrap x - IntKind.u64.wrap m0) = y := ⟨_, rfl⟩
      have HY := Lib.hid hy
      clear hx hc hseg hsub hy
      go_wp2_with (at_builtin; refine wpList_append_own _ rfl (.tmp 22) (.tmp 28) 59 rfl w.heap.size 45 j0 (.int .u64 0) 1 8 Try.underlying59 ji jz0 jz1 jz2 rfl (by decide) V k (((offs l).take k).map (Value.int .u64)) rfl (HO.out.alloc _) ⟨wr.heap.size, 0, none⟩ 1 1 [.int .u64 (IntKind.u64.wrap (IntKind.u64.wrap x - IntKind.u64.wrap m0))] rfl rfl (by intro t u ht; match t, ht with | 0, ht => simp at ht; subst ht; exact Pk.cell_new wr _ _) (by intro u hu; simp at hu; subst hu; rfl) (by unfold maxLen; omega) (by omega) (by have := HB.out.size; simp; omega) ?_; intro v2 w2 hown2 hgrow2 hnil)
      go_roundw
      case rel =>
        refine ⟨k + 1, _, by omega, by go_num, rfl, ?_, ?_, Lib.hid ((HB.out.alloc HB.out.size _).grown hgrow2 (by have := HB.out.size; simp; omega) (fun j e => (HO.out.lt j e).1))⟩
        · obtain ⟨g', c', e⟩ := ownsRow_form hown2 (by omega)
          exact Lib.hid ⟨g', c', e⟩
        · refine Lib.hid ?_
          rw [HP.out, List.map_append]
          rw [HS1.out] at hown2
          rw [HM0.out]
          exact hown2
      case measure => simp [intOf]; omega
    · obtain rfl : k = n := by omega
      obtain ⟨gV, cV, rfl⟩ := HV.out
      have hown := HO.out
      rw [List.take_of_length_le (by rw [offs_length]; exact Nat.le_of_eq HLen.out)] at hown
      have hus := Us.Seg.own hown
      have HUS := Lib.hid hus
      have HWid := Lib.hid (Pk.width_any _ _ _ (offs l) wr hus (offs_isU l))
      have hw64 := Pk.wid_64 (offs_isU l)
      have hok := put_yes l (by have := HLen.out; omega)
      obtain ⟨W, hW⟩ : ∃ W, wid (offs l) = W := ⟨_, rfl⟩
      rw [hW] at HWid hw64 hok
      obtain ⟨B, hB⟩ : ∃ B, (putR (offs l) (W : Int)).2 = B := ⟨_, rfl⟩
      have hput : putR (offs l) (W : Int) = (0, B) := by rw [← hB, ← hok]
      have hBl : B.length ≤ 524288 := by rw [← hB]; exact Pk.put_len _ _
      have HFin : Hid (packedB l = num8 m0 ++ [(W : Int)] ++ B) := Lib.hid (by unfold packedB; rw [HM0.out, hW, hB])
      obtain ⟨bl, hbl⟩ : ∃ n, B.length = n := ⟨_, rfl⟩
      rw [hbl] at hBl
      have HBl := Lib.hid hbl
      have HPut := Lib.hid (fun W' hs => Pk.put_own_form hput hbl (offs_isU l) (some ⟨gV, 0, none⟩) k cV W' hs)
      have HNum := Lib.hid (putNumber_any wr.heap.size (.slice none 0 0) 0 [] m0 wr (World.ownsRow_nil _ _ _ _) (Nat.le_refl _) (by decide))
      have hw8 : ((W : Int) % 256) = (W : Int) := by omega
      clear hown hus hok hW hB hput hbl
      go_wp2_with (first
        | (go_at_call 65; refine HWid.out.mono ?_; rintro e w' ⟨rfl, rfl⟩)
        | fail)
      refine HNum.out.mono ?_
      rintro e w1 ⟨g1, c1, rfl, hown1, hb1⟩
      have HO1 := Lib.hid hown1
      have HB1 := Lib.hid hb1
      clear hown1 hb1
      dsimp only
      go_wp2_with (at_builtin; refine wpList_append_own _ rfl (.tmp 34) (.tmp 37) 23 rfl wr.heap.size 5 i0 (.int .u8 0) 1 1 Try.underlying23 hi hz0 hz1 hz2 rfl (by decide) (.slice (some ⟨g1, 0, none⟩) (0 + 8) c1) (0 + 8) (([] ++ num8 m0).map (Value.int .u8)) rfl (HO1.out.alloc _) ⟨w1.heap.size, 0, none⟩ 1 1 [.int .u8 (W : Int)] rfl rfl (by intro t u ht; match t, ht with | 0, ht => simp at ht; subst ht; exact Pk.cell_new w1 _ _) (by intro u hu; simp at hu; subst hu; rfl) (by unfold maxLen; omega) (by omega) (by have := HB1.out.size; simp; omega) ?_; intro v2 w2 hown2 hgrow2 _)
      have HB2 : Hid (Below wr.heap.size wr w2) := Lib.hid ((HB1.out.alloc HB1.out.size _).grown hgrow2 (by have := HB1.out.size; simp; omega) (fun j e => (HO1.out.lt j e).1))
      have HPut2 := Lib.hid (HPut.out w2 (HUS.out.grown (Bs.grown_of HB2.out)))
      obtain ⟨g2, c2, rfl⟩ := ownsRow_form hown2 (by omega)
      have HO2 := Lib.hid hown2
      clear hown2 hgrow2
      go_wp2_with fail
      refine HPut2.out.mono ?_
      rintro e w3 ⟨a3, k3, rfl, hs3, ht3, hown3⟩
      obtain ⟨g3, rfl, _⟩ := hown3 rfl
      have HO3 := Lib.hid (own_grown HO2.out ht3.grown)
      have HS3 := Lib.hid (hs3.at_ _ rfl)
      have HL3 : Hid ((B.map (Value.int .u8)).length = bl * 1) := Lib.hid (by rw [List.length_map, HBl.out, Nat.mul_one])
      have HB3 : Hid (Below wr.heap.size wr w3) := Lib.hid (HB2.out.trans (below_grown ht3.grown HB2.out.size))
      have HW3 : Hid (wr.heap.size ≤ w3.heap.size) := Lib.hid HB3.out.size
      clear hs3 ht3 hown3
      dsimp only
      go_wp2_with (at_builtin; refine wpList_append_own _ rfl (.tmp 45) (.tmp 46) 23 rfl wr.heap.size 5 i0 (.int .u8 0) 1 1 Try.underlying23 hi hz0 hz1 hz2 rfl (by decide) _ (0 + 8 + 1) _ rfl HO3.out ⟨g3, 0, none⟩ bl k3 (B.map (Value.int .u8)) rfl HL3.out HS3.out (ints_oneCell _ _) (by unfold maxLen; omega) (by omega) HW3.out ?_; intro v4 w4 hown4 hgrow4 _)
      have HF : Hid (PartX w (packedB l) (.returned v4) w4) := by
        have hsz := HB.out.size
        have h1 := Bs.ownsRow_mono hown4 hsz
        refine Lib.hid (part_own (n := 0 + 8 + 1 + bl) ?_ (HB.out.trans (below_mono (HB3.out.grown hgrow4 HW3.out (fun j e => (HO3.out.lt j e).1)) hsz)))
        rw [HFin.out, List.map_append, List.map_append]
        exact h1
      clear hown4 hgrow4
      go_wp2
      go_ret
      exact HF.out
end Go.Proofs.Yteolpjlpjjjchaa.In
