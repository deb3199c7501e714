/-
  A column in a form: encode.
-/
import Derived.Test.YteolpjlpjjjchaaInForms
namespace Go.Proofs.Yteolpjlpjjjchaa.In
open Go.RowKit Go.Joins
open Is (IsI)
open Bs (info_u8)
open Oct (varB)

theorem putPlain_part (a : Option Addr) (n c : Nat) (l : List Int) (w : World) (hs : Is.Seg w a n c l) (hn : n ≤ 65536) :
    Calls Try.prog 49 #[.slice a n c] w (PartX w (plainB l)) := (putPlain_any a n c l w hs hn).mono fun _ _ h => part_grow h
theorem putRuns_any (a : Option Addr) (n c : Nat) (l : List Int) (w : World) (hs : Is.Seg w a n c l) (hn : n ≤ 65536) :
    Calls Try.prog 51 #[.slice a n c] w (PartX w (runsB l)) := by
  by_cases h0 : n = 0
  · subst h0
    obtain rfl := List.eq_nil_of_length_eq_zero hs.len
    exact putRuns_nil a c w
  · obtain ⟨g, o, rfl, _⟩ := hs.addr (by omega)
    exact putRuns_yes g o n c l w hs (by omega) hn

theorem body_len (k : Nat) (l : List Int) (hl : l.length ≤ 65536) : (bodyB k l).length ≤ 1200000 := by
  unfold bodyB
  split
  · rw [plainB_length]; omega
  · split
    · have := runsB_len l; omega
    · rw [packed_length l hl]
      have hw := Pk.wid_64 (offs_isU l)
      have : l.length * Pk.wid (offs l) ≤ 65536 * 64 := Nat.mul_le_mul hl hw
      unfold Pk.sizeN
      omega
theorem num_of {n : Nat} (h : n ≤ 65536) : IntKind.u64.wrap (n : Int) = (n : Int) := by rw [IntKind.wrap_u64]; omega

set_option maxRecDepth 100000 in
set_option maxHeartbeats 2000000 in
theorem encode_1 (a : Option Addr) (n c : Nat) (l : List Int) (w : World) (hs : Is.Seg w a n c l) (_hI : IsI l) (hn : n ≤ 65536) :
    Calls Try.prog 40 #[.slice a n c, .int .i64 1] w (PartX w (encB 1 l)) := by
  obtain ⟨i0, hi, hz0, hz1, hz2⟩ := info_parts info_u8
  have hcap := hs.cap
  have hle := hs.le
  unfold maxLen at hcap
  have HLen := Lib.hid hs.len
  have HV := Lib.hid (Oct.putVar_any _ 1 1 [1] (n : Int) (w.alloc (.cells #[.int .u8 1] 5)) (oseg (Bs.lit_seg w [1] (by decide))) (by omega) (by omega) (by decide))
  have hvl := Oct.varB_le 9 (n : Int)
  obtain ⟨vl, hvle⟩ : ∃ x, (varB 9 (n : Int)).length = x := ⟨_, rfl⟩
  rw [hvle] at hvl
  have HVL := Lib.hid hvle
  obtain ⟨B, hB⟩ : ∃ B, bodyB 1 l = B := ⟨_, rfl⟩
  have HE : Hid (encB 1 l = [1] ++ varB 9 (n : Int) ++ B) := Lib.hid (by unfold encB headB; rw [hB, hs.len]; rfl)
  have hBl := body_len 1 l (by have := hs.len; omega)
  rw [hB] at hBl
  obtain ⟨bl, hbl⟩ : ∃ x, B.length = x := ⟨_, rfl⟩
  rw [hbl] at hBl
  have HBL := Lib.hid hbl
  have HPut := Lib.hid (fun W (h : Is.Seg W a n c l) => putPlain_part a n c l W h hn)
  have hBe : plainB l = B := hB
  rw [hBe] at HPut
  have hseg1 : ∀ W, Below w.heap.size w W → Is.Seg W a n c l := fun W hb => iseg_below hs hb rfl
  have HSeg := Lib.hid hseg1
  have HA : Hid (Below w.heap.size w (w.alloc (.cells #[.int .u8 1] 5))) := Lib.hid ((Below.refl _ w).alloc (Nat.le_refl _) _)
  clear hs hvle hB hbl hBe hseg1
  go_enter Try.func40, Try.ntmps40
  go_wp2_with fail
  refine HV.out.mono ?_
  rintro e w1 hnew
  obtain ⟨g1, q1, rfl, hf⟩ := hnew.value
  obtain ⟨hq1, hown1, hg1⟩ := hf.is
  have hq : q1 = 1 + vl := by rw [hq1, List.length_append, HVL.out]; rfl
  subst hq
  have HO1 := Lib.hid (Bs.ownsRow_mono (b' := w.heap.size) hown1 HA.out.size)
  have HB1 : Hid (Below w.heap.size w w1) := Lib.hid (HA.out.trans (below_grown hg1 HA.out.size))
  have HForm := Lib.hid (forms_any w1)
  clear hnew hf hq1 hown1 hg1
  dsimp only
  go_wp2_with fail
  refine HForm.out.mono ?_
  rintro e w2 ⟨rfl, hb2⟩
  have HB2 : Hid (Below w.heap.size w w2) := Lib.hid (HB1.out.trans (below_mono hb2 HB1.out.size))
  have HO2 := Lib.hid (own_grown HO1.out (Bs.grown_of hb2))
  have HP2 := Lib.hid (HPut.out w2 (HSeg.out w2 HB2.out))
  clear hb2
  dsimp only
  unfold formsV
  have hix : ∀ W, (Instr.index 53 (.agg #[.nilFunc, .nilFunc, .func (.func 49) #[] #[], .func (.func 50) #[] #[], .func (.func 51) #[] #[], .func (.func 52) #[] #[], .func (.func 53) #[] #[], .func (.func 54) #[] #[]]) (.int .i64 1)).run Try.prog W = .ok (.agg #[.func (.func 49) #[] #[], .func (.func 50) #[] #[]]) W := fun _ => by kernel_rfl
  have hfx : ∀ W, (Instr.field 52 (.agg #[.func (.func 49) #[] #[], .func (.func 50) #[] #[]]) 0).run Try.prog W = .ok (.func (.func 49) #[] #[]) W := fun _ => by kernel_rfl
  go_wp2_with fail
  refine HP2.out.mono ?_
  rintro e w3 ⟨a3, m3, k3, rfl, hm3, hs3, hb3, _⟩
  have HB3 : Hid (Below w.heap.size w w3) := Lib.hid (HB2.out.trans (below_mono hb3 HB2.out.size))
  have HO3 := Lib.hid (own_grown HO2.out (Bs.grown_of hb3))
  have hW3 : w.heap.size ≤ w3.heap.size := HB3.out.size
  have HW3 := Lib.hid hW3
  rw [HBL.out] at hm3
  subst hm3
  have HS3 := Lib.hid hs3
  clear hb3 hs3 hW3
  dsimp only
  go_wp2_with (at_builtin; refine Bs.wpList_append_seg rfl (.tmp 13) (.tmp 19) 23 rfl w.heap.size 5 i0 Try.underlying23 hi hz0 hz1 hz2 g1 (1 + vl) (1 + vl) _ rfl HO3.out a3 m3 k3 B rfl HS3.out (by omega) HW3.out ?_; intro g4 c4 w4 hown4 hgrow4)
  have HF : Hid (PartX w (encB 1 l) (.returned (.slice (some ⟨g4, 0, none⟩) (1 + vl + m3) c4)) w4) := by
    refine Lib.hid (part_own (n := 1 + vl + m3) ?_ (HB3.out.grown hgrow4 HW3.out (fun j e => by cases e; exact (HO3.out.lt _ rfl).1)))
    rw [HE.out, List.map_append]
    exact hown4
  clear hown4 hgrow4
  go_wp2
  go_ret
  exact HF.out

set_option maxRecDepth 100000 in
set_option maxHeartbeats 2000000 in
theorem encode_2 (a : Option Addr) (n c : Nat) (l : List Int) (w : World) (hs : Is.Seg w a n c l) (_hI : IsI l) (hn : n ≤ 65536) :
    Calls Try.prog 40 #[.slice a n c, .int .i64 2] w (PartX w (encB 2 l)) := by
  obtain ⟨i0, hi, hz0, hz1, hz2⟩ := info_parts info_u8
  have hcap := hs.cap
  have hle := hs.le
  unfold maxLen at hcap
  have HLen := Lib.hid hs.len
  have HV := Lib.hid (Oct.putVar_any _ 1 1 [2] (n : Int) (w.alloc (.cells #[.int .u8 2] 5)) (oseg (Bs.lit_seg w [2] (by decide))) (by omega) (by omega) (by decide))
  have hvl := Oct.varB_le 9 (n : Int)
  obtain ⟨vl, hvle⟩ : ∃ x, (varB 9 (n : Int)).length = x := ⟨_, rfl⟩
  rw [hvle] at hvl
  have HVL := Lib.hid hvle
  obtain ⟨B, hB⟩ : ∃ B, bodyB 2 l = B := ⟨_, rfl⟩
  have HE : Hid (encB 2 l = [2] ++ varB 9 (n : Int) ++ B) := Lib.hid (by unfold encB headB; rw [hB, hs.len]; rfl)
  have hBl := body_len 2 l (by have := hs.len; omega)
  rw [hB] at hBl
  obtain ⟨bl, hbl⟩ : ∃ x, B.length = x := ⟨_, rfl⟩
  rw [hbl] at hBl
  have HBL := Lib.hid hbl
  have HPut := Lib.hid (fun W (h : Is.Seg W a n c l) => putRuns_any a n c l W h hn)
  have hBe : runsB l = B := hB
  rw [hBe] at HPut
  have hseg1 : ∀ W, Below w.heap.size w W → Is.Seg W a n c l := fun W hb => iseg_below hs hb rfl
  have HSeg := Lib.hid hseg1
  have HA : Hid (Below w.heap.size w (w.alloc (.cells #[.int .u8 2] 5))) := Lib.hid ((Below.refl _ w).alloc (Nat.le_refl _) _)
  clear hs hvle hB hbl hBe hseg1
  go_enter Try.func40, Try.ntmps40
  go_wp2_with fail
  refine HV.out.mono ?_
  rintro e w1 hnew
  obtain ⟨g1, q1, rfl, hf⟩ := hnew.value
  obtain ⟨hq1, hown1, hg1⟩ := hf.is
  have hq : q1 = 1 + vl := by rw [hq1, List.length_append, HVL.out]; rfl
  subst hq
  have HO1 := Lib.hid (Bs.ownsRow_mono (b' := w.heap.size) hown1 HA.out.size)
  have HB1 : Hid (Below w.heap.size w w1) := Lib.hid (HA.out.trans (below_grown hg1 HA.out.size))
  have HForm := Lib.hid (forms_any w1)
  clear hnew hf hq1 hown1 hg1
  dsimp only
  go_wp2_with fail
  refine HForm.out.mono ?_
  rintro e w2 ⟨rfl, hb2⟩
  have HB2 : Hid (Below w.heap.size w w2) := Lib.hid (HB1.out.trans (below_mono hb2 HB1.out.size))
  have HO2 := Lib.hid (own_grown HO1.out (Bs.grown_of hb2))
  have HP2 := Lib.hid (HPut.out w2 (HSeg.out w2 HB2.out))
  clear hb2
  dsimp only
  unfold formsV
  have hix : ∀ W, (Instr.index 53 (.agg #[.nilFunc, .nilFunc, .func (.func 49) #[] #[], .func (.func 50) #[] #[], .func (.func 51) #[] #[], .func (.func 52) #[] #[], .func (.func 53) #[] #[], .func (.func 54) #[] #[]]) (.int .i64 2)).run Try.prog W = .ok (.agg #[.func (.func 51) #[] #[], .func (.func 52) #[] #[]]) W := fun _ => by kernel_rfl
  have hfx : ∀ W, (Instr.field 52 (.agg #[.func (.func 51) #[] #[], .func (.func 52) #[] #[]]) 0).run Try.prog W = .ok (.func (.func 51) #[] #[]) W := fun _ => by kernel_rfl
  go_wp2_with fail
  refine HP2.out.mono ?_
  rintro e w3 ⟨a3, m3, k3, rfl, hm3, hs3, hb3, _⟩
  have HB3 : Hid (Below w.heap.size w w3) := Lib.hid (HB2.out.trans (below_mono hb3 HB2.out.size))
  have HO3 := Lib.hid (own_grown HO2.out (Bs.grown_of hb3))
  have hW3 : w.heap.size ≤ w3.heap.size := HB3.out.size
  have HW3 := Lib.hid hW3
  rw [HBL.out] at hm3
  subst hm3
  have HS3 := Lib.hid hs3
  clear hb3 hs3 hW3
  dsimp only
  go_wp2_with (at_builtin; refine Bs.wpList_append_seg rfl (.tmp 13) (.tmp 19) 23 rfl w.heap.size 5 i0 Try.underlying23 hi hz0 hz1 hz2 g1 (1 + vl) (1 + vl) _ rfl HO3.out a3 m3 k3 B rfl HS3.out (by omega) HW3.out ?_; intro g4 c4 w4 hown4 hgrow4)
  have HF : Hid (PartX w (encB 2 l) (.returned (.slice (some ⟨g4, 0, none⟩) (1 + vl + m3) c4)) w4) := by
    refine Lib.hid (part_own (n := 1 + vl + m3) ?_ (HB3.out.grown hgrow4 HW3.out (fun j e => by cases e; exact (HO3.out.lt _ rfl).1)))
    rw [HE.out, List.map_append]
    exact hown4
  clear hown4 hgrow4
  go_wp2
  go_ret
  exact HF.out

set_option maxRecDepth 100000 in
set_option maxHeartbeats 2000000 in
theorem encode_3 (a : Option Addr) (n c : Nat) (l : List Int) (w : World) (hs : Is.Seg w a n c l) (hI : IsI l) (hn : n ≤ 65536) :
    Calls Try.prog 40 #[.slice a n c, .int .i64 3] w (PartX w (encB 3 l)) := by
  obtain ⟨i0, hi, hz0, hz1, hz2⟩ := info_parts info_u8
  have hcap := hs.cap
  have hle := hs.le
  unfold maxLen at hcap
  have HLen := Lib.hid hs.len
  have HV := Lib.hid (Oct.putVar_any _ 1 1 [3] (n : Int) (w.alloc (.cells #[.int .u8 3] 5)) (oseg (Bs.lit_seg w [3] (by decide))) (by omega) (by omega) (by decide))
  have hvl := Oct.varB_le 9 (n : Int)
  obtain ⟨vl, hvle⟩ : ∃ x, (varB 9 (n : Int)).length = x := ⟨_, rfl⟩
  rw [hvle] at hvl
  have HVL := Lib.hid hvle
  obtain ⟨B, hB⟩ : ∃ B, bodyB 3 l = B := ⟨_, rfl⟩
  have HE : Hid (encB 3 l = [3] ++ varB 9 (n : Int) ++ B) := Lib.hid (by unfold encB headB; rw [hB, hs.len]; rfl)
  have hBl := body_len 3 l (by have := hs.len; omega)
  rw [hB] at hBl
  obtain ⟨bl, hbl⟩ : ∃ x, B.length = x := ⟨_, rfl⟩
  rw [hbl] at hBl
  have HBL := Lib.hid hbl
  have HPut := Lib.hid (fun W (h : Is.Seg W a n c l) => putPacked_any a n c l W h hI hn)
  have hBe : packedB l = B := hB
  rw [hBe] at HPut
  have hseg1 : ∀ W, Below w.heap.size w W → Is.Seg W a n c l := fun W hb => iseg_below hs hb rfl
  have HSeg := Lib.hid hseg1
  have HA : Hid (Below w.heap.size w (w.alloc (.cells #[.int .u8 3] 5))) := Lib.hid ((Below.refl _ w).alloc (Nat.le_refl _) _)
  clear hI hs hvle hB hbl hBe hseg1
  go_enter Try.func40, Try.ntmps40
  go_wp2_with fail
  refine HV.out.mono ?_
  rintro e w1 hnew
  obtain ⟨g1, q1, rfl, hf⟩ := hnew.value
  obtain ⟨hq1, hown1, hg1⟩ := hf.is
  have hq : q1 = 1 + vl := by rw [hq1, List.length_append, HVL.out]; rfl
  subst hq
  have HO1 := Lib.hid (Bs.ownsRow_mono (b' := w.heap.size) hown1 HA.out.size)
  have HB1 : Hid (Below w.heap.size w w1) := Lib.hid (HA.out.trans (below_grown hg1 HA.out.size))
  have HForm := Lib.hid (forms_any w1)
  clear hnew hf hq1 hown1 hg1
  dsimp only
  go_wp2_with fail
  refine HForm.out.mono ?_
  rintro e w2 ⟨rfl, hb2⟩
  have HB2 : Hid (Below w.heap.size w w2) := Lib.hid (HB1.out.trans (below_mono hb2 HB1.out.size))
  have HO2 := Lib.hid (own_grown HO1.out (Bs.grown_of hb2))
  have HP2 := Lib.hid (HPut.out w2 (HSeg.out w2 HB2.out))
  clear hb2
  dsimp only
  unfold formsV
  have hix : ∀ W, (Instr.index 53 (.agg #[.nilFunc, .nilFunc, .func (.func 49) #[] #[], .func (.func 50) #[] #[], .func (.func 51) #[] #[], .func (.func 52) #[] #[], .func (.func 53) #[] #[], .func (.func 54) #[] #[]]) (.int .i64 3)).run Try.prog W = .ok (.agg #[.func (.func 53) #[] #[], .func (.func 54) #[] #[]]) W := fun _ => by kernel_rfl
  have hfx : ∀ W, (Instr.field 52 (.agg #[.func (.func 53) #[] #[], .func (.func 54) #[] #[]]) 0).run Try.prog W = .ok (.func (.func 53) #[] #[]) W := fun _ => by kernel_rfl
  go_wp2_with fail
  refine HP2.out.mono ?_
  rintro e w3 ⟨a3, m3, k3, rfl, hm3, hs3, hb3, _⟩
  have HB3 : Hid (Below w.heap.size w w3) := Lib.hid (HB2.out.trans (below_mono hb3 HB2.out.size))
  have HO3 := Lib.hid (own_grown HO2.out (Bs.grown_of hb3))
  have hW3 : w.heap.size ≤ w3.heap.size := HB3.out.size
  have HW3 := Lib.hid hW3
  rw [HBL.out] at hm3
  subst hm3
  have HS3 := Lib.hid hs3
  clear hb3 hs3 hW3
  dsimp only
  go_wp2_with (at_builtin; refine Bs.wpList_append_seg rfl (.tmp 13) (.tmp 19) 23 rfl w.heap.size 5 i0 Try.underlying23 hi hz0 hz1 hz2 g1 (1 + vl) (1 + vl) _ rfl HO3.out a3 m3 k3 B rfl HS3.out (by omega) HW3.out ?_; intro g4 c4 w4 hown4 hgrow4)
  have HF : Hid (PartX w (encB 3 l) (.returned (.slice (some ⟨g4, 0, none⟩) (1 + vl + m3) c4)) w4) := by
    refine Lib.hid (part_own (n := 1 + vl + m3) ?_ (HB3.out.grown hgrow4 HW3.out (fun j e => by cases e; exact (HO3.out.lt _ rfl).1)))
    rw [HE.out, List.map_append]
    exact hown4
  clear hown4 hgrow4
  go_wp2
  go_ret
  exact HF.out

theorem encode_any (k : Nat) (a : Option Addr) (n c : Nat) (l : List Int) (w : World) (hs : Is.Seg w a n c l) (hI : IsI l) (hn : n ≤ 65536) (k1 : 1 ≤ k) (k3 : k ≤ 3) :
    Calls Try.prog 40 #[.slice a n c, .int .i64 (k : Int)] w (PartX w (encB k l)) := by
  match k, k1, k3 with
  | 1, _, _ => exact encode_1 a n c l w hs hI hn
  | 2, _, _ => exact encode_2 a n c l w hs hI hn
  | 3, _, _ => exact encode_3 a n c l w hs hI hn
end Go.Proofs.Yteolpjlpjjjchaa.In
