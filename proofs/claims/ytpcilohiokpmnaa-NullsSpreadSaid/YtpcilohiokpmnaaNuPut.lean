/-
  Put.
-/
import Derived.Test.YtpcilohiokpmnaaNuForm
import Derived.Test.YtpcilohiokpmnaaOctPut
namespace Go.Proofs.Ytpcilohiokpmnaa.Nu
open Go.RowKit
open Dv (Turn nowhere)
open Pk (Turn.then PutF)
open Bs (info_u8)
open Oct (varB)
open In (oseg below_grown)

theorem ownsRow_form {w : World} {base e n : Nat} {v : Value} {xs : List Value} (h : w.ownsRow base e 1 v n xs) (h0 : 0 < n) : ∃ g c, v = .slice (some ⟨g, 0, none⟩) n c := by
  rcases h.2 with ⟨rfl, rfl⟩ | ⟨g, c, cur, rfl, _⟩
  · omega
  · exact ⟨g, c, rfl⟩
theorem wrap_u64 {n : Nat} (h : n < 18446744073709551616) : IntKind.u64.wrap (n : Int) = (n : Int) := by rw [IntKind.wrap_u64]; omega

theorem put_long (a : Option Addr) (n c : Nat) (w : World) (hn : 4096 < n) :
    Calls Try.prog 9 #[.slice a n c] w (PutF w 0 3 []) := by
  have hn' : (4096 : Int) < (n : Int) := by omega
  clear hn
  go_enter Try.func9, Try.ntmps9
  go_wp2
  go_ret2
  exact ⟨none, 0, rfl, Bs.Seg.nil w, Turn.refl _ _⟩

/-- the head of the encoding -/
def headN (l : List Bool) : List Int := varB 9 (l.length : Int) ++ [(formN l : Int)]
theorem enc_head (l : List Bool) : encN l = headN l ++ restB l := by unfold encN headN; rw [List.append_assoc]; rfl
theorem head_len (l : List Bool) : 2 ≤ (headN l).length ∧ (headN l).length ≤ 11 := by
  have h2 := Oct.varB_le 9 (l.length : Int)
  have h3 := Oct.varB_pos 9 (l.length : Int)
  unfold headN
  rw [List.length_append]
  simp only [List.length_singleton]
  omega

set_option maxRecDepth 100000 in
set_option maxHeartbeats 2000000 in
theorem put_short (a : Option Addr) (n c : Nat) (l : List Bool) (w : World) (hs : Bl.Seg w a n c l) (hn : n ≤ 4096) (h2 : ¬ formN l = 2) :
    Calls Try.prog 9 #[.slice a n c] w (PutF w (encN l).length 0 (encN l)) := by
  obtain ⟨i0, hi, hz0, hz1, hz2⟩ := info_parts info_u8
  have HF := Lib.hid (form_any a n c l w hs)
  have hlen := hs.len
  have hfl := formN_le l
  have HV := Lib.hid (fun W => Oct.putVar_any none 0 0 [] (n : Int) W (oseg (Bs.Seg.nil W)) (by omega) (by omega) (by decide))
  have he : encN l = ([] ++ varB 9 (n : Int)) ++ [(formN l : Int)] := by
    rw [enc_head]; unfold headN restB; rw [if_neg h2, hlen, List.append_nil]; rfl
  obtain ⟨f, hf⟩ : ∃ f, formN l = f := ⟨_, rfl⟩
  rw [hf] at HF hfl h2 he
  have hwu := wrap_u64 (n := n) (by omega)
  have hw8 : IntKind.u8.wrap (f : Int) = (f : Int) := by rw [IntKind.wrap_u8]; omega
  have hf2 : ((f : Int) == 2) = false := beq_eq_false_iff_ne.2 (by omega)
  have hn' : ¬ (4096 : Int) < (n : Int) := by omega
  have HE := Lib.hid he
  clear hs hlen he hf h2 hfl
  go_enter Try.func9, Try.ntmps9
  go_wp2_with fail
  refine HF.out.mono ?_
  rintro e w1 ⟨rfl, ht⟩
  have HB1 := Lib.hid (below_turn ht)
  have HV1 := Lib.hid (HV.out w1)
  clear ht
  dsimp only
  go_wp2_with fail
  refine HV1.out.mono ?_
  rintro e w2 hnew
  obtain ⟨g2, p2, rfl, hf⟩ := hnew.value
  obtain ⟨hp2, hown2, hg2⟩ := hf.is
  have hvl := Oct.varB_le 9 (n : Int)
  have hp2b : p2 ≤ 10 := by rw [hp2]; simpa using hvl
  have HB2 : Hid (Below w.heap.size w w2) := Lib.hid (HB1.out.trans (below_grown hg2 HB1.out.size))
  have HO2 : Hid (w2.ownsRow w.heap.size 5 1 (.slice (some ⟨g2, 0, none⟩) p2 p2) p2 (([] ++ varB 9 (n : Int)).map (Value.int .u8))) := Lib.hid (Oct.ownsRow_mono hown2 HB1.out.size)
  have HP2 := Lib.hid hp2
  have HS2 := Lib.hid HB2.out.size
  clear hnew hf hown2 hg2 hp2 hvl
  dsimp only
  go_wp2_with (first
    | (at_builtin; refine wpList_append_own _ rfl (.tmp 18) (.tmp 21) 23 rfl w.heap.size 5 i0 (.int .u8 0) 1 1 Try.underlying23 hi hz0 hz1 hz2 rfl (by decide) _ p2 _ rfl (HO2.out.alloc _) ⟨w2.heap.size, 0, none⟩ 1 1 [.int .u8 (f : Int)] rfl rfl (by intro t u ht; match t, ht with | 0, ht => simp at ht; subst ht; exact Pk.cell_new w2 _ _) (by intro u hu; simp at hu; subst hu; rfl) (by unfold maxLen; omega) (by omega) (by have := HS2.out; simp; omega) ?_; intro v8 w8 hown8 hg8 hnil8; obtain ⟨g8, c8, rfl⟩ := ownsRow_form hown8 (by omega))
    | fail)
  have HFin : Hid (PutF w (encN l).length 0 (encN l) (.returned (.tuple #[.slice (some ⟨g8, 0, none⟩) (p2 + 1) c8, .int .i64 0])) w8) := by
    have hl : (encN l).length = p2 + 1 := by rw [HE.out, List.length_append, ← HP2.out]; rfl
    refine Lib.hid ⟨_, c8, by rw [hl], ?_, turn_below ((HB2.out.alloc HB2.out.size _).grown hg8 (by have := HS2.out; simp; omega) (fun j e => by
      have := (HO2.out.alloc (.cells #[.int .u8 (f : Int)] 5)).lt j e
      exact this.1))⟩
    rw [hl, HE.out]
    refine Bs.Seg.own (base := w.heap.size) (e := 5) ?_
    rw [List.map_append]
    exact hown8
  clear hown8 hg8
  go_ret2
  exact HFin.out

set_option maxRecDepth 100000 in
set_option maxHeartbeats 2000000 in
theorem put_some (a : Option Addr) (n c : Nat) (l : List Bool) (w : World) (hs : Bl.Seg w a n c l) (hn : n ≤ 4096) (h2 : formN l = 2) :
    Calls Try.prog 9 #[.slice a n c] w (PutF w (encN l).length 0 (encN l)) := by
  obtain ⟨i0, hi, hz0, hz1, hz2⟩ := info_parts info_u8
  have HF := Lib.hid (form_any a n c l w hs)
  have hlen := hs.len
  have HV := Lib.hid (fun W => Oct.putVar_any none 0 0 [] (n : Int) W (oseg (Bs.Seg.nil W)) (by omega) (by omega) (by decide))
  have he : encN l = (([] ++ varB 9 (n : Int)) ++ [2]) ++ bitsB l := by
    rw [enc_head]; unfold headN restB; rw [if_pos h2, hlen, h2]; rfl
  rw [h2] at HF
  have hwu := wrap_u64 (n := n) (by omega)
  have hn' : ¬ (4096 : Int) < (n : Int) := by omega
  have HE := Lib.hid he
  have hl6 : l.length ≤ 65536 := by omega
  have HPB : Hid (Pk.putR (numsL l) 1 = (0, bitsB l)) := Lib.hid (put_bits hl6)
  obtain ⟨pl, hpl⟩ : ∃ p, (bitsB l).length = p := ⟨_, rfl⟩
  have hplb : pl ≤ 8192 := by rw [← hpl, bits_len hl6]; exact sizeN_le hl6
  have HNum := Lib.hid (fun W h => numbers_any a n c l W h (by omega))
  have HPut := Lib.hid (fun a' c' W h => Pk.put_form (l := numsL l) (v := 1) HPB.out hpl (nums_isU l) a' n c' W h)
  have HS := Lib.hid hs
  have HPL := Lib.hid hpl
  clear hs hlen he h2 hpl hl6
  go_enter Try.func9, Try.ntmps9
  go_wp2_with fail
  refine HF.out.mono ?_
  rintro e w1 ⟨rfl, ht⟩
  have HB1 := Lib.hid (below_turn ht)
  have HV1 := Lib.hid (HV.out w1)
  clear ht
  dsimp only
  go_wp2_with fail
  refine HV1.out.mono ?_
  rintro e w2 hnew
  obtain ⟨g2, p2, rfl, hf⟩ := hnew.value
  obtain ⟨hp2, hown2, hg2⟩ := hf.is
  have hvl := Oct.varB_le 9 (n : Int)
  have hp2b : p2 ≤ 10 := by rw [hp2]; simpa using hvl
  have HB2 : Hid (Below w.heap.size w w2) := Lib.hid (HB1.out.trans (below_grown hg2 HB1.out.size))
  have HO2 : Hid (w2.ownsRow w.heap.size 5 1 (.slice (some ⟨g2, 0, none⟩) p2 p2) p2 (([] ++ varB 9 (n : Int)).map (Value.int .u8))) := Lib.hid (Oct.ownsRow_mono hown2 HB1.out.size)
  have HP2 := Lib.hid hp2
  have HS2 := Lib.hid HB2.out.size
  clear hnew hf hown2 hg2 hp2 hvl
  dsimp only
  go_wp2_with (first
    | (at_builtin; refine wpList_append_own _ rfl (.tmp 18) (.tmp 21) 23 rfl w.heap.size 5 i0 (.int .u8 0) 1 1 Try.underlying23 hi hz0 hz1 hz2 rfl (by decide) _ p2 _ rfl (HO2.out.alloc _) ⟨w2.heap.size, 0, none⟩ 1 1 [.int .u8 2] rfl rfl (by intro t u ht; match t, ht with | 0, ht => simp at ht; subst ht; exact Pk.cell_new w2 _ _) (by intro u hu; simp at hu; subst hu; rfl) (by unfold maxLen; omega) (by omega) (by have := HS2.out; simp; omega) ?_; intro v8 w8 hown8 hg8 hnil8; obtain ⟨g8, c8, rfl⟩ := ownsRow_form hown8 (by omega); have HO8 := Lib.hid hown8; have HB8 : Hid (Below w.heap.size w w8) := Lib.hid ((HB2.out.alloc HB2.out.size _).grown hg8 (by have := HS2.out; simp; omega) (fun j e => ((HO2.out.alloc (.cells #[.int .u8 2] 5)).lt j e).1)); have HNum8 := Lib.hid (HNum.out w8 (bseg_below HS.out HB8.out rfl)); clear hown8 hg8 hnil8)
    | fail)
  refine HNum8.out.mono ?_
  rintro e w3 ⟨rfl, hsN, htN⟩
  have HO3 : Hid (w3.ownsRow w.heap.size 5 1 (.slice (some ⟨g8, 0, none⟩) (p2 + 1) c8) (p2 + 1) (([] ++ varB 9 (n : Int)).map (Value.int .u8) ++ [.int .u8 2])) := Lib.hid (Pk.own_turn_any HO8.out htN id)
  have HB3 : Hid (Below w.heap.size w w3) := Lib.hid (below_turn (Turn.then (turn_below HB8.out) htN))
  have HPut3 := Lib.hid (HPut.out _ _ w3 hsN)
  clear hsN htN HNum8
  dsimp only
  go_wp2_with fail
  refine HPut3.out.mono ?_
  rintro e w4 ⟨a4, k4, rfl, hs4, ht4⟩
  have HO4 : Hid (w4.ownsRow w.heap.size 5 1 (.slice (some ⟨g8, 0, none⟩) (p2 + 1) c8) (p2 + 1) (([] ++ varB 9 (n : Int)).map (Value.int .u8) ++ [.int .u8 2])) := Lib.hid (Pk.own_turn_any HO3.out ht4 id)
  have HB4 : Hid (Below w.heap.size w w4) := Lib.hid (below_turn (Turn.then (turn_below HB3.out) ht4))
  have HS4 := Lib.hid hs4
  have HZ4 := Lib.hid HB4.out.size
  clear hs4 ht4 HPut3
  dsimp only
  go_wp2_with (first
    | (at_builtin; refine Bs.wpList_append_seg rfl (.tmp 31) (.tmp 32) 23 rfl w.heap.size 5 i0 Try.underlying23 hi hz0 hz1 hz2 g8 (p2 + 1) c8 _ rfl HO4.out a4 pl k4 (bitsB l) rfl HS4.out (by omega) HZ4.out ?_; intro g9 c9 w9 hown9 hg9)
    | fail)
  have HFin : Hid (PutF w (encN l).length 0 (encN l) (.returned (.tuple #[.slice (some ⟨g9, 0, none⟩) (p2 + 1 + pl) c9, .int .i64 0])) w9) := by
    have hl : (encN l).length = p2 + 1 + pl := by rw [HE.out, List.length_append, List.length_append, ← HP2.out, HPL.out]; rfl
    refine Lib.hid ⟨_, c9, by rw [hl], ?_, turn_below (HB4.out.grown hg9 HZ4.out (fun j e => (HO4.out.lt j e).1))⟩
    rw [hl, HE.out]
    refine Bs.Seg.own (base := w.heap.size) (e := 5) ?_
    rw [List.map_append, List.map_append]
    exact hown9
  clear hown9 hg9
  go_ret2
  exact HFin.out

/-- Put, in the laws' form. -/
theorem put_form {l : List Bool} {E : Int} {B : List Int} {m : Nat} (hR : putN l = (E, B)) (hm : B.length = m) (a : Option Addr) (n c : Nat) (W : World) (hs : Bl.Seg W a n c l) :
    Calls Try.prog 9 #[.slice a n c] W (PutF W m E B) := by
  have hl := hs.len
  subst hm
  unfold putN at hR
  by_cases h : 4096 < l.length
  · rw [if_pos h] at hR
    cases hR
    exact put_long a n c W (by omega)
  · rw [if_neg h] at hR
    cases hR
    by_cases h2 : formN l = 2
    · exact put_some a n c l W hs (by omega) h2
    · exact put_short a n c l W hs (by omega) h2
end Go.Proofs.Ytpcilohiokpmnaa.Nu
