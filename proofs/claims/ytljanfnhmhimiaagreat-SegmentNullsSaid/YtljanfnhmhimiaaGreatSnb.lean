/-
  What the program's and the document's functions do, in memory and as plain functions: NuRefA.
-/

import Derived.Test.YtljanfnhmhimiaaGreatSnM
import Derived.Test.YtljanfnhmhimiaaGreatSnN
import Derived.Test.YtljanfnhmhimiaaGreatSnQ
import Derived.Test.YtljanfnhmhimiaaGreatSnV
import Derived.Test.YtljanfnhmhimiaaGreatSnZ

namespace Go.Proofs.YtljanfnhmhimiaaGreat.Nu
open Go.RowKit
open Dv (Turn nowhere)
open Pk (Turn.then)

theorem cnt_take (l : List Bool) (k : Nat) (hk : k < l.length) : cnt (l.take (k + 1)) = cnt (l.take k) + (if l.getD k false = true then 1 else 0) := by
  rw [List.take_succ_eq_append_getElem hk, cnt_app, List.getD_eq_getElem?_getD, List.getElem?_eq_getElem hk]
  simp [cnt]

set_option maxRecDepth 100000 in
set_option maxHeartbeats 1000000 in
theorem rcount_any (a : Option Addr) (n c : Nat) (l : List Bool) (w : World) (hs : Bl.Seg w a n c l) :
    Calls Tryz.prog 45 #[.slice a n c] w fun e w' => e = .returned (.int .i64 (cnt l : Int)) ∧ w = w' := by
  have hcap := hs.cap
  have hle := hs.le
  unfold maxLen at hcap
  have HL := Lib.hid hs.len
  have HS := Lib.hid hs
  clear hs
  go_enter Tryz.func45, Tryz.ntmps45
  go_wp2
  go_loopw [3, 4] (fun sn si wr => ∃ k z : Nat, k ≤ n ∧ si = .int .i64 k ∧ sn = .int .i64 z ∧ w = wr ∧ Hid (cnt (l.take k) = z) ∧ z ≤ k) (fun _ si _ => n - (intOf si).toNat)
  case atStart => exact ⟨0, 0, Nat.zero_le _, rfl, rfl, rfl, Lib.hid rfl, Nat.le_refl _⟩
  case round =>
    obtain ⟨k, z, hk, rfl, rfl, rfl, HZ, hz⟩ := hrel
    by_cases hlt : k < n
    · obtain ⟨g, o, rfl, hc⟩ := HS.out.addr (by omega)
      have hck := hc k hlt
      have h1 := cnt_take l k (by rw [HL.out]; exact hlt)
      rw [HZ.out] at h1
      obtain ⟨b, hb⟩ : ∃ b, l.getD k false = b := ⟨_, rfl⟩
      rw [hb] at hck h1
      clear hc hb
      cases b with
      | true =>
        have H1 : Hid (cnt (l.take (k + 1)) = z + 1) := Lib.hid (by simpa using h1)
        clear h1
        go_wp2
        go_roundw
        case rel => exact ⟨k + 1, z + 1, by omega, by go_num, by go_num, trivial, H1, by omega⟩
        case measure => simp [intOf]; omega
      | false =>
        have H1 : Hid (cnt (l.take (k + 1)) = z) := Lib.hid (by simpa using h1)
        clear h1
        go_wp2
        go_roundw
        case rel => exact ⟨k + 1, z, by omega, by go_num, rfl, trivial, H1, by omega⟩
        case measure => simp [intOf]; omega
    · obtain rfl : k = n := by omega
      have HF : Hid (cnt l = z) := Lib.hid (by have := HZ.out; rwa [List.take_of_length_le (Nat.le_of_eq HL.out)] at this)
      go_wp2
      go_ret
      exact ⟨Bs.ret_int (by rw [HF.out]), rfl⟩

set_option maxRecDepth 100000 in
set_option maxHeartbeats 1000000 in
theorem rnumbers_any (a : Option Addr) (n c : Nat) (l : List Bool) (w : World) (hs : Bl.Seg w a n c l) (hn : n ≤ 65536) :
    Calls Tryz.prog 47 #[.slice a n c] w fun e w' => e = .returned (.slice (some ⟨w.heap.size, 0, none⟩) n n) ∧ Us.Seg w' (some ⟨w.heap.size, 0, none⟩) n n (numsL l) ∧ Turn w w' nowhere := by
  have hmk := Pk.make_nums n (by omega)
  have HL := Lib.hid hs.len
  have HO0 : Hid ((w.alloc (.cells (Pk.roomU n) 85)).ownsRow w.heap.size 85 1 (.slice (some ⟨w.heap.size, 0, none⟩) n n) n ((fillN l 0).map (Value.int .u64))) := Lib.hid (by
    rw [fillN_zero, HL.out]
    exact Pk.made_own w n (by omega))
  have HB0 : Hid (Below w.heap.size w (w.alloc (.cells (Pk.roomU n) 85))) := Lib.hid ((Below.refl _ w).alloc (Nat.le_refl _) _)
  have HS := Lib.hid hs
  clear hs
  go_enter Tryz.func47, Tryz.ntmps47
  go_wp2
  go_loopw [4] (fun si wr => ∃ k : Nat, k ≤ n ∧ si = .int .i64 k ∧ Hid (wr.ownsRow w.heap.size 85 1 (.slice (some ⟨w.heap.size, 0, none⟩) n n) n ((fillN l k).map (Value.int .u64))) ∧ Hid (Below w.heap.size w wr)) (fun si _ => n - (intOf si).toNat)
  case atStart => exact ⟨0, Nat.zero_le _, rfl, HO0, HB0⟩
  case round =>
    obtain ⟨k, hk, rfl, HO, HB⟩ := hrel
    by_cases hlt : k < n
    · obtain ⟨g, o, rfl, hc⟩ := (bseg_below HS.out HB.out rfl).addr (by omega)
      have hck := hc k hlt
      obtain ⟨f1, f2, f3⟩ := fillN_succ l k (by rw [HL.out]; exact hlt)
      obtain ⟨b, hb⟩ : ∃ b, l.getD k false = b := ⟨_, rfl⟩
      rw [hb] at hck f1 f2
      clear hc hb
      cases b with
      | false =>
        have HO2 : Hid (wr.ownsRow w.heap.size 85 1 (.slice (some ⟨w.heap.size, 0, none⟩) n n) n ((fillN l (k + 1)).map (Value.int .u64))) := Lib.hid (by rw [f1 rfl]; exact HO.out)
        clear f1 f2 f3
        go_wp2
        go_roundw
        case rel => exact ⟨k + 1, by omega, by go_num, HO2, HB⟩
        case measure => simp [intOf]; omega
      | true =>
        have hcell := HO.out.cellAt k (by omega)
        have hkl : k < (fillN l k).length := by rw [fillN_len l k (by rw [HL.out]; exact hk), HL.out]; exact hlt
        rw [List.getElem?_map, List.getElem?_eq_getElem hkl] at hcell
        simp only [Option.map_some] at hcell
        have hfree := HO.out.frozenAt k
        have HO2 : Hid ((wr.setCell ⟨w.heap.size, k, none⟩ (.int .u64 1)).ownsRow w.heap.size 85 1 (.slice (some ⟨w.heap.size, 0, none⟩) n n) n ((fillN l (k + 1)).map (Value.int .u64))) := Lib.hid (by
          rw [f2 rfl, List.map_set]
          exact (HO.out.stored k (.int .u64 1)).1)
        have HB2 : Hid (Below w.heap.size w (wr.setCell ⟨w.heap.size, k, none⟩ (.int .u64 1))) := Lib.hid (HB.out.setCell (p := ⟨w.heap.size, k, none⟩) (Nat.le_refl _) _)
        generalize (fillN l k)[k]'_ = z at hcell
        clear f1 f2 f3
        go_wp2
        go_roundw
        case rel => exact ⟨k + 1, by omega, by go_num, HO2, HB2⟩
        case measure => simp [intOf]; omega
    · obtain rfl : k = n := by omega
      have HF : Hid (Us.Seg wr (some ⟨w.heap.size, 0, none⟩) k k (numsL l)) := Lib.hid (by
        have h := HO.out
        have e : fillN l k = numsL l := by have := fillN_all l; rwa [HL.out] at this
        rw [e] at h
        exact Us.Seg.own h)
      go_wp2
      go_ret
      exact ⟨rfl, HF.out, turn_below HB.out⟩

end Go.Proofs.YtljanfnhmhimiaaGreat.Nu
namespace Go.Proofs.YtljanfnhmhimiaaGreat.Nu
open Go.RowKit
open Dv (Turn nowhere)
open Pk (Turn.then)

end Go.Proofs.YtljanfnhmhimiaaGreat.Nu
namespace Go.Proofs.YtljanfnhmhimiaaGreat.Nu
open Go.RowKit
open Dv (Turn nowhere)
open Pk (Turn.then PutF putR IsU)
open Bs (info_u8)
open Oct (varB)

theorem rpack_form {l : List Int} {v E : Int} {B : List Int} {m : Nat} (hR : putR l v = (E, B)) (hm : B.length = m) (hu : IsU l) (a : Option Addr) (n c : Nat) (W : World) (hs : Us.Seg W a n c l) :
    Calls Tryz.prog 46 #[.slice a n c, .int .i64 v] W (Pk.PutO W m E B) :=
  (Pk.rput_any a n c l v W hs hu).mono fun e w' h => by
    rw [hR] at h
    obtain ⟨a', k, he, h1, h2, h3⟩ := h
    subst hm
    exact ⟨a', k, he, h1, Pk.turn_of h2, h3⟩
/-- bytes of another row stay where a row of the call's own grows -/
theorem seg_past {w w8 : World} {a : Option Addr} {n c g : Nat} {l : List Int} {tmp : Obj} (h : Bs.Seg w a n c l) (hg : (w.alloc tmp).grownBy w8 (some g)) (hne : ∀ ad, a = some ad → g ≠ ad.block) : Bs.Seg w8 a n c l :=
  (h.grown (World.grownBy_alloc w tmp none)).kept hg (fun ad had e => hne ad had (Option.some.inj e))

theorem rput_long (a : Option Addr) (n c : Nat) (w : World) (hn : 4096 < n) :
    Calls Tryz.prog 24 #[.slice a n c] w (PutF w 0 3 []) := by
  have hn' : (4096 : Int) < (n : Int) := by omega
  clear hn
  go_enter Tryz.func24, Tryz.ntmps24
  go_wp2
  go_ret2
  exact ⟨none, 0, rfl, Bs.Seg.nil w, Turn.refl _ _⟩

/-- one byte more, at the end -/
theorem put_end {w w2 w8 : World} {l : List Bool} {p g c : Nat} {f : Int} {tmp : Obj} {V : Value} {xs : List Int} (hb : Below w.heap.size w w2) (ho : w2.ownsRow w.heap.size 5 1 V p (xs.map (Value.int .u8))) (hp : xs.length = p) (he : encN l = xs ++ [f])
    (hown8 : w8.ownsRow w.heap.size 5 1 (.slice (some ⟨g, 0, none⟩) (p + 1) c) (p + 1) (xs.map (Value.int .u8) ++ [Value.int .u8 f])) (hg8 : (w2.alloc tmp).grownBy w8 V.ownBlock) :
    PutF w (encN l).length 0 (encN l) (.returned (.tuple #[.slice (some ⟨g, 0, none⟩) (p + 1) c, .int .i64 0])) w8 := by
  have hl : (encN l).length = p + 1 := by rw [he, List.length_append, hp]; rfl
  refine ⟨_, c, by rw [hl], ?_, turn_below ((hb.alloc hb.size _).grown hg8 (by have := hb.size; simp; omega) (fun j e => ((ho.alloc tmp).lt j e).1))⟩
  rw [hl, he]
  refine Bs.Seg.own (base := w.heap.size) (e := 5) ?_
  rw [List.map_append]
  exact hown8

set_option maxRecDepth 100000 in
set_option maxHeartbeats 2000000 in
theorem rput_none (a : Option Addr) (n c : Nat) (l : List Bool) (w : World) (hs : Bl.Seg w a n c l) (hn : n ≤ 4096) (h0 : cnt l = 0) :
    Calls Tryz.prog 24 #[.slice a n c] w (PutF w (encN l).length 0 (encN l)) := by
  obtain ⟨i0, hi, hz0, hz1, hz2⟩ := info_parts info_u8
  have hlen := hs.len
  have HC := Lib.hid (fun W hs => rcount_any a n c l W hs)
  rw [h0] at HC
  have HV := Lib.hid (In.rputVar_any w.heap.size (.slice none 0 0) 0 [] (n : Int) w (World.ownsRow_nil _ _ _ _) (Nat.le_refl _) (by omega) (by omega) (by decide))
  have hfm : formN l = 0 := by unfold formN; rw [if_pos h0]
  have he : encN l = ([] ++ varB 9 (n : Int)) ++ [0] := by
    rw [enc_head]; unfold headN restB; rw [hfm, if_neg (by decide), hlen, List.append_nil]; rfl
  have HE := Lib.hid he
  have HS := Lib.hid hs
  have hvl := Oct.varB_le 9 (n : Int)
  obtain ⟨p, hp⟩ : ∃ p, 0 + (varB 9 (n : Int)).length = p := ⟨_, rfl⟩
  rw [hp] at HV
  have HP : Hid ((([] ++ varB 9 (n : Int)) : List Int).length = p) := Lib.hid (by rw [← hp]; simp)
  have hpb : p ≤ 10 := by omega
  have hwu := wrap_u64 (n := n) (by omega)
  have hn' : ¬ (4096 : Int) < (n : Int) := by omega
  clear hs hlen he hfm h0 hvl hp
  go_enter Tryz.func24, Tryz.ntmps24
  go_wp2_with fail
  refine HV.out.mono ?_
  rintro e w2 ⟨g2, c2, rfl, hown2, hb2⟩
  have HB2 := Lib.hid hb2
  have HO2 := Lib.hid hown2
  have HC2 := Lib.hid (HC.out w2 (bseg_below HS.out hb2 rfl))
  have HS2 := Lib.hid hb2.size
  clear hown2 hb2
  dsimp only
  go_wp2_with fail
  refine HC2.out.mono ?_
  rintro e w' ⟨rfl, rfl⟩
  dsimp only
  go_wp2_with (first
    | (at_builtin; refine wpList_append_own _ rfl (.tmp 18) (.tmp 19) 45 rfl w.heap.size 5 i0 (.int .u8 0) 1 1 Tryz.underlying45 hi hz0 hz1 hz2 rfl (by decide) _ p _ rfl (HO2.out.alloc _) ⟨w2.heap.size, 0, none⟩ 1 1 [.int .u8 0] rfl rfl (by intro t u ht; match t, ht with | 0, ht => simp at ht; subst ht; exact Pk.cell_new w2 _ _) (by intro u hu; simp at hu; subst hu; rfl) (by unfold maxLen; omega) (by omega) (by have := HS2.out; simp; omega) ?_; intro v8 w8 hown8 hg8 hnil8; obtain ⟨g8, c8, rfl⟩ := ownsRow_form hown8 (by omega))
    | fail)
  have HFin := Lib.hid (put_end HB2.out HO2.out HP.out HE.out hown8 hg8)
  clear hown8 hg8
  go_ret2
  exact HFin.out

set_option maxRecDepth 100000 in
set_option maxHeartbeats 2000000 in
theorem rput_all (a : Option Addr) (n c : Nat) (l : List Bool) (w : World) (hs : Bl.Seg w a n c l) (hn : n ≤ 4096) (h0 : ¬ cnt l = 0) (h1 : cnt l = l.length) :
    Calls Tryz.prog 24 #[.slice a n c] w (PutF w (encN l).length 0 (encN l)) := by
  obtain ⟨i0, hi, hz0, hz1, hz2⟩ := info_parts info_u8
  have hlen := hs.len
  have HC := Lib.hid (fun W hs => rcount_any a n c l W hs)
  have hfm : formN l = 1 := by unfold formN; rw [if_neg h0, if_pos h1]
  rw [h1, hlen] at HC
  rw [h1, hlen] at h0
  have HV := Lib.hid (In.rputVar_any w.heap.size (.slice none 0 0) 0 [] (n : Int) w (World.ownsRow_nil _ _ _ _) (Nat.le_refl _) (by omega) (by omega) (by decide))
  have he : encN l = ([] ++ varB 9 (n : Int)) ++ [1] := by
    rw [enc_head]; unfold headN restB; rw [hfm, if_neg (by decide), hlen, List.append_nil]; rfl
  have HE := Lib.hid he
  have HS := Lib.hid hs
  have hvl := Oct.varB_le 9 (n : Int)
  obtain ⟨p, hp⟩ : ∃ p, 0 + (varB 9 (n : Int)).length = p := ⟨_, rfl⟩
  rw [hp] at HV
  have HP : Hid ((([] ++ varB 9 (n : Int)) : List Int).length = p) := Lib.hid (by rw [← hp]; simp)
  have hpb : p ≤ 10 := by omega
  have hwu := wrap_u64 (n := n) (by omega)
  have hn' : ¬ (4096 : Int) < (n : Int) := by omega
  have e0 : ((n : Int) == 0) = false := beq_eq_false_iff_ne.2 (by omega)
  have e1 : ((n : Int) == (n : Int)) = true := beq_self_eq_true _
  clear hs hlen he hfm h0 h1 hvl hp
  go_enter Tryz.func24, Tryz.ntmps24
  go_wp2_with fail
  refine HV.out.mono ?_
  rintro e w2 ⟨g2, c2, rfl, hown2, hb2⟩
  have HB2 := Lib.hid hb2
  have HO2 := Lib.hid hown2
  have HC2 := Lib.hid (HC.out w2 (bseg_below HS.out hb2 rfl))
  have HS2 := Lib.hid hb2.size
  clear hown2 hb2
  dsimp only
  go_wp2_with fail
  refine HC2.out.mono ?_
  rintro e w' ⟨rfl, rfl⟩
  dsimp only
  go_wp2_with (first
    | (at_builtin; refine wpList_append_own _ rfl (.tmp 25) (.tmp 26) 45 rfl w.heap.size 5 i0 (.int .u8 0) 1 1 Tryz.underlying45 hi hz0 hz1 hz2 rfl (by decide) _ p _ rfl (HO2.out.alloc _) ⟨w2.heap.size, 0, none⟩ 1 1 [.int .u8 1] rfl rfl (by intro t u ht; match t, ht with | 0, ht => simp at ht; subst ht; exact Pk.cell_new w2 _ _) (by intro u hu; simp at hu; subst hu; rfl) (by unfold maxLen; omega) (by omega) (by have := HS2.out; simp; omega) ?_; intro v8 w8 hown8 hg8 hnil8; obtain ⟨g8, c8, rfl⟩ := ownsRow_form hown8 (by omega))
    | fail)
  have HFin := Lib.hid (put_end HB2.out HO2.out HP.out HE.out hown8 hg8)
  clear hown8 hg8
  go_ret2
  exact HFin.out

set_option maxRecDepth 100000 in
set_option maxHeartbeats 2000000 in
theorem rput_some (a : Option Addr) (n c : Nat) (l : List Bool) (w : World) (hs : Bl.Seg w a n c l) (hn : n ≤ 4096) (h0 : ¬ cnt l = 0) (h1 : ¬ cnt l = l.length) :
    Calls Tryz.prog 24 #[.slice a n c] w (PutF w (encN l).length 0 (encN l)) := by
  obtain ⟨i0, hi, hz0, hz1, hz2⟩ := info_parts info_u8
  have hlen := hs.len
  have HC := Lib.hid (fun W hs => rcount_any a n c l W hs)
  have h2 : formN l = 2 := by unfold formN; rw [if_neg h0, if_neg h1]
  rw [hlen] at h1
  have HV := Lib.hid (In.rputVar_any w.heap.size (.slice none 0 0) 0 [] (n : Int) w (World.ownsRow_nil _ _ _ _) (Nat.le_refl _) (by omega) (by omega) (by decide))
  have he : encN l = (([] ++ varB 9 (n : Int)) ++ [2]) ++ bitsB l := by
    rw [enc_head]; unfold headN restB; rw [if_pos h2, hlen, h2]; rfl
  have HE := Lib.hid he
  have HS := Lib.hid hs
  have hvl := Oct.varB_le 9 (n : Int)
  obtain ⟨p, hp⟩ : ∃ p, 0 + (varB 9 (n : Int)).length = p := ⟨_, rfl⟩
  rw [hp] at HV
  have HP : Hid ((([] ++ varB 9 (n : Int)) : List Int).length = p) := Lib.hid (by rw [← hp]; simp)
  have hpb : p ≤ 10 := by omega
  have hwu := wrap_u64 (n := n) (by omega)
  have hn' : ¬ (4096 : Int) < (n : Int) := by omega
  obtain ⟨z, hz⟩ : ∃ z, cnt l = z := ⟨_, rfl⟩
  rw [hz] at HC h0 h1
  have e0 : ((z : Int) == 0) = false := beq_eq_false_iff_ne.2 (by omega)
  have e1 : ((z : Int) == (n : Int)) = false := beq_eq_false_iff_ne.2 (by omega)
  have hl6 : l.length ≤ 65536 := by omega
  have HPB : Hid (Pk.putR (numsL l) 1 = (0, bitsB l)) := Lib.hid (put_bits hl6)
  obtain ⟨pl, hpl⟩ : ∃ p, (bitsB l).length = p := ⟨_, rfl⟩
  have hplb : pl ≤ 8192 := by rw [← hpl, bits_len hl6]; exact sizeN_le hl6
  have HNum := Lib.hid (fun W h => rnumbers_any a n c l W h (by omega))
  have HPut := Lib.hid (fun a' c' W h => rpack_form (l := numsL l) (v := 1) HPB.out hpl (nums_isU l) a' n c' W h)
  have HPL := Lib.hid hpl
  clear hs hlen he h2 h0 h1 hvl hp hz hpl hl6
  go_enter Tryz.func24, Tryz.ntmps24
  go_wp2_with fail
  refine HV.out.mono ?_
  rintro e w2 ⟨g2, c2, rfl, hown2, hb2⟩
  have HB2 := Lib.hid hb2
  have HO2 := Lib.hid hown2
  have HC2 := Lib.hid (HC.out w2 (bseg_below HS.out hb2 rfl))
  have HN2 := Lib.hid (HNum.out w2 (bseg_below HS.out hb2 rfl))
  clear hown2 hb2
  dsimp only
  go_wp2_with fail
  refine HC2.out.mono ?_
  rintro e w' ⟨rfl, rfl⟩
  dsimp only
  go_wp2_with fail
  refine HN2.out.mono ?_
  rintro e w3 ⟨rfl, hsN, htN⟩
  have HO3 : Hid (w3.ownsRow w.heap.size 5 1 (.slice (some ⟨g2, 0, none⟩) p c2) p (([] ++ varB 9 (n : Int)).map (Value.int .u8))) := Lib.hid (Pk.own_turn_any HO2.out htN id)
  have HB3 : Hid (Below w.heap.size w w3) := Lib.hid (below_turn (Turn.then (turn_below HB2.out) htN))
  have HPut3 := Lib.hid (HPut.out _ _ w3 hsN)
  clear hsN htN HN2
  dsimp only
  go_wp2_with fail
  refine HPut3.out.mono ?_
  rintro e w4 ⟨a4, k4, rfl, hs4, ht4, hnew⟩
  obtain ⟨g4, ha4, hown4⟩ := hnew rfl
  have HNe : Hid (∀ ad, a4 = some ad → g2 ≠ ad.block) := Lib.hid (fun ad had e => by
    rw [ha4] at had
    cases had
    have h1 := (hown4.lt _ rfl).1
    have h2 := (HO3.out.lt _ rfl).2
    dsimp only at h1 h2 e
    omega)
  have HO4 : Hid (w4.ownsRow w.heap.size 5 1 (.slice (some ⟨g2, 0, none⟩) p c2) p (([] ++ varB 9 (n : Int)).map (Value.int .u8))) := Lib.hid (Pk.own_turn_any HO3.out ht4 id)
  have HB4 : Hid (Below w.heap.size w w4) := Lib.hid (below_turn (Turn.then (turn_below HB3.out) ht4))
  have HS4 := Lib.hid hs4
  have HZ4 := Lib.hid HB4.out.size
  clear hs4 ht4 HPut3 hnew ha4 hown4
  dsimp only
  go_wp2_with (first
    | (at_builtin; refine wpList_append_own _ rfl (.tmp 34) (.tmp 35) 45 rfl w.heap.size 5 i0 (.int .u8 0) 1 1 Tryz.underlying45 hi hz0 hz1 hz2 rfl (by decide) _ p _ rfl (HO4.out.alloc _) ⟨w4.heap.size, 0, none⟩ 1 1 [.int .u8 2] rfl rfl (by intro t u ht; match t, ht with | 0, ht => simp at ht; subst ht; exact Pk.cell_new w4 _ _) (by intro u hu; simp at hu; subst hu; rfl) (by unfold maxLen; omega) (by omega) (by have := HZ4.out; simp; omega) ?_; intro v8 w8 hown8 hg8 hnil8; obtain ⟨g8, c8, rfl⟩ := ownsRow_form hown8 (by omega); have HO8 := Lib.hid hown8; have HB8 : Hid (Below w.heap.size w w8) := Lib.hid ((HB4.out.alloc HB4.out.size _).grown hg8 (by have := HZ4.out; simp; omega) (fun j e => ((HO4.out.alloc (.cells #[.int .u8 2] 5)).lt j e).1)); have HS8 : Hid (Bs.Seg w8 a4 pl k4 (bitsB l)) := Lib.hid (seg_past HS4.out hg8 HNe.out); have HZ8 := Lib.hid HB8.out.size; clear hown8 hg8 hnil8)
    | (at_builtin; refine Bs.wpList_append_seg rfl (.tmp 36) (.tmp 37) 45 rfl w.heap.size 5 i0 Tryz.underlying45 hi hz0 hz1 hz2 g8 (p + 1) c8 _ rfl HO8.out a4 pl k4 (bitsB l) rfl HS8.out (by omega) HZ8.out ?_; intro g9 c9 w9 hown9 hg9)
    | fail)
  have HFin : Hid (PutF w (encN l).length 0 (encN l) (.returned (.tuple #[.slice (some ⟨g9, 0, none⟩) (p + 1 + pl) c9, .int .i64 0])) w9) := by
    have hl : (encN l).length = p + 1 + pl := by rw [HE.out, List.length_append, List.length_append, HP.out, HPL.out]; rfl
    refine Lib.hid ⟨_, c9, by rw [hl], ?_, turn_below (HB8.out.grown hg9 HZ8.out (fun j e => (HO8.out.lt j e).1))⟩
    rw [hl, HE.out]
    refine Bs.Seg.own (base := w.heap.size) (e := 5) ?_
    rw [List.map_append, List.map_append]
    exact hown9
  clear hown9 hg9
  go_ret2
  exact HFin.out

/-- The document's Put, in the laws' form. -/
theorem rput_form {l : List Bool} {E : Int} {B : List Int} {m : Nat} (hR : putN l = (E, B)) (hm : B.length = m) (a : Option Addr) (n c : Nat) (W : World) (hs : Bl.Seg W a n c l) :
    Calls Tryz.prog 24 #[.slice a n c] W (PutF W m E B) := by
  have hl := hs.len
  subst hm
  unfold putN at hR
  by_cases h : 4096 < l.length
  · rw [if_pos h] at hR
    cases hR
    exact rput_long a n c W (by omega)
  · rw [if_neg h] at hR
    cases hR
    by_cases h0 : cnt l = 0
    · exact rput_none a n c l W hs (by omega) h0
    · by_cases h1 : cnt l = l.length
      · exact rput_all a n c l W hs (by omega) h0 h1
      · exact rput_some a n c l W hs (by omega) h0 h1
end Go.Proofs.YtljanfnhmhimiaaGreat.Nu
namespace Go.Proofs.YtljanfnhmhimiaaGreat.Nu
open Go.RowKit
open Dv (Turn nowhere)
open Pk (Turn.then sizeN Fit)
open Oct (readV)
open In (RR below_grown)

/-! ### the row of flags, filled one by one -/
def fillF (D : List Bool) (j : Nat) : List Bool := D.take j ++ List.replicate (D.length - j) false
theorem fillF_zero (D : List Bool) : fillF D 0 = List.replicate D.length false := by simp [fillF]
theorem roomF_list (S : Nat) : (roomF S).toList = (List.replicate S false).map Value.bool := by
  have h : (roomF S).toList = List.replicate S (Value.bool false) := toList_madeCells_one _ _
  rw [h, List.map_replicate]
theorem made_flags (W : World) (D : List Bool) (S : Nat) (hS : S ≤ 1000000) (hD : D.length = S) : (W.alloc (.cells (roomF S) 4)).ownsRow W.heap.size 4 1 (.slice (some ⟨W.heap.size, 0, none⟩) S S) S ((fillF D 0).map Value.bool) := by
  rw [fillF_zero, hD]
  exact ⟨by simp, .inr ⟨W.heap.size, S, roomF S, rfl, Nat.le_refl _, heap_alloc_new W _, Nat.le_refl _, by unfold maxLen; omega, by rw [roomF_size, Nat.mul_one], by rw [roomF_list]; exact List.take_of_length_le (by simp)⟩⟩
end Go.Proofs.YtljanfnhmhimiaaGreat.Nu
