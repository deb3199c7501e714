/-
  The document's PutVar, head, Plain, Runs, Packed, Put.
-/
import Derived.Test.YteolpjlpjjjchaaInLaw
import Derived.Test.YteolpjlpjjjchaaPkRPut
namespace Go.Proofs.Yteolpjlpjjjchaa.In
open Go.RowKit Go.Joins
open Is (IsI)
open Bs (info_u8)
open Ref1 (GrowB)
open Oct (varB putB)
open Pk (PutF)

theorem or128_fin : ∀ x : Fin 256, bits .or .u8 ((x.val : Nat) : Int) 128 = ((x.val : Nat) : Int) % 128 + 128 := by decide +kernel
theorem or128 (v : Int) : bits .or .u8 (v % 256) 128 = v % 128 + 128 := by
  obtain ⟨n, hn⟩ : ∃ n : Nat, v % 256 = (n : Int) := ⟨(v % 256).toNat, by omega⟩
  have h := or128_fin ⟨n, by omega⟩
  have e : ((n : Nat) : Int) % 128 = v % 128 := by omega
  rw [hn, ← e]
  exact h
theorem varB_small (f : Nat) (v : Int) (h : v < 128) : varB f v = [v] := by cases f <;> simp [varB, h]
theorem varB_big (f : Nat) (v : Int) (h : 128 ≤ v) : varB (f + 1) v = (v % 128 + 128) :: varB f (v / 128) := by simp only [varB]; rw [if_neg (by omega)]

set_option maxRecDepth 100000 in
set_option maxHeartbeats 1000000 in
theorem rputVar_any (base : Nat) (v0 : Value) (n : Nat) (l : List Int) (v : Int) (w : World) (hown : w.ownsRow base 5 1 v0 n (l.map (Value.int .u8))) (hbase : base ≤ w.heap.size) (h0 : 0 ≤ v) (h1 : v < 18446744073709551616) (hn : n ≤ 1000000000) :
    Calls Try.prog 32 #[v0, .int .u64 v] w (GrowB base w (l ++ varB 9 v) (n + (varB 9 v).length)) := by
  obtain ⟨i0, hi, hz0, hz1, hz2⟩ := info_parts info_u8
  have HO := Lib.hid hown
  have HB : Hid (Below base w w) := Lib.hid (Below.refl _ w)
  have HBs := Lib.hid hbase
  obtain ⟨L, hL⟩ : ∃ L, varB 9 v = L := ⟨_, rfl⟩
  have h9 : (2 : Int) * 128 ^ 9 = 18446744073709551616 := by decide
  have HV : Hid (∃ f, L = [] ++ varB f v ∧ v < 2 * 128 ^ f ∧ f = 9) := Lib.hid ⟨9, by rw [← hL]; rfl, by omega, rfl⟩
  clear h9
  rw [hL]
  clear hown hL
  go_enter Try.func32, Try.ntmps32
  go_wp2
  go_loopg [0, 1] 9 (fun gh so sv wr => ∃ (k : Nat) (xs : List Int) (cur : Int) (V : Value), k + gh = 9 ∧ V = so ∧ sv = .int .u64 cur ∧ 0 ≤ cur ∧ Hid (cur < 18446744073709551616) ∧ Hid (xs.length = k ∧ L = xs ++ varB gh cur ∧ cur < 2 * 128 ^ gh) ∧
      Hid (wr.ownsRow base 5 1 V (n + k) ((l ++ xs).map (Value.int .u8))) ∧ Hid (Below base w wr))
  case atStart => exact ⟨0, [], v, v0, by omega, rfl, rfl, h0, Lib.hid h1, Lib.hid (by
    obtain ⟨f, a, b, rfl⟩ := HV.out
    exact ⟨rfl, a, b⟩), Lib.hid (by simpa using HO.out), HB⟩
  case round =>
    obtain ⟨k, xs, cur, V, hk, rfl, rfl, c0, C1, HX, HO2, HB2⟩ := hrel
    have c1 := C1.out
    have hor := or128 cur
    by_cases hge : 128 ≤ cur
    · cases gk with
      | zero =>
        exfalso
        have := HX.out.2.2
        simp at this
        omega
      | succ gh =>
        have hwb : base ≤ wr.heap.size := Nat.le_trans HBs.out HB2.out.size
        have HWb := Lib.hid hwb
        have hlt : ¬ cur < 128 := by omega
        clear c1 hwb
        go_wp2_with (at_builtin; refine wpList_append_own _ rfl (.tmp 7) (.tmp 11) 23 rfl base 5 i0 (.int .u8 0) 1 1 Try.underlying23 hi hz0 hz1 hz2 rfl (by decide) V (n + k) _ rfl (HO2.out.alloc _) ⟨wr.heap.size, 0, none⟩ 1 1 [.int .u8 (cur % 128 + 128)] rfl rfl (by intro t u ht; match t, ht with | 0, ht => simp at ht; subst ht; exact Pk.cell_new wr _ _) (by intro u hu; simp at hu; subst hu; rfl) (by unfold maxLen; omega) (by omega) (by have := HWb.out; simp; omega) ?_; intro v2 w2 hown2 hgrow2 _)
        go_roundg gh
        case rel =>
          obtain ⟨x1, x2, x3⟩ := HX.out
          refine ⟨k + 1, xs ++ [cur % 128 + 128], cur / 128, v2, by omega, rfl, by first | rfl | (congr 1), by omega, Lib.hid (by have := C1.out; omega), Lib.hid ⟨by simp [x1], ?_, ?_⟩, Lib.hid ?_, Lib.hid ((HB2.out.alloc HWb.out _).grown hgrow2 (by have := HWb.out; simp; omega) (fun j e => (HO2.out.lt j e).1))⟩
          · rw [x2, varB_big gh cur hge, List.append_assoc]; rfl
          · rw [Int.pow_succ] at x3
            omega
          · rw [← List.append_assoc, List.map_append]
            exact hown2
        case measure => omega
    · have hlt : cur < 128 := by omega
      have hwb : base ≤ wr.heap.size := Nat.le_trans HBs.out HB2.out.size
      have HWb := Lib.hid hwb
      have hcm : cur % 256 = cur := by omega
      clear c1 hwb hor hge
      go_wp2_with (at_builtin; refine wpList_append_own _ rfl (.tmp 15) (.tmp 18) 23 rfl base 5 i0 (.int .u8 0) 1 1 Try.underlying23 hi hz0 hz1 hz2 rfl (by decide) V (n + k) _ rfl (HO2.out.alloc _) ⟨wr.heap.size, 0, none⟩ 1 1 [.int .u8 cur] rfl rfl (by intro t u ht; match t, ht with | 0, ht => simp at ht; subst ht; exact Pk.cell_new wr _ _) (by intro u hu; simp at hu; subst hu; rfl) (by unfold maxLen; omega) (by omega) (by have := HWb.out; simp; omega) ?_; intro v2 w2 hown2 hgrow2 _)
      obtain ⟨g', c', rfl⟩ := ownsRow_form hown2 (by omega)
      have HF : Hid (GrowB base w (l ++ L) (n + L.length) (.returned (.slice (some ⟨g', 0, none⟩) (n + k + 1) c')) w2) := by
        obtain ⟨x1, x2, x3⟩ := HX.out
        have e : L = xs ++ [cur] := by rw [x2, varB_small _ _ hlt]
        have el : n + L.length = n + k + 1 := by rw [e, List.length_append, x1]; rfl
        refine Lib.hid ?_
        rw [el]
        refine ⟨g', c', rfl, ?_, (HB2.out.alloc HWb.out _).grown hgrow2 (by have := HWb.out; simp; omega) (fun j e => (HO2.out.lt j e).1)⟩
        rw [e, ← List.append_assoc, List.map_append]
        exact hown2
      clear hown2 hgrow2
      go_wp2
      go_ret
      exact HF.out
end Go.Proofs.Yteolpjlpjjjchaa.In
namespace Go.Proofs.Yteolpjlpjjjchaa.In
open Go.RowKit Go.Joins
open Is (IsI)
open Bs (info_u8)
open Ref1 (GrowB)
open Oct (varB putB)

theorem parte_own {w w' : World} {base g n c : Nat} {B : List Int} (h : w'.ownsRow base 5 1 (.slice (some ⟨g, 0, none⟩) n c) n (B.map (Value.int .u8))) (hb : Below w.heap.size w w') :
    PartE w 0 B (.returned (.tuple #[.slice (some ⟨g, 0, none⟩) n c, .int .i64 0])) w' := by
  have hs := Bs.Seg.own h
  exact ⟨_, n, c, rfl, hs.len.symm, hs, hb⟩

set_option maxRecDepth 100000 in
set_option maxHeartbeats 1000000 in
theorem rhead_any (k : Nat) (n : Nat) (w : World) (hn : n ≤ 65536) :
    Calls Try.prog 30 #[.int .u8 k, .int .i64 n] w (GrowB w.heap.size w (headB k n) (1 + (varB 9 (n : Int)).length)) := by
  have hlit := World.ownsRow_lit (base := w.heap.size) (e := 5) (size := 1) w #[.int .u8 (k : Int)] 1 (Nat.le_refl _) (by unfold maxLen; omega) rfl
  have HP := Lib.hid (rputVar_any w.heap.size (.slice (some ⟨w.heap.size, 0, none⟩) 1 1) 1 [(k : Int)] (n : Int) (w.alloc (.cells #[.int .u8 (k : Int)] 5)) hlit (by simp) (by omega) (by omega) (by decide))
  have hA : Below w.heap.size w (w.alloc (.cells #[.int .u8 (k : Int)] 5)) := (Below.refl _ w).alloc (Nat.le_refl _) _
  have HA := Lib.hid hA
  have hu := num_of hn
  obtain ⟨vl, hvl⟩ : ∃ x, (varB 9 (n : Int)).length = x := ⟨_, rfl⟩
  rw [hvl] at HP
  rw [hvl]
  clear hlit hA hvl
  go_enter Try.func30, Try.ntmps30
  go_wp2_with fail
  refine HP.out.mono ?_
  rintro e w1 ⟨g, c, rfl, hown, hb⟩
  have HF : Hid (GrowB w.heap.size w (headB k n) (1 + vl) (.returned (.slice (some ⟨g, 0, none⟩) (1 + vl) c)) w1) := Lib.hid ⟨g, c, rfl, hown, HA.out.trans hb⟩
  clear hown hb
  dsimp only
  go_wp2
  go_ret
  exact HF.out

theorem conv_u (v : Int) : IntKind.u64.wrap v = u v := by rw [IntKind.wrap_u64]; rfl

set_option maxRecDepth 100000 in
set_option maxHeartbeats 1000000 in
theorem rplain_any (a : Option Addr) (n c : Nat) (l : List Int) (w : World) (hs : Is.Seg w a n c l) :
    Calls Try.prog 15 #[.slice a n c] w (PutE w (tooMany l (encB 1 l))) := by
  unfold PutE tooMany
  by_cases hn : 4096 < n
  · rw [if_pos (by rw [hs.len]; exact hn)]
    have HF : Hid (PartE w 3 [] (.returned (.tuple #[.slice none 0 0, .int .i64 3])) w) := Lib.hid ⟨none, 0, 0, rfl, rfl, Bs.Seg.nil _, Below.refl _ w⟩
    clear hs
    go_enter Try.func15, Try.ntmps15
    go_wp2
    go_ret2
    exact HF.out
  · rw [if_neg (by rw [hs.len]; exact hn)]
    have hn4 : n ≤ 4096 := by omega
    have HLen := Lib.hid hs.len
    have HSeg := Lib.hid hs
    have HHead := Lib.hid (rhead_any 1 n w (by omega))
    have hvl := Oct.varB_le 9 (n : Int)
    obtain ⟨h0, hh0⟩ : ∃ x, 1 + (varB 9 (n : Int)).length = x := ⟨_, rfl⟩
    rw [hh0] at HHead
    have hb0 : h0 ≤ 11 := by omega
    have HEnc : Hid (encB 1 l = headB 1 n ++ plainB l) := Lib.hid (by unfold encB; rw [hs.len]; rfl)
    clear hs hn hvl hh0
    go_enter Try.func15, Try.ntmps15
    go_wp2_with fail
    refine HHead.out.mono ?_
    rintro e w1 ⟨g1, c1, rfl, hown1, hb1⟩
    have O1 := Lib.hid hown1
    have B1 := Lib.hid hb1
    clear hown1 hb1 HHead
    dsimp only
    go_wp2
    go_loopw [4, 5] (fun so si wr => ∃ (k : Nat) (V : Value), k ≤ n ∧ si = .int .i64 k ∧ V = so ∧ Hid (∃ g cc, V = .slice (some ⟨g, 0, none⟩) (h0 + 8 * k) cc) ∧ Hid (wr.ownsRow w.heap.size 5 1 V (h0 + 8 * k) ((headB 1 n ++ plainB (l.take k)).map (Value.int .u8))) ∧ Hid (Below w.heap.size w wr)) (fun _ si _ => n - (intOf si).toNat)
    case atStart => exact ⟨0, _, Nat.zero_le _, rfl, rfl, Lib.hid ⟨_, _, rfl⟩, Lib.hid (by simpa [plainB] using O1.out), B1⟩
    case round =>
      obtain ⟨k, V, hk, rfl, rfl, HV, HO, HB⟩ := hrel
      by_cases hlt : k < n
      · have hseg := iseg_below HSeg.out HB.out rfl
        obtain ⟨gA, oA, rfl, hc⟩ := hseg.addr (by omega)
        have g2 := hc k hlt
        obtain ⟨x, hx⟩ : ∃ x, l.getD k 0 = x := ⟨_, rfl⟩
        rw [hx] at g2
        have HP := Lib.hid (plain_take l k x (by have := HLen.out; omega) hx)
        have hux := conv_u x
        have hub := u_bd x
        have HN := Lib.hid (Ref1.rput_any w.heap.size V (h0 + 8 * k) _ (u x) 8 wr HO.out HB.out.size hub.1 hub.2 (by decide) (by decide) (by omega))
        clear hx hc hseg hub
        go_wp2_with fail
        refine HN.out.mono ?_
        rintro e w2 ⟨g, cc, rfl, hown, hbel⟩
        have HO1 : Hid (w2.ownsRow w.heap.size 5 1 (.slice (some ⟨g, 0, none⟩) (h0 + 8 * k + 8) cc) (h0 + 8 * (k + 1)) ((headB 1 n ++ plainB (l.take (k + 1))).map (Value.int .u8))) := Lib.hid (by rw [HP.out, ← List.append_assoc]; exact hown)
        have HB1 := Lib.hid (HB.out.trans hbel)
        clear hown hbel
        dsimp only
        go_wp2
        go_roundw
        case rel => exact ⟨k + 1, _, by omega, by go_num, rfl, Lib.hid ⟨_, _, rfl⟩, HO1, HB1⟩
        case measure => simp [intOf]; omega
      · obtain rfl : k = n := by omega
        obtain ⟨g, cc, rfl⟩ := HV.out
        have HF : Hid (PartE w 0 (encB 1 l) (.returned (.tuple #[.slice (some ⟨g, 0, none⟩) (h0 + 8 * k) cc, .int .i64 0])) wr) := by
          have := HO.out
          rw [List.take_of_length_le (Nat.le_of_eq HLen.out), ← HEnc.out] at this
          exact Lib.hid (parte_own this HB.out)
        go_wp2
        go_ret2
        exact HF.out
end Go.Proofs.Yteolpjlpjjjchaa.In
namespace Go.Proofs.Yteolpjlpjjjchaa.In
open Go.RowKit Go.Joins
open Is (IsI)
open Bs (info_u8)
open Ref1 (GrowB)
open Oct (varB putB)

set_option maxRecDepth 100000 in
set_option maxHeartbeats 2000000 in
theorem rruns_any (a : Option Addr) (n c : Nat) (l : List Int) (w : World) (hs : Is.Seg w a n c l) :
    Calls Try.prog 16 #[.slice a n c] w (PutE w (tooMany l (encB 2 l))) := by
  unfold PutE tooMany
  by_cases hn : 4096 < n
  · rw [if_pos (by rw [hs.len]; exact hn)]
    have HF : Hid (PartE w 3 [] (.returned (.tuple #[.slice none 0 0, .int .i64 3])) w) := Lib.hid ⟨none, 0, 0, rfl, rfl, Bs.Seg.nil _, Below.refl _ w⟩
    clear hs
    go_enter Try.func16, Try.ntmps16
    go_wp2
    go_ret2
    exact HF.out
  · rw [if_neg (by rw [hs.len]; exact hn)]
    have hn4 : n ≤ 4096 := by omega
    have HLen := Lib.hid hs.len
    have HSeg := Lib.hid hs
    have HHead := Lib.hid (rhead_any 2 n w (by omega))
    have hvl := Oct.varB_le 9 (n : Int)
    obtain ⟨h0, hh0⟩ : ∃ x, 1 + (varB 9 (n : Int)).length = x := ⟨_, rfl⟩
    rw [hh0] at HHead
    have hb0 : h0 ≤ 11 := by omega
    have HEnc : Hid (encB 2 l = headB 2 n ++ bytesR (rle l)) := Lib.hid (by unfold encB; rw [hs.len]; rfl)
    have HH0 := Lib.hid hb0
    clear hs hn hvl hh0
    go_enter Try.func16, Try.ntmps16
    go_wp2_with fail
    refine HHead.out.mono ?_
    rintro e w1 ⟨g1, c1, rfl, hown1, hb1⟩
    have O1 := Lib.hid hown1
    have B1 := Lib.hid hb1
    clear hown1 hb1 HHead
    dsimp only
    go_wp2
    go_loopg [4, 5] n (fun gh so si wr => ∃ (i N : Nat) (d : List (Nat × Int)) (V : Value), i + gh = n ∧ si = .int .i64 i ∧ V = so ∧ Hid (∃ g cc, V = .slice (some ⟨g, 0, none⟩) N cc) ∧ Hid (N ≤ h0 + 18 * i ∧ d ++ rle (l.drop i) = rle l) ∧ Hid (wr.ownsRow w.heap.size 5 1 V N ((headB 2 n ++ bytesR d).map (Value.int .u8))) ∧ Hid (Below w.heap.size w wr))
    case atStart => exact ⟨0, h0, [], _, by omega, rfl, rfl, Lib.hid ⟨_, _, rfl⟩, Lib.hid ⟨by omega, rfl⟩, Lib.hid (by simpa [bytesR] using O1.out), B1⟩
    case round =>
      obtain ⟨i, N, d, V, hi, rfl, rfl, HV, HD, HO, HB⟩ := hrel
      cases gk with
      | zero =>
        obtain rfl : i = n := by omega
        obtain ⟨g, cc, rfl⟩ := HV.out
        have HF : Hid (PartE w 0 (encB 2 l) (.returned (.tuple #[.slice (some ⟨g, 0, none⟩) N cc, .int .i64 0])) wr) := by
          have h := HO.out
          have h2 := HD.out.2
          rw [List.drop_eq_nil_of_le (by rw [HLen.out]; exact Nat.le_refl _)] at h2
          rw [show d = rle l from by simpa [rle] using h2, ← HEnc.out] at h
          exact Lib.hid (parte_own h HB.out)
        go_wp2
        go_ret2
        exact HF.out
      | succ m =>
        have hin : i < n := by omega
        have hseg := iseg_below HSeg.out HB.out rfl
        obtain ⟨gA, oA, rfl, hc⟩ := hseg.addr (by omega)
        have g2 := hc i hin
        obtain ⟨x0, hx0⟩ : ∃ x, l.getD i 0 = x := ⟨_, rfl⟩
        rw [hx0] at g2
        have HX0 := Lib.hid hx0
        have HC := Lib.hid hc
        clear hx0 hc hseg
        go_wp2
        go_loopw [6] (fun sk wx => ∃ (k q : Nat), i ≤ k ∧ k ≤ n ∧ sk = .int .i64 k ∧ wx = wr.drewN q ∧ Hid (i < k ∨ k = i) ∧ Hid (∀ j, i ≤ j → j < k → l.getD j 0 = x0)) (fun sk _ => n - (intOf sk).toNat)
        case atStart => exact ⟨i, 0, Nat.le_refl _, by omega, rfl, rfl, Lib.hid (.inr rfl), Lib.hid (fun j h1 h2 => by omega)⟩
        case round =>
          obtain ⟨k, q, hik, hkn, rfl, rfl, HI, HE⟩ := hrel
          by_cases hcont : k < n ∧ l.getD k 0 = x0
          · obtain ⟨hkn2, hx⟩ := hcont
            have g3 := HC.out k hkn2
            rw [hx] at g3
            have HE1 : Hid (∀ j, i ≤ j → j < k + 1 → l.getD j 0 = x0) := Lib.hid (fun j h1 h2 => by
              by_cases h : j < k
              · exact HE.out j h1 h
              · rw [show j = k from by omega]; exact hx)
            clear hx
            go_wp2
            go_quiet (fail)
            go_wp2
            go_roundw
            case rel => exact ⟨k + 1, q + nq, by omega, by omega, by go_num, by simp, Lib.hid (.inl (by omega)), HE1⟩
            case measure => simp [intOf]; omega
          · have hik2 : i < k := by
              rcases HI.out with h | h
              · exact h
              · exact absurd ⟨by omega, by rw [h]; exact HX0.out⟩ hcont
            have hex : k = n ∨ l.getD k 0 ≠ x0 := by
              by_cases h : k < n
              · exact .inr fun e => hcont ⟨h, e⟩
              · exact .inl (by omega)
            have hex2 : ¬ k < n ∨ (k < n ∧ ∃ y, l.getD k 0 = y ∧ ¬ y = x0) := by
              by_cases h : k < n
              · exact .inr ⟨h, _, rfl, fun e => hcont ⟨h, e⟩⟩
              · exact .inl h
            obtain ⟨R, hR⟩ : ∃ R, R = k - i := ⟨_, rfl⟩
            have hvl := Oct.varB_le 9 (R : Int)
            obtain ⟨vl, hvle⟩ : ∃ x, (varB 9 (R : Int)).length = x := ⟨_, rfl⟩
            rw [hvle] at hvl
            have HVL := Lib.hid hvle
            have HRle : Hid (rle (l.drop i) = (R, x0) :: rle (l.drop k)) := Lib.hid (by
              have h := rle_at l i k hik2 (by rw [HLen.out]; exact hkn) (fun j h1 h2 => by rw [HE.out j h1 h2, HX0.out]) (by rw [HLen.out, HX0.out]; exact hex)
              rw [HX0.out, ← hR] at h
              exact h)
            have HK := Lib.hid (show i < k ∧ k ≤ n ∧ R + i = k ∧ vl ≤ 10 from by omega)
            have hRk : (R : Int) = (k : Int) - (i : Int) := by omega
            have HRk := Lib.hid hRk
            clear hcont hex hvl hvle hR hRk
            rcases hex2 with hkn3 | ⟨hkn3, y, hy, hyx⟩
            · go_wp2
              go_quiet (fail)
              go_wp2_with fail
              have hRk := HRk.out
              have HO2 : Hid ((wr.drewN (q + nq)).ownsRow w.heap.size 5 1 V N ((headB 2 n ++ bytesR d).map (Value.int .u8))) := Lib.hid HO.out
              have HB2 : Hid (Below w.heap.size w (wr.drewN (q + nq))) := Lib.hid (Bs.below_drewN _ HB.out)
              have HPV : Hid (Calls Try.prog 32 #[V, .int .u64 ((k : Int) - (i : Int))] (wr.drewN (q + nq)) (GrowB w.heap.size (wr.drewN (q + nq)) (headB 2 n ++ bytesR d ++ varB 9 (R : Int)) (N + vl))) := Lib.hid (by
                have h := rputVar_any w.heap.size V N _ ((k : Int) - (i : Int)) _ HO2.out HB2.out.size (by omega) (by omega) (by have := HD.out.1; omega)
                rw [show (k : Int) - (i : Int) = (R : Int) from by omega, HVL.out] at h
                rw [show (k : Int) - (i : Int) = (R : Int) from by omega]
                exact h)
              clear hRk
              refine HPV.out.mono ?_
              rintro e w2 ⟨g3', cc3, rfl, hown3, hb3⟩
              have HB3 : Hid (Below w.heap.size w w2) := Lib.hid (HB2.out.trans hb3)
              have HO3 := Lib.hid hown3
              have gcell : w2.cell? ⟨gA, oA + i, none⟩ = some (.int .i64 x0) := by
                obtain ⟨gA', oA', e, hc⟩ := (iseg_below HSeg.out HB3.out rfl).addr (by omega)
                cases e
                have := hc i hin
                rwa [HX0.out] at this
              have hub := u_bd x0
              have hux := conv_u x0
              have HP8 := Lib.hid (Ref1.rput_any w.heap.size (.slice (some ⟨g3', 0, none⟩) (N + vl) cc3) (N + vl) _ (u x0) 8 w2 HO3.out HB3.out.size hub.1 hub.2 (by decide) (by decide) (by have := HD.out.1; have := HK.out; omega))
              clear hown3 hb3 HPV HO2 HB2 hub
              dsimp only
              go_wp2_with fail
              refine HP8.out.mono ?_
              rintro e w4 ⟨g4, cc4, rfl, hown4, hb4⟩
              have HO4 : Hid (w4.ownsRow w.heap.size 5 1 (.slice (some ⟨g4, 0, none⟩) (N + vl + 8) cc4) (N + vl + 8) ((headB 2 n ++ bytesR (d ++ [(R, x0)])).map (Value.int .u8))) := Lib.hid (by
                rw [bytesR_snoc]
                have h := hown4
                rw [List.append_assoc, List.append_assoc] at h
                rw [List.append_assoc]
                exact h)
              have HB4 : Hid (Below w.heap.size w w4) := Lib.hid (HB3.out.trans hb4)
              clear hown4 hb4 HP8 HO3 HB3
              dsimp only
              go_wp2
              go_roundg (n - k)
              case rel =>
                obtain ⟨h1, h2⟩ := HD.out
                obtain ⟨k1, k2, k3, k4⟩ := HK.out
                exact ⟨k, N + vl + 8, d ++ [(R, x0)], _, by omega, rfl, rfl, Lib.hid ⟨_, _, rfl⟩, Lib.hid ⟨by omega, by rw [List.append_assoc, List.singleton_append, ← HRle.out, h2]⟩, HO4, HB4⟩
              case measure => have := HK.out; omega
            · have g3 := HC.out k hkn3
              rw [hy] at g3
              have hyb : (y == x0) = false := by simpa using hyx
              go_wp2
              go_quiet (fail)
              clear g3
              go_wp2_with fail
              have hRk := HRk.out
              have HO2 : Hid ((wr.drewN (q + nq)).ownsRow w.heap.size 5 1 V N ((headB 2 n ++ bytesR d).map (Value.int .u8))) := Lib.hid HO.out
              have HB2 : Hid (Below w.heap.size w (wr.drewN (q + nq))) := Lib.hid (Bs.below_drewN _ HB.out)
              have HPV : Hid (Calls Try.prog 32 #[V, .int .u64 ((k : Int) - (i : Int))] (wr.drewN (q + nq)) (GrowB w.heap.size (wr.drewN (q + nq)) (headB 2 n ++ bytesR d ++ varB 9 (R : Int)) (N + vl))) := Lib.hid (by
                have h := rputVar_any w.heap.size V N _ ((k : Int) - (i : Int)) _ HO2.out HB2.out.size (by omega) (by omega) (by have := HD.out.1; omega)
                rw [show (k : Int) - (i : Int) = (R : Int) from by omega, HVL.out] at h
                rw [show (k : Int) - (i : Int) = (R : Int) from by omega]
                exact h)
              clear hRk
              refine HPV.out.mono ?_
              rintro e w2 ⟨g3', cc3, rfl, hown3, hb3⟩
              have HB3 : Hid (Below w.heap.size w w2) := Lib.hid (HB2.out.trans hb3)
              have HO3 := Lib.hid hown3
              have gcell : w2.cell? ⟨gA, oA + i, none⟩ = some (.int .i64 x0) := by
                obtain ⟨gA', oA', e, hc⟩ := (iseg_below HSeg.out HB3.out rfl).addr (by omega)
                cases e
                have := hc i hin
                rwa [HX0.out] at this
              have hub := u_bd x0
              have hux := conv_u x0
              have HP8 := Lib.hid (Ref1.rput_any w.heap.size (.slice (some ⟨g3', 0, none⟩) (N + vl) cc3) (N + vl) _ (u x0) 8 w2 HO3.out HB3.out.size hub.1 hub.2 (by decide) (by decide) (by have := HD.out.1; have := HK.out; omega))
              clear hown3 hb3 HPV HO2 HB2 hub
              dsimp only
              go_wp2_with fail
              refine HP8.out.mono ?_
              rintro e w4 ⟨g4, cc4, rfl, hown4, hb4⟩
              have HO4 : Hid (w4.ownsRow w.heap.size 5 1 (.slice (some ⟨g4, 0, none⟩) (N + vl + 8) cc4) (N + vl + 8) ((headB 2 n ++ bytesR (d ++ [(R, x0)])).map (Value.int .u8))) := Lib.hid (by
                rw [bytesR_snoc]
                have h := hown4
                rw [List.append_assoc, List.append_assoc] at h
                rw [List.append_assoc]
                exact h)
              have HB4 : Hid (Below w.heap.size w w4) := Lib.hid (HB3.out.trans hb4)
              clear hown4 hb4 HP8 HO3 HB3
              dsimp only
              go_wp2
              go_roundg (n - k)
              case rel =>
                obtain ⟨h1, h2⟩ := HD.out
                obtain ⟨k1, k2, k3, k4⟩ := HK.out
                exact ⟨k, N + vl + 8, d ++ [(R, x0)], _, by omega, rfl, rfl, Lib.hid ⟨_, _, rfl⟩, Lib.hid ⟨by omega, by rw [List.append_assoc, List.singleton_append, ← HRle.out, h2]⟩, HO4, HB4⟩
              case measure => have := HK.out; omega
end Go.Proofs.Yteolpjlpjjjchaa.In
namespace Go.Proofs.Yteolpjlpjjjchaa.In
open Go.RowKit Go.Joins
open Is (IsI)
open Bs (info_u8)
open Ref1 (GrowB)
open Oct (varB putB)
open Us (info_u64)
open Pk (wid putR PutX IsU)

theorem minL_step (l : List Int) (k : Nat) (x : Int) (h : k < l.length) (hx : l.getD k 0 = x) : (k = 0 → minL (l.take (k + 1)) = x) ∧ (0 < k → minL (l.take (k + 1)) = if x < minL (l.take k) then x else minL (l.take k)) := by
  refine ⟨fun h0 => ?_, fun h0 => ?_⟩
  · subst h0; rw [minL_one l h]; exact hx
  · rw [minL_take l k x h0 h hx, min_if]

set_option maxRecDepth 100000 in
set_option maxHeartbeats 2000000 in
theorem rpacked_any (a : Option Addr) (n c : Nat) (l : List Int) (w : World) (hs : Is.Seg w a n c l) :
    Calls Try.prog 18 #[.slice a n c] w (PutE w (tooMany l (encB 3 l))) := by
  obtain ⟨i0, hi, hz0, hz1, hz2⟩ := info_parts info_u8
  obtain ⟨j0, ji, jz0, jz1, jz2⟩ := info_parts info_u64
  unfold PutE tooMany
  by_cases hn : 4096 < n
  · rw [if_pos (by rw [hs.len]; exact hn)]
    have HF : Hid (PartE w 3 [] (.returned (.tuple #[.slice none 0 0, .int .i64 3])) w) := Lib.hid ⟨none, 0, 0, rfl, rfl, Bs.Seg.nil _, Below.refl _ w⟩
    clear hs
    go_enter Try.func18, Try.ntmps18
    go_wp2
    go_ret2
    exact HF.out
  · rw [if_neg (by rw [hs.len]; exact hn)]
    have hn4 : n ≤ 4096 := by omega
    have HLen := Lib.hid hs.len
    have HSeg := Lib.hid hs
    clear hs hn
    go_enter Try.func18, Try.ntmps18
    go_wp2
    go_loop [4, 5] (fun sm si => ∃ (k : Nat) (m : Int), k ≤ n ∧ si = .int .i64 k ∧ sm = .int .i64 m ∧ Hid (m = minL (l.take k))) (fun _ si => n - (intOf si).toNat)
    case atStart => exact ⟨0, 0, Nat.zero_le _, rfl, rfl, Lib.hid rfl⟩
    case round =>
      obtain ⟨k, m, hk, rfl, rfl, HM⟩ := hrel
      by_cases hlt : k < n
      · obtain ⟨gA, oA, rfl, hc⟩ := HSeg.out.addr (by omega)
        have g1 := hc k hlt
        obtain ⟨x, hx⟩ : ∃ x, l.getD k 0 = x := ⟨_, rfl⟩
        rw [hx] at g1
        have hst := minL_step l k x (by rw [HLen.out]; exact hlt) hx
        rw [← HM.out] at hst
        have HST := Lib.hid hst
        clear hx hc hst
        rcases Nat.eq_zero_or_pos k with hk0 | hk0
        · subst hk0
          rw [Nat.add_zero] at g1
          go_wp2
          go_round
          case rel => exact ⟨1, x, hlt, by go_num, rfl, Lib.hid (HST.out.1 rfl).symm⟩
          case measure => simp [intOf]; omega
        · have hkb : ((k : Int) == 0) = false := by simp; omega
          by_cases hxm : x < m
          · have H2 : Hid (minL (l.take (k + 1)) = x) := Lib.hid (by rw [HST.out.2 hk0, if_pos hxm])
            go_wp2
            go_round
            case rel => exact ⟨k + 1, x, by omega, by go_num, rfl, Lib.hid H2.out.symm⟩
            case measure => simp [intOf]; omega
          · have H2 : Hid (minL (l.take (k + 1)) = m) := Lib.hid (by rw [HST.out.2 hk0, if_neg hxm])
            go_wp2
            go_round
            case rel => exact ⟨k + 1, m, by omega, by go_num, rfl, Lib.hid H2.out.symm⟩
            case measure => simp [intOf]; omega
      · obtain rfl : k = n := by omega
        have hm0 : minL l = m := by rw [HM.out, List.take_of_length_le (Nat.le_of_eq HLen.out)]
        have HM0 := Lib.hid hm0
        clear hm0 HM
        go_wp2
        go_loopw [6, 7] (fun so si wr => ∃ (j : Nat) (V : Value), j ≤ k ∧ si = .int .i64 j ∧ V = so ∧ Hid (wr.ownsRow w.heap.size 45 1 V j (((offs l).take j).map (Value.int .u64))) ∧ Hid (Below w.heap.size w wr))
          (fun _ si _ => k - (intOf si).toNat)
        case atStart => exact ⟨0, _, Nat.zero_le _, rfl, rfl, Lib.hid (by simpa using World.ownsRow_nil _ _ _ _), Lib.hid (Below.refl _ w)⟩
        case round =>
          obtain ⟨j, V, hj, rfl, rfl, HO, HB⟩ := hrel
          by_cases hjt : j < k
          · have hseg := iseg_below HSeg.out HB.out rfl
            obtain ⟨gA, oA, rfl, hc⟩ := hseg.addr (by omega)
            have g1 := hc j hjt
            obtain ⟨x, hx⟩ : ∃ x, l.getD j 0 = x := ⟨_, rfl⟩
            rw [hx] at g1
            have HP := Lib.hid (offs_take l j x (by have := HLen.out; omega) hx)
            have hsub := sub_u x m
            have HS1 := Lib.hid hsub
            obtain ⟨y, hy⟩ : ∃ y, IntKind.u64.wrap (IntKind.u64.wrap x - IntKind.u64.wrap m) = y := ⟨_, rfl⟩
            clear hx hc hseg hsub hy
            go_wp2_with (at_builtin; refine wpList_append_own _ rfl (.tmp 41) (.tmp 50) 59 rfl w.heap.size 45 j0 (.int .u64 0) 1 8 Try.underlying59 ji jz0 jz1 jz2 rfl (by decide) V j (((offs l).take j).map (Value.int .u64)) rfl (HO.out.alloc _) ⟨wr.heap.size, 0, none⟩ 1 1 [.int .u64 (IntKind.u64.wrap (IntKind.u64.wrap x - IntKind.u64.wrap m))] rfl rfl (by intro t u ht; match t, ht with | 0, ht => simp at ht; subst ht; exact Pk.cell_new wr _ _) (by intro u hu; simp at hu; subst hu; rfl) (by unfold maxLen; omega) (by omega) (by have := HB.out.size; simp; omega) ?_; intro v2 w2 hown2 hgrow2 hnil)
            go_roundw
            case rel =>
              refine ⟨j + 1, _, by omega, by go_num, rfl, ?_, Lib.hid ((HB.out.alloc HB.out.size _).grown hgrow2 (by have := HB.out.size; simp; omega) (fun j e => (HO.out.lt j e).1))⟩
              refine Lib.hid ?_
              rw [HP.out, List.map_append]
              rw [HS1.out] at hown2
              rw [HM0.out]
              exact hown2
            case measure => simp [intOf]; omega
          · obtain rfl : j = k := by omega
            have hown := HO.out
            rw [List.take_of_length_le (by rw [offs_length]; exact Nat.le_of_eq HLen.out)] at hown
            have huse : ∃ aV cV, V = .slice aV j cV ∧ Us.Seg wr aV j cV (offs l) := by
              rcases hown.2 with ⟨rfl, rfl⟩ | ⟨g, cap, cur, rfl, _⟩
              · have h1 := hown.1
                rw [List.length_map] at h1
                have h0 : offs l = [] := List.eq_nil_of_length_eq_zero (by omega)
                rw [h0]
                exact ⟨none, 0, rfl, Us.Seg.nil _⟩
              · exact ⟨some ⟨g, 0, none⟩, cap, rfl, Us.Seg.own hown⟩
            obtain ⟨aV, cV, rfl, hus⟩ := huse
            have HUS := Lib.hid hus
            have HWid := Lib.hid (Pk.rwidth_any _ _ _ (offs l) wr hus (offs_isU l))
            have hw64 := Pk.wid_64 (offs_isU l)
            have hok := put_yes l (by have := HLen.out; omega)
            obtain ⟨W, hW⟩ : ∃ W, wid (offs l) = W := ⟨_, rfl⟩
            rw [hW] at HWid hw64 hok
            have HPut := Lib.hid (Pk.rput_any aV j cV (offs l) (W : Int) wr hus (offs_isU l))
            obtain ⟨B, hB⟩ : ∃ B, (putR (offs l) (W : Int)).2 = B := ⟨_, rfl⟩
            have hput : putR (offs l) (W : Int) = (0, B) := by rw [← hB, ← hok]
            rw [hput] at HPut
            unfold PutX at HPut
            dsimp only at HPut
            have hBl : B.length ≤ 524288 := by rw [← hB]; exact Pk.put_len _ _
            have hvl := Oct.varB_le 9 (j : Int)
            obtain ⟨h0, hh0⟩ : ∃ x, 1 + (varB 9 (j : Int)).length = x := ⟨_, rfl⟩
            have hb0 : h0 ≤ 11 := by omega
            have HHead := Lib.hid (fun w' => rhead_any 3 j w' (by omega))
            rw [hh0] at HHead
            have HFin : Hid (encB 3 l = headB 3 j ++ num8 m ++ [(W : Int)] ++ B) := Lib.hid (by
              unfold encB
              rw [HLen.out]
              show headB 3 j ++ packedB l = _
              unfold packedB
              rw [HM0.out, hW, hB, ← List.append_assoc, ← List.append_assoc])
            obtain ⟨bl, hbl⟩ : ∃ n, B.length = n := ⟨_, rfl⟩
            rw [hbl] at hBl HPut
            have HBl := Lib.hid hbl
            have hw8 : ((W : Int) % 256) = (W : Int) := by omega
            have hux := conv_u m
            clear hown hus hok hW hB hput hbl hh0 hvl HO
            go_wp2_with (first
              | (go_at_call 33; refine HWid.out.mono ?_; rintro e w' ⟨rfl, rfl⟩)
              | fail)
            refine HPut.out.mono ?_
            rintro e w1 ⟨a1, k1, rfl, hs1, hg1, -⟩
            have HS1 := Lib.hid hs1
            have HB1 : Hid (Below w.heap.size w w1) := Lib.hid (HB.out.trans (below_grown hg1 HB.out.size))
            have HHead1 := Lib.hid (HHead.out w1)
            clear hs1 hg1 HPut HWid HHead HUS HB
            dsimp only
            go_wp2_with fail
            refine HHead1.out.mono ?_
            rintro e w2 ⟨g2, c2, rfl, hown2, hb2⟩
            have hub := u_bd m
            have HP8 := Lib.hid (Ref1.rput_any w1.heap.size (.slice (some ⟨g2, 0, none⟩) h0 c2) h0 _ (u m) 8 w2 hown2 hb2.size hub.1 hub.2 (by decide) (by decide) (by omega))
            have HB2 : Hid (Below w1.heap.size w1 w2) := Lib.hid hb2
            clear hown2 hb2 HHead1 hub
            dsimp only
            go_wp2_with fail
            refine HP8.out.mono ?_
            rintro e w3 ⟨g3, c3, rfl, hown3, hb3⟩
            have HB3 : Hid (Below w1.heap.size w1 w3) := Lib.hid (HB2.out.trans hb3)
            have HO3 := Lib.hid hown3
            clear hown3 hb3 HP8 HB2
            dsimp only
            go_wp2_with (first
              | (at_builtin; refine wpList_append_own _ rfl (.tmp 66) (.tmp 69) 23 rfl w1.heap.size 5 i0 (.int .u8 0) 1 1 Try.underlying23 hi hz0 hz1 hz2 rfl (by decide) _ (h0 + 8) _ rfl (HO3.out.alloc _) ⟨w3.heap.size, 0, none⟩ 1 1 [.int .u8 (W : Int)] rfl rfl (by intro t u ht; match t, ht with | 0, ht => simp at ht; subst ht; exact Pk.cell_new w3 _ _) (by intro u hu; simp at hu; subst hu; rfl) (by unfold maxLen; omega) (by omega) (by have := HB3.out.size; simp; omega) ?_
                 intro v4 w4 hown4 hgrow4 _
                 have HB4 : Hid (Below w1.heap.size w1 w4) := Lib.hid ((HB3.out.alloc HB3.out.size _).grown hgrow4 (by have := HB3.out.size; simp; omega) (fun j e => (HO3.out.lt j e).1))
                 obtain ⟨g4, c4, rfl⟩ := ownsRow_form hown4 (by omega)
                 have HO4 := Lib.hid hown4
                 have HS4 := Lib.hid (HS1.out.grown (Bs.grown_of HB4.out))
                 have HW4 : Hid (w1.heap.size ≤ w4.heap.size) := Lib.hid HB4.out.size
                 clear hown4 hgrow4)
              | (at_builtin; refine Bs.wpList_append_seg rfl (.tmp 70) (.tmp 71) 23 rfl w1.heap.size 5 i0 Try.underlying23 hi hz0 hz1 hz2 g4 (h0 + 8 + 1) c4 _ rfl HO4.out a1 bl k1 B rfl HS4.out (by omega) HW4.out ?_; intro g5 c5 w5 hown5 hgrow5)
              | fail)
            have HF : Hid (PartE w 0 (encB 3 l) (.returned (.tuple #[.slice (some ⟨g5, 0, none⟩) (h0 + 8 + 1 + bl) c5, .int .i64 0])) w5) := by
              have hB5 : Below w.heap.size w w5 := HB1.out.trans (below_mono (HB4.out.grown hgrow5 HW4.out (fun j e => by cases e; exact (HO4.out.lt g4 rfl).1)) HB1.out.size)
              refine Lib.hid (parte_own (base := w1.heap.size) ?_ hB5)
              rw [HFin.out]
              simp only [List.map_append] at hown5 ⊢
              exact hown5
            clear hown5 hgrow5
            go_ret2
            exact HF.out
end Go.Proofs.Yteolpjlpjjjchaa.In
namespace Go.Proofs.Yteolpjlpjjjchaa.In
open Go.RowKit Go.Joins
open Is (IsI)

theorem putf_parte {w w' : World} {r : Int × List Int} {E : Int} {B : List Int} {e : Ending} (h : PutE w r e w') (hr : r = (E, B)) {m : Nat} (hm : B.length = m) :
    ∃ a k, e = .returned (.tuple #[.slice a m k, .int .i64 E]) ∧ Bs.Seg w' a m k B ∧ Below w.heap.size w w' := by
  subst hr
  obtain ⟨a, m', k, he, hm', hs, hb⟩ := h
  obtain rfl : m' = m := hm'.trans hm
  exact ⟨a, k, he, hs, hb⟩

set_option maxRecDepth 100000 in
set_option maxHeartbeats 2000000 in
theorem rbest_any (a : Option Addr) (n c : Nat) (l : List Int) (w : World) (hs : Is.Seg w a n c l) :
    Calls Try.prog 19 #[.slice a n c] w (PutE w (tooMany l (bestB l))) := by
  by_cases hn : 4096 < n
  · have e1 : ∀ e, tooMany l e = (3, []) := fun e => by unfold tooMany; rw [if_pos (by rw [hs.len]; exact hn)]
    have HP := Lib.hid (rplain_any a n c l w hs)
    rw [e1] at HP ⊢
    clear hs e1 hn
    go_enter Try.func19, Try.ntmps19
    go_wp2_with fail
    refine HP.out.mono ?_
    intro e w1 h
    obtain ⟨a1, k1, rfl, hs1, hb1⟩ := putf_parte h rfl rfl
    have HF : Hid (PutE w (3, []) (.returned (.tuple #[.slice none 0 0, .int .i64 3])) w1) := Lib.hid ⟨none, 0, 0, rfl, rfl, Bs.Seg.nil _, hb1⟩
    clear h hs1 hb1
    dsimp only [List.length_nil]
    go_wp2
    go_ret2
    exact HF.out
  · have e1 : ∀ e, tooMany l e = (0, e) := fun e => by unfold tooMany; rw [if_neg (by rw [hs.len]; exact hn)]
    have HP := Lib.hid (rplain_any a n c l w hs)
    have HR := Lib.hid (fun W h => rruns_any a n c l W h)
    have HT := Lib.hid (fun W h => rpacked_any a n c l W h)
    rw [e1] at HP HR HT ⊢
    have HSeg := Lib.hid hs
    obtain ⟨p, hp⟩ : ∃ p, (encB 1 l).length = p := ⟨_, rfl⟩
    obtain ⟨r, hr⟩ : ∃ p, (encB 2 l).length = p := ⟨_, rfl⟩
    obtain ⟨t, ht⟩ : ∃ p, (encB 3 l).length = p := ⟨_, rfl⟩
    have HLs := Lib.hid (show (encB 1 l).length = p ∧ (encB 2 l).length = r ∧ (encB 3 l).length = t from ⟨hp, hr, ht⟩)
    clear hs e1 hn hp hr ht
    go_enter Try.func19, Try.ntmps19
    go_wp2_with fail
    refine HP.out.mono ?_
    intro e w1 h
    obtain ⟨a1, k1, rfl, hs1, hb1⟩ := putf_parte h rfl HLs.out.1
    have S1 := Lib.hid hs1
    have B1 := Lib.hid hb1
    have HR1 := Lib.hid (HR.out w1 (iseg_below HSeg.out hb1 rfl))
    clear h hs1 hb1 HP HR
    dsimp only
    go_wp2_with fail
    refine HR1.out.mono ?_
    intro e w2 h
    obtain ⟨a2, k2, rfl, hs2, hb2⟩ := putf_parte h rfl HLs.out.2.1
    have S1b := Lib.hid (S1.out.grown (Bs.grown_of hb2))
    have S2 := Lib.hid hs2
    have B2 : Hid (Below w.heap.size w w2) := Lib.hid (B1.out.trans (below_mono hb2 B1.out.size))
    have HT1 := Lib.hid (HT.out w2 (iseg_below HSeg.out B2.out rfl))
    clear h hs2 hb2 HR1 HT S1 B1
    dsimp only
    by_cases c1 : r < p
    · go_wp2_with fail
      refine HT1.out.mono ?_
      intro e w3 h
      obtain ⟨a3, k3, rfl, hs3, hb3⟩ := putf_parte h rfl HLs.out.2.2
      have S2b := Lib.hid (S2.out.grown (Bs.grown_of hb3))
      have S3 := Lib.hid hs3
      have B3 : Hid (Below w.heap.size w w3) := Lib.hid (B2.out.trans (below_mono hb3 B2.out.size))
      clear h hs3 hb3 HT1
      dsimp only
      by_cases c2 : t < r
      · have HF : Hid (PutE w (0, bestB l) (.returned (.tuple #[.slice a3 t k3, .int .i64 0])) w3) := Lib.hid (by
          have e : bestB l = encB 3 l := by
            obtain ⟨h1, h2, h3⟩ := HLs.out
            unfold bestB
            simp only
            rw [if_pos (by omega : (encB 2 l).length < (encB 1 l).length), if_pos (by omega)]
          rw [e]
          exact ⟨a3, t, k3, rfl, HLs.out.2.2.symm, S3.out, B3.out⟩)
        go_wp2
        go_ret2
        exact HF.out
      · have HF : Hid (PutE w (0, bestB l) (.returned (.tuple #[.slice a2 r k2, .int .i64 0])) w3) := Lib.hid (by
          have e : bestB l = encB 2 l := by
            obtain ⟨h1, h2, h3⟩ := HLs.out
            unfold bestB
            simp only
            rw [if_pos (by omega : (encB 2 l).length < (encB 1 l).length), if_neg (by omega)]
          rw [e]
          exact ⟨a2, r, k2, rfl, HLs.out.2.1.symm, S2b.out, B3.out⟩)
        go_wp2
        go_ret2
        exact HF.out
    · go_wp2_with fail
      refine HT1.out.mono ?_
      intro e w3 h
      obtain ⟨a3, k3, rfl, hs3, hb3⟩ := putf_parte h rfl HLs.out.2.2
      have S1c := Lib.hid (S1b.out.grown (Bs.grown_of hb3))
      have S3 := Lib.hid hs3
      have B3 : Hid (Below w.heap.size w w3) := Lib.hid (B2.out.trans (below_mono hb3 B2.out.size))
      clear h hs3 hb3 HT1
      dsimp only
      by_cases c2 : t < p
      · have HF : Hid (PutE w (0, bestB l) (.returned (.tuple #[.slice a3 t k3, .int .i64 0])) w3) := Lib.hid (by
          have e : bestB l = encB 3 l := by
            obtain ⟨h1, h2, h3⟩ := HLs.out
            unfold bestB
            simp only
            rw [if_neg (by omega : ¬ (encB 2 l).length < (encB 1 l).length), if_pos (by omega)]
          rw [e]
          exact ⟨a3, t, k3, rfl, HLs.out.2.2.symm, S3.out, B3.out⟩)
        go_wp2
        go_ret2
        exact HF.out
      · have HF : Hid (PutE w (0, bestB l) (.returned (.tuple #[.slice a1 p k1, .int .i64 0])) w3) := Lib.hid (by
          have e : bestB l = encB 1 l := by
            obtain ⟨h1, h2, h3⟩ := HLs.out
            unfold bestB
            simp only
            rw [if_neg (by omega : ¬ (encB 2 l).length < (encB 1 l).length), if_neg (by omega)]
          rw [e]
          exact ⟨a1, p, k1, rfl, HLs.out.1.symm, S1c.out, B3.out⟩)
        go_wp2
        go_ret2
        exact HF.out
end Go.Proofs.Yteolpjlpjjjchaa.In
