/-
  The statements' helpers on strings: Times, full, small, bytes of an act; LightGeo; bytes.Clone, slices.Clone.
-/
import Derived.Test.YtjhcjnalomdbnaaDoorDevLib
import Derived.Laws.Concat
import Derived.Laws.AppendOwnNone
import Derived.Laws.BytesArg
namespace Go.Proofs.YtjhcjnalomdbnaaDoor.Dv
open Go.RowKit Bs

theorem ret_str {a b : ByteArray} (h : a = b) : Ending.returned (.string a) = .returned (.string b) := by rw [h]

def rep (n : Nat) (x : Int) : List Int := List.replicate n x
theorem rep_add (a b : Nat) (x : Int) : rep a x ++ rep b x = rep (a + b) x := by simp [rep, List.replicate_append_replicate]
theorem rep_isB (n : Nat) (x : Int) (h : 0 ≤ x ∧ x < 256) : IsB (rep n x) := isB_rep n x h
theorem rep_len (n : Nat) (x : Int) : (rep n x).length = n := by simp [rep]
def strep (n : Nat) (x : Int) : ByteArray := strOfNums (rep n x)
theorem strep_add (a b : Nat) (x : Int) : strep a x ++ strep b x = strep (a + b) x := by unfold strep; rw [str_append, rep_add]
theorem strep_size (n : Nat) (x : Int) : (strep n x).size = n := by unfold strep; rw [strOfNums_size, rep_len]
theorem strep_zero (x : Int) : strep 0 x = ⟨#[]⟩ := rfl

theorem dbl (m c n N : Nat) (h : m + c * n = N) : m + (c + c) * (n / 2) + c * (n % 2) = N := by
  have h1 : c * n = c * (2 * (n / 2) + n % 2) := by rw [Nat.div_add_mod]
  rw [Nat.mul_add, ← Nat.mul_assoc, Nat.mul_comm c 2] at h1
  have h2 : (c + c) * (n / 2) = 2 * c * (n / 2) := by rw [← Nat.two_mul]
  omega

set_option maxRecDepth 100000 in
set_option maxHeartbeats 1000000 in
theorem times_any (x : Int) (N : Nat) (w : World) (hN : N ≤ 100000000) :
    Calls Tryd.prog 43 #[.string (strep 1 x), .int .i64 N] w fun e w' => e = .returned (.string (strep N x)) ∧ w = w' := by
  have z := strep_zero x
  have HZ := Lib.hid z
  clear z
  go_enter Tryd.func43, Tryd.ntmps43
  go_wp2
  rw [← HZ.out]
  go_loop [0, 1, 5] (fun sv nv ov => ∃ c n m : Nat, sv = .string (strep c x) ∧ nv = .int .i64 n ∧ ov = .string (strep m x) ∧ n ≤ N ∧ Hid (m + c * n = N)) (fun _ nv _ => (intOf nv).toNat)
  case atStart => exact ⟨1, N, 0, rfl, rfl, rfl, Nat.le_refl _, Lib.hid (by omega)⟩
  case round =>
    obtain ⟨c, n, m, rfl, rfl, rfl, hn, HI⟩ := hrel
    by_cases h0 : 0 < n
    · have HD := Lib.hid (dbl m c n N HI.out)
      have hc : c ≤ N := by
        have h1 := HI.out
        have h2 : c * 1 ≤ c * n := Nat.mul_le_mul_left _ h0
        omega
      have hm : m ≤ N := by have h1 := HI.out; omega
      have hb1 : ¬ 9223372036854775807 < (strep m x).size + (strep c x).size := by rw [strep_size, strep_size]; omega
      have hb2 : ¬ 9223372036854775807 < (strep c x).size + (strep c x).size := by rw [strep_size]; omega
      have E2 := Lib.hid (show (n : Int) / 2 = ((n / 2 : Nat) : Int) by omega)
      by_cases h1 : n % 2 = 1
      · have e1 : ((n : Int) % 2 == 1) = true := beq_iff_eq.2 (by omega)
        rw [h1] at HD
        clear h1
        go_wp2
        go_round
        case rel => exact ⟨c + c, n / 2, m + c, by rw [strep_add], by rw [E2.out], by rw [strep_add], by omega, Lib.hid (by have := HD.out; omega)⟩
        case measure => simp [intOf]; omega
      · have e1 : ((n : Int) % 2 == 1) = false := beq_eq_false_iff_ne.2 (by omega)
        rw [show n % 2 = 0 from by omega] at HD
        clear h1
        go_wp2
        go_round
        case rel => exact ⟨c + c, n / 2, m, by rw [strep_add], by rw [E2.out], rfl, by omega, Lib.hid (by have := HD.out; omega)⟩
        case measure => simp [intOf]; omega
    · obtain rfl : n = 0 := by omega
      have HE := Lib.hid (show m = N by have := HI.out; omega)
      clear h0
      go_wp2
      go_ret
      exact ⟨ret_str (by rw [HE.out]), rfl⟩

theorem full_any (x : Int) (N : Nat) (w : World) (hN : N ≤ 100000000) :
    Calls Tryd.prog 14 #[.int .i64 N, .string (strep 1 x)] w fun e w' => e = .returned (.string (strep N x)) ∧ w = w' := by
  go_enter Tryd.func14, Tryd.ntmps14
  go_wp2_with fail
  refine (times_any x N _ hN).mono ?_
  rintro e w' ⟨rfl, rfl⟩
  go_wp2
  go_ret
  exact ⟨rfl, rfl⟩

/-- the bytes of an act -/
def actL (n size : Nat) (b : Int) : List Int := rep n 0 ++ rep (size - n) b
theorem actL_len (n size : Nat) (b : Int) (h : n ≤ size) : (actL n size b).length = size := by simp [actL, rep_len]; omega
theorem actL_isB (n size : Nat) (b : Int) (h : 0 ≤ b ∧ b < 256) : IsB (actL n size b) := isB_append (rep_isB _ _ (by omega)) (rep_isB _ _ h)
def actN (n : Int) (size : Nat) : Nat := (pick n (size + 1)).toNat
theorem actN_le (n : Int) (size : Nat) : actN n size ≤ size := by have := pick_range n (size + 1) (by omega); unfold actN; omega

def LightS (size blocks : Int) : Bool := decide (size < 128 ∨ 4096 < size ∨ blocks < 8 ∨ 4096 < blocks ∨ (size ≤ 512 ∧ blocks ≤ 40))

set_option maxHeartbeats 1000000 in
theorem light_any (size blocks : Int) (w : World) :
    Calls Tryd.prog 22 #[.agg #[.int .i64 size, .int .i64 blocks]] w fun e w' => e = .returned (.bool (LightS size blocks)) ∧ Turn w w' nowhere := by
  have HT := Lib.hid (Turn.alloc w (.cells #[.int .i64 size, .int .i64 blocks] 28) nowhere)
  obtain ⟨r, hr⟩ : ∃ r, r = LightS size blocks := ⟨_, rfl⟩
  have HR := Lib.hid hr
  rw [← hr]
  clear hr
  by_cases h1 : size < 128
  · have HE := Lib.hid (show r = true by rw [HR.out]; exact decide_eq_true (by omega))
    go_enter Tryd.func22, Tryd.ntmps22
    go_wp2
    go_ret
    exact ⟨ret_bool HE.out.symm, HT.out⟩
  · by_cases h2 : 4096 < size
    · have HE := Lib.hid (show r = true by rw [HR.out]; exact decide_eq_true (by omega))
      go_enter Tryd.func22, Tryd.ntmps22
      go_wp2
      go_ret
      exact ⟨ret_bool HE.out.symm, HT.out⟩
    · by_cases h3 : blocks < 8
      · have HE := Lib.hid (show r = true by rw [HR.out]; exact decide_eq_true (by omega))
        go_enter Tryd.func22, Tryd.ntmps22
        go_wp2
        go_ret
        exact ⟨ret_bool HE.out.symm, HT.out⟩
      · by_cases h4 : 4096 < blocks
        · have HE := Lib.hid (show r = true by rw [HR.out]; exact decide_eq_true (by omega))
          go_enter Tryd.func22, Tryd.ntmps22
          go_wp2
          go_ret
          exact ⟨ret_bool HE.out.symm, HT.out⟩
        · by_cases h5 : size ≤ 512
          · by_cases h6 : blocks ≤ 40
            · have HE := Lib.hid (show r = true by rw [HR.out]; exact decide_eq_true (by omega))
              go_enter Tryd.func22, Tryd.ntmps22
              go_wp2
              go_ret
              exact ⟨ret_bool HE.out.symm, HT.out⟩
            · have HE := Lib.hid (show r = false by rw [HR.out]; exact decide_eq_false (by omega))
              go_enter Tryd.func22, Tryd.ntmps22
              go_wp2
              go_ret
              exact ⟨ret_bool HE.out.symm, HT.out⟩
          · have HE := Lib.hid (show r = false by rw [HR.out]; exact decide_eq_false (by omega))
            go_enter Tryd.func22, Tryd.ntmps22
            go_wp2
            go_ret
            exact ⟨ret_bool HE.out.symm, HT.out⟩

/-! ### slices.Clone of writes, bytes.Clone -/
/-- New memory that reads as l. -/
def NewW (w : World) (n : Nat) (l : List (Nat × List Int)) (e : Ending) (w' : World) : Prop :=
  ∃ a c, e = .returned (.slice a n c) ∧ WSeg w' a n c l ∧ (∀ ad, a = some ad → w.heap.size ≤ ad.block) ∧ Turn w w' nowhere

theorem WSeg.own {w : World} {base : Nat} {v : Value} {n : Nat} {l : List (Nat × List Int)} (h : w.ownsRow base 66 2 v n (wrow l)) : ∃ a c, v = .slice a n c ∧ WSeg w a n c l ∧ ∀ ad, a = some ad → base ≤ ad.block := by
  obtain ⟨a, c, rfl, h1, h2, h3, h4⟩ := own_form h
  have hl : l.length = n := by have := h.1; rw [wrow_len] at this; omega
  refine ⟨a, c, rfl, ⟨hl, h1, h2, h3, h4⟩, fun ad had => ?_⟩
  have := (h.lt ad.block (by rw [had]; rfl)).1
  exact this
theorem WSeg.turn {w w' : World} {a : Option Addr} {n c : Nat} {l : List (Nat × List Int)} {S : Nat → Prop} (h : WSeg w a n c l) (k : Turn w w' S) (hS : ∀ ad, a = some ad → ¬ S ad.block) : WSeg w' a n c l :=
  ⟨h.len, h.le, h.cap, h.nil_, fun ad had j u hu => k.cell (h.at_ ad had j u hu) (by rw [block_add]; exact hS ad had)⟩

set_option maxRecDepth 100000 in
set_option maxHeartbeats 1000000 in
theorem wclone_any (v : Value) (n : Nat) (l : List (Nat × List Int)) (w : World) (h : w.ownsRow 0 66 2 v n (wrow l)) (hn : n ≤ 1000000) :
    Calls Tryd.prog 52 #[v] w (NewW w n l) := by
  obtain ⟨i0, hi, hz0, hz1, hz2⟩ := info_parts info_write
  obtain ⟨a, c, rfl, hs, _⟩ := WSeg.own h
  have hnil := fun w => run_eql_slice_nil (P := Tryd.prog) w 45 66 a n c Tryd.underlying45
  cases a with
  | none =>
    obtain ⟨rfl, rfl⟩ := hs.nil_ rfl
    obtain rfl := List.eq_nil_of_length_eq_zero hs.len
    have HE : Hid (NewW w 0 [] (.returned (.slice none 0 0)) w) := Lib.hid ⟨none, 0, rfl, hs, (fun _ e => by cases e), Turn.refl _ _⟩
    clear hs h
    go_enter Tryd.func52, Tryd.ntmps52
    go_wp2
    go_ret
    exact HE.out
  | some ad =>
    have hown := World.ownsRow_made (base := w.heap.size) (e := 66) (size := 2) w #[] 0 (Nat.le_refl _) (by unfold maxLen; omega) rfl
    have HL := Lib.hid (show (wrow l).length = n * 2 by rw [wrow_len, hs.len])
    have HS := Lib.hid (fun j u (hu : (wrow l)[j]? = some u) => (World.grownBy_alloc w (.cells #[] 66) none).cell (hs.at_ ad rfl j u hu) (by simp))
    have HLL := Lib.hid hs.len
    have HLE := Lib.hid hs.le
    have HCP := Lib.hid hs.cap
    clear hs h
    go_enter Tryd.func52, Tryd.ntmps52
    go_wp2_with (at_builtin; refine wpList_append_own _ rfl (.tmp 5) (.tmp 6) 45 rfl w.heap.size 66 i0 (.agg #[.int .i64 0, .string ⟨#[]⟩]) 2 24 Tryd.underlying45 hi hz0 hz1 hz2 rfl (by decide) (.slice (some ⟨w.heap.size, 0, none⟩) 0 0) 0 [] rfl hown ad n c (wrow l) rfl HL.out HS.out (wrow_one l) (by unfold maxLen; omega) (by omega) (by simp) ?_; intro v' w1 hown1 hgrow1 hnil1)
    rw [Nat.zero_add, List.nil_append] at hown1
    obtain ⟨a', c', rfl, hs', hb'⟩ := WSeg.own hown1
    have hfin : NewW w n l (.returned (.slice a' n c')) w1 := ⟨a', c', rfl, hs', hb', (Turn.alloc w _ nowhere).trans (Turn.of_grown hgrow1 (S := fun i => w.heap.size ≤ i) (fun i e _ => by cases e; exact Nat.le_refl _)) (fun i hi h => by omega)⟩
    have HE := Lib.hid hfin
    clear hfin hown1 hgrow1 hnil1 hs' hb'
    go_wp2
    go_ret
    first | exact HE.out | (rw [Nat.zero_add]; exact HE.out)

/-- New memory that reads as l. -/
def NewR (w : World) (n : Nat) (l : List Int) (e : Ending) (w' : World) : Prop :=
  ∃ g c, e = .returned (.slice (some ⟨g, 0, none⟩) n c) ∧ Reg w' g 0 l ∧ w.heap.size ≤ g ∧ n ≤ c ∧ c ≤ maxLen ∧ Turn w w' nowhere

set_option maxRecDepth 100000 in
set_option maxHeartbeats 1000000 in
theorem bclone_any (b n c : Nat) (l : List Int) (w : World) (h : Seg w (some ⟨b, 0, none⟩) n c l) (hn : n ≤ 1000000000) :
    Calls Tryd.prog 46 #[.slice (some ⟨b, 0, none⟩) n c] w (NewR w n l) := by
  obtain ⟨i0, hi, hz0, hz1, hz2⟩ := info_parts info_u8
  have hnil := fun w => run_eql_slice_nil (P := Tryd.prog) w 68 5 (some ⟨b, 0, none⟩) n c Tryd.underlying68
  have hown := World.ownsRow_made (base := w.heap.size) (e := 5) (size := 1) w #[] 0 (Nat.le_refl _) (by unfold maxLen; omega) rfl
  have HL := Lib.hid (show (l.map (Value.int .u8)).length = n * 1 by simp [h.len])
  have HS := Lib.hid (fun j u (hu : (l.map (Value.int .u8))[j]? = some u) => (World.grownBy_alloc w (.cells #[] 5) none).cell (h.at_ _ rfl j u hu) (by simp))
  clear h
  go_enter Tryd.func46, Tryd.ntmps46
  go_wp2_with (at_builtin; refine wpList_append_own _ rfl (.tmp 5) (.tmp 6) 68 rfl w.heap.size 5 i0 (.int .u8 0) 1 1 Tryd.underlying68 hi hz0 hz1 hz2 rfl (by decide) (.slice (some ⟨w.heap.size, 0, none⟩) 0 0) 0 [] rfl hown ⟨b, 0, none⟩ n c (l.map (Value.int .u8)) rfl HL.out HS.out (ints_oneCell _ _) (by unfold maxLen; omega) (by omega) (by simp) ?_; intro v' w1 hown1 hgrow1 hnil1)
  rw [Nat.zero_add, List.nil_append] at hown1
  obtain ⟨g', c', rfl, hle, hcm⟩ : ∃ g' c', v' = .slice (some ⟨g', 0, none⟩) n c' ∧ n ≤ c' ∧ c' ≤ maxLen := by
    rcases hown1.2 with ⟨e, _⟩ | ⟨g, c', cur, e, _, _, h1, h2, _⟩
    · exact absurd (hnil1.1 e).1 (by simp)
    · exact ⟨g, c', e, h1, h2⟩
  have hfin : NewR w n l (.returned (.slice (some ⟨g', 0, none⟩) n c')) w1 := ⟨g', c', rfl, Reg.own hown1, (hown1.lt _ rfl).1, hle, hcm, (Turn.alloc w _ nowhere).trans (Turn.of_grown hgrow1 (S := fun i => w.heap.size ≤ i) (fun i e _ => by cases e; exact Nat.le_refl _)) (fun i hi h => by omega)⟩
  have HE := Lib.hid hfin
  clear hfin hown1 hgrow1 hnil1
  go_wp2
  go_ret
  first | exact HE.out | (rw [Nat.zero_add]; exact HE.out)
end Go.Proofs.YtjhcjnalomdbnaaDoor.Dv
