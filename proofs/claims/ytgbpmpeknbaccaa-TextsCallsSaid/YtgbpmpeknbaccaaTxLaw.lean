/-
  The callees' contracts in the laws' form; light, has, lives.
-/
import Derived.Test.YtgbpmpeknbaccaaTxGet
import Derived.Test.YtgbpmpeknbaccaaSOwn
import Derived.Test.YtgbpmpeknbaccaaMemLib
import Derived.Test.YtgbpmpeknbaccaaMemMore
namespace Go.Proofs.Ytgbpmpeknbaccaa.Tx
open Go.RowKit Go.Joins
open Ss (IsS encW)
open Pk (PutF Turn.then below_of turn_of)
open In (turn_below)
open Dv (Turn nowhere)

theorem plain_form {l : List (List Int)} {E : Int} {B : List Int} {m : Nat} (hR : formR (plainT l) l = (E, B)) (hm : B.length = m) (hb : AllB l) (a : Option Addr) (n c : Nat) (W : World) (hs : Ss.Seg W a n c l) :
    Calls Try.prog 13 #[.slice a n c] W (PutF W m E B) :=
  (plain_any a n c l W hs hb).mono fun _ _ h => putT_form h hR hm
theorem dict_form {l : List (List Int)} {E : Int} {B : List Int} {m : Nat} (hR : formR (dictT l) l = (E, B)) (hm : B.length = m) (hb : AllB l) (a : Option Addr) (n c : Nat) (W : World) (hs : Ss.Seg W a n c l) :
    Calls Try.prog 10 #[.slice a n c] W (PutF W m E B) :=
  (dict_any a n c l W hs hb).mono fun _ _ h => putT_form h hR hm
theorem put_form {l : List (List Int)} {E : Int} {B : List Int} {m : Nat} (hR : formR (bestT l) l = (E, B)) (hm : B.length = m) (hb : AllB l) (a : Option Addr) (n c : Nat) (W : World) (hs : Ss.Seg W a n c l) :
    Calls Try.prog 9 #[.slice a n c] W (PutF W m E B) :=
  (put_any a n c l W hs hb).mono fun _ _ h => putT_form h hR hm
/-- a result of texts and an error -/
def GotF (w : World) (m : Nat) (E : Int) (L : List (List Int)) (e : Ending) (w' : World) : Prop :=
  ∃ a k, e = .returned (.tuple #[.slice a m k, .int .i64 E]) ∧ Ss.Seg w' a m k L ∧ Turn w w' nowhere
theorem got_of {w w' : World} {r : Int × List (List Int)} {e : Ending} {E : Int} {L : List (List Int)} {m : Nat} (h : GetE w r e w') (hr : r = (E, L)) (hm : L.length = m) : GotF w m E L e w' := by
  subst hr
  obtain ⟨a, k, he, hs, hb⟩ := h
  subst hm
  exact ⟨a, k, he, hs, turn_below hb⟩
theorem got_form {bs : List Int} {E : Int} {L : List (List Int)} {m : Nat} (hR : resT (getT bs) = (E, L)) (hm : L.length = m) (hb : Oct.IsB bs) (hn : bs.length ≤ 100000000) (a : Option Addr) (n c : Nat) (W : World) (hs : Bs.Seg W a n c bs) :
    Calls Try.prog 11 #[.slice a n c] W (GotF W m E L) :=
  (get_any a n c bs W hs hb (by rw [← hs.len]; exact hn)).mono fun _ _ h => got_of h hR hm
/-- a result of texts -/
def StrF (w : World) (m : Nat) (L : List (List Int)) (e : Ending) (w' : World) : Prop :=
  ∃ a k, e = .returned (.slice a m k) ∧ Ss.Seg w' a m k L ∧ Turn w w' nowhere
theorem words_form {l L : List (List Int)} {m : Nat} (hR : wordsF l = L) (hm : L.length = m) (hS : IsS l) (hl : l.length ≤ 65536) (a : Option Addr) (n c : Nat) (W : World) (hs : Ss.Seg W a n c l) :
    Calls Try.prog 15 #[.slice a n c] W (StrF W m L) :=
  (words_any a n c l W hs hS (by rw [← hs.len]; exact hl)).mono fun e w' h => by
    rw [hR] at h
    obtain ⟨a', k, he, h1, h2⟩ := h
    subst hm
    exact ⟨a', k, he, h1, turn_below h2⟩
theorem ssame_form (a0 a1 : Option Addr) (n0 n1 c0 c1 : Nat) (l0 l1 : List (List Int)) (W : World) (h0 : Ss.Seg W a0 n0 c0 l0) (h1 : Ss.Seg W a1 n1 c1 l1) (i0 : IsS l0) (i1 : IsS l1) (b : Bool) (hb : Ss.sameB l0 l1 = b) :
    Calls Try.prog 14 #[.slice a0 n0 c0, .slice a1 n1 c1] W fun e w' => e = .returned (.bool b) ∧ Turn W w' nowhere :=
  (Ss.same_any a0 a1 n0 n1 c0 c1 l0 l1 W h0 h1 i0 i1).mono fun e w' h => by obtain ⟨he, m, rfl⟩ := h; exact ⟨by rw [he, hb], Turn.drewN W m nowhere⟩
theorem sseg_stay {w w' : World} {a : Option Addr} {n c : Nat} {l : List (List Int)} (h : Ss.Seg w a n c l) (k : Turn w w' nowhere) : Ss.Seg w' a n c l := h.grown k.grown
/-- 'string(b)' of bytes, nil too. -/
theorem conv_any {w : World} {a : Option Addr} {n c : Nat} {l : List Int} (hs : Bs.Seg w a n c l) (hn : 0 < n) : (convert 23 9 (.slice a n c)).run Try.prog w = .ok (.string (strOfNums l)) w := In.conv_seg hs hn

/-! ### light, has, lives -/
def totL (l : List (List Int)) : Nat := (l.map List.length).sum
theorem tot_take (l : List (List Int)) (k : Nat) (x : List Int) (h : k < l.length) (hx : l.getD k [] = x) : totL (l.take (k + 1)) = totL (l.take k) + x.length := by
  have e : l[k] = x := by rw [← hx]; simp [List.getD, h]
  rw [List.take_succ_eq_append_getElem h, e]
  simp [totL]
theorem tot_le (l : List (List Int)) (k : Nat) : totL (l.take k) ≤ totL l := by
  have : totL l = totL (l.take k) + totL (l.drop k) := by
    unfold totL
    rw [← List.sum_append, ← List.map_append, List.take_append_drop]
  omega
theorem tot_mem {l : List (List Int)} {s : List Int} (h : s ∈ l) : s.length ≤ totL l := by
  induction l with
  | nil => cases h
  | cons x l ih =>
    simp only [totL, List.map_cons, List.sum_cons] at ih ⊢
    rcases List.mem_cons.1 h with e | h
    · subst e; omega
    · have := ih h; omega
/-- are texts gone through? -/
def lightB (l : List (List Int)) : Bool := decide (l.length ≤ 60 ∧ totL l ≤ 600)
theorem light_iff (l : List (List Int)) : lightB l = true ↔ l.length ≤ 60 ∧ totL l ≤ 600 := by simp [lightB]
theorem light_ok {l : List (List Int)} (h : lightB l = true) : OkT l := by
  obtain ⟨h1, h2⟩ := (light_iff l).1 h
  exact ⟨by omega, fun s hs => by have := tot_mem hs; omega⟩

set_option maxRecDepth 100000 in
set_option maxHeartbeats 1000000 in
theorem lightTexts_any (a : Option Addr) (n c : Nat) (l : List (List Int)) (w : World) (hs : Ss.Seg w a n c l) (hS : IsS l) :
    Calls Try.prog 39 #[.slice a n c, .int .i64 60, .int .i64 600] w fun e w' => e = .returned (.bool (lightB l)) ∧ w = w' := by
  have hm := hs.cap
  have hle := hs.le
  unfold maxLen at hm
  have HL := Lib.hid hs.len
  have HSeg := Lib.hid hs
  have HS := Lib.hid hS
  clear hs hS
  by_cases hn : 60 < n
  · have HF : Hid (lightB l = false) := Lib.hid (Bool.eq_false_iff.2 fun h => by have := ((light_iff l).1 h).1; rw [HL.out] at this; omega)
    have hn' : (60 : Int) < (n : Int) := by omega
    clear hn
    go_enter Try.func39, Try.ntmps39
    go_wp2
    go_ret
    exact ⟨Bs.ret_bool HF.out.symm, rfl⟩
  · have hn' : ¬ (60 : Int) < (n : Int) := by omega
    go_enter Try.func39, Try.ntmps39
    go_wp2
    go_loopw [7, 8] (fun so si wr => ∃ k t : Nat, k ≤ n ∧ si = .int .i64 k ∧ so = .int .i64 t ∧ w = wr ∧ Hid (totL (l.take k) = t) ∧ t ≤ 600) (fun _ si _ => n - (intOf si).toNat)
    case atStart => exact ⟨0, 0, Nat.zero_le _, rfl, rfl, rfl, Lib.hid (by simp [totL]), by decide⟩
    case round =>
      obtain ⟨k, t, hk, rfl, rfl, rfl, HT, ht⟩ := hrel
      by_cases hlt : k < n
      · obtain ⟨g, o, rfl, hc⟩ := HSeg.out.addr (by omega)
        have g1 := hc k hlt
        have hxl := (HS.out.at k).2
        obtain ⟨x, hx⟩ : ∃ x, l.getD k [] = x := ⟨_, rfl⟩
        have HX := Lib.hid (tot_take l k x (by rw [HL.out]; exact hlt) hx)
        rw [hx] at g1 hxl
        have hss := strOfNums_size x
        obtain ⟨q, hq⟩ : ∃ q, x.length = q := ⟨_, rfl⟩
        rw [hq] at hss hxl
        have hw : wrap64 ((t : Int) + (q : Int)) = (t : Int) + (q : Int) := by rw [← IntWalk.i64_left, IntKind.wrap_i64]; omega
        have HQ := Lib.hid hq
        clear hc hx hq hn
        by_cases hov : 600 < t + q
        · have HF : Hid (lightB l = false) := Lib.hid (Bool.eq_false_iff.2 fun h => by
            have h1 := ((light_iff l).1 h).2
            have h2 := tot_le l (k + 1)
            rw [HX.out, HT.out, HQ.out] at h2
            omega)
          have hov' : (600 : Int) < (t : Int) + (q : Int) := by omega
          clear hov
          go_wp2
          go_ret
          exact ⟨Bs.ret_bool HF.out.symm, rfl⟩
        · have HX2 : Hid (totL (l.take (k + 1)) = t + q) := Lib.hid (by rw [HX.out, HT.out, HQ.out])
          have hov' : ¬ (600 : Int) < (t : Int) + (q : Int) := by omega
          have HZ6 : Hid (t + q ≤ 600) := Lib.hid (by omega)
          clear hov
          go_wp2
          go_roundw
          case rel => exact ⟨k + 1, t + q, by omega, by go_num, by go_num, trivial, HX2, HZ6.out⟩
          case measure => simp [intOf]; omega
      · obtain rfl : k = n := by omega
        have HF : Hid (lightB l = true) := Lib.hid ((light_iff l).2 ⟨by rw [HL.out]; omega, by
          have := HT.out
          rw [List.take_of_length_le (Nat.le_of_eq HL.out)] at this
          omega⟩)
        go_wp2
        go_ret
        exact ⟨Bs.ret_bool HF.out.symm, rfl⟩

theorem light_any (a : Option Addr) (n c : Nat) (l : List (List Int)) (w : World) (hs : Ss.Seg w a n c l) (hS : IsS l) :
    Calls Try.prog 16 #[.slice a n c] w fun e w' => e = .returned (.bool (lightB l)) ∧ w = w' := by
  have HC := Lib.hid (lightTexts_any a n c l w hs hS)
  obtain ⟨y, hy⟩ : ∃ y, lightB l = y := ⟨_, rfl⟩
  rw [hy] at HC ⊢
  clear hs hS hy
  go_enter Try.func16, Try.ntmps16
  go_wp2_with (go_at_call 39; refine HC.out.mono ?_; rintro e w' ⟨rfl, rfl⟩)
  go_ret
  exact ⟨rfl, rfl⟩

set_option maxHeartbeats 1000000 in
theorem has_any (a : Option Addr) (n c : Nat) (l : List (List Int)) (s : List Int) (w : World) (hs : Ss.Seg w a n c l) (hS : IsS l) (hb : Bs.IsB s) :
    Calls Try.prog 23 #[.slice a n c, .string (strOfNums s)] w fun e w' => e = .returned (.bool (decide (s ∈ l))) ∧ w = w' := by
  have hm := hs.cap
  have hle := hs.le
  unfold maxLen at hm
  have HL := Lib.hid hs.len
  have HSeg := Lib.hid hs
  have HS := Lib.hid hS
  have HB := Lib.hid hb
  clear hs hS hb
  go_enter Try.func23, Try.ntmps23
  go_wp2
  go_loopw [5] (fun si wr => ∃ k : Nat, k ≤ n ∧ si = .int .i64 k ∧ w = wr ∧ Hid (¬ s ∈ l.take k)) (fun si _ => n - (intOf si).toNat)
  case atStart => exact ⟨0, Nat.zero_le _, rfl, rfl, Lib.hid (by simp)⟩
  case round =>
    obtain ⟨k, hk, rfl, rfl, HK⟩ := hrel
    by_cases hlt : k < n
    · obtain ⟨g, o, rfl, hc⟩ := HSeg.out.addr (by omega)
      have g1 := hc k hlt
      have hkl : k < l.length := by rw [HL.out]; exact hlt
      have hxb := (HS.out.at k).1
      have hmem : l.getD k [] ∈ l := take_at hkl
      have htk : l.take (k + 1) = l.take k ++ [l.getD k []] := by
        rw [List.take_succ_eq_append_getElem hkl]; simp [List.getD, hkl]
      obtain ⟨x, hx⟩ : ∃ x, l.getD k [] = x := ⟨_, rfl⟩
      rw [hx] at g1 hxb hmem htk
      clear hc hx
      by_cases he : x = s
      · subst he
        have HF : Hid (decide (x ∈ l) = true) := Lib.hid (decide_eq_true hmem)
        clear hmem htk
        go_wp2
        go_ret
        exact ⟨Bs.ret_bool HF.out.symm, rfl⟩
      · have HK2 : Hid (¬ s ∈ l.take (k + 1)) := Lib.hid (by
          rw [htk]
          intro h
          rcases List.mem_append.1 h with h | h
          · exact HK.out h
          · exact he (List.mem_singleton.1 h).symm)
        have hne := Ss.ne_strs hxb HB.out he
        clear hmem htk he
        go_wp2
        go_roundw
        case rel => exact ⟨k + 1, by omega, by go_num, trivial, HK2⟩
        case measure => simp [intOf]; omega
    · obtain rfl : k = n := by omega
      have HF : Hid (decide (s ∈ l) = false) := Lib.hid (decide_eq_false (by have := HK.out; rwa [List.take_of_length_le (Nat.le_of_eq HL.out)] at this))
      go_wp2
      go_ret
      exact ⟨Bs.ret_bool HF.out.symm, rfl⟩

theorem isB_of (l : List (List Int)) (h : (l.all fun s => s.all fun x => decide (0 ≤ x) && decide (x < 256)) = true) : AllB l := fun s hs => Bs.isB_of s (List.all_eq_true.1 h s hs)
set_option maxRecDepth 100000 in
set_option maxHeartbeats 1000000 in
theorem lives_any (w : World) : Calls Try.prog 8 #[] w fun e w' => e = .returned (.bool true) ∧ Turn w w' nowhere := by
  have HP := Lib.hid (put_form (l := [[97], [97], [97], [97], [97], [97]]) (E := 0) (B := [2, 6, 1, 1, 97, 0]) (m := 6) (by decide +kernel) rfl (isB_of _ (by decide)) _ _ _ _ (Ss.lit_seg w [[97], [97], [97], [97], [97], [97]] (by decide)))
  have HT := Lib.hid (Turn.alloc w (.cells #[.string ⟨#[97]⟩, .string ⟨#[97]⟩, .string ⟨#[97]⟩, .string ⟨#[97]⟩, .string ⟨#[97]⟩, .string ⟨#[97]⟩] 9) nowhere)
  go_enter Try.func8, Try.ntmps8
  go_wp2_with fail
  refine HP.out.mono ?_
  rintro e w1 ⟨a, k, rfl, hs, hT⟩
  have T1 := Lib.hid (Turn.then HT.out hT)
  have hc1 : (convert 23 9 (.slice a 6 k)).run Try.prog w1 = .ok (.string ⟨#[2, 6, 1, 1, 97, 0]⟩) w1 := In.conv_seg hs (by decide)
  clear hs hT
  dsimp only
  go_wp2
  go_ret
  exact ⟨rfl, T1.out⟩
end Go.Proofs.Ytgbpmpeknbaccaa.Tx
