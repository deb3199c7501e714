/-
  Texts read again: getCount, getStrings, getPlain.
-/
import Derived.Test.YtgbpmpeknbaccaaTxDict
import Derived.Laws.MakeOwn
import Derived.WalkMore
namespace Go.Proofs.Ytgbpmpeknbaccaa.Tx
open Go.RowKit Go.Joins
open Ss (IsS encW info_str)
open Oct (Rd ReadN ReadV readV ofB)
open In (At turn_read turn_row turn_more own_at turn_below below_mono isB_drop isB_take)
open Dv (Turn nowhere)

def roomS (S : Nat) : Array Value := madeCells (Value.string ⟨#[]⟩).cells S
theorem roomS_size (S : Nat) : (roomS S).size = S := size_madeCells _ _
theorem make_roomS (S : Nat) (hS : S ≤ 1000000) (W : World) : (Instr.makeSlice 27 (.int .i64 0) (.int .i64 (S : Int))).run Try.prog W = .ok (.slice (some ⟨W.heap.size, 0, none⟩) 0 S) (W.alloc (.cells (roomS S) 9)) := by
  obtain ⟨i0, hi, hz0, hz1, hz2⟩ := info_parts info_str
  have h := run_make (P := Try.prog) W 27 9 i0 (.string ⟨#[]⟩) Try.underlying27 hi hz0 .i64 .i64 0 (S : Int) (by omega) (by omega) (by rw [hz2]; omega) (by omega)
  rw [hz1, Int.toNat_natCast, Nat.mul_one] at h
  exact h
/-- 'string(b)', b of the call's own. -/
theorem conv_own {w : World} {base e g n c : Nat} {l : List Int} (h : w.ownsRow base e 1 (.slice (some ⟨g, 0, none⟩) n c) n (l.map (Value.int .u8))) : (convert 23 9 (.slice (some ⟨g, 0, none⟩) n c)).run Try.prog w = .ok (.string (strOfNums l)) w := by
  have hs := Bs.Seg.own h
  refine run_convert_bytes_arg w 23 5 Try.underlying23 Try.underlying5 g 0 n c l hs.len (fun j hj => ?_) 9 Try.underlying9
  have := hs.at_ _ rfl j (.int .u8 (l.getD j 0)) (by simp [List.getD, show j < l.length by have := hs.len; omega])
  rwa [Addr.add_lit] at this

/-- a count, or an error -/
def CountX (b g : Nat) (w : World) (r : Option (Nat × List Int)) (e : Ending) (w' : World) : Prop :=
  Turn w w' (At b) ∧ w.heap.size ≤ w'.heap.size ∧ match r with
    | some (n, rest) => e = .returned (.tuple #[.int .i64 n, .int .i64 0]) ∧ Rd w' b g rest
    | none => e = .returned (.tuple #[.int .i64 0, .int .i64 4])

set_option maxRecDepth 100000 in
set_option maxHeartbeats 1000000 in
theorem getCount_any (b g : Nat) (bs : List Int) (w : World) (h : Rd w b g bs) (hb : Oct.IsB bs) :
    Calls Try.prog 63 #[.pointer (some ⟨b, 0, none⟩)] w (CountX b g w (readC bs)) := by
  have HVar := Lib.hid (Oct.var_any b g bs w h hb)
  unfold ReadV at HVar
  obtain ⟨v, er, nn, hv⟩ : ∃ v er nn, readV 0 0 bs = (v, er, nn) := ⟨_, _, _, rfl⟩
  have hvb : er = 0 → 0 ≤ v := fun h0 => by subst h0; exact (In.var_readV bs hb v nn hv).1
  unfold readC
  rw [hv] at HVar ⊢
  dsimp only at HVar ⊢
  clear h hb hv
  by_cases he : er = 0
  · subst he
    have hv0 := hvb rfl
    clear hvb
    by_cases hl : 4096 < v
    · rw [if_pos (.inr hl)]
      go_enter Try.func63, Try.ntmps63
      go_wp2_with fail
      refine HVar.out.mono ?_
      rintro e w1 ⟨rfl, hg, hr⟩
      have HF : Hid (CountX b g w none (.returned (.tuple #[.int .i64 0, .int .i64 4])) w1) := Lib.hid ⟨turn_read hg, hg.size, rfl⟩
      clear hg hr
      dsimp only
      go_wp2
      go_ret2
      exact HF.out
    · rw [if_neg (by simp; omega)]
      obtain ⟨m, rfl⟩ := Int.eq_ofNat_of_zero_le hv0
      rw [Int.toNat_natCast]
      go_enter Try.func63, Try.ntmps63
      go_wp2_with fail
      refine HVar.out.mono ?_
      rintro e w1 ⟨rfl, hg, hr⟩
      have HF : Hid (CountX b g w (some (m, bs.drop nn)) (.returned (.tuple #[.int .i64 m, .int .i64 0])) w1) := Lib.hid ⟨turn_read hg, hg.size, rfl, hr⟩
      clear hg hr
      dsimp only
      go_wp2
      go_ret2
      exact HF.out
  · rw [if_pos (.inl he)]
    go_enter Try.func63, Try.ntmps63
    go_wp2_with fail
    refine HVar.out.mono ?_
    rintro e w1 ⟨rfl, hg, hr⟩
    have HF : Hid (CountX b g w none (.returned (.tuple #[.int .i64 0, .int .i64 4])) w1) := Lib.hid ⟨turn_read hg, hg.size, rfl⟩
    clear hg hr
    dsimp only
    go_wp2
    go_ret2
    exact HF.out

/-- texts, and what is left; or an error -/
def GetsX (b g : Nat) (w : World) (r : Option (List (List Int) × List Int)) (e : Ending) (w' : World) : Prop :=
  Turn w w' (At b) ∧ match r with
    | some (l, rest) => ∃ a c, e = .returned (.tuple #[.slice a l.length c, .int .i64 0]) ∧ Ss.Seg w' a l.length c l ∧ Rd w' b g rest ∧ ∀ ad, a = some ad → w.heap.size ≤ ad.block
    | none => ∃ E : Int, E ≠ 0 ∧ e = .returned (.tuple #[.slice none 0 0, .int .i64 E])

theorem readSs_step (n k : Nat) (bs : List Int) (acc : List (List Int)) (rest : List Int) (hk : k < n) (h : readSs n bs = (readSs (n - k) rest).map (fun p => (acc ++ p.1, p.2))) :
    (readS rest = none → readSs n bs = none) ∧ (∀ s r, readS rest = some (s, r) → readSs n bs = (readSs (n - (k + 1)) r).map (fun p => ((acc ++ [s]) ++ p.1, p.2))) := by
  have e : n - k = (n - (k + 1)) + 1 := by omega
  rw [e, readSs] at h
  refine ⟨fun hn => ?_, fun s r hs => ?_⟩
  · rw [hn] at h; exact h
  · rw [hs] at h
    dsimp only at h
    rw [h]
    cases readSs (n - (k + 1)) r with
    | none => rfl
    | some p => obtain ⟨l1, r1⟩ := p; simp

set_option maxRecDepth 100000 in
set_option maxHeartbeats 2000000 in
theorem getStrings_any (b g n : Nat) (bs : List Int) (w : World) (h : Rd w b g bs) (hg : g < w.heap.size) (hb : Oct.IsB bs) (hl : bs.length ≤ 100000000) (hn : n ≤ 65536) :
    Calls Try.prog 64 #[.pointer (some ⟨b, 0, none⟩), .int .i64 n] w (GetsX b g w (readSs n bs)) := by
  obtain ⟨i0, hi, hz0, hz1, hz2⟩ := info_parts info_str
  have hbl : b < w.heap.size := World.block_lt_of_cell? w _ h.self
  have HBL := Lib.hid hbl
  have HGL := Lib.hid hg
  have hmk := make_roomS n (by omega)
  have h0 := World.ownsRow_made (base := w.heap.size) (e := 9) (size := 1) w (roomS n) n (Nat.le_refl _) (by unfold maxLen; omega) (by rw [roomS_size, Nat.mul_one])
  have HO0 := Lib.hid h0
  have HT0 : Hid (Turn w (w.alloc (.cells (roomS n) 9)) (At b)) := Lib.hid (Turn.alloc w _ _)
  have HR0 : Hid (Rd (w.alloc (.cells (roomS n) 9)) b g bs) := Lib.hid (In.Turn.rd (Turn.alloc w _ nowhere) h id id)
  have HE0 : Hid (readSs n bs = (readSs (n - 0) bs).map (fun p => (([] : List (List Int)) ++ p.1, p.2))) := Lib.hid (by simp)
  have HB0 : Hid (Oct.IsB bs ∧ bs.length ≤ 100000000) := Lib.hid ⟨hb, hl⟩
  clear h0 h hg hb hbl hl
  go_enter Try.func64, Try.ntmps64
  go_wp2
  go_step3
  go_wp2
  go_step3
  go_wp2
  go_loopw [6] (fun so wr => ∃ (k : Nat) (acc : List (List Int)) (rest : List Int), k ≤ n ∧ so = .slice (some ⟨w.heap.size, 0, none⟩) k n ∧ Hid (wr.ownsRow w.heap.size 9 1 (.slice (some ⟨w.heap.size, 0, none⟩) k n) k (acc.map encW)) ∧
      Hid (Rd wr b g rest) ∧ Hid (Oct.IsB rest ∧ rest.length ≤ 100000000) ∧ Hid (readSs n bs = (readSs (n - k) rest).map (fun p => (acc ++ p.1, p.2))) ∧ Hid (Turn w wr (At b)) ∧ Hid (w.heap.size < wr.heap.size))
    (fun so _ => n - (match so with | .slice _ k _ => k | _ => 0))
  case atStart => exact ⟨0, [], bs, Nat.zero_le _, rfl, HO0, HR0, HB0, HE0, HT0, Lib.hid (by simp)⟩
  case round =>
    obtain ⟨k, acc, rest, hk, rfl, HO, HR, HB, HE, HT, HL⟩ := hrel
    by_cases hlt : k < n
    · have hstep := readSs_step n k bs acc rest hlt HE.out
      have HVar := Lib.hid (Oct.var_any b g rest wr HR.out HB.out.1)
      unfold ReadV at HVar
      obtain ⟨v, er, nn, hv⟩ : ∃ v er nn, readV 0 0 rest = (v, er, nn) := ⟨_, _, _, rfl⟩
      have hvb : er = 0 → 0 ≤ v := fun h0 => by subst h0; exact (In.var_readV rest HB.out.1 v nn hv).1
      have HVe := Lib.hid hv
      rw [hv] at HVar
      dsimp only at HVar
      clear hv
      by_cases hbad : er ≠ 0 ∨ 65536 < v
      · have HF : Hid (∀ w', Turn wr w' (At b) → GetsX b g w (readSs n bs) (.returned (.tuple #[.slice none 0 0, .int .i64 4])) w') := Lib.hid fun w' ht => by
          rw [hstep.1 (by unfold readS; rw [HVe.out]; exact if_pos (by rcases hbad with h | h; exact .inl h; exact .inr (.inl h)))]
          exact ⟨turn_more HT.out ht (fun i e => .inl e), 4, by decide, rfl⟩
        have hbd := hbad
        clear hstep
        by_cases he : er = 0
        · subst he
          have hv2 : 65536 < v := by simpa using hbad
          have hv0 := hvb rfl
          clear hbad hbd hvb
          go_wp2_with fail
          refine HVar.out.mono ?_
          rintro e w1 ⟨rfl, hg1, hr1⟩
          have HF1 := Lib.hid (HF.out w1 (turn_read hg1))
          clear hg1 hr1
          dsimp only
          go_wp2
          try rw [Exit.noGoto_ret]
          go_ret2
          exact HF1.out
        · clear hbad hbd hvb
          go_wp2_with fail
          refine HVar.out.mono ?_
          rintro e w1 ⟨rfl, hg1, hr1⟩
          have HF1 := Lib.hid (HF.out w1 (turn_read hg1))
          clear hg1 hr1
          dsimp only
          go_wp2
          try rw [Exit.noGoto_ret]
          go_ret2
          exact HF1.out
      · have he : er = 0 := Classical.byContradiction fun h => hbad (.inl h)
        have hv2 : ¬ 65536 < v := fun h => hbad (.inr h)
        subst he
        obtain ⟨s, rfl⟩ := Int.eq_ofNat_of_zero_le (hvb rfl)
        clear hbad hvb
        obtain ⟨r1, hr1e⟩ : ∃ r, rest.drop nn = r := ⟨_, rfl⟩
        have hr1b : Oct.IsB r1 := hr1e ▸ isB_drop HB.out.1 nn
        have hr1l : r1.length ≤ 100000000 := by rw [← hr1e, List.length_drop]; have := HB.out.2; omega
        rw [hr1e] at HVar
        have HR1e := Lib.hid hr1e
        obtain ⟨q, hq⟩ : ∃ q, r1.length = q := ⟨_, rfl⟩
        have hwq := wrap_u64 (n := q) (by omega)
        clear hr1e
        by_cases hlong : q < s
        · have HF : Hid (∀ w', Turn wr w' (At b) → GetsX b g w (readSs n bs) (.returned (.tuple #[.slice none 0 0, .int .i64 4])) w') := Lib.hid fun w' ht => by
            rw [hstep.1 (by unfold readS; rw [HVe.out]; exact if_pos (.inr (.inr (by rw [HR1e.out, hq]; simpa using hlong))))]
            exact ⟨turn_more HT.out ht (fun i e => .inl e), 4, by decide, rfl⟩
          clear hstep
          go_wp2_with fail
          refine HVar.out.mono ?_
          rintro e w1 ⟨rfl, hg1, hr1⟩
          have HF1 := Lib.hid (HF.out w1 (turn_read hg1))
          have HLeft := Lib.hid (Oct.left_yes b g r1 w1 hr1)
          rw [hq] at HLeft
          have hlong' : (q : Int) < (s : Int) := by omega
          clear hg1 hr1 hq hr1b hr1l hlong
          dsimp only
          go_wp2_with (first
            | (go_at_call 36; refine HLeft.out.mono ?_; rintro e w' ⟨rfl, rfl⟩)
            | fail)
          try rw [Exit.noGoto_ret]
          go_ret2
          exact HF1.out
        · have HS : Hid (readSs n bs = (readSs (n - (k + 1)) (r1.drop s)).map (fun p => ((acc ++ [r1.take s]) ++ p.1, p.2))) := Lib.hid (hstep.2 _ _ (by
            unfold readS
            rw [HVe.out]
            dsimp only
            rw [HR1e.out, if_neg (by rw [hq]; simp; omega), Int.toNat_natCast]))
          have HBy : Hid (∀ W, Rd W b g r1 → Calls Try.prog 78 #[.pointer (some ⟨b, 0, none⟩), .int .i64 s] W (Oct.ReadB b g W (r1.take s) (r1.drop s))) := Lib.hid fun W h => Oct.bytes_yes b g r1 s W h (by omega) (by omega)
          have HB2 : Hid (Oct.IsB (r1.drop s) ∧ (r1.drop s).length ≤ 100000000) := Lib.hid ⟨isB_drop hr1b s, by rw [List.length_drop]; omega⟩
          have HTl : Hid ((r1.take s).length = s) := Lib.hid (by rw [List.length_take]; omega)
          obtain ⟨x, hx⟩ : ∃ x, r1.take s = x := ⟨_, rfl⟩
          rw [hx] at HS HBy HTl
          obtain ⟨r2, hr2⟩ : ∃ x, r1.drop s = x := ⟨_, rfl⟩
          rw [hr2] at HS HBy HB2
          clear hstep hx hr2
          go_wp2_with fail
          refine HVar.out.mono ?_
          rintro e w1 ⟨rfl, hg1, hr1⟩
          have HT1 : Hid (Turn w w1 (At b)) := Lib.hid (turn_more HT.out (turn_read hg1) (fun i e => .inl e))
          have HO1 : Hid (w1.ownsRow w.heap.size 9 1 (.slice (some ⟨w.heap.size, 0, none⟩) k n) k (acc.map encW)) := Lib.hid (own_at HO.out hg1 (by have := HBL.out; omega))
          have HL1 : Hid (w.heap.size < w1.heap.size) := Lib.hid (Nat.lt_of_lt_of_le HL.out hg1.size)
          have HLeft := Lib.hid (Oct.left_yes b g r1 w1 hr1)
          rw [hq] at HLeft
          have HBy1 := Lib.hid (HBy.out w1 hr1)
          have hlong' : ¬ (q : Int) < (s : Int) := by omega
          clear hg1 hr1 hq hr1b hr1l hlong
          dsimp only
          go_wp2_with (first
            | (go_at_call 36; refine HLeft.out.mono ?_; rintro e w' ⟨rfl, rfl⟩)
            | fail)
          refine HBy1.out.mono ?_
          rintro e w2 hrb
          obtain ⟨y, p, rfl, hp, hown2, hg2, hr2⟩ := hrb.value
          have hcv := conv_own hown2
          have hT2 := turn_read hg2
          have HT2 : Hid (Turn w w2 (At b)) := Lib.hid (turn_more HT1.out hT2 (fun i e => .inl e))
          have HO2 : Hid (w2.ownsRow w.heap.size 9 1 (.slice (some ⟨w.heap.size, 0, none⟩) k n) k (acc.map encW)) := Lib.hid (own_at HO1.out hg2 (by have := HBL.out; omega))
          have HL2 : Hid (w.heap.size < w2.heap.size) := Lib.hid (Nat.lt_of_lt_of_le HL1.out hg2.size)
          have HR2 := Lib.hid hr2
          clear hrb hp hown2 hg2 hr2 hT2
          dsimp only
          go_wp2_with (first
            | (at_builtin; refine wpList_append_fits _ rfl (.tmp 29) (.tmp 32) 27 rfl w.heap.size 9 i0 1 Try.underlying27 hi hz1 w.heap.size k n _ rfl (HO2.out.alloc _) ⟨w2.heap.size, 0, none⟩ 1 1 [.string (strOfNums x)] rfl rfl (by intro t u ht; match t, ht with | 0, ht => simp at ht; subst ht; exact Pk.cell_new w2 _ _) (by intro u hu; simp at hu; subst hu; rfl) (by omega) ?_; intro w3 hown3 hgrow3)
            | fail)
          go_roundw
          case rel =>
            have hT3 := Turn.alloc w2 (.cells #[.string (strOfNums x)] 9) (At b)
            refine ⟨k + 1, acc ++ [x], r2, by omega, by go_num, Lib.hid ?_, Lib.hid ?_, HB2, HS, Lib.hid ?_, Lib.hid (Nat.lt_of_lt_of_le (Nat.lt_of_lt_of_le HL2.out hT3.size) hgrow3.size)⟩
            · rw [List.map_append]; exact hown3
            · exact In.Turn.rd (turn_row hgrow3) (In.Turn.rd (Turn.alloc w2 _ nowhere) HR2.out id id) (by have := HBL.out; unfold At; omega) (by have := HGL.out; unfold At; omega)
            · exact turn_more (turn_more HT2.out hT3 (fun i e => .inl e)) (turn_row hgrow3) (fun i e => .inr (by unfold At at e; omega))
          case measure => dsimp only; omega
    · obtain rfl : k = n := by omega
      have hd := HE.out
      rw [Nat.sub_self] at hd
      have hd2 : readSs k bs = some (acc, rest) := by rw [hd]; simp [readSs]
      have hal : acc.length = k := by have := HO.out.1; rw [List.length_map] at this; omega
      have HF : Hid (GetsX b g w (readSs k bs) (.returned (.tuple #[.slice (some ⟨w.heap.size, 0, none⟩) k k, .int .i64 0])) wr) := Lib.hid (by
        rw [hd2]
        refine ⟨HT.out, _, k, by rw [hal], ?_, HR.out, fun ad e => by cases e; exact Nat.le_refl _⟩
        rw [hal]
        exact Ss.Seg.own HO.out)
      clear hd hd2 hal
      go_wp2
      try rw [Exit.noGoto_ret]
      go_ret2
      exact HF.out
end Go.Proofs.Ytgbpmpeknbaccaa.Tx
