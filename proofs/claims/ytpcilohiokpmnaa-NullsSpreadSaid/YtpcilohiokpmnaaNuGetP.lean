/-
  Flags read again: getPacked, get.
-/
import Derived.Test.YtpcilohiokpmnaaNuRep
import Derived.Test.YtpcilohiokpmnaaOctVarR
import Derived.Test.YtpcilohiokpmnaaKeep
namespace Go.Proofs.Ytpcilohiokpmnaa.Nu
open Go.RowKit
open Dv (Turn nowhere)
open Pk (Turn.then getR sizeN Fit)
open Oct (Rd ReadN ReadV ReadB)
open In (At turn_read turn_row turn_more)

set_option maxRecDepth 100000 in
set_option maxHeartbeats 400000 in
theorem bytes_more (b g : Nat) (l : List Int) (n : Nat) (w : World) (h : Rd w b g l) (hn : l.length < n) :
    Calls Try.prog 65 #[.pointer (some ⟨b, 0, none⟩), .int .i64 n] w fun e w' => e = .returned (.tuple #[.slice none 0 0, .int .i64 7]) ∧ w = w' := by
  obtain ⟨o, c, h0, hle, hc, hj⟩ := h.cells
  have HV := Lib.hid (Oct.valid_yes b w h.self)
  clear hj
  go_enter Try.func65, Try.ntmps65
  go_wp2_with (first
    | (go_at_call 52; refine HV.out.mono ?_; rintro e w' ⟨rfl, rfl⟩)
    | fail)
  go_ret2
  exact ⟨rfl, rfl⟩

set_option maxRecDepth 100000 in
set_option maxHeartbeats 600000 in
theorem repeat_zero (xb : Nat) (v : Bool) (w : World) :
    Calls Try.prog 56 #[.slice (some ⟨xb, 0, none⟩) 1 1, .int .i64 0] w fun e w' =>
      e = .returned (.slice (some ⟨w.heap.size, 0, none⟩) 0 0) ∧ w'.ownsRow w.heap.size 4 1 (.slice (some ⟨w.heap.size, 0, none⟩) 0 0) 0 ((List.replicate 0 v).map Value.bool) ∧ Below w.heap.size w w' := by
  have hsz : (Try.prog.info? 4).map (·.size) = some 1 := by kernel_rfl
  have HM : Hid (Calls Try.prog 64 #[.int .u64 1, .int .u64 0] w fun e w' => e = .returned (.tuple #[.int .u64 0, .int .u64 0]) ∧ w = w') := Lib.hid (mul_any 0 (by decide) w)
  have hr0 : roomB 0 = #[] := by apply Array.eq_empty_of_size_eq_zero; exact size_madeCells _ _
  have hmk : ∀ W : World, (Instr.makeSlice 43 (.int .i64 0) (.int .i64 0)).run Try.prog W = .ok (.slice (some ⟨W.heap.size, 0, none⟩) 0 0) (W.alloc (.cells #[] 4)) := fun W => by
    have := make_fullB 0 (by decide) W
    rw [hr0] at this
    exact this
  have H0 := Lib.hid (show (w.alloc (.cells #[] 4)).heap[w.heap.size]? = some (.cells ([] : List Value).toArray 4 (0, 0)) from heap_alloc_new w _)
  have HG : Hid (Below w.heap.size w (w.alloc (.cells #[] 4))) := Lib.hid ((Below.refl _ w).alloc (Nat.le_refl _) _)
  have HW1 : Hid (∀ j u, ([] : List Value)[j]? = some u → (w.alloc (.cells #[] 4)).cell? ((⟨xb, 0, none⟩ : Addr).add j) = some u) := Lib.hid (by intro j u hu; simp at hu)
  clear hr0
  go_enter Try.func56, Try.ntmps56
  go_wp2_with (first
    | (go_at_call 64; refine HM.out.mono ?_; rintro e w' ⟨rfl, rfl⟩)
    | (show wpList _ _ _ ((⟨some 33, _, _, _, _, _⟩ : Oper) :: _) _ _
       go_must (refine wpList_copy_splice rfl (.tmp 31) (.tmp 32) 43 43 rfl 4 Try.underlying43 hsz (some ⟨w.heap.size, 0, none⟩) (some ⟨xb, 0, none⟩) 0 0 1 1 rfl rfl w.heap.size 0 [] 4 H0.out [] rfl (fun _ => ⟨rfl, ⟨xb, 0, none⟩, rfl, HW1.out⟩) (Nat.le_refl _) (fun _ h => by cases h) w.heap.size w HG.out (Nat.le_refl _) ?_)
       intro w1 hg1 hb1)
    | fail)
  have HB1 := Lib.hid hb1
  have HO : Hid (w1.ownsRow w.heap.size 4 1 (.slice (some ⟨w.heap.size, 0, none⟩) 0 0) 0 ((List.replicate 0 v).map Value.bool)) := Lib.hid ⟨rfl, .inr ⟨w.heap.size, 0, _, rfl, Nat.le_refl _, hg1.out, Nat.le_refl _, by unfold maxLen; omega, rfl, rfl⟩⟩
  clear hg1 hb1
  refine wp_loop_rounds 1 ?_
  rw [rounds_succ]
  go_wp2
  go_ret
  exact ⟨rfl, HO.out, HB1.out⟩

theorem rep_any (xb C : Nat) (v : Bool) (w : World) (hC : C ≤ 65536) (hx : w.cell? ⟨xb, 0, none⟩ = some (.bool v)) :
    Calls Try.prog 56 #[.slice (some ⟨xb, 0, none⟩) 1 1, .int .i64 C] w fun e w' =>
      e = .returned (.slice (some ⟨w.heap.size, 0, none⟩) C C) ∧ Bl.Seg w' (some ⟨w.heap.size, 0, none⟩) C C (List.replicate C v) ∧ Turn w w' nowhere := by
  by_cases h : 1 ≤ C
  · exact (repeat_any xb C v w h hC hx).mono fun e w' ⟨h1, h2, h3⟩ => ⟨h1, Bl.Seg.own h2, turn_below h3⟩
  · obtain rfl : C = 0 := by omega
    exact (repeat_zero xb v w).mono fun e w' ⟨h1, h2, h3⟩ => ⟨h1, Bl.Seg.own h2, turn_below h3⟩

/-- flags, and what is left; or an error -/
def KX (b g : Nat) (w : World) (r : Option (List Bool × List Int)) (e : Ending) (w' : World) : Prop :=
  Turn w w' (At b) ∧ w.heap.size ≤ w'.heap.size ∧ match r with
    | some (l, rest) => ∃ a c, e = .returned (.tuple #[.slice a l.length c, .int .i64 0]) ∧ Bl.Seg w' a l.length c l ∧ Rd w' b g rest
    | none => ∃ E : Int, E ≠ 0 ∧ e = .returned (.tuple #[.slice none 0 0, .int .i64 E])

theorem sizeF_one {n : Nat} (h : n ≤ 65536) : Pk.sizeF (n : Int) 1 = (sizeN n 1 : Int) := by
  unfold Pk.sizeF
  rw [if_pos ((Pk.canB_iff _ _).2 (by omega))]
  rfl
def roomF (S : Nat) : Array Value := madeCells (Value.bool false).cells S
theorem roomF_size (S : Nat) : (roomF S).size = S := size_madeCells _ _
theorem make_roomF (S : Nat) (hS : S ≤ 1000000) (W : World) : (Instr.makeSlice 43 (.int .i64 0) (.int .i64 (S : Int))).run Try.prog W = .ok (.slice (some ⟨W.heap.size, 0, none⟩) 0 S) (W.alloc (.cells (roomF S) 4)) := by
  obtain ⟨i0, hi, hz0, hz1, hz2⟩ := info_parts Bl.info_bool
  have h := run_make (P := Try.prog) W 43 4 i0 (.bool false) Try.underlying43 hi hz0 .i64 .i64 0 (S : Int) (by omega) (by omega) (by rw [hz2]; omega) (by omega)
  rw [hz1, Int.toNat_natCast, Nat.mul_one] at h
  exact h

set_option maxRecDepth 100000 in
set_option maxHeartbeats 2000000 in
theorem getPacked_any (b g n : Nat) (bs : List Int) (w : World) (h : Rd w b g bs) (hb : Oct.IsB bs) (hn : n ≤ 4096) :
    Calls Try.prog 57 #[.pointer (some ⟨b, 0, none⟩), .int .i64 n] w (KX b g w (rdP n bs)) := by
  have HSz : Hid (Calls Try.prog 49 #[.int .i64 n, .int .i64 1] w fun e w' => e = .returned (.int .i64 (sizeN n 1 : Int)) ∧ w = w') := Lib.hid (by
    have := Pk.size_any (n : Int) 1 w
    rwa [sizeF_one (by omega)] at this)
  have hsz := sizeN_le (n := n) (by omega)
  unfold rdP
  obtain ⟨S, hS⟩ : ∃ S, sizeN n 1 = S := ⟨_, rfl⟩
  rw [hS] at HSz hsz ⊢
  clear hS
  by_cases hl : bs.length < S
  · rw [if_pos hl]
    have HBy := Lib.hid (bytes_more b g bs S w h hl)
    clear h hb hl
    go_enter Try.func57, Try.ntmps57
    go_wp2_with (first
      | (go_at_call 49; refine HSz.out.mono ?_; rintro e w' ⟨rfl, rfl⟩)
      | fail)
    refine HBy.out.mono ?_
    rintro e w1 ⟨rfl, rfl⟩
    have HF : Hid (KX b g w none (.returned (.tuple #[.slice none 0 0, .int .i64 7])) w) := Lib.hid ⟨Turn.refl _ _, Nat.le_refl _, 7, by decide, rfl⟩
    dsimp only
    go_wp2
    go_ret2
    exact HF.out
  · rw [if_neg hl]
    have HBy := Lib.hid (Oct.bytes_yes b g bs S w h (by omega) (by omega))
    have hfit : Fit 8 (bs.take S) := Pk.fit_isB (fun x hx => hb x (List.mem_of_mem_take hx))
    have htl : (bs.take S).length = S := by rw [List.length_take]; omega
    obtain ⟨T, hT⟩ : ∃ T, bs.take S = T := ⟨_, rfl⟩
    obtain ⟨r, hr⟩ : ∃ r, bs.drop S = r := ⟨_, rfl⟩
    rw [hT] at HBy hfit htl ⊢
    rw [hr] at HBy ⊢
    have HFit := Lib.hid hfit
    have HTl := Lib.hid htl
    have hbl : b < w.heap.size := World.block_lt_of_cell? w _ h.self
    have HBL := Lib.hid hbl
    clear h hb hl hT hr hfit htl hbl
    have HGet := Lib.hid (fun a c W hs => Pk.get_any a S c T (n : Int) 1 W hs HFit.out)
    unfold Pk.GetX at HGet
    obtain ⟨E, L, hE⟩ : ∃ E L, getR T (n : Int) 1 = (E, L) := ⟨_, _, rfl⟩
    have hno := Pk.get_no T (n : Int) 1
    have hput := Pk.put_get T (n : Int) 1 HFit.out
    rw [hE] at HGet hno hput ⊢
    dsimp only at HGet hno hput ⊢
    clear hE
    by_cases he : E = 0
    · subst he
      obtain ⟨-, hp2, -, hp4⟩ := hput rfl
      have hLn : L.length = n := by omega
      have HLn := Lib.hid hLn
      have HU := Lib.hid hp4
      rw [hLn] at HGet
      rw [if_neg (by simp)]
      clear hno hput hp2 hp4 hLn
      obtain ⟨i0, hi, hz0, hz1, hz2⟩ := info_parts Bl.info_bool
      have hmk := make_roomF n (by omega)
      go_enter Try.func57, Try.ntmps57
      go_wp2_with (first
        | (go_at_call 49; refine HSz.out.mono ?_; rintro e w' ⟨rfl, rfl⟩)
        | fail)
      refine HBy.out.mono ?_
      rintro e w1 hrb
      obtain ⟨y, p, rfl, hp, hown, hg1, hr1⟩ := hrb.value
      obtain rfl : p = S := by rw [hp, HTl.out]
      have HG1 := Lib.hid (HGet.out _ _ w1 (Bs.Seg.own hown))
      have HT1 : Hid (Turn w w1 (At b)) := Lib.hid (turn_read hg1)
      have HR1 := Lib.hid hr1
      have HZ1 := Lib.hid hg1.size
      clear hrb hp hown hg1 hr1
      dsimp only
      go_wp2_with fail
      refine HG1.out.mono ?_
      rintro e w2 ⟨a2, c2, rfl, hs2, hg2⟩
      have HT2 : Hid (Turn w w2 (At b)) := Lib.hid (turn_more HT1.out (Pk.turn_of hg2) (fun i h => h.elim))
      have HR2 : Hid (Rd w2 b g r) := Lib.hid (In.Turn.rd (Pk.turn_of hg2) HR1.out id id)
      have HZ2 := Lib.hid (Nat.le_trans HZ1.out hg2.size)
      have HS2 := Lib.hid hs2
      clear hs2 hg2 HG1
      have h0 := World.ownsRow_made (base := w2.heap.size) (e := 4) (size := 1) w2 (roomF n) n (Nat.le_refl _) (by unfold maxLen; omega) (by rw [roomF_size, Nat.mul_one])
      have HO0 : Hid ((w2.alloc (.cells (roomF n) 4)).ownsRow w2.heap.size 4 1 (.slice (some ⟨w2.heap.size, 0, none⟩) 0 n) 0 ((backL (L.take 0)).map Value.bool)) := Lib.hid h0
      have HB0 : Hid (Below w2.heap.size w2 (w2.alloc (.cells (roomF n) 4))) := Lib.hid ((Below.refl _ w2).alloc (Nat.le_refl _) _)
      clear h0
      dsimp only
      go_wp2
      go_loopw [9, 35] (fun so si wr => ∃ k : Nat, k ≤ n ∧ si = .int .i64 k ∧ so = .slice (some ⟨w2.heap.size, 0, none⟩) k n ∧ Hid (wr.ownsRow w2.heap.size 4 1 (.slice (some ⟨w2.heap.size, 0, none⟩) k n) k ((backL (L.take k)).map Value.bool)) ∧ Hid (Below w2.heap.size w2 wr)) (fun _ si _ => n - (intOf si).toNat)
      case atStart => exact ⟨0, Nat.zero_le _, rfl, rfl, HO0, HB0⟩
      case round =>
        obtain ⟨k, hk, rfl, rfl, HO, HB⟩ := hrel
        by_cases hlt : k < n
        · obtain ⟨gl, ol, rfl, hc⟩ := (HS2.out.grown (Dv.Turn.grown (turn_below HB.out))).addr (by omega)
          have hck := hc k hlt
          have hkL : k < L.length := by rw [HLn.out]; exact hlt
          have hbk : backL (L.take (k + 1)) = backL (L.take k) ++ [decide (L.getD k 0 = 1)] := by
            rw [List.take_succ_eq_append_getElem hkL]
            unfold backL
            rw [List.map_append, List.map_cons, List.map_nil, List.getD_eq_getElem?_getD, List.getElem?_eq_getElem hkL]
            rfl
          have HBk := Lib.hid hbk
          obtain ⟨z, hz⟩ : ∃ z, L.getD k 0 = z := ⟨_, rfl⟩
          rw [hz] at hck HBk
          obtain ⟨d, hd⟩ : ∃ d, decide (z = 1) = d := ⟨_, rfl⟩
          have hzd : (z == 1) = d := by rw [← hd]; exact rfl
          rw [hd] at HBk
          clear hc hz hbk hd
          go_wp2_with (first
            | (at_builtin; refine wpList_append_fits _ rfl (.tmp 39) (.tmp 42) 43 rfl w2.heap.size 4 i0 1 Try.underlying43 hi hz1 w2.heap.size k n _ rfl (HO.out.alloc _) ⟨wr.heap.size, 0, none⟩ 1 1 [.bool d] rfl rfl (by intro t u ht; match t, ht with | 0, ht => simp at ht; subst ht; exact Pk.cell_new wr _ _) (by intro u hu; simp at hu; subst hu; rfl) (by omega) ?_; intro w3 hown3 hgrow3)
            | fail)
          go_roundw
          case rel =>
            refine ⟨k + 1, by omega, by go_num, rfl, Lib.hid ?_, Lib.hid ((HB.out.alloc HB.out.size _).grown hgrow3 (by have := HB.out.size; simp; omega) (fun j e => by cases e; exact Nat.le_refl _))⟩
            rw [HBk.out, List.map_append]
            exact hown3
          case measure => simp [intOf]; omega
        · obtain rfl : k = n := by omega
          have HF : Hid (KX b g w (some (backL L, r)) (.returned (.tuple #[.slice (some ⟨w2.heap.size, 0, none⟩) k k, .int .i64 0])) wr) := Lib.hid (by
            have hO := HO.out
            rw [List.take_of_length_le (Nat.le_of_eq HLn.out)] at hO
            have hl : (backL L).length = k := by rw [back_len, HLn.out]
            refine ⟨turn_more HT2.out (turn_below HB.out) (fun i h => h.elim), Nat.le_trans HZ2.out HB.out.size, _, k, by rw [hl], ?_, In.Turn.rd (turn_below HB.out) HR2.out id id⟩
            rw [hl]
            exact Bl.Seg.own hO)
          go_wp2
          go_ret2
          exact HF.out
    · have hL0 := hno he
      subst hL0
      rw [if_pos he]
      have he0 : (E == 0) = false := beq_eq_false_iff_ne.2 he
      have he1 : (E != 0) = true := bne_iff_ne.2 he
      have HEn := Lib.hid he
      clear hno hput he
      go_enter Try.func57, Try.ntmps57
      go_wp2_with (first
        | (go_at_call 49; refine HSz.out.mono ?_; rintro e w' ⟨rfl, rfl⟩)
        | fail)
      refine HBy.out.mono ?_
      rintro e w1 hrb
      obtain ⟨y, p, rfl, hp, hown, hg1, hr1⟩ := hrb.value
      obtain rfl : p = S := by rw [hp, HTl.out]
      have HG1 := Lib.hid (HGet.out _ _ w1 (Bs.Seg.own hown))
      have HT1 : Hid (Turn w w1 (At b)) := Lib.hid (turn_read hg1)
      have HZ1 := Lib.hid hg1.size
      clear hrb hp hown hg1 hr1
      dsimp only
      go_wp2_with fail
      refine HG1.out.mono ?_
      rintro e w2 ⟨a2, c2, rfl, hs2, hg2⟩
      have HF : Hid (KX b g w none (.returned (.tuple #[.slice none 0 0, .int .i64 E])) w2) := Lib.hid ⟨turn_more HT1.out (Pk.turn_of hg2) (fun i h => h.elim), Nat.le_trans HZ1.out hg2.size, E, HEn.out, rfl⟩
      clear hs2 hg2 HG1
      dsimp only
      go_wp2
      go_ret2
      exact HF.out

set_option maxRecDepth 100000 in
set_option maxHeartbeats 2000000 in
theorem get_kind (b g n : Nat) (k : Int) (bs : List Int) (w : World) (h : Rd w b g bs) (hb : Oct.IsB bs) (hn : n ≤ 4096) :
    Calls Try.prog 30 #[.pointer (some ⟨b, 0, none⟩), .int .i64 n, .int .u64 k] w (KX b g w (rdK n k bs)) := by
  unfold rdK
  by_cases h01 : k = 0 ∨ k = 1
  · rw [if_pos h01]
    obtain ⟨d, hd⟩ : ∃ d, decide (k = 1) = d := ⟨_, rfl⟩
    have hkd : (k == 1) = d := by rw [← hd]; rfl
    rw [hd]
    have HR := Lib.hid h
    have HRep := Lib.hid (fun W (hx : World.cell? W ⟨w.heap.size, 0, none⟩ = some (.bool d)) => rep_any w.heap.size n d W (by omega) hx)
    clear h hb hd
    have fin : Hid (∀ w1, Bl.Seg w1 (some ⟨w.heap.size + 1, 0, none⟩) n n (List.replicate n d) → Turn (w.alloc (.cells #[.bool d] 4)) w1 nowhere → KX b g w (some (List.replicate n d, bs)) (.returned (.tuple #[.slice (some ⟨w.heap.size + 1, 0, none⟩) n n, .int .i64 0])) w1) := Lib.hid fun w1 hs ht => by
      have hT := Turn.then (Turn.alloc w (.cells #[.bool d] 4) nowhere) ht
      exact ⟨turn_below (below_turn hT) |> fun t => ⟨t.os, t.tape, t.output, t.size, fun i hi _ => t.block i hi id⟩, hT.size, _, n, by rw [List.length_replicate], by rw [List.length_replicate]; exact hs, In.Turn.rd hT HR.out id id⟩
    have hcn := Pk.cell_new w (.bool d) 4
    have HRep1 := Lib.hid (HRep.out _ hcn)
    rw [World.size_alloc] at HRep1
    clear hcn
    rcases h01 with rfl | rfl
    · obtain rfl : d = false := by rw [← hkd]; rfl
      go_enter Try.func30, Try.ntmps30
      go_wp2_with fail
      refine HRep1.out.mono ?_
      rintro e w1 ⟨rfl, hs, ht⟩
      have HF := Lib.hid (fin.out w1 hs ht)
      clear hs ht
      dsimp only
      go_wp2
      go_ret2
      exact HF.out
    · obtain rfl : d = true := by rw [← hkd]; rfl
      go_enter Try.func30, Try.ntmps30
      go_wp2_with fail
      refine HRep1.out.mono ?_
      rintro e w1 ⟨rfl, hs, ht⟩
      have HF := Lib.hid (fin.out w1 hs ht)
      clear hs ht
      dsimp only
      go_wp2
      go_ret2
      exact HF.out
  · rw [if_neg h01]
    have h0 : (k == 0) = false := beq_eq_false_iff_ne.2 (fun e => h01 (.inl e))
    have h1 : (k == 1) = false := beq_eq_false_iff_ne.2 (fun e => h01 (.inr e))
    by_cases h2 : k = 2
    · subst h2
      rw [if_pos rfl]
      have HP := Lib.hid (getPacked_any b g n bs w h hb hn)
      obtain ⟨X, hX⟩ : ∃ X, rdP n bs = X := ⟨_, rfl⟩
      rw [hX] at HP ⊢
      clear h hb h01 hX
      go_enter Try.func30, Try.ntmps30
      go_wp2_with fail
      refine HP.out.mono ?_
      rintro e w1 ⟨hT, hz, hx⟩
      cases X with
      | none =>
        obtain ⟨E, hE, rfl⟩ := hx
        have HF : Hid (KX b g w none (.returned (.tuple #[.slice none 0 0, .int .i64 E])) w1) := Lib.hid ⟨hT, hz, E, hE, rfl⟩
        clear hT hz hE
        dsimp only
        go_wp2
        go_ret2
        exact HF.out
      | some q =>
        obtain ⟨l, rest⟩ := q
        obtain ⟨a5, c5, rfl, hs5, hr5⟩ := hx
        have HF : Hid (KX b g w (some (l, rest)) (.returned (.tuple #[.slice a5 l.length c5, .int .i64 0])) w1) := Lib.hid ⟨hT, hz, a5, c5, rfl, hs5, hr5⟩
        obtain ⟨m, hm⟩ : ∃ m, l.length = m := ⟨_, rfl⟩
        rw [hm] at HF ⊢
        clear hT hz hs5 hr5 hm
        dsimp only
        go_wp2
        go_ret2
        exact HF.out
    · rw [if_neg h2]
      have e2 : (k == 2) = false := beq_eq_false_iff_ne.2 h2
      have HF : Hid (KX b g w none (.returned (.tuple #[.slice none 0 0, .int .i64 4])) w) := Lib.hid ⟨Turn.refl _ _, Nat.le_refl _, 4, by decide, rfl⟩
      clear h hb h01 h2
      go_enter Try.func30, Try.ntmps30
      go_wp2
      go_ret2
      exact HF.out
end Go.Proofs.Ytpcilohiokpmnaa.Nu
