/-
  Get and Kind: the document's.
-/
import Derived.Test.YtfojkglindpjjaaDoorFrRPut
namespace Go.Proofs.YtfojkglindpjjaaDoor.Fr
open Go.RowKit Bs Dv
open Oct (putB ofB putB_length putB_isB ofB_putB ofB_bound)
open Crc (crc num flip crc_lt burst_good flip_length flip_isB)

/-- A frame is stored into a variable, given by its cells. -/
theorem wpList_store_cells {w : World} {ops : Array Oper} {rest : List Oper} {o : Oper} {a : Act} {Q : Exit → Act → World → Prop} (hgd : o.guard = none) (x y : Operand) (ho : o.op = .store 41 x y)
    (g : Nat) (hx : a.eval x = .pointer (some ⟨g, 0, none⟩)) (t v : Int) (s : ByteArray) (hy : a.eval y = .agg #[.int .u8 t, .int .u64 v, .string s]) (o1 o2 o3 : Value)
    (hg : w.heap[g]? = some (.cells #[o1, o2, o3] 41 (0, 0)))
    (h : ∀ w', w'.heap[g]? = some (.cells #[.int .u8 t, .int .u64 v, .string s] 41 (0, 0)) → Turn w w' (· = g) → wpList Tryd.prog ops Q rest (a.put o.dst undef) w') : wpList Tryd.prog ops Q (o :: rest) a w := by
  refine wpList_store_row hgd _ x y ho g _ hx hy _ _ hg (info_fm _ _ _) rfl (by simp [Value.oneCell']) ?_
  exact h _ (setRow_heap w g _ _ _ _ hg) ⟨rfl, rfl, rfl, by simp [World.setRow], fun k _ hk => setRow_other w g k _ hk⟩

set_option maxRecDepth 100000 in
set_option maxHeartbeats 2000000 in
theorem rget_any (B : List Int) (w : World) (hB : Bs.IsB B) (hlen : B.length ≤ 1000000) :
    Calls Tryd.prog 55 #[.string (strOfNums B)] w fun e w' => e = fmE (getF B) ∧ w.grownBy w' none := by
  have hsz : (strOfNums B).size = B.length := strOfNums_size B
  have p0 := heap_alloc_new w (.cells #[.int .u8 0, .int .u64 0, .string ⟨#[]⟩] 41)
  have t0 := Turn.alloc w (.cells #[.int .u8 0, .int .u64 0, .string ⟨#[]⟩] 41) nowhere
  have P0 := Lib.hid p0
  have T0 := Lib.hid t0
  clear p0 t0
  by_cases hn : Fits B.length
  · obtain ⟨n, hnn⟩ : ∃ n, n = B.length := ⟨_, rfl⟩
    rw [← hnn] at hsz hn hlen
    have HL := Lib.hid hnn
    have HR := Lib.hid (show room (n : Int) = (n : Int) - 16 from if_pos hn)
    have HFT := Lib.hid hn
    unfold Fits at hn
    have HB := Lib.hid hB
    clear hnn hB
    go_enter Tryd.func55, Tryd.ntmps55
    go_wp2_with fail
    refine (rroom_any n _).mono ?_
    rintro e w1 ⟨rfl, hg1⟩
    have t1 := Turn.of_grown hg1 (S := nowhere) (fun i e => by cases e)
    have P1 := Lib.hid (block_turn P0.out t1 id)
    have T1 := Lib.hid (T0.out.trans t1 (fun _ _ e => e))
    have Z1 := Lib.hid (block_lt P1.out)
    rw [HR.out]
    clear hg1 t1 P0 T0
    obtain ⟨cap, X, hrun, hreg, ht2, hc1, hc2⟩ := conv_bytes B HB.out (by rw [← HL.out]; omega) w1
    rw [← HL.out] at hrun hc1
    obtain ⟨b, hb⟩ : ∃ b, b = w1.heap.size := ⟨_, rfl⟩
    rw [← hb] at hrun hreg Z1
    clear hb
    have R4 := Lib.hid hreg
    have T4 := Lib.hid (T1.out.trans ht2 (fun _ _ e => e))
    have P4 := Lib.hid (block_turn P1.out ht2 id)
    clear hreg ht2 T1 P1
    go_wp2_with fail
    clear hrun
    obtain ⟨m, hm⟩ : ∃ m : Nat, m = n - 4 := ⟨_, rfl⟩
    have hmn : n = m + 4 := by omega
    obtain ⟨C, hC⟩ : ∃ C, C = crc (B.take (m)) := ⟨_, rfl⟩
    obtain ⟨O, hO⟩ : ∃ O, O = ofB (B.drop (m)) := ⟨_, rfl⟩
    have hC4 : C < 4294967296 := by rw [hC]; exact crc_lt _ (isB_take HB.out _)
    have hGood : Good B ↔ (C : Int) = O := by
      unfold Good
      rw [← HL.out, ← hm, hC, hO, ← num_ofB _ (isB_drop HB.out _)]
      omega
    have HC := Lib.hid hC
    have HO := Lib.hid hO
    have HGD := Lib.hid hGood
    have HSG := Lib.hid (R4.out.seg (by rw [← HL.out]; exact hc1) hc2)
    rw [← HL.out] at HSG
    have SO := Lib.hid (show Seg X.drew (some ⟨b, m, none⟩) 4 (cap - (m)) (B.drop (m)) from by
      have h := (HSG.out.drop (show m ≤ n by omega)).grown (w' := X.drew) ⟨rfl, rfl, rfl, Nat.le_refl _, fun _ _ _ => rfl⟩
      rwa [Nat.zero_add, show n - m = 4 from by omega] at h)
    have SC := Lib.hid (show Seg X.drew (some ⟨b, 0, none⟩) (m) cap (B.take (m)) from (HSG.out.take (show m ≤ n by omega)).grown ⟨rfl, rfl, rfl, Nat.le_refl _, fun _ _ _ => rfl⟩)
    have BO : Hid (Oct.IsB (B.drop (m))) := Lib.hid (isB_drop HB.out _)
    have BC : Hid (Bs.IsB (B.take (m))) := Lib.hid (isB_take HB.out _)
    have hW := wrap64u C hC4
    have HM := Lib.hid hm
    have HMN := Lib.hid hmn
    clear hC hO hGood hC4
    have m1 : m < cap := by omega
    have m2 : (m : Int) ≤ (cap : Int) := by omega
    have m3 : (m : Int) ≤ (n : Int) := by omega
    have m4 : n - m = 4 := by omega
    have m5 : (n : Int) - 4 = (m : Int) := by omega
    have m6 : IntKind.i64.wrap (m : Int) = (m : Int) := by rw [IntKind.wrap_i64]; omega
    have m7 : wrap64 (m : Int) = (m : Int) := IntWalk.wrap64_in _ (by omega)
    clear hm hmn
    by_cases hg : Good B
    · have e1 : (IntKind.u64.wrap (C : Int) != O) = false := by rw [hW, HGD.out.1 hg]; exact bne_self_eq_false _
      have HGG := Lib.hid hg
      clear hg hW
      go_region_held3 (fun _ => True) (trivial)
        (first
          | (go_at_call 31
             (with_reducible refine (Crc.rof_any _ _ _ (B.take (m)) _ SC.out BC.out).mono ?_)
             rintro e w8 ⟨rfl, hg8⟩
             rw [← HC.out]
             have T8 := Lib.hid ((Turn.drew X nowhere).trans (Turn.of_grown hg8 (S := nowhere) (fun i e => by cases e)) (fun _ _ e => e))
             have SO8 := Lib.hid (SO.out.grown hg8)
             clear hg8)
          | (go_at_call 38
             (with_reducible refine (Ref1.rof_any _ _ _ _ (B.drop (m)) _ SO8.out BO.out (by omega)).mono ?_)
             rintro e w' ⟨rfl, rfl⟩
             rw [← HO.out])
          | fail)
      have P8 := Lib.hid (block_turn P4.out T8.out id)
      have T8' := Lib.hid (T4.out.trans T8.out (fun _ _ e => e))
      have R8 := Lib.hid (R4.out.turn T8.out id)
      have HF := Lib.hid (get_read (b := B) (by rw [← HL.out]; exact HFT.out) HGG.out)
      have HSG8 := Lib.hid (HSG.out.grown T8.out.grown)
      obtain ⟨k0, k1⟩ := ofB2_lt B HB.out
      obtain ⟨k, hk⟩ : ∃ k : Nat, cnt B = k := ⟨(cnt B).toNat, by omega⟩
      have HK := Lib.hid hk
      have S2 := Lib.hid (show Seg w8 (some ⟨b, 2, none⟩) 2 (cap - 2) ((B.drop 2).take 2) from by
        have h := (HSG8.out.drop (show 2 ≤ n by omega)).take (show 2 ≤ n - 2 by omega)
        rwa [Nat.zero_add] at h)
      have B2 : Hid (Oct.IsB ((B.drop 2).take 2)) := Lib.hid (isB_take (isB_drop HB.out 2) 2)
      have HC2 : Hid (ofB ((B.drop 2).take 2) = (k : Int)) := Lib.hid hk
      rw [hk] at k1
      clear hk k0 SO8 m1 m2 m3 m4 m5 m6 m7 e1
      have n2 : (2 : Int) ≤ (cap : Int) := by omega
      have n4 : (4 : Int) ≤ (cap : Int) := by omega
      have n5 : ¬ cap = 2 := by omega
      go_wp2_with fail
      refine (Ref1.rof_any _ _ _ _ ((B.drop 2).take 2) _ S2.out B2.out (by omega)).mono ?_
      rintro e w' ⟨rfl, rfl⟩
      rw [HC2.out]
      go_wp2_with fail
      refine (rroom_any n _).mono ?_
      rintro e w9 ⟨rfl, hg9⟩
      rw [HR.out]
      have t9 := Turn.of_grown hg9 (S := nowhere) (fun i e => by cases e)
      have P9 := Lib.hid (block_turn P8.out t9 id)
      have T9 := Lib.hid (T8'.out.trans t9 (fun _ _ e => e))
      have R9 := Lib.hid (R8.out.turn t9 id)
      have HSG9 := Lib.hid (HSG8.out.grown t9.grown)
      clear hg9 t9
      dsimp only
      by_cases hkn : k + 16 ≤ n
      · have hk2 : decide ((n : Int) - 16 < (k : Int)) = false := decide_eq_false (by omega)
        have HKN := Lib.hid hkn
        clear hkn
        go_wp2_with fail
        obtain ⟨E, hE⟩ : ∃ E : Nat, E = 12 + k := ⟨_, rfl⟩
        have E1 : (12 : Int) + (k : Int) = (E : Int) := by omega
        have E2 : (E : Int) ≤ (n : Int) := by have := HKN.out; omega
        have E3 : (12 : Int) ≤ (E : Int) := by omega
        have E4 : IntKind.i64.wrap (E : Int) = (E : Int) := by rw [IntKind.wrap_i64]; omega
        have E5 : wrap64 (E : Int) = (E : Int) := IntWalk.wrap64_in _ (by omega)
        obtain ⟨DS, hDS⟩ : ∃ DS, DS = strOfNums (dat B) := ⟨_, rfl⟩
        have hex : (strOfNums B).extract 12 E = DS := by
          rw [str_extract, hDS, hE, show 12 + k - 12 = k from by omega]
          unfold dat
          rw [HK.out, Int.toNat_natCast]
        have c0 := (R9.out.at_ 0 (by rw [← HL.out]; omega)).1
        obtain ⟨x, hx⟩ : ∃ x, x = B.getD 0 0 := ⟨_, rfl⟩
        rw [← hx] at c0
        have n12 : (12 : Int) ≤ (cap : Int) := by omega
        have n40 : ¬ cap = 4 := by omega
        have n00 : (0 : Int) < (n : Int) := by omega
        have n01 : 0 < n := by omega
        have hbz : b < w9.heap.size := R9.out.lt (fun e => by have := HL.out; rw [e] at this; simp at this; omega)
        have S4 := Lib.hid (fun W' (ht : Turn w9 W' nowhere) => (show Seg W' (some ⟨b, 4, none⟩) 8 (cap - 4) ((B.drop 4).take 8) from by
          have h := ((HSG9.out.drop (show 4 ≤ n by omega)).take (show 8 ≤ n - 4 by omega)).grown ht.grown
          rwa [Nat.zero_add] at h))
        have B4 : Hid (Oct.IsB ((B.drop 4).take 8)) := Lib.hid (isB_take (isB_drop HB.out 4) 8)
        obtain ⟨gv, hgv⟩ : ∃ gv, gv = gen B := ⟨_, rfl⟩
        have HC8 : Hid (ofB ((B.drop 4).take 8) = gv) := Lib.hid (by rw [hgv]; rfl)
        have HX := Lib.hid hx
        have HGV := Lib.hid hgv
        have HDS := Lib.hid hDS
        clear hE hx hgv hDS hk2 n2 n4 n5
        -- what Put answers of what was read
        have hdl : (dat B).length = k := by unfold dat; rw [HK.out, Int.toNat_natCast, List.length_take, List.length_drop, ← HL.out]; have := HKN.out; omega
        have hok : FmOk (B.getD 0 0, gen B, dat B) := ⟨getD_isB HB.out 0, gen_lt B HB.out (by rw [← HL.out]; omega), isB_take (isB_drop HB.out _) _⟩
        have hpv : putF (n : Int) (B.getD 0 0, gen B, dat B) = (blk n (B.getD 0 0) (gen B) (dat B), 0) := by
          unfold putF
          rw [if_neg (by simpa using HFT.out), if_neg (by show ¬ (n : Int) - 16 < ((dat B).length : Int); rw [hdl]; have := HKN.out; omega), Int.toNat_natCast]
        have hiff := blk_iff B HB.out (by rw [← HL.out]; exact HFT.out) HGG.out (by rw [HK.out, ← HL.out]; have := HKN.out; omega)
        rw [← HL.out] at hiff
        obtain ⟨PB, hPB⟩ : ∃ PB, PB = strOfNums (blk n (B.getD 0 0) (gen B) (dat B)) := ⟨_, rfl⟩
        have HPT := Lib.hid (fun W => (rput_any (n : Int) (B.getD 0 0, gen B, dat B) W hok).mono fun e w' (h : _ ∧ _) => (show e = .returned (.tuple #[.string PB, .int .i64 0]) ∧ W.grownBy w' none from ⟨by rw [h.1, hpv, hPB]; rfl, h.2⟩))
        simp only [← HX.out, ← HGV.out, ← HDS.out] at HPT
        have hbB := blk_isB n (B.getD 0 0) (gen B) (dat B) hok.1 hok.2.2
        have HIFF := Lib.hid hiff
        have HPBB := Lib.hid hPB
        have HBB := Lib.hid hbB
        have T9' := Lib.hid (T9.out.trans ((Turn.alloc w9 (.cells #[.int .u8 x, .int .u64 gv, .string DS] 41) nowhere).trans (Turn.drew _ nowhere) (fun _ _ e => e)) (fun _ _ e => e))
        have P9' := Lib.hid (block_turn P9.out ((Turn.alloc w9 (.cells #[.int .u8 x, .int .u64 gv, .string DS] 41) nowhere).trans (Turn.drew _ nowhere) (fun _ _ e => e)) id)
        have Q9' := Lib.hid (show (w9.alloc (.cells #[.int .u8 x, .int .u64 gv, .string DS] 41)).drew.heap[w9.heap.size]? = some (.cells #[.int .u8 x, .int .u64 gv, .string DS] 41 (0, 0)) from heap_alloc_new w9 _)
        have HFE : Hid (Ending.returned (.tuple #[.agg #[.int .u8 x, .int .u64 gv, .string DS], .int .i64 0]) = fmE ((B.getD 0 0, gen B, dat B), 0)) := Lib.hid (by rw [HX.out, HGV.out, HDS.out]; rfl)
        clear hdl hok hpv hiff hPB hbB
        go_region_held3 (fun w' => w'.cell? ⟨b, 0, none⟩ = some (.int .u8 x)) (go_keep)
          (first
            | (go_at_call 38
               (with_reducible refine (Ref1.rof_any _ _ _ _ ((B.drop 4).take 8) _ (S4.out _ (by first | exact Turn.drew _ _ | exact (Turn.alloc _ _ _).trans (Turn.drew _ _) (fun _ _ e => e))) B4.out (by omega)).mono ?_)
               rintro e w' ⟨rfl, rfl⟩
               rw [HC8.out])
            | fail)
        all_goals
          clear c0 hex E1 E2 E3 E4 E5 n12 n40 n00 n01 hbz
          generalize (w9.alloc (.cells #[.int .u8 x, .int .u64 gv, .string DS] 41)).drew = X9 at *
          obtain ⟨a0, a1, a2⟩ := fm_cells Q9'.out
          go_wp2_with fail
          refine (HPT.out _).mono ?_
          rintro e wp ⟨rfl, hgp⟩
          have tp := Turn.of_grown hgp (S := nowhere) (fun i e => by cases e)
          have Pp := Lib.hid (block_turn P9'.out tp id)
          have Qp := Lib.hid (block_turn Q9'.out tp id)
          have Tp := Lib.hid (T9'.out.trans tp (fun _ _ e => e))
          clear hgp tp a0 a1 a2
          dsimp only
          by_cases hsh : Shape B
          · have hs : (PB.toList == (strOfNums B).toList) = true := by
              rw [HPBB.out, HIFF.out.2 hsh]
              exact beq_self_eq_true _
            have HE : Hid (Ending.returned (.tuple #[.agg #[.int .u8 x, .int .u64 gv, .string DS], .int .i64 0]) = fmE (getF B)) := Lib.hid (by rw [HFE.out, HF.out]; unfold readF; rw [if_neg (fun e => e hsh)])
            clear hsh
            obtain ⟨a0, a1, a2⟩ := fm_cells Qp.out
            go_wp2_with (first
              | (with_reducible refine wpList_store_cells rfl (.tmp 2) (.tmp 66) rfl w.heap.size rfl x gv DS rfl _ _ _ Pp.out ?_; intro X2 hx2 ht2)
              | fail)
            have HG : Hid (w.grownBy X2 none) := ⟨ht2.os.trans Tp.out.os, ht2.tape.trans Tp.out.tape, ht2.output.trans Tp.out.output, Nat.le_trans Tp.out.size ht2.size, fun i hi _ => (ht2.block i (Nat.lt_of_lt_of_le hi Tp.out.size) (fun e => by have : i = w.heap.size := e; omega)).trans (Tp.out.block i hi id)⟩
            refine bodyPost_ret (run_results_fm rfl _ _ _ _ _ _ rfl hx2 (.int .i64 0) rfl) rfl ⟨HE.out, HG.out⟩
          · have hs : (PB.toList == (strOfNums B).toList) = false := by
              rw [HPBB.out]
              exact toList_ne (fun e => hsh (HIFF.out.1 (str_inj HBB.out HB.out e)))
            have HE : Hid (fmE (getF B) = fmE (none3, 4)) := Lib.hid (by rw [HF.out]; unfold readF; rw [if_pos hsh])
            clear hsh
            go_wp2_with (first
              | (with_reducible refine wpList_store_fm rfl (.tmp 2) (.tmp 65) rfl w.heap.size rfl none3 rfl _ _ _ Pp.out ?_; intro X2 hx2 ht2)
              | fail)
            have HG : Hid (w.grownBy X2 none) := ⟨ht2.os.trans Tp.out.os, ht2.tape.trans Tp.out.tape, ht2.output.trans Tp.out.output, Nat.le_trans Tp.out.size ht2.size, fun i hi _ => (ht2.block i (Nat.lt_of_lt_of_le hi Tp.out.size) (fun e => by have : i = w.heap.size := e; omega)).trans (Tp.out.block i hi id)⟩
            refine bodyPost_ret (run_results_fm rfl _ _ _ _ _ _ rfl hx2 (.int .i64 4) rfl) rfl ⟨HE.out.symm, HG.out⟩
      · have hk2 : (n : Int) - 16 < (k : Int) := by omega
        have HE : Hid (fmE (getF B) = fmE (none3, 4)) := Lib.hid (by rw [HF.out]; unfold readF; rw [if_pos (fun e => by have := e.1; rw [HK.out, ← HL.out] at this; omega)])
        go_wp2_with (first
          | (with_reducible refine wpList_store_fm rfl (.tmp 2) (.tmp 40) rfl w.heap.size rfl none3 rfl _ _ _ P9.out ?_; intro X2 hx2 ht2)
          | fail)
        have HG : Hid (w.grownBy X2 none) := ⟨ht2.os.trans T9.out.os, ht2.tape.trans T9.out.tape, ht2.output.trans T9.out.output, Nat.le_trans T9.out.size ht2.size, fun i hi _ => (ht2.block i (Nat.lt_of_lt_of_le hi T9.out.size) (fun e => by have : i = w.heap.size := e; omega)).trans (T9.out.block i hi id)⟩
        refine bodyPost_ret (run_results_fm rfl _ _ _ _ _ _ rfl hx2 (.int .i64 4) rfl) rfl ⟨HE.out.symm, HG.out⟩
    · have e1 : (IntKind.u64.wrap (C : Int) != O) = true := by rw [hW]; exact bne_iff_ne.2 (fun e => hg (HGD.out.2 e))
      have HE : Hid (fmE (getF B) = fmE (none3, 10)) := Lib.hid (by unfold getF; rw [if_neg (by rw [← HL.out]; simpa using HFT.out), if_pos hg])
      clear hg hW
      go_region_held3 (fun _ => True) (trivial)
        (first
          | (go_at_call 31
             (with_reducible refine (Crc.rof_any _ _ _ (B.take (m)) _ SC.out BC.out).mono ?_)
             rintro e w8 ⟨rfl, hg8⟩
             rw [← HC.out]
             have T8 := Lib.hid ((Turn.drew X nowhere).trans (Turn.of_grown hg8 (S := nowhere) (fun i e => by cases e)) (fun _ _ e => e))
             have SO8 := Lib.hid (SO.out.grown hg8)
             clear hg8)
          | (go_at_call 38
             (with_reducible refine (Ref1.rof_any _ _ _ _ (B.drop (m)) _ SO8.out BO.out (by omega)).mono ?_)
             rintro e w' ⟨rfl, rfl⟩
             rw [← HO.out])
          | fail)
      have P8 := Lib.hid (block_turn P4.out T8.out id)
      have T8' := Lib.hid (T4.out.trans T8.out (fun _ _ e => e))
      clear SO8
      go_wp2_with (first
        | (with_reducible refine wpList_store_fm rfl (.tmp 2) (.tmp 31) rfl w.heap.size rfl none3 rfl _ _ _ P8.out ?_; intro X2 hx2 ht2)
        | fail)
      have HG : Hid (w.grownBy X2 none) := ⟨ht2.os.trans T8'.out.os, ht2.tape.trans T8'.out.tape, ht2.output.trans T8'.out.output, Nat.le_trans T8'.out.size ht2.size, fun i hi _ => (ht2.block i (Nat.lt_of_lt_of_le hi T8'.out.size) (fun e => by have : i = w.heap.size := e; omega)).trans (T8'.out.block i hi id)⟩
      refine bodyPost_ret (run_results_fm rfl _ _ _ _ _ _ rfl hx2 (.int .i64 10) rfl) rfl ⟨HE.out.symm, HG.out⟩
  · have HR := Lib.hid (show room (B.length : Int) = 0 from if_neg hn)
    have HF : Hid (fmE (getF B) = fmE (none3, 2)) := Lib.hid (by unfold getF; rw [if_pos hn])
    clear hn
    go_enter Tryd.func55, Tryd.ntmps55
    go_wp2_with fail
    refine (rroom_any B.length _).mono ?_
    rintro e w1 ⟨rfl, hg1⟩
    have t1 := Turn.of_grown hg1 (S := nowhere) (fun i e => by cases e)
    have P1 := Lib.hid (block_turn P0.out t1 id)
    have T1 := Lib.hid (T0.out.trans t1 (fun _ _ e => e))
    rw [HR.out]
    clear hg1 t1
    go_wp2_with (first
      | (with_reducible refine wpList_store_fm rfl (.tmp 2) (.tmp 14) rfl w.heap.size rfl none3 rfl _ _ _ P1.out ?_; intro X2 hx2 ht2)
      | fail)
    have HG : Hid (w.grownBy X2 none) := ⟨ht2.os.trans T1.out.os, ht2.tape.trans T1.out.tape, ht2.output.trans T1.out.output, Nat.le_trans T1.out.size ht2.size, fun i hi _ => (ht2.block i (Nat.lt_of_lt_of_le hi T1.out.size) (fun e => by have : i = w.heap.size := e; omega)).trans (T1.out.block i hi id)⟩
    refine bodyPost_ret (run_results_fm rfl _ _ _ _ _ _ rfl hx2 (.int .i64 2) rfl) rfl ⟨HF.out.symm, HG.out⟩
end Go.Proofs.YtfojkglindpjjaaDoor.Fr
