/-
  CrcNames: the chapter's examples.
-/
import Derived.Test.YtdkcieojfkfaiaaCrcBehind
import Derived.Test.YtdkcieojfkfaiaaCrcOpen
namespace Go.Proofs.Ytdkcieojfkfaiaa.Crc
open Go.RowKit Bs

theorem setRow_alloc (w : World) (c c' : Array Value) (t : TypeId) : (w.alloc (.cells c t)).setRow w.heap.size c' = w.alloc (.cells c' t) := by
  have hm : ∀ (a : Array Obj) (x : Obj) (f : Obj → Obj), (a.push x).modify a.size f = a.push (f x) := by
    intro a x f
    apply Array.ext
    · simp
    · intro i h1 h2
      simp only [Array.getElem_modify, Array.getElem_push]
      by_cases h : a.size = i
      · subst h
        simp
      · have hi : i < a.size := by simp at h1; omega
        simp [h, hi]
  unfold World.setRow World.alloc
  simp only [hm]

theorem entry_0 : entry 0 = 0 := by decide +kernel
theorem entry_128 : entry 128 = 2197175160 := by decide +kernel
theorem crc_nil : crc [] = 0 := by decide +kernel
theorem flip_1 : flip [1, 2] 7 3 5 = [129, 0] := by decide +kernel
theorem flip_2 : flip [1, 2] (-1) 3 7 = [1, 2] := by decide +kernel
theorem flip_3 : flip [1, 2] 0 33 7 = [1, 2] := by decide +kernel
theorem flip_4 : flip [1, 2] 14 5 31 = [1, 194] := by decide +kernel

theorem grown_alloc_drewN (w : World) (o : Obj) (m : Nat) : w.grownBy ((w.alloc o).drewN m) none := ⟨rfl, rfl, rfl, by show w.heap.size ≤ (w.alloc o).heap.size; simp, fun k hk _ => heap_alloc_old w o hk⟩
theorem grown_drewN (w : World) (m : Nat) : w.grownBy (w.drewN m) none := ⟨rfl, rfl, rfl, Nat.le_refl _, fun _ _ _ => rfl⟩

set_option maxRecDepth 100000 in
set_option maxHeartbeats 4000000 in
theorem names_law (w : World) :
    Calls Try.prog 3 #[] w fun e w' => e = .returned (.bool true) ∧ Below w.heap.size w w' := by
  obtain ⟨cs, hcs⟩ : ∃ cs : List Value, tab entry = cs.toArray := ⟨(tab entry).toList, by simp⟩
  have hu := Try.underlying24
  have hi : (Try.prog.info? 24).map (·.size) = some cs.length := by
    rw [info_tab entry, hcs]
    simp
  have hi2 : (Try.prog.info? 24).map (·.size) = some cs.toArray.size := by rw [hi]; simp
  have hz : ∀ w : World, (zeroValue 24).run Try.prog w = .ok (.agg (tab (part 0))) w := fun _ => by rw [tab_start]; kernel_rfl
  have HT := Lib.hid (fun w : World => (hcs ▸ table_any w : Calls Try.prog 10 #[] w fun e w' => e = .returned (.agg cs.toArray) ∧ w.grownBy w' none))
  have HX := Lib.hid (fun (a0 : Option Addr) (n0 c0 : Nat) (l0 : List Int) (w : World) (h : Seg w a0 n0 c0 l0) (hb : Bs.IsB l0) => (hcs ▸ sum_any entry a0 n0 c0 l0 w h hb entry_lt : Calls Try.prog 13 #[.agg cs.toArray, .slice a0 n0 c0] w fun e w' => e = .returned (.int .u32 (crc l0)) ∧ w.grownBy w' none))
  have HU := Lib.hid (fun (w : World) => (hcs ▸ update_any entry 7 none 0 0 [] w (Seg.nil w) (fun x h => by cases h) (by decide) entry_lt : Calls Try.prog 14 #[.agg cs.toArray, .int .u32 7, .slice none 0 0] w fun e w' => e = .returned (.int .u32 7) ∧ w.grownBy w' none))
  have hone : cs.toArray.all (·.oneCell') = true := hcs ▸ tab_one entry
  have hsz : (tab (part 0)).size = cs.toArray.size := by rw [← hcs, tab_size, tab_size]
  have hg0 : cs[0]? = some (.int .u32 0) := by
    have := tab_get entry 0 (by decide)
    rw [hcs, entry_0] at this
    simpa using this
  have hg128 : cs[128]? = some (.int .u32 2197175160) := by
    have := tab_get entry 128 (by decide)
    rw [hcs, entry_128] at this
    simpa using this
  have HG0 := Lib.hid hg0
  have HG128 := Lib.hid hg128
  have HB : Hid (Bs.IsB [1, 2]) := isB_of _ (by decide)
  have HSZ := Lib.hid hsz
  clear hcs hg0 hg128 hsz
  go_enter Try.func3, Try.ntmps3
  go_wp2_with fail
  refine (lives_any w).mono ?_
  rintro e w1 ⟨rfl, hg⟩
  have T1 := Lib.hid hg
  clear hg
  go_wp2_with fail
  refine (HT.out w1).mono ?_
  rintro e w2 ⟨rfl, hg⟩
  have T2 := Lib.hid (grownBy_trans T1.out hg (fun _ e => by cases e))
  clear hg
  have HA := Lib.hid (heap_alloc_new w2 (.cells (tab (part 0)) 24))
  go_wp2_with (first
    | (refine wpList_store_row rfl _ _ _ rfl w2.heap.size cs.toArray rfl rfl _ (tab (part 0)) HA.out hi2 HSZ.out hone ?_; rw [setRow_alloc]
       have T3 := Lib.hid (grownBy_trans T2.out (World.grownBy_alloc w2 (.cells cs.toArray 24) none) (fun _ e => by cases e))
       have R3 : Hid ((w2.alloc (.cells cs.toArray 24)).rangeAt w2.heap.size 0 cs) := Lib.hid (fun j v hv => by rw [Nat.zero_add, World.cell?_alloc_new]; simpa using hv)
       have hlt3 : w2.heap.size < (w2.alloc (.cells cs.toArray 24)).heap.size := by simp
       generalize hB : w2.heap.size = B at *
       generalize w2.alloc (.cells cs.toArray 24) = w3 at *)
    | fail)
  have L4 := Lib.hid (lit_seg w3 [1, 2] (by decide))
  have A4 := World.grownBy_alloc w3 (.cells #[Value.int .u8 1, Value.int .u8 2] 5) none
  have T4 := Lib.hid (grownBy_trans T3.out A4 (fun _ e => by cases e))
  have R4 : Hid ((w3.alloc (.cells #[Value.int .u8 1, Value.int .u8 2] 5)).rangeAt B 0 cs) := Lib.hid (fun j v hv => A4.cell (R3.out j v hv) (by simp))
  clear A4
  refine (flip_any (some ⟨w3.heap.size, 0, none⟩) 2 2 [1, 2] 7 3 5 _ L4.out HB.out (by omega) (by omega) (by decide)).mono ?_
  rw [flip_1]
  rintro e w5 ⟨g5, c5, rfl, hown, hg⟩
  have S5 := Lib.hid (Seg.own hown)
  have T5 := Lib.hid (grownBy_trans T4.out hg (fun _ e => by cases e))
  have L5 : Hid (Seg w5 (some ⟨w3.heap.size, 0, none⟩) 2 2 [1, 2]) := Lib.hid (L4.out.grown hg)
  have R5 : Hid (w5.rangeAt B 0 cs) := Lib.hid (fun j v hv => hg.cell (R4.out j v hv) (by simp))
  have z0 : w5.cell? ⟨B, 0, none⟩ = some (.int .u32 0) := by have := R5.out 0 _ HG0.out; rwa [Nat.zero_add] at this
  have z1 : w5.cell? ⟨B, 128, none⟩ = some (.int .u32 2197175160) := by have := R5.out 128 _ HG128.out; rwa [Nat.zero_add] at this
  clear hown hg
  generalize w3.heap.size = G at L4 L5
  go_wp2_with fail
  refine (of_any none 0 0 [] w5 (Seg.nil w5) (fun x h => by cases h)).mono ?_
  rw [crc_nil]
  rintro e w6 ⟨rfl, hg⟩
  have T6 := Lib.hid (grownBy_trans T5.out hg (fun _ e => by cases e))
  have R6 : Hid (w6.rangeAt B 0 cs) := Lib.hid (fun j v hv => hg.cell (R5.out j v hv) (by simp))
  have D6 := Lib.hid hg
  clear hg z0 z1
  go_wp2_with (first
    | (refine wpList_wanted (by rfl) (wp_load_mid _ _ rfl B 0 rfl cs _ R6.out hu rfl hi ?_))
    | fail)
  refine (HX.out _ _ _ [1, 2] w6 (L5.out.grown D6.out) HB.out).mono ?_
  rintro e w7 ⟨rfl, hg⟩
  have T7 := Lib.hid (grownBy_trans T6.out hg (fun _ e => by cases e))
  have R7 : Hid (w7.rangeAt B 0 cs) := Lib.hid (fun j v hv => hg.cell (R6.out j v hv) (by simp))
  have D7 := Lib.hid (grownBy_trans D6.out hg (fun _ e => by cases e))
  clear hg
  go_wp2_with fail
  refine (of_any _ _ _ [1, 2] w7 (L5.out.grown D7.out) HB.out).mono ?_
  rintro e w8 ⟨rfl, hg⟩
  have T8 := Lib.hid (grownBy_trans T7.out hg (fun _ e => by cases e))
  have R8 : Hid (w8.rangeAt B 0 cs) := Lib.hid (fun j v hv => hg.cell (R7.out j v hv) (by simp))
  have D8 := Lib.hid (grownBy_trans D7.out hg (fun _ e => by cases e))
  have hq : ((crc [1, 2] : Int) == (crc [1, 2] : Int)) = true := beq_self_eq_true _
  clear hg
  generalize crc [1, 2] = z at hq
  go_wp2_with (first
    | (refine wpList_wanted (by rfl) (wp_load_mid _ _ rfl B 0 rfl cs _ R8.out hu rfl hi ?_))
    | fail)
  refine (HU.out w8).mono ?_
  rintro e w9 ⟨rfl, hg⟩
  have T9 := Lib.hid (grownBy_trans T8.out hg (fun _ e => by cases e))
  have D9 := Lib.hid (grownBy_trans D8.out hg (fun _ e => by cases e))
  clear hg
  go_wp2_with fail
  have A10 := World.grownBy_alloc w9 (.cells #[Value.int .u8 129, Value.int .u8 0] 5) none
  refine (same_yes _ _ _ _ _ [129, 0] _ ((S5.out.grown D9.out).grown A10) (lit_seg w9 [129, 0] (by decide))).mono ?_
  rintro e w10 ⟨rfl, mm, hmm⟩
  have hg : w9.grownBy w10 none := hmm ▸ grown_alloc_drewN _ _ _
  have T10 := Lib.hid (grownBy_trans T9.out hg (fun _ e => by cases e))
  have D10 := Lib.hid (grownBy_trans D9.out hg (fun _ e => by cases e))
  clear hg hmm A10
  go_wp2_with fail
  have A11 := World.grownBy_alloc w10 (.cells #[Value.int .u8 1, Value.int .u8 2] 5) none
  refine (same_yes _ _ _ _ _ [1, 2] _ ((L5.out.grown D10.out).grown A11) (lit_seg w10 [1, 2] (by decide))).mono ?_
  rintro e w11 ⟨rfl, mm, hmm⟩
  have hg : w10.grownBy w11 none := hmm ▸ grown_alloc_drewN _ _ _
  have T11 := Lib.hid (grownBy_trans T10.out hg (fun _ e => by cases e))
  have D11 := Lib.hid (grownBy_trans D10.out hg (fun _ e => by cases e))
  clear hg hmm A11
  go_wp2_with fail
  refine (flip_any _ 2 2 [1, 2] (-1) 3 7 _ (L5.out.grown D11.out) HB.out (by omega) (by omega) (by decide)).mono ?_
  rw [flip_2]
  rintro e w12 ⟨g12, c12, rfl, hown, hg⟩
  have S12 := Lib.hid (Seg.own hown)
  have T12 := Lib.hid (grownBy_trans T11.out hg (fun _ e => by cases e))
  have D12 := Lib.hid (grownBy_trans D11.out hg (fun _ e => by cases e))
  clear hown hg
  go_wp2_with fail
  refine (same_yes _ _ _ _ _ [1, 2] w12 S12.out (L5.out.grown D12.out)).mono ?_
  rintro e w13 ⟨rfl, mm, hmm⟩
  have hg : w12.grownBy w13 none := hmm ▸ grown_drewN _ _
  have T13 := Lib.hid (grownBy_trans T12.out hg (fun _ e => by cases e))
  have D13 := Lib.hid (grownBy_trans D12.out hg (fun _ e => by cases e))
  clear hg hmm
  go_wp2_with fail
  refine (flip_any _ 2 2 [1, 2] 0 33 7 _ (L5.out.grown D13.out) HB.out (by omega) (by omega) (by decide)).mono ?_
  rw [flip_3]
  rintro e w14 ⟨g14, c14, rfl, hown, hg⟩
  have S14 := Lib.hid (Seg.own hown)
  have T14 := Lib.hid (grownBy_trans T13.out hg (fun _ e => by cases e))
  have D14 := Lib.hid (grownBy_trans D13.out hg (fun _ e => by cases e))
  clear hown hg
  go_wp2_with fail
  refine (same_yes _ _ _ _ _ [1, 2] w14 S14.out (L5.out.grown D14.out)).mono ?_
  rintro e w15 ⟨rfl, mm, hmm⟩
  have hg : w14.grownBy w15 none := hmm ▸ grown_drewN _ _
  have T15 := Lib.hid (grownBy_trans T14.out hg (fun _ e => by cases e))
  have D15 := Lib.hid (grownBy_trans D14.out hg (fun _ e => by cases e))
  clear hg hmm
  go_wp2_with fail
  refine (flip_any _ 2 2 [1, 2] 14 5 31 _ (L5.out.grown D15.out) HB.out (by omega) (by omega) (by decide)).mono ?_
  rw [flip_4]
  rintro e w16 ⟨g16, c16, rfl, hown, hg⟩
  have S16 := Lib.hid (Seg.own hown)
  have T16 := Lib.hid (grownBy_trans T15.out hg (fun _ e => by cases e))
  have D16 := Lib.hid (grownBy_trans D15.out hg (fun _ e => by cases e))
  clear hown hg
  go_wp2_with fail
  have A17 := World.grownBy_alloc w16 (.cells #[Value.int .u8 1, Value.int .u8 194] 5) none
  refine (same_yes _ _ _ _ _ [1, 194] _ (S16.out.grown A17) (lit_seg w16 [1, 194] (by decide))).mono ?_
  rintro e w17 ⟨rfl, mm, hmm⟩
  have hg : w16.grownBy w17 none := hmm ▸ grown_alloc_drewN _ _ _
  have HF := Lib.hid (below_of (grownBy_trans T16.out hg (fun _ e => by cases e)))
  clear hg hmm A17
  go_wp2
  go_ret
  exact ⟨rfl, HF.out⟩
end Go.Proofs.Ytdkcieojfkfaiaa.Crc
