/-
  OctetNames: the chapter's examples come out as it tells.
-/
import Derived.Test.YtjjkckocdenncaaOctBack
import Derived.Lib.SlBytesConst
namespace Go.Proofs.Ytjjkckocdenncaa.Oct
open Go.RowKit

/-- A literal of bytes, as a slice that reads. -/
theorem lit_seg (w : World) (l : List Int) (hl : l.length ≤ 1000) : Seg (w.alloc (.cells (l.map (Value.int .u8)).toArray 5)) (some ⟨w.heap.size, 0, none⟩) l.length l.length l := by
  have h := World.ownsRow_lit (base := w.heap.size) (e := 5) (size := 1) w (l.map (Value.int .u8)).toArray l.length (Nat.le_refl _) (by unfold maxLen; omega) (by simp)
  have e : (l.map (Value.int .u8)).toArray.toList = l.map (Value.int .u8) := by simp
  rw [e] at h
  exact Seg.own h

theorem of_long (a : Option Addr) (n c : Nat) (w : World) (hn : 8 < n) :
    Calls Try.prog 15 #[.slice a n c] w fun e w' => e = .returned (.int .u64 0) ∧ w = w' := by
  go_enter Try.func15, Try.ntmps15
  go_wp2
  go_ret
  exact ⟨rfl, rfl⟩

/-- Var, its answer reckoned. -/
theorem var_is (b g : Nat) (l r : List Int) (v e : Int) (n : Nat) (w : World) (h : Rd w b g l) (hb : IsB l) (hr : readV 0 0 l = (v, e, n)) (hd : l.drop n = r) :
    Calls Try.prog 9 #[.pointer (some ⟨b, 0, none⟩)] w fun x w' => x = .returned (.tuple #[.int .u64 v, .int .i64 e]) ∧ w.grownBy w' (some b) ∧ Rd w' b g r :=
  (var_any b g l w h hb).mono fun x w' ⟨hx, hg, hrd⟩ => by
    rw [hr] at hx hrd
    rw [← hd]
    exact ⟨hx, hg, hrd⟩

theorem number_is (b g : Nat) (l r : List Int) (n : Nat) (v : Int) (w : World) (h : Rd w b g l) (hb : IsB l) (n1 : 1 ≤ n) (n8 : n ≤ 8) (hn : n ≤ l.length) (hv : ofB (l.take n) = v) (hd : l.drop n = r) :
    Calls Try.prog 10 #[.pointer (some ⟨b, 0, none⟩), .int .i64 n] w (ReadN b g w v r) := by
  subst hv hd
  exact number_yes b g l n w h hb n1 n8 hn

theorem grownBy_drewN {w w' : World} (m : Nat) (h : w.grownBy w' none) : w.grownBy (w'.drewN m) none := ⟨h.os, h.tape, h.output, h.size, h.block⟩

theorem isB_of (l : List Int) (h : (l.all fun x => decide (0 ≤ x) && decide (x < 256)) = true) : IsB l := by
  intro x hx
  have := List.all_eq_true.1 h x hx
  simpa using this

theorem lit_seg_mark (w : World) (l : List Int) (fr : Nat × Nat) (hl : l.length ≤ 1000) : Seg (w.alloc (.cells (l.map (Value.int .u8)).toArray 5 fr)) (some ⟨w.heap.size, 0, none⟩) l.length l.length l := by
  refine ⟨rfl, Nat.le_refl _, by unfold maxLen; omega, (fun e => by cases e), fun ad had j u hu => ?_⟩
  cases had
  rw [Addr.add_lit, World.cell?_alloc_mark]
  simpa using hu

set_option maxRecDepth 100000 in
set_option maxHeartbeats 4000000 in
theorem names_law (w : World) :
    Calls Try.prog 3 #[] w fun e w' => e = .returned (.bool true) ∧ Below w.heap.size w w' := by
  have hcv := fun (w : World) (C : Array Value) (n c : Nat) => Lib.run_convert_bytes_const (P := Try.prog) w 25 5 C n c Try.underlying25 Try.underlying5
  have hmk : ∀ (w : World), (Instr.makeSlice 25 (.int .i64 9) (.int .i64 9)).run Try.prog w = .ok (.slice (some ⟨w.heap.size, 0, none⟩) 9 9) (w.alloc (.cells #[.int .u8 0, .int .u8 0, .int .u8 0, .int .u8 0, .int .u8 0, .int .u8 0, .int .u8 0, .int .u8 0, .int .u8 0] 5)) := fun _ => by kernel_rfl
  go_enter Try.func3, Try.ntmps3
  go_wp2_with fail
  refine (lives_any w).mono ?_
  rintro e w1 ⟨rfl, hg1⟩
  go_wp2_with fail
  have s1 := lit_seg w1 [172, 2, 7, 128, 0, 128] (by decide)
  refine (new_any _ _ _ _ _ s1 (by decide)).mono ?_
  rintro e w2 ⟨b, g, rfl, hb, _, hr, hgr⟩
  have HB : Hid (w.heap.size ≤ b) := Lib.hid (by have := hg1.size; simp at hb; omega)
  have HG := Lib.hid (grownBy_trans (grownBy_trans hg1 (World.grownBy_alloc w1 _ none) (fun _ e => by cases e)) hgr (fun _ e => by cases e))
  have HR := Lib.hid hr
  clear hr hgr hb s1 hg1
  go_wp2_with fail
  refine (var_is b g _ [7, 128, 0, 128] 300 0 2 w2 HR.out (isB_of _ (by decide)) (by decide) rfl).mono ?_
  rintro e w3 ⟨rfl, hg3, hr3⟩
  have HG3 := Lib.hid (grownBy_trans HG.out hg3 (fun i e => by cases e; exact HB.out))
  have HR3 := Lib.hid hr3
  clear hr3 hg3
  go_wp2_with fail
  refine (number_arg b g _ 9 w3 HR3.out (by decide)).mono ?_
  rintro e w' ⟨rfl, rfl⟩
  go_wp2_with fail
  refine (number_is b g _ [128, 0, 128] 1 7 w3 HR3.out (isB_of _ (by decide)) (by decide) (by decide) (by decide) (by decide) rfl).mono ?_
  rintro e w4 ⟨rfl, hg4, hr4⟩
  have HG4 := Lib.hid (grownBy_trans HG3.out hg4 (fun i e => by cases e; exact HB.out))
  have HR4 : Hid (Rd w4 b g [128, 0, 128]) := Lib.hid hr4
  clear hr4 hg4
  go_wp2_with fail
  refine (var_is b g _ [128, 0, 128] 0 4 0 w4 HR4.out (isB_of _ (by decide)) (by decide) rfl).mono ?_
  rintro e w5 ⟨rfl, hg5, hr5⟩
  have HG5 := Lib.hid (grownBy_trans HG4.out hg5 (fun i e => by cases e; exact HB.out))
  have HR5 := Lib.hid hr5
  clear hr5 hg5
  go_wp2_with fail
  refine (bytes_arg b g _ (-1) w5 HR5.out (by decide)).mono ?_
  rintro e w' ⟨rfl, rfl⟩
  go_wp2_with fail
  refine (bytes_yes b g _ 2 w5 HR5.out (by decide) (by decide)).mono ?_
  rintro e w6 hrb
  obtain ⟨x, q, rfl, rfl, hown6, hg6, hr6⟩ := hrb.value
  have HG6 := Lib.hid (grownBy_trans HG5.out hg6 (fun i e => by cases e; exact HB.out))
  have HR6 : Hid (Rd w6 b g [128]) := Lib.hid hr6
  have HX6 : Hid (some b ≠ some x) := Lib.hid (fun e => by
    obtain ⟨o7, c7, hc7, _⟩ := HR5.out.cells
    have h1 := World.block_lt_of_cell? w5 _ hc7
    have h2 : w5.heap.size ≤ x := (hown6.lt _ rfl).1
    have h3 := Option.some.inj e
    have h4 : b < w5.heap.size := h1
    omega)
  have HS6 : Hid (Seg w6 (some ⟨x, 0, none⟩) 2 2 [128, 0]) := Lib.hid (Seg.own hown6)
  clear hr6 hg6 hown6 hrb
  go_wp2_with fail
  refine (var_is b g _ [128] 0 7 0 w6 HR6.out (isB_of _ (by decide)) (by decide) rfl).mono ?_
  rintro e w7 ⟨rfl, hg7, hr7⟩
  have HG7 := Lib.hid (grownBy_trans HG6.out hg7 (fun i e => by cases e; exact HB.out))
  have HR7 := Lib.hid hr7
  have hxb := HX6.out
  have HS7 : Hid (Seg w7 (some ⟨x, 0, none⟩) 2 2 [128, 0]) := Lib.hid (HS6.out.kept hg7 (fun ad e => by cases e; exact hxb))
  clear hr7 hg7 hxb
  go_wp2_with fail
  refine (number_more b g _ 2 w7 HR7.out (by decide) (by decide) (by decide)).mono ?_
  rintro e w' ⟨rfl, rfl⟩
  go_wp2_with fail
  have s8 := lit_seg w7 [255, 255, 255, 255, 255, 255, 255, 255, 255, 2] (by decide)
  refine (new_any _ _ _ _ _ s8 (by decide)).mono ?_
  rintro e w8 ⟨b8, g8, rfl, hb8, hg8', hr8, hg8⟩
  have hg78 := grownBy_trans (World.grownBy_alloc w7 _ none) hg8 (fun _ e => by cases e)
  have HG8 := Lib.hid (grownBy_trans HG7.out hg78 (fun _ e => by cases e))
  have HB8 : Hid (w7.heap.size ≤ b8) := Lib.hid (by simp at hb8; omega)
  have HR8 := Lib.hid hr8
  have HRr8 := Lib.hid (HR7.out.kept hg78 (by simp) (by simp))
  have HS8 := Lib.hid (HS7.out.kept hg78 (fun ad e => by simp))
  clear hr8 hg8 hg78 s8 hb8 hg8'
  go_wp2_with fail
  refine (var_is b8 g8 _ _ 0 4 0 w8 HR8.out (isB_of _ (by decide)) (by decide) rfl).mono ?_
  rintro e w9 ⟨rfl, hg9, _⟩
  have HG9 := Lib.hid (grownBy_trans HG8.out hg9 (fun i e => by cases e; exact Nat.le_trans HG7.out.size HB8.out))
  have hold : ∀ i, i < w7.heap.size → some b8 ≠ some i := fun i hi e => by have := Option.some.inj e; have := HB8.out; omega
  obtain ⟨o7, c7, hc7, _, _, hj7⟩ := HR7.out.cells
  have hb7 := World.block_lt_of_cell? w7 _ hc7
  have hg7 := World.block_lt_of_cell? w7 _ (hj7 0 (by decide))
  have hx7 := World.block_lt_of_cell? w7 _ (HS7.out.at_ _ rfl 0 _ rfl)
  have HRr9 := Lib.hid (HRr8.out.kept hg9 (hold b hb7) (hold g hg7))
  have HS9 := Lib.hid (HS8.out.kept hg9 (fun ad e => by cases e; exact hold x (by simpa [Addr.add] using hx7)))
  clear hg9 hold hc7 hj7 hb7 hg7 hx7
  go_wp2_with fail
  have s9 := lit_seg w9 [255, 255, 255, 255, 255, 255, 255, 255, 255, 1] (by decide)
  refine (new_any _ _ _ _ _ s9 (by decide)).mono ?_
  rintro e w10 ⟨b10, g10, rfl, hb10, hg10', hr10, hg10⟩
  have hg9' := grownBy_trans (World.grownBy_alloc w9 _ none) hg10 (fun _ e => by cases e)
  have HG10 := Lib.hid (grownBy_trans HG9.out hg9' (fun _ e => by cases e))
  have HB10 : Hid (w9.heap.size ≤ b10) := Lib.hid (by simp at hb10; omega)
  have HR10 := Lib.hid hr10
  have HRr10 := Lib.hid (HRr9.out.kept hg9' (by simp) (by simp))
  have HS10 := Lib.hid (HS9.out.kept hg9' (fun ad e => by simp))
  clear hr10 hg10 hg9' s9 hb10 hg10'
  go_wp2_with fail
  refine (var_is b10 g10 _ [] 18446744073709551615 0 10 w10 HR10.out (isB_of _ (by decide)) (by decide) rfl).mono ?_
  rintro e w11 ⟨rfl, hg11, _⟩
  have HG11 := Lib.hid (grownBy_trans HG10.out hg11 (fun i e => by cases e; exact Nat.le_trans HG9.out.size HB10.out))
  have hold : ∀ i, i < w9.heap.size → some b10 ≠ some i := fun i hi e => by have := Option.some.inj e; have := HB10.out; omega
  obtain ⟨o7, c7, hc7, _, _, hj7⟩ := HRr9.out.cells
  have hb7 := World.block_lt_of_cell? w9 _ hc7
  have hg7 := World.block_lt_of_cell? w9 _ (hj7 0 (by decide))
  have hx7 := World.block_lt_of_cell? w9 _ (HS9.out.at_ _ rfl 0 _ rfl)
  have HRr11 := Lib.hid (HRr10.out.kept hg11 (hold b hb7) (hold g hg7))
  have HS11 := Lib.hid (HS10.out.kept hg11 (fun ad e => by cases e; exact hold x (by simpa [Addr.add] using hx7)))
  clear hg11 hold hc7 hj7 hb7 hg7 hx7
  go_wp2_with fail
  have s11 := lit_seg w11 [128, 0] (by decide)
  have HG12 := Lib.hid (grownBy_trans HG11.out (World.grownBy_alloc w11 (.cells #[.int .u8 128, .int .u8 0] 5) none) (fun _ e => by cases e))
  have HR12 := Lib.hid (HRr11.out.kept (World.grownBy_alloc w11 (.cells #[.int .u8 128, .int .u8 0] 5) none) (by simp) (by simp))
  have HS12 := Lib.hid (HS11.out.kept (World.grownBy_alloc w11 (.cells #[.int .u8 128, .int .u8 0] 5) none) (fun ad e => by simp))
  refine (same_yes _ _ 2 2 2 _ _ HS12.out s11).mono ?_
  rintro e w13 ⟨rfl, mm, hw13⟩
  have HR13 : Hid (Rd w13 b g [128]) := Lib.hid (by rw [hw13]; exact HR12.out.drewN mm)
  have HG13 : Hid (w.grownBy w13 none) := Lib.hid (by rw [hw13]; exact grownBy_drewN mm HG12.out)
  clear hw13 s11
  go_wp2_with fail
  refine (left_of b g _ 1 w13 HR13.out rfl).mono ?_
  rintro e w' ⟨rfl, rfl⟩
  go_wp2_with fail
  have s14 := lit_seg_mark w13 [97] (1, 2) (by decide)
  have HG14 := Lib.hid (grownBy_trans HG13.out (World.grownBy_alloc w13 (.cells #[.int .u8 97] 5 (1, 2)) none) (fun _ e => by cases e))
  refine (put_yes _ 1 1 [97] 4660 3 _ s14 (by decide) (by decide) (by decide) (by decide) (by decide)).mono ?_
  rintro e w15 hn15
  obtain ⟨g15, q15, rfl, hn15⟩ := hn15.value
  have h15 := hn15.is
  rw [show [97] ++ putB 3 4660 = [97, 52, 18, 0] from by decide] at h15
  obtain ⟨rfl, ho15, hg15⟩ := h15
  have HG15 := Lib.hid (grownBy_trans HG14.out hg15 (fun _ e => by cases e))
  have hc15 := conv_any g15 0 4 4 _ w15 (Seg.own ho15)
  rw [show strOfNums [97, 52, 18, 0] = ⟨#[97, 52, 18, 0]⟩ from by decide] at hc15
  have hc15' : (convert 25 9 (.slice (some ⟨g15, 0, none⟩) [97, 52, 18, 0].length [97, 52, 18, 0].length)).run Try.prog w15 = .ok (.string ⟨#[97, 52, 18, 0]⟩) w15 := hc15
  clear hn15 ho15 hg15 s14
  go_wp2_with fail
  have s16 := lit_seg_mark w15 [97] (1, 2) (by decide)
  have HG16 := Lib.hid (grownBy_trans HG15.out (World.grownBy_alloc w15 (.cells #[.int .u8 97] 5 (1, 2)) none) (fun _ e => by cases e))
  clear hc15 hc15'
  refine (put_no _ 1 1 [97] 1 9 _ s16 (by decide) (by decide)).mono ?_
  rintro e w17 hn17
  obtain ⟨g17, q17, rfl, hn17⟩ := hn17.value
  obtain ⟨rfl, ho17, hg17⟩ := hn17.is
  have HG17 := Lib.hid (grownBy_trans HG16.out hg17 (fun _ e => by cases e))
  have hc17 := conv_any g17 0 1 1 _ w17 (Seg.own ho17)
  rw [show strOfNums [97] = ⟨#[97]⟩ from by decide] at hc17
  have hc17' : (convert 25 9 (.slice (some ⟨g17, 0, none⟩) [97].length [97].length)).run Try.prog w17 = .ok (.string ⟨#[97]⟩) w17 := hc17
  clear hn17 ho17 hg17 s16
  go_wp2_with fail
  have s18 := lit_seg w17 [1, 2] (by decide)
  have HG18 := Lib.hid (grownBy_trans HG17.out (World.grownBy_alloc w17 (.cells (([1, 2] : List Int).map (Value.int .u8)).toArray 5) none) (fun _ e => by cases e))
  clear hc17 hc17'
  refine (of_any _ 0 2 2 [1, 2] _ s18 (isB_of _ (by decide)) (by decide)).mono ?_
  rintro e w18 ⟨rfl, hw18⟩
  rw [hw18] at HG18
  clear hw18 s18
  rw [show ofB [1, 2] = 513 from by decide]
  go_wp2_with fail
  refine (of_long _ 9 9 _ (by decide)).mono ?_
  rintro e w19 ⟨rfl, hw19⟩
  have HG19 : Hid (w.grownBy w19 none) := Lib.hid (by rw [← hw19]; exact grownBy_trans HG18.out (World.grownBy_alloc w18 _ none) (fun _ e => by cases e))
  clear hw19
  go_wp2_with fail
  refine (zag_any 5 _ (by decide) (by decide)).mono ?_
  rintro e w' ⟨rfl, rfl⟩
  rw [show zag 5 = -3 from by decide]
  go_wp2_with fail
  refine (zag_any 4 _ (by decide) (by decide)).mono ?_
  rintro e w' ⟨rfl, rfl⟩
  rw [show zag 4 = 2 from by decide]
  go_wp2
  go_ret
  exact ⟨rfl, (Below.refl _ _).grown HG19.out (Nat.le_refl _) (fun k h => by cases h)⟩
end Go.Proofs.Ytjjkckocdenncaa.Oct
