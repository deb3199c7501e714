/-
  What the program's and the document's functions do, in memory and as plain functions: SgGet2, SgHeadB, SgHead, SgPuts.
-/
import Derived.BigRegion
import Derived.Test.YtljanfnhmhimiaaGreatSmD
import Derived.Test.YtljanfnhmhimiaaGreatSmJ
import Derived.Test.YtljanfnhmhimiaaGreatSmK
import Derived.Test.YtljanfnhmhimiaaGreatSmL
import Derived.Test.YtljanfnhmhimiaaGreatSmM
import Derived.Test.YtljanfnhmhimiaaGreatSmQ
import Derived.Test.YtljanfnhmhimiaaGreatSmV
import Derived.Test.YtljanfnhmhimiaaGreatSmX
import Derived.Test.YtljanfnhmhimiaaGreatSmZ
import Derived.Test.YtljanfnhmhimiaaGreatSma
import Derived.Test.YtljanfnhmhimiaaGreatSmc

namespace Go.Proofs.YtljanfnhmhimiaaGreat.Sg
open Go.RowKit Go.Joins Zn Zr Dv
open Oct (Rd ReadN ReadV readV ofB)
open In (At turn_read sg)

theorem bit_of2 {c : Cel} (h : CelOk 2 c) : 0 ≤ c.n ∧ c.n < 2 := by
  have hk := h.k
  rcases cell_form h.ok with q | q | q | q
  · omega
  · omega
  · have := q.2.1; omega
  · omega
theorem rd_lt {w : World} {b g : Nat} {l : List Int} (h : Rd w b g l) : b < w.heap.size := by
  obtain ⟨o, c, h0, _⟩ := h.cells
  exact World.block_lt_of_cell? w _ h0
theorem cell_out {w : World} {fn : Func} {p : Tmp} (h : fn.results = #[.cell p 24]) (tmps : Array Value) (g : Nat) (c : Cel) (hp : tmps.getD p undef = .pointer (some ⟨g, 0, none⟩)) (hg : CB w g c) :
    (results fn tmps).run Tryz.prog w = .ok (.agg #[.int .i64 c.k, .int .i64 c.n, .string c.s]) w := run_results_row h tmps w g _ _ _ _ hp hg Tryz.underlying24 rfl info_cell2

set_option maxRecDepth 100000 in
set_option maxHeartbeats 2000000 in
theorem getCell_no_I (cb : Nat) (b g : Nat) (bs : List Int) (w : World) (h : Rd w b g bs) (hg : g < w.heap.size) (hb : Oct.IsB bs) (hl : bs.length ≤ 100000000) (ho : oneI bs = none) :
    Calls Tryz.prog 235 #[.agg #[.func (.func 89) #[] #[], .func (.func 90) #[] #[], .func (.func 91) #[] #[], .func (.func 93) #[] #[], .func (.func 95) #[] #[], .func (.func 140) #[] #[.pointer (some ⟨cb, 0, none⟩)]], .pointer (some ⟨b, 0, none⟩)] w (CellX b g 1 w none) := by
  have hbl := rd_lt h
  obtain ⟨W2, hW2⟩ : ∃ V, (w.alloc (.cells #[.func (.func 89) #[] #[], .func (.func 90) #[] #[], .func (.func 91) #[] #[], .func (.func 93) #[] #[], .func (.func 95) #[] #[], .func (.func 140) #[] #[.pointer (some ⟨cb, 0, none⟩)]] 99)).alloc (.cells #[.int .i64 0, .int .i64 0, .string ⟨#[]⟩] 24) = V := ⟨_, rfl⟩
  have ht2 : Turn w W2 nowhere := by rw [← hW2]; exact (Turn.alloc w _ nowhere).trans (Turn.alloc _ _ nowhere) (fun _ _ h => h)
  have hz2 : CB W2 (w.heap.size + 1) zeroC := by rw [← hW2]; have h := CB.new (w.alloc (.cells #[.func (.func 89) #[] #[], .func (.func 90) #[] #[], .func (.func 91) #[] #[], .func (.func 93) #[] #[], .func (.func 95) #[] #[], .func (.func 140) #[] #[.pointer (some ⟨cb, 0, none⟩)]] 99)) zeroC; rw [World.size_alloc] at h; exact h
  have hf : W2.cell? ⟨w.heap.size, 3, none⟩ = some (.func (.func 93) #[] #[]) := by rw [← hW2]; simp [go_sem]
  have h1 := getOne_I b g bs W2 (In.Turn.rd ht2 h id id) hb hl
  rw [ho] at h1
  have H1 := Lib.hid h1
  have HW := Lib.hid hW2
  have HT2 := Lib.hid ht2
  have HZ2 := Lib.hid hz2
  have hne : w.heap.size + 1 ≠ b := by omega
  clear hW2 ht2 hz2 h1 h hb hl ho
  go_enter Tryz.func235, Tryz.ntmps235
  go_upto_region 1 with (fail)
  rw [HW.out]
  go_wp2_with fail
  refine H1.out.mono ?_
  rintro e w3 ⟨ht3, v, er, r, rfl, hr3, hb3, hl3, he⟩
  have T3 := Lib.hid ((HT2.out.mono (fun _ _ e => e.elim) : Turn w W2 (At b)).trans ht3 (fun _ _ h => h))
  have Z3 : Hid (CB w3 (w.heap.size + 1) zeroC) := Lib.hid (block_turn HZ2.out ht3 hne)
  have q0 : (er != 0) = true := bne_iff_ne.2 he
  have R3 := Lib.hid hr3
  have B3 := Lib.hid (And.intro hb3 hl3)
  clear ht3 hr3 hb3 hl3 he hf H1 HW HT2 HZ2
  dsimp only
  go_wp2_with (first
    | (with_reducible refine wpList_store_cell rfl (.tmp 4) (.tmp 16) rfl (w.heap.size + 1) rfl zeroC rfl zeroC Z3.out ?_; intro w4 hz4 ht4)
    | fail)
  refine bodyPost_ret (cell_out rfl _ _ zeroC rfl hz4) rfl ⟨turn_new T3.out ht4 (by omega), zeroC, r, rfl, In.Turn.rd ht4 R3.out (by omega) (by omega), B3.out.1, B3.out.2, fun hh => ?_⟩
  have h1 := hh.k
  have h2 : zeroC.k = 0 := rfl
  omega

set_option maxRecDepth 100000 in
set_option maxHeartbeats 2000000 in
theorem getCell_yes_I (cb : Nat) (x : Int) (b g : Nat) (bs rest : List Int) (w : World) (h : Rd w b g bs) (hg : g < w.heap.size) (hb : Oct.IsB bs) (hl : bs.length ≤ 100000000) (ho : oneI bs = some (.int .i64 x, rest)) :
    Calls Tryz.prog 235 #[.agg #[.func (.func 89) #[] #[], .func (.func 90) #[] #[], .func (.func 91) #[] #[], .func (.func 93) #[] #[], .func (.func 95) #[] #[], .func (.func 140) #[] #[.pointer (some ⟨cb, 0, none⟩)]], .pointer (some ⟨b, 0, none⟩)] w fun e w' => Turn w w' (At b) ∧ e = .returned (.agg #[.int .i64 (⟨1, x, ⟨#[]⟩⟩ : Cel).k, .int .i64 (⟨1, x, ⟨#[]⟩⟩ : Cel).n, .string (⟨1, x, ⟨#[]⟩⟩ : Cel).s]) ∧ Rd w' b g rest ∧ Oct.IsB rest ∧ rest.length ≤ 100000000 := by
  have hbl := rd_lt h
  have HCC := Lib.hid (fun W => cell_I x W)
  obtain ⟨W2, hW2⟩ : ∃ V, (w.alloc (.cells #[.func (.func 89) #[] #[], .func (.func 90) #[] #[], .func (.func 91) #[] #[], .func (.func 93) #[] #[], .func (.func 95) #[] #[], .func (.func 140) #[] #[.pointer (some ⟨cb, 0, none⟩)]] 99)).alloc (.cells #[.int .i64 0, .int .i64 0, .string ⟨#[]⟩] 24) = V := ⟨_, rfl⟩
  have ht2 : Turn w W2 nowhere := by rw [← hW2]; exact (Turn.alloc w _ nowhere).trans (Turn.alloc _ _ nowhere) (fun _ _ h => h)
  have hz2 : CB W2 (w.heap.size + 1) zeroC := by rw [← hW2]; have h := CB.new (w.alloc (.cells #[.func (.func 89) #[] #[], .func (.func 90) #[] #[], .func (.func 91) #[] #[], .func (.func 93) #[] #[], .func (.func 95) #[] #[], .func (.func 140) #[] #[.pointer (some ⟨cb, 0, none⟩)]] 99)) zeroC; rw [World.size_alloc] at h; exact h
  have hf : W2.cell? ⟨w.heap.size, 3, none⟩ = some (.func (.func 93) #[] #[]) := by rw [← hW2]; simp [go_sem]
  have hf1 : W2.cell? ⟨w.heap.size, 1, none⟩ = some (.func (.func 90) #[] #[]) := by rw [← hW2]; simp [go_sem]
  have h1 := getOne_I b g bs W2 (In.Turn.rd ht2 h id id) hb hl
  rw [ho] at h1
  have H1 := Lib.hid h1
  have HW := Lib.hid hW2
  have HT2 := Lib.hid ht2
  have HZ2 := Lib.hid hz2
  have HF1 := Lib.hid hf1
  have hne : w.heap.size + 1 ≠ b := by omega
  clear hW2 ht2 hz2 h1 h hb hl ho hf1
  go_enter Tryz.func235, Tryz.ntmps235
  go_upto_region 1 with (fail)
  rw [HW.out]
  go_wp2_with fail
  refine H1.out.mono ?_
  rintro e w3 ⟨ht3, v, er, r, rfl, hr3, hb3, hl3, he, hv, hr⟩
  subst he hv hr
  have T3 := Lib.hid ((HT2.out.mono (fun _ _ e => e.elim) : Turn w W2 (At b)).trans ht3 (fun _ _ h => h))
  have Z3 : Hid (CB w3 (w.heap.size + 1) zeroC) := Lib.hid (block_turn HZ2.out ht3 hne)
  have f1 := ht3.cell HF1.out (by show ¬ w.heap.size = b; omega)
  have R3 := Lib.hid hr3
  have B3 := Lib.hid (And.intro hb3 hl3)
  clear ht3 hr3 hb3 hl3 hf H1 HW HT2 HZ2 HF1
  dsimp only
  go_wp2_with fail
  refine (HCC.out _).mono ?_
  rintro e w4 ⟨rfl, hg4⟩
  have T4 := Lib.hid (T3.out.trans (Pk.turn_of hg4) (fun _ _ e => e.elim))
  have Z4 := Lib.hid (Z3.out.old hg4)
  have R4 := Lib.hid (In.Turn.rd (Pk.turn_of hg4) R3.out id id)
  clear hg4 T3 Z3 R3 f1 HCC
  dsimp only
  go_wp2_with (first
    | (with_reducible refine wpList_store_cell rfl (.tmp 4) (.tmp 20) rfl (w.heap.size + 1) rfl ⟨1, x, ⟨#[]⟩⟩ rfl zeroC Z4.out ?_; intro w5 hz5 ht5)
    | fail)
  exact bodyPost_ret (cell_out rfl _ _ ⟨1, x, ⟨#[]⟩⟩ rfl hz5) rfl ⟨turn_new T4.out ht5 (by omega), rfl, In.Turn.rd ht5 R4.out (by omega) (by omega), B3.out.1, B3.out.2⟩

set_option maxRecDepth 100000 in
set_option maxHeartbeats 2000000 in
theorem getCell_no_B (b g : Nat) (bs : List Int) (w : World) (h : Rd w b g bs) (hg : g < w.heap.size) (hb : Oct.IsB bs) (hl : bs.length ≤ 100000000) (ho : oneB bs = none) :
    Calls Tryz.prog 239 #[.agg #[.func (.func 98) #[] #[], .func (.func 99) #[] #[], .func (.func 100) #[] #[], .func (.func 101) #[] #[], .func (.func 102) #[] #[], .func (.func 103) #[] #[]], .pointer (some ⟨b, 0, none⟩)] w (CellX b g 2 w none) := by
  have hbl := rd_lt h
  obtain ⟨W2, hW2⟩ : ∃ V, (w.alloc (.cells #[.func (.func 98) #[] #[], .func (.func 99) #[] #[], .func (.func 100) #[] #[], .func (.func 101) #[] #[], .func (.func 102) #[] #[], .func (.func 103) #[] #[]] 108)).alloc (.cells #[.int .i64 0, .int .i64 0, .string ⟨#[]⟩] 24) = V := ⟨_, rfl⟩
  have ht2 : Turn w W2 nowhere := by rw [← hW2]; exact (Turn.alloc w _ nowhere).trans (Turn.alloc _ _ nowhere) (fun _ _ h => h)
  have hz2 : CB W2 (w.heap.size + 1) zeroC := by rw [← hW2]; have h := CB.new (w.alloc (.cells #[.func (.func 98) #[] #[], .func (.func 99) #[] #[], .func (.func 100) #[] #[], .func (.func 101) #[] #[], .func (.func 102) #[] #[], .func (.func 103) #[] #[]] 108)) zeroC; rw [World.size_alloc] at h; exact h
  have hf : W2.cell? ⟨w.heap.size, 3, none⟩ = some (.func (.func 101) #[] #[]) := by rw [← hW2]; simp [go_sem]
  have h1 := getOne_B b g bs W2 (In.Turn.rd ht2 h id id) hb hl
  rw [ho] at h1
  have H1 := Lib.hid h1
  have HW := Lib.hid hW2
  have HT2 := Lib.hid ht2
  have HZ2 := Lib.hid hz2
  have hne : w.heap.size + 1 ≠ b := by omega
  clear hW2 ht2 hz2 h1 h hb hl ho
  go_enter Tryz.func239, Tryz.ntmps239
  go_upto_region 1 with (fail)
  rw [HW.out]
  go_wp2_with fail
  refine H1.out.mono ?_
  rintro e w3 ⟨ht3, v, er, r, rfl, hr3, hb3, hl3, he⟩
  have T3 := Lib.hid ((HT2.out.mono (fun _ _ e => e.elim) : Turn w W2 (At b)).trans ht3 (fun _ _ h => h))
  have Z3 : Hid (CB w3 (w.heap.size + 1) zeroC) := Lib.hid (block_turn HZ2.out ht3 hne)
  have q0 : (er != 0) = true := bne_iff_ne.2 he
  have R3 := Lib.hid hr3
  have B3 := Lib.hid (And.intro hb3 hl3)
  clear ht3 hr3 hb3 hl3 he hf H1 HW HT2 HZ2
  dsimp only
  go_wp2_with (first
    | (with_reducible refine wpList_store_cell rfl (.tmp 4) (.tmp 16) rfl (w.heap.size + 1) rfl zeroC rfl zeroC Z3.out ?_; intro w4 hz4 ht4)
    | fail)
  refine bodyPost_ret (cell_out rfl _ _ zeroC rfl hz4) rfl ⟨turn_new T3.out ht4 (by omega), zeroC, r, rfl, In.Turn.rd ht4 R3.out (by omega) (by omega), B3.out.1, B3.out.2, fun hh => ?_⟩
  have h1 := hh.k
  have h2 : zeroC.k = 0 := rfl
  omega

set_option maxRecDepth 100000 in
set_option maxHeartbeats 2000000 in
theorem getCell_yes_B (x : Int) (h0 : 0 ≤ x) (h1 : x < 9223372036854775808) (b g : Nat) (bs rest : List Int) (w : World) (h : Rd w b g bs) (hg : g < w.heap.size) (hb : Oct.IsB bs) (hl : bs.length ≤ 100000000) (ho : oneB bs = some (.int .u64 x, rest)) :
    Calls Tryz.prog 239 #[.agg #[.func (.func 98) #[] #[], .func (.func 99) #[] #[], .func (.func 100) #[] #[], .func (.func 101) #[] #[], .func (.func 102) #[] #[], .func (.func 103) #[] #[]], .pointer (some ⟨b, 0, none⟩)] w fun e w' => Turn w w' (At b) ∧ e = .returned (.agg #[.int .i64 (⟨2, x, ⟨#[]⟩⟩ : Cel).k, .int .i64 (⟨2, x, ⟨#[]⟩⟩ : Cel).n, .string (⟨2, x, ⟨#[]⟩⟩ : Cel).s]) ∧ Rd w' b g rest ∧ Oct.IsB rest ∧ rest.length ≤ 100000000 := by
  have hbl := rd_lt h
  have HCC := Lib.hid (fun W => cell_B x h0 h1 W)
  obtain ⟨W2, hW2⟩ : ∃ V, (w.alloc (.cells #[.func (.func 98) #[] #[], .func (.func 99) #[] #[], .func (.func 100) #[] #[], .func (.func 101) #[] #[], .func (.func 102) #[] #[], .func (.func 103) #[] #[]] 108)).alloc (.cells #[.int .i64 0, .int .i64 0, .string ⟨#[]⟩] 24) = V := ⟨_, rfl⟩
  have ht2 : Turn w W2 nowhere := by rw [← hW2]; exact (Turn.alloc w _ nowhere).trans (Turn.alloc _ _ nowhere) (fun _ _ h => h)
  have hz2 : CB W2 (w.heap.size + 1) zeroC := by rw [← hW2]; have h := CB.new (w.alloc (.cells #[.func (.func 98) #[] #[], .func (.func 99) #[] #[], .func (.func 100) #[] #[], .func (.func 101) #[] #[], .func (.func 102) #[] #[], .func (.func 103) #[] #[]] 108)) zeroC; rw [World.size_alloc] at h; exact h
  have hf : W2.cell? ⟨w.heap.size, 3, none⟩ = some (.func (.func 101) #[] #[]) := by rw [← hW2]; simp [go_sem]
  have hf1 : W2.cell? ⟨w.heap.size, 1, none⟩ = some (.func (.func 99) #[] #[]) := by rw [← hW2]; simp [go_sem]
  have h1 := getOne_B b g bs W2 (In.Turn.rd ht2 h id id) hb hl
  rw [ho] at h1
  have H1 := Lib.hid h1
  have HW := Lib.hid hW2
  have HT2 := Lib.hid ht2
  have HZ2 := Lib.hid hz2
  have HF1 := Lib.hid hf1
  have hne : w.heap.size + 1 ≠ b := by omega
  clear hW2 ht2 hz2 h1 h hb hl ho hf1
  go_enter Tryz.func239, Tryz.ntmps239
  go_upto_region 1 with (fail)
  rw [HW.out]
  go_wp2_with fail
  refine H1.out.mono ?_
  rintro e w3 ⟨ht3, v, er, r, rfl, hr3, hb3, hl3, he, hv, hr⟩
  subst he hv hr
  have T3 := Lib.hid ((HT2.out.mono (fun _ _ e => e.elim) : Turn w W2 (At b)).trans ht3 (fun _ _ h => h))
  have Z3 : Hid (CB w3 (w.heap.size + 1) zeroC) := Lib.hid (block_turn HZ2.out ht3 hne)
  have f1 := ht3.cell HF1.out (by show ¬ w.heap.size = b; omega)
  have R3 := Lib.hid hr3
  have B3 := Lib.hid (And.intro hb3 hl3)
  clear ht3 hr3 hb3 hl3 hf H1 HW HT2 HZ2 HF1
  dsimp only
  go_wp2_with fail
  refine (HCC.out _).mono ?_
  rintro e w4 ⟨rfl, hg4⟩
  have T4 := Lib.hid (T3.out.trans (Pk.turn_of hg4) (fun _ _ e => e.elim))
  have Z4 := Lib.hid (Z3.out.old hg4)
  have R4 := Lib.hid (In.Turn.rd (Pk.turn_of hg4) R3.out id id)
  clear hg4 T3 Z3 R3 f1 HCC
  dsimp only
  go_wp2_with (first
    | (with_reducible refine wpList_store_cell rfl (.tmp 4) (.tmp 20) rfl (w.heap.size + 1) rfl ⟨2, x, ⟨#[]⟩⟩ rfl zeroC Z4.out ?_; intro w5 hz5 ht5)
    | fail)
  exact bodyPost_ret (cell_out rfl _ _ ⟨2, x, ⟨#[]⟩⟩ rfl hz5) rfl ⟨turn_new T4.out ht5 (by omega), rfl, In.Turn.rd ht5 R4.out (by omega) (by omega), B3.out.1, B3.out.2⟩

set_option maxRecDepth 100000 in
set_option maxHeartbeats 2000000 in
theorem getCell_no_T (cb : Nat) (b g : Nat) (bs : List Int) (w : World) (h : Rd w b g bs) (hg : g < w.heap.size) (hb : Oct.IsB bs) (hl : bs.length ≤ 100000000) (ho : oneT bs = none) :
    Calls Tryz.prog 243 #[.agg #[.func (.func 105) #[] #[], .func (.func 106) #[] #[], .func (.func 107) #[] #[], .func (.func 108) #[] #[], .func (.func 109) #[] #[], .func (.func 146) #[] #[.pointer (some ⟨cb, 0, none⟩)]], .pointer (some ⟨b, 0, none⟩)] w (CellX b g 3 w none) := by
  have hbl := rd_lt h
  obtain ⟨W2, hW2⟩ : ∃ V, (w.alloc (.cells #[.func (.func 105) #[] #[], .func (.func 106) #[] #[], .func (.func 107) #[] #[], .func (.func 108) #[] #[], .func (.func 109) #[] #[], .func (.func 146) #[] #[.pointer (some ⟨cb, 0, none⟩)]] 117)).alloc (.cells #[.int .i64 0, .int .i64 0, .string ⟨#[]⟩] 24) = V := ⟨_, rfl⟩
  have ht2 : Turn w W2 nowhere := by rw [← hW2]; exact (Turn.alloc w _ nowhere).trans (Turn.alloc _ _ nowhere) (fun _ _ h => h)
  have hz2 : CB W2 (w.heap.size + 1) zeroC := by rw [← hW2]; have h := CB.new (w.alloc (.cells #[.func (.func 105) #[] #[], .func (.func 106) #[] #[], .func (.func 107) #[] #[], .func (.func 108) #[] #[], .func (.func 109) #[] #[], .func (.func 146) #[] #[.pointer (some ⟨cb, 0, none⟩)]] 117)) zeroC; rw [World.size_alloc] at h; exact h
  have hf : W2.cell? ⟨w.heap.size, 3, none⟩ = some (.func (.func 108) #[] #[]) := by rw [← hW2]; simp [go_sem]
  have h1 := getText_any b g bs W2 (In.Turn.rd ht2 h id id) hb hl
  rw [ho] at h1
  have H1 := Lib.hid h1
  have HW := Lib.hid hW2
  have HT2 := Lib.hid ht2
  have HZ2 := Lib.hid hz2
  have hne : w.heap.size + 1 ≠ b := by omega
  clear hW2 ht2 hz2 h1 h hb hl ho
  go_enter Tryz.func243, Tryz.ntmps243
  go_upto_region 1 with (fail)
  rw [HW.out]
  go_wp2_with fail
  refine H1.out.mono ?_
  rintro e w3 ⟨ht3, v, er, r, rfl, hr3, hb3, hl3, he⟩
  have T3 := Lib.hid ((HT2.out.mono (fun _ _ e => e.elim) : Turn w W2 (At b)).trans ht3 (fun _ _ h => h))
  have Z3 : Hid (CB w3 (w.heap.size + 1) zeroC) := Lib.hid (block_turn HZ2.out ht3 hne)
  have q0 : (er != 0) = true := bne_iff_ne.2 he
  have R3 := Lib.hid hr3
  have B3 := Lib.hid (And.intro hb3 hl3)
  clear ht3 hr3 hb3 hl3 he hf H1 HW HT2 HZ2
  dsimp only
  go_wp2_with (first
    | (with_reducible refine wpList_store_cell rfl (.tmp 4) (.tmp 16) rfl (w.heap.size + 1) rfl zeroC rfl zeroC Z3.out ?_; intro w4 hz4 ht4)
    | fail)
  refine bodyPost_ret (cell_out rfl _ _ zeroC rfl hz4) rfl ⟨turn_new T3.out ht4 (by omega), zeroC, r, rfl, In.Turn.rd ht4 R3.out (by omega) (by omega), B3.out.1, B3.out.2, fun hh => ?_⟩
  have h1 := hh.k
  have h2 : zeroC.k = 0 := rfl
  omega

set_option maxRecDepth 100000 in
set_option maxHeartbeats 2000000 in
theorem getCell_yes_T (cb : Nat) (x : ByteArray) (b g : Nat) (bs rest : List Int) (w : World) (h : Rd w b g bs) (hg : g < w.heap.size) (hb : Oct.IsB bs) (hl : bs.length ≤ 100000000) (ho : oneT bs = some (.string x, rest)) :
    Calls Tryz.prog 243 #[.agg #[.func (.func 105) #[] #[], .func (.func 106) #[] #[], .func (.func 107) #[] #[], .func (.func 108) #[] #[], .func (.func 109) #[] #[], .func (.func 146) #[] #[.pointer (some ⟨cb, 0, none⟩)]], .pointer (some ⟨b, 0, none⟩)] w fun e w' => Turn w w' (At b) ∧ e = .returned (.agg #[.int .i64 (⟨3, 0, x⟩ : Cel).k, .int .i64 (⟨3, 0, x⟩ : Cel).n, .string (⟨3, 0, x⟩ : Cel).s]) ∧ Rd w' b g rest ∧ Oct.IsB rest ∧ rest.length ≤ 100000000 := by
  have hbl := rd_lt h
  have HCC := Lib.hid (fun W => cell_T x W)
  obtain ⟨W2, hW2⟩ : ∃ V, (w.alloc (.cells #[.func (.func 105) #[] #[], .func (.func 106) #[] #[], .func (.func 107) #[] #[], .func (.func 108) #[] #[], .func (.func 109) #[] #[], .func (.func 146) #[] #[.pointer (some ⟨cb, 0, none⟩)]] 117)).alloc (.cells #[.int .i64 0, .int .i64 0, .string ⟨#[]⟩] 24) = V := ⟨_, rfl⟩
  have ht2 : Turn w W2 nowhere := by rw [← hW2]; exact (Turn.alloc w _ nowhere).trans (Turn.alloc _ _ nowhere) (fun _ _ h => h)
  have hz2 : CB W2 (w.heap.size + 1) zeroC := by rw [← hW2]; have h := CB.new (w.alloc (.cells #[.func (.func 105) #[] #[], .func (.func 106) #[] #[], .func (.func 107) #[] #[], .func (.func 108) #[] #[], .func (.func 109) #[] #[], .func (.func 146) #[] #[.pointer (some ⟨cb, 0, none⟩)]] 117)) zeroC; rw [World.size_alloc] at h; exact h
  have hf : W2.cell? ⟨w.heap.size, 3, none⟩ = some (.func (.func 108) #[] #[]) := by rw [← hW2]; simp [go_sem]
  have hf1 : W2.cell? ⟨w.heap.size, 1, none⟩ = some (.func (.func 106) #[] #[]) := by rw [← hW2]; simp [go_sem]
  have h1 := getText_any b g bs W2 (In.Turn.rd ht2 h id id) hb hl
  rw [ho] at h1
  have H1 := Lib.hid h1
  have HW := Lib.hid hW2
  have HT2 := Lib.hid ht2
  have HZ2 := Lib.hid hz2
  have HF1 := Lib.hid hf1
  have hne : w.heap.size + 1 ≠ b := by omega
  clear hW2 ht2 hz2 h1 h hb hl ho hf1
  go_enter Tryz.func243, Tryz.ntmps243
  go_upto_region 1 with (fail)
  rw [HW.out]
  go_wp2_with fail
  refine H1.out.mono ?_
  rintro e w3 ⟨ht3, v, er, r, rfl, hr3, hb3, hl3, he, hv, hr⟩
  subst he hv hr
  have T3 := Lib.hid ((HT2.out.mono (fun _ _ e => e.elim) : Turn w W2 (At b)).trans ht3 (fun _ _ h => h))
  have Z3 : Hid (CB w3 (w.heap.size + 1) zeroC) := Lib.hid (block_turn HZ2.out ht3 hne)
  have f1 := ht3.cell HF1.out (by show ¬ w.heap.size = b; omega)
  have R3 := Lib.hid hr3
  have B3 := Lib.hid (And.intro hb3 hl3)
  clear ht3 hr3 hb3 hl3 hf H1 HW HT2 HZ2 HF1
  dsimp only
  go_wp2_with fail
  refine (HCC.out _).mono ?_
  rintro e w4 ⟨rfl, hg4⟩
  have T4 := Lib.hid (T3.out.trans (Pk.turn_of hg4) (fun _ _ e => e.elim))
  have Z4 := Lib.hid (Z3.out.old hg4)
  have R4 := Lib.hid (In.Turn.rd (Pk.turn_of hg4) R3.out id id)
  clear hg4 T3 Z3 R3 f1 HCC
  dsimp only
  go_wp2_with (first
    | (with_reducible refine wpList_store_cell rfl (.tmp 4) (.tmp 20) rfl (w.heap.size + 1) rfl ⟨3, 0, x⟩ rfl zeroC Z4.out ?_; intro w5 hz5 ht5)
    | fail)
  exact bodyPost_ret (cell_out rfl _ _ ⟨3, 0, x⟩ rfl hz5) rfl ⟨turn_new T4.out ht5 (by omega), rfl, In.Turn.rd ht5 R4.out (by omega) (by omega), B3.out.1, B3.out.2⟩

theorem getCell_I (cb b g : Nat) (bs : List Int) (w : World) (h : Rd w b g bs) (hg : g < w.heap.size) (hb : Oct.IsB bs) (hl : bs.length ≤ 100000000) :
    Calls Tryz.prog 235 #[.agg #[.func (.func 89) #[] #[], .func (.func 90) #[] #[], .func (.func 91) #[] #[], .func (.func 93) #[] #[], .func (.func 95) #[] #[], .func (.func 140) #[] #[.pointer (some ⟨cb, 0, none⟩)]], .pointer (some ⟨b, 0, none⟩)] w (CellX b g 1 w (readCell 1 bs)) := by
  by_cases h8 : bs.length < 8
  · have hr : readCell 1 bs = none := by unfold readCell; rw [if_pos rfl, if_pos h8]
    rw [hr]
    exact getCell_no_I cb b g bs w h hg hb hl (if_pos h8)
  · have hr : readCell 1 bs = some (⟨1, sg (ofB (bs.take 8)), ⟨#[]⟩⟩, bs.drop 8) := by unfold readCell; rw [if_pos rfl, if_neg h8]
    rw [hr]
    exact (getCell_yes_I cb (sg (ofB (bs.take 8))) b g bs (bs.drop 8) w h hg hb hl (if_neg h8)).mono fun e w' ⟨h1, h2, h3, h4, h5⟩ => ⟨h1, _, _, h2, h3, h4, h5, rfl, rfl⟩
theorem getCell_T (cb b g : Nat) (bs : List Int) (w : World) (h : Rd w b g bs) (hg : g < w.heap.size) (hb : Oct.IsB bs) (hl : bs.length ≤ 100000000) :
    Calls Tryz.prog 243 #[.agg #[.func (.func 105) #[] #[], .func (.func 106) #[] #[], .func (.func 107) #[] #[], .func (.func 108) #[] #[], .func (.func 109) #[] #[], .func (.func 146) #[] #[.pointer (some ⟨cb, 0, none⟩)]], .pointer (some ⟨b, 0, none⟩)] w (CellX b g 3 w (readCell 3 bs)) := by
  cases hs : Tx.readS bs with
  | none =>
    have hr : readCell 3 bs = none := by unfold readCell; rw [if_neg (by decide), if_neg (by decide), hs]
    have ho : oneT bs = none := by unfold oneT; rw [hs]
    rw [hr]
    exact getCell_no_T cb b g bs w h hg hb hl ho
  | some p =>
    obtain ⟨s, t⟩ := p
    have hr : readCell 3 bs = some (⟨3, 0, strOfNums s⟩, t) := by unfold readCell; rw [if_neg (by decide), if_neg (by decide), hs]
    have ho : oneT bs = some (.string (strOfNums s), t) := by unfold oneT; rw [hs]
    rw [hr]
    exact (getCell_yes_T cb (strOfNums s) b g bs t w h hg hb hl ho).mono fun e w' ⟨h1, h2, h3, h4, h5⟩ => ⟨h1, _, _, h2, h3, h4, h5, rfl, rfl⟩
theorem getCell_B (b g : Nat) (bs : List Int) (w : World) (h : Rd w b g bs) (hg : g < w.heap.size) (hb : Oct.IsB bs) (hl : bs.length ≤ 100000000) :
    Calls Tryz.prog 239 #[.agg #[.func (.func 98) #[] #[], .func (.func 99) #[] #[], .func (.func 100) #[] #[], .func (.func 101) #[] #[], .func (.func 102) #[] #[], .func (.func 103) #[] #[]], .pointer (some ⟨b, 0, none⟩)] w (CellX b g 2 w (readCell 2 bs)) := by
  cases bs with
  | nil =>
    have hr : readCell 2 [] = none := rfl
    rw [hr]
    exact getCell_no_B b g [] w h hg hb hl rfl
  | cons v t =>
    have hv := hb v (List.mem_cons_self ..)
    by_cases h1 : 1 < v
    · have hr : readCell 2 (v :: t) = none := by unfold readCell; rw [if_neg (by decide), if_pos rfl]; exact if_pos h1
      rw [hr]
      refine (getCell_yes_B v hv.1 (by omega) b g (v :: t) t w h hg hb hl rfl).mono fun e w' ⟨q1, q2, q3, q4, q5⟩ => ⟨q1, _, _, q2, q3, q4, q5, fun hh => ?_⟩
      have := bit_of2 hh
      have e : (⟨2, v, ⟨#[]⟩⟩ : Cel).n = v := rfl
      omega
    · have hr : readCell 2 (v :: t) = some (⟨2, v, ⟨#[]⟩⟩, t) := by unfold readCell; rw [if_neg (by decide), if_pos rfl]; exact if_neg h1
      rw [hr]
      exact (getCell_yes_B v hv.1 (by omega) b g (v :: t) t w h hg hb hl rfl).mono fun e w' ⟨q1, q2, q3, q4, q5⟩ => ⟨q1, _, _, q2, q3, q4, q5, rfl, rfl⟩
end Go.Proofs.YtljanfnhmhimiaaGreat.Sg

namespace Go.Proofs.YtljanfnhmhimiaaGreat.Sg
open Go.RowKit Go.Joins Zn Zr Dv

/-- A struct in a cell and two values in slots. -/
theorem results_cell_three {P : Program} {fn : Func} {p u v : Tmp} {ty : TypeId} (h : fn.results = #[.cell p ty, .tmp u, .tmp v]) (tmps : Array Value) (w : World) (g : Nat) (t : TypeId) (cs : Array Value) (fr : Nat × Nat) (d : TypeDesc)
    (hp : tmps.getD p undef = .pointer (some ⟨g, 0, none⟩)) (hg : w.heap[g]? = some (.cells cs t fr))
    (hu : P.underlying ty = some d) (hd : (match d with | .struct _ | .array _ _ => true | _ => false) = true) (hi : (P.info? ty).map (·.size) = some cs.size) :
    (results fn tmps).run P w = .ok (.tuple #[.agg cs, tmps.getD u undef, tmps.getD v undef]) w := by
  have e : (results fn tmps).run P w = ((asAddr (tmps.getD p undef)).run P w).andThen fun a w₁ => ((loadVar ty a).run P w₁).andThen fun x w₂ => .ok (.tuple #[x, tmps.getD u undef, tmps.getD v undef]) w₂ := by
    simp only [results, h]
    simp [Sem.run_bind, Result.andThen]
  rw [e, hp]
  simp [asAddr, Result.andThen, run_loadVar_row w g t ty cs fr d hg hu hd hi]
/-- A value in a slot, a struct in a cell, a value in a slot. -/
theorem results_mid {P : Program} {fn : Func} {p u v : Tmp} {ty : TypeId} (h : fn.results = #[.tmp u, .cell p ty, .tmp v]) (tmps : Array Value) (w : World) (g : Nat) (t : TypeId) (cs : Array Value) (fr : Nat × Nat) (d : TypeDesc)
    (hp : tmps.getD p undef = .pointer (some ⟨g, 0, none⟩)) (hg : w.heap[g]? = some (.cells cs t fr))
    (hu : P.underlying ty = some d) (hd : (match d with | .struct _ | .array _ _ => true | _ => false) = true) (hi : (P.info? ty).map (·.size) = some cs.size) :
    (results fn tmps).run P w = .ok (.tuple #[tmps.getD u undef, .agg cs, tmps.getD v undef]) w := by
  have e : (results fn tmps).run P w = ((asAddr (tmps.getD p undef)).run P w).andThen fun a w₁ => ((loadVar ty a).run P w₁).andThen fun x w₂ => .ok (.tuple #[tmps.getD u undef, x, tmps.getD v undef]) w₂ := by
    simp only [results, h]
    simp [Sem.run_bind, Result.andThen]
  rw [e, hp]
  simp [asAddr, Result.andThen, run_loadVar_row w g t ty cs fr d hg hu hd hi]

/-- what a head holds -/
structure Hd where
  kind : Int
  a : Option Addr
  n : Nat
  c : Nat
  z : Zon
abbrev Hd.cells (h : Hd) : Array Value := #[.int .i64 h.kind, .slice h.a h.n h.c, .int .i64 h.z.cnt, .int .i64 h.z.nul, .int .i64 h.z.min.k, .int .i64 h.z.min.n, .string h.z.min.s, .int .i64 h.z.max.k, .int .i64 h.z.max.n, .string h.z.max.s]
def HB (w : World) (g : Nat) (h : Hd) : Prop := w.heap[g]? = some (.cells #[.int .i64 h.kind, .slice h.a h.n h.c, .int .i64 h.z.cnt, .int .i64 h.z.nul, .int .i64 h.z.min.k, .int .i64 h.z.min.n, .string h.z.min.s, .int .i64 h.z.max.k, .int .i64 h.z.max.n, .string h.z.max.s] 69 (0, 0))
theorem info_head : (Tryz.prog.info? 69).map (·.size) = some 10 := by kernel_rfl
theorem HB.old {w w' : World} {g : Nat} {h : Hd} (k : HB w g h) (t : Turn w w' nowhere) : HB w' g h := block_old k t.grown
theorem HB.turn {w w' : World} {g b : Nat} {h : Hd} (k : HB w g h) (t : Turn w w' (· = b)) (hne : g ≠ b) : HB w' g h := block_turn k t hne
theorem HB.cellsAt {w : World} {g : Nat} {h : Hd} (k : HB w g h) : w.cell? ⟨g, 0, none⟩ = some (.int .i64 h.kind) ∧ w.cell? ⟨g, 1, none⟩ = some (.slice h.a h.n h.c) ∧ w.cell? ⟨g, 2, none⟩ = some (.int .i64 h.z.cnt) ∧ w.cell? ⟨g, 3, none⟩ = some (.int .i64 h.z.nul) ∧
    w.cell? ⟨g, 4, none⟩ = some (.int .i64 h.z.min.k) ∧ w.cell? ⟨g, 5, none⟩ = some (.int .i64 h.z.min.n) ∧ w.cell? ⟨g, 6, none⟩ = some (.string h.z.min.s) ∧ w.cell? ⟨g, 7, none⟩ = some (.int .i64 h.z.max.k) ∧ w.cell? ⟨g, 8, none⟩ = some (.int .i64 h.z.max.n) ∧ w.cell? ⟨g, 9, none⟩ = some (.string h.z.max.s) := by
  unfold HB at k
  refine ⟨?_, ?_, ?_, ?_, ?_, ?_, ?_, ?_, ?_, ?_⟩ <;> (rw [cell_of_row _ _ _ _ _ _ k]; rfl)
theorem HB.froz {w : World} {g : Nat} {h : Hd} (k : HB w g h) (j : Nat) : w.frozen? ⟨g, j, none⟩ = false := by
  unfold HB at k
  simp [World.frozen?, k]
theorem wpList_store_head {w : World} {ops : Array Oper} {rest : List Oper} {o : Oper} {a : Act} {Q : Exit → Act → World → Prop} (hgd : o.guard = none) (x y : Operand) (ho : o.op = .store 69 x y)
    (g : Nat) (hx : a.eval x = .pointer (some ⟨g, 0, none⟩)) (h : Hd) (hy : a.eval y = .agg #[.int .i64 h.kind, .slice h.a h.n h.c, .int .i64 h.z.cnt, .int .i64 h.z.nul, .int .i64 h.z.min.k, .int .i64 h.z.min.n, .string h.z.min.s, .int .i64 h.z.max.k, .int .i64 h.z.max.n, .string h.z.max.s]) (q : Hd) (hg : HB w g q)
    (hh : ∀ w', HB w' g h → Turn w w' (· = g) → wpList Tryz.prog ops Q rest (a.put o.dst undef) w') : wpList Tryz.prog ops Q (o :: rest) a w := by
  refine wpList_store_row hgd _ x y ho g _ hx hy _ _ hg info_head rfl (by simp [Value.oneCell']) ?_
  exact hh _ (setRow_heap w g _ _ _ _ hg) ⟨rfl, rfl, rfl, by simp [World.setRow], fun k _ hk => setRow_other w g k _ hk⟩
theorem run_results_head {fn : Func} {p u v : Tmp} (hf : fn.results = #[.cell p 69, .tmp u, .tmp v]) (tmps : Array Value) (w : World) (g : Nat) (h : Hd) (x y : Value) (hp : tmps.getD p undef = .pointer (some ⟨g, 0, none⟩))
    (hg : HB w g h) (hx : tmps.getD u undef = x) (hy : tmps.getD v undef = y) : (results fn tmps).run Tryz.prog w = .ok (.tuple #[.agg #[.int .i64 h.kind, .slice h.a h.n h.c, .int .i64 h.z.cnt, .int .i64 h.z.nul, .int .i64 h.z.min.k, .int .i64 h.z.min.n, .string h.z.min.s, .int .i64 h.z.max.k, .int .i64 h.z.max.n, .string h.z.max.s], x, y]) w := by
  rw [← hx, ← hy]
  exact results_cell_three hf tmps w g _ _ _ _ hp hg Tryz.underlying69 rfl info_head
def zeroH : Hd := ⟨0, none, 0, 0, zeroZ⟩

set_option maxHeartbeats 1000000 in
theorem values_any (h : Hd) (m : Int) (hm : h.z.cnt - h.z.nul = m) (hw : -9223372036854775808 ≤ m ∧ m ≤ 9223372036854775807) (w : World) :
    Calls Tryz.prog 61 #[.agg #[.int .i64 h.kind, .slice h.a h.n h.c, .int .i64 h.z.cnt, .int .i64 h.z.nul, .int .i64 h.z.min.k, .int .i64 h.z.min.n, .string h.z.min.s, .int .i64 h.z.max.k, .int .i64 h.z.max.n, .string h.z.max.s]] w fun e w' => e = .returned (.int .i64 m) ∧ w.grownBy w' none := by
  have HG := Lib.hid (grown_alloc w (.cells #[.int .i64 h.kind, .slice h.a h.n h.c, .int .i64 h.z.cnt, .int .i64 h.z.nul, .int .i64 h.z.min.k, .int .i64 h.z.min.n, .string h.z.min.s, .int .i64 h.z.max.k, .int .i64 h.z.max.n, .string h.z.max.s] 69))
  have hwr : IntKind.i64.wrap m = m := IntWalk.i64_in _ (by omega)
  have HW := Lib.hid hwr
  have HM := Lib.hid hm
  have e1 : IntKind.i64.wrap (h.z.cnt - h.z.nul) = m := by rw [hm]; exact hwr
  clear hm hwr
  go_enter Tryz.func61, Tryz.ntmps61
  go_wp2
  go_ret
  exact ⟨rfl, HG.out⟩
end Go.Proofs.YtljanfnhmhimiaaGreat.Sg

namespace Go.Proofs.YtljanfnhmhimiaaGreat.Sg
open Go.RowKit Go.Joins Zn Zr Dv
open Oct (Rd)
open In (At)
open Nu (getN cnt resN)

theorem conv_seg2 (l : List Int) (hl : Bs.IsB l) (hn : l.length ≤ 1000000000) (W : World) : ∃ cap W', (convert 9 45 (.string (strOfNums l))).run Tryz.prog W = .ok (.slice (some ⟨W.heap.size, 0, none⟩) l.length cap) W' ∧ Bs.Seg W' (some ⟨W.heap.size, 0, none⟩) l.length cap l ∧ Turn W W' nowhere := by
  obtain ⟨cap, W', h1, h2, h3, h4, h5⟩ := conv_bytes l hl hn W
  refine ⟨cap, W', h1, ⟨rfl, h4, h5, (fun e => by cases e), fun ad had j u hu => ?_⟩, h3⟩
  cases had
  rw [Addr.add_lit]
  rw [List.getElem?_map] at hu
  cases hx : l[j]? with
  | none => rw [hx] at hu; cases hu
  | some x =>
    rw [hx] at hu
    have := (h2 j x hx).1
    rw [Option.map_some] at hu
    rw [← Option.some.inj hu]
    exact this
theorem idx_str (k0 : Int) (t : List Int) (h : 0 ≤ k0 ∧ k0 < 256) (W : World) : (Instr.index 9 (.string (strOfNums (k0 :: t))) (.int .i64 0)).run Tryz.prog W = .ok (.int .u8 k0) W := by
  have hs : (strOfNums (k0 :: t)).size = t.length + 1 := by rw [strOfNums_size]; rfl
  rw [run_index_string _ _ _ _ _ Tryz.underlying9, dif_pos ⟨by omega, by omega⟩]
  have e : (((strOfNums (k0 :: t))[(0 : Int).toNat]'(by rw [hs]; exact Nat.zero_lt_succ _)).toNat : Int) = k0 := by
    show ((UInt8.ofNat k0.toNat).toNat : Int) = k0
    rw [UInt8.toNat_ofNat']
    omega
  rw [e]
/-- no head -/
def HeadNo (w : World) (e : Ending) (w' : World) : Prop := e = .returned (.tuple #[.agg #[.int .i64 0, .slice none 0 0, .int .i64 0, .int .i64 0, .int .i64 0, .int .i64 0, .string ⟨#[]⟩, .int .i64 0, .int .i64 0, .string ⟨#[]⟩], .pointer none, .int .i64 4]) ∧ Turn w w' nowhere
/-- a head, and a reader of what stands behind -/
def HeadYes (w : World) (k : Int) (nl : List Bool) (m : Nat) (z : Zon) (rest : List Int) (e : Ending) (w' : World) : Prop :=
  ∃ a c b g, e = .returned (.tuple #[.agg #[.int .i64 k, .slice a m c, .int .i64 z.cnt, .int .i64 z.nul, .int .i64 z.min.k, .int .i64 z.min.n, .string z.min.s, .int .i64 z.max.k, .int .i64 z.max.n, .string z.max.s], .pointer (some ⟨b, 0, none⟩), .int .i64 0]) ∧ Bl.Seg w' a m c nl ∧ Rd w' b g rest ∧ Oct.IsB rest ∧ rest.length ≤ 100000000 ∧ w.heap.size ≤ b ∧ g < w'.heap.size ∧ (∀ ad, a = some ad → m ≠ 0 → ad.block ≠ b) ∧ Turn w w' nowhere

theorem flags_lt {w : World} {n c : Nat} {a : Option Addr} {l : List Bool} (hs : Bl.Seg w a n c l) : ∀ ad, a = some ad → n ≠ 0 → ad.block < w.heap.size := by
  intro ad had hn
  have hl := hs.len
  obtain ⟨x, hx⟩ : ∃ x, l[0]? = some x := ⟨_, List.getElem?_eq_getElem (by omega)⟩
  have h := hs.at_ ad had 0 (Bl.encW x) (by rw [List.getElem?_map, hx]; rfl)
  have h2 := World.block_lt_of_cell? w _ h
  have e : (ad.add 0).block = ad.block := by unfold Addr.add; split <;> rfl
  rwa [e] at h2

theorem HB.set1 {w : World} {g : Nat} {h : Hd} (k : HB w g h) (a : Option Addr) (n c : Nat) : HB (w.setCell ⟨g, 1, none⟩ (.slice a n c)) g ⟨h.kind, a, n, c, h.z⟩ := Go.heap_setCell_same w g 1 _ _ (.slice a n c) k
theorem HB.setMin {w : World} {g : Nat} {h : Hd} (k : HB w g h) (c : Cel) : HB (((w.setCell ⟨g, 4, none⟩ (.int .i64 c.k)).setCell ⟨g, 5, none⟩ (.int .i64 c.n)).setCell ⟨g, 6, none⟩ (.string c.s)) g ⟨h.kind, h.a, h.n, h.c, ⟨h.z.cnt, h.z.nul, c, h.z.max⟩⟩ :=
  Go.heap_setCell_same _ g 6 _ _ (.string c.s) (Go.heap_setCell_same _ g 5 _ _ (.int .i64 c.n) (Go.heap_setCell_same w g 4 _ _ (.int .i64 c.k) k))
theorem HB.setMax {w : World} {g : Nat} {h : Hd} (k : HB w g h) (c : Cel) : HB (((w.setCell ⟨g, 7, none⟩ (.int .i64 c.k)).setCell ⟨g, 8, none⟩ (.int .i64 c.n)).setCell ⟨g, 9, none⟩ (.string c.s)) g ⟨h.kind, h.a, h.n, h.c, ⟨h.z.cnt, h.z.nul, h.z.min, c⟩⟩ :=
  Go.heap_setCell_same _ g 9 _ _ (.string c.s) (Go.heap_setCell_same _ g 8 _ _ (.int .i64 c.n) (Go.heap_setCell_same w g 7 _ _ (.int .i64 c.k) k))
theorem HB.set2 {w : World} {g : Nat} {h : Hd} (k : HB w g h) (x : Int) : HB (w.setCell ⟨g, 2, none⟩ (.int .i64 x)) g ⟨h.kind, h.a, h.n, h.c, ⟨x, h.z.nul, h.z.min, h.z.max⟩⟩ := Go.heap_setCell_same w g 2 _ _ (.int .i64 x) k
theorem HB.set3 {w : World} {g : Nat} {h : Hd} (k : HB w g h) (x : Int) : HB (w.setCell ⟨g, 3, none⟩ (.int .i64 x)) g ⟨h.kind, h.a, h.n, h.c, ⟨h.z.cnt, x, h.z.min, h.z.max⟩⟩ := Go.heap_setCell_same w g 3 _ _ (.int .i64 x) k
theorem HB.setZone {w : World} {g : Nat} {h : Hd} (k : HB w g h) (z : Zon) : HB ((((((((w.setCell ⟨g, 2, none⟩ (.int .i64 z.cnt)).setCell ⟨g, 3, none⟩ (.int .i64 z.nul)).setCell ⟨g, 4, none⟩ (.int .i64 z.min.k)).setCell ⟨g, 5, none⟩ (.int .i64 z.min.n)).setCell ⟨g, 6, none⟩ (.string z.min.s)).setCell ⟨g, 7, none⟩ (.int .i64 z.max.k)).setCell ⟨g, 8, none⟩ (.int .i64 z.max.n)).setCell ⟨g, 9, none⟩ (.string z.max.s)) g ⟨h.kind, h.a, h.n, h.c, z⟩ := by
  obtain ⟨W1, e1⟩ : ∃ W', W' = w.setCell ⟨g, 2, none⟩ (.int .i64 z.cnt) := ⟨_, rfl⟩
  have h1 := k.set2 z.cnt
  rw [← e1] at h1 ⊢
  obtain ⟨W2, e2⟩ : ∃ W', W' = W1.setCell ⟨g, 3, none⟩ (.int .i64 z.nul) := ⟨_, rfl⟩
  have h2 := h1.set3 z.nul
  rw [← e2] at h2 ⊢
  have h3 := h2.setMin z.min
  obtain ⟨W3, e3⟩ : ∃ W', W' = ((W2.setCell ⟨g, 4, none⟩ (.int .i64 z.min.k)).setCell ⟨g, 5, none⟩ (.int .i64 z.min.n)).setCell ⟨g, 6, none⟩ (.string z.min.s) := ⟨_, rfl⟩
  rw [← e3] at h3 ⊢
  exact h3.setMax z.max
theorem turn_zone (w : World) (g : Nat) (z : Zon) : Turn w ((((((((w.setCell ⟨g, 2, none⟩ (.int .i64 z.cnt)).setCell ⟨g, 3, none⟩ (.int .i64 z.nul)).setCell ⟨g, 4, none⟩ (.int .i64 z.min.k)).setCell ⟨g, 5, none⟩ (.int .i64 z.min.n)).setCell ⟨g, 6, none⟩ (.string z.min.s)).setCell ⟨g, 7, none⟩ (.int .i64 z.max.k)).setCell ⟨g, 8, none⟩ (.int .i64 z.max.n)).setCell ⟨g, 9, none⟩ (.string z.max.s)) (· = g) := by
  have s1 : ∀ (W : World) (i : Nat) (x : Value), Turn W (W.setCell ⟨g, i, none⟩ x) (· = g) := fun W i x => Turn.setCell W _ _ (S := (· = g)) rfl
  exact (((((((s1 _ _ _).trans (s1 _ _ _) (fun _ _ h => h)).trans (s1 _ _ _) (fun _ _ h => h)).trans (s1 _ _ _) (fun _ _ h => h)).trans (s1 _ _ _) (fun _ _ h => h)).trans (s1 _ _ _) (fun _ _ h => h)).trans (s1 _ _ _) (fun _ _ h => h)).trans (s1 _ _ _) (fun _ _ h => h)
/-- flags are not where a head is -/
theorem flags_stay {w w' : World} {g n c : Nat} {a : Option Addr} {l : List Bool} {h : Hd} (hs : Bl.Seg w a n c l) (hh : HB w g h) (t : Turn w w' (· = g)) : Bl.Seg w' a n c l := by
  refine ⟨hs.len, hs.le, hs.cap, hs.nil_, fun ad had j u hu => t.cell (hs.at_ ad had j u hu) ?_⟩
  intro e
  have h1 := hs.at_ ad had j u hu
  rw [List.getElem?_map] at hu
  cases hx : l[j]? with
  | none => rw [hx] at hu; cases hu
  | some x =>
    rw [hx, Option.map_some] at hu
    obtain rfl := Option.some.inj hu
    have hsp := Zn.spot_none h1
    generalize ad.add j = A at h1 e hsp
    obtain ⟨b0, o0, sp0⟩ := A
    replace e : b0 = g := e
    replace hsp : sp0 = none := hsp
    subst hsp e
    unfold HB at hh
    rw [cell_of_row _ _ _ _ _ _ hh] at h1
    match o0 with
    | 0 => simp [Bl.encW] at h1
    | 1 => simp [Bl.encW] at h1
    | 2 => simp [Bl.encW] at h1
    | 3 => simp [Bl.encW] at h1
    | 4 => simp [Bl.encW] at h1
    | 5 => simp [Bl.encW] at h1
    | 6 => simp [Bl.encW] at h1
    | 7 => simp [Bl.encW] at h1
    | 8 => simp [Bl.encW] at h1
    | 9 => simp [Bl.encW] at h1
    | o + 10 => simp [Bl.encW] at h1
theorem turn_set (w : World) (g i : Nat) (x : Value) : Turn w (w.setCell ⟨g, i, none⟩ x) (· = g) := Turn.setCell w _ _ (S := (· = g)) rfl

theorem hb_new (w : World) : HB (w.alloc (.cells #[.int .i64 0, .slice none 0 0, .int .i64 0, .int .i64 0, .int .i64 0, .int .i64 0, .string ⟨#[]⟩, .int .i64 0, .int .i64 0, .string ⟨#[]⟩] 69)) w.heap.size zeroH := heap_alloc_new w _

set_option maxRecDepth 100000 in
set_option maxHeartbeats 2000000 in
theorem getHead_empty (w : World) : Calls Tryz.prog 34 #[.string ⟨#[]⟩] w (HeadNo w) := by
  have hZ := Lib.hid (hb_new w)
  have HT := Lib.hid (Turn.alloc w (.cells #[.int .i64 0, .slice none 0 0, .int .i64 0, .int .i64 0, .int .i64 0, .int .i64 0, .string ⟨#[]⟩, .int .i64 0, .int .i64 0, .string ⟨#[]⟩] 69) nowhere)
  go_enter Tryz.func34, Tryz.ntmps34
  go_wp2_with (first
    | (with_reducible refine wpList_store_head rfl (.tmp 2) (.tmp 20) rfl w.heap.size rfl zeroH rfl zeroH hZ.out ?_; intro w4 hz4 ht4)
    | fail)
  refine bodyPost_ret (run_results_head rfl _ _ _ zeroH _ _ rfl hz4 rfl rfl) rfl ⟨rfl, Pk.turn_of (grown_put HT.out.grown ht4 (Nat.le_refl _))⟩
set_option maxRecDepth 100000 in
set_option maxHeartbeats 2000000 in
theorem getHead_kind (k0 : Int) (t : List Int) (hb : Bs.IsB (k0 :: t)) (hk : k0 < 1 ∨ 3 < k0) (w : World) : Calls Tryz.prog 34 #[.string (strOfNums (k0 :: t))] w (HeadNo w) := by
  have hk0 := hb k0 (List.mem_cons_self ..)
  have hidx := idx_str k0 t hk0
  have hwr : IntKind.i64.wrap k0 = k0 := IntWalk.i64_in _ (by omega)
  have hne : (strOfNums (k0 :: t)).toList.isEmpty = false := by rw [Go.ByteArray.toList_eq]; rfl
  have HC := Lib.hid (fun W => coderOf_no k0 W hk)
  have hny := nil_yes
  have hZ := Lib.hid (hb_new w)
  have HT := Lib.hid (Turn.alloc w (.cells #[.int .i64 0, .slice none 0 0, .int .i64 0, .int .i64 0, .int .i64 0, .int .i64 0, .string ⟨#[]⟩, .int .i64 0, .int .i64 0, .string ⟨#[]⟩] 69) nowhere)
  obtain ⟨S, hS⟩ : ∃ S, strOfNums (k0 :: t) = S := ⟨_, rfl⟩
  rw [hS] at hidx hne ⊢
  clear hS hb hk
  go_enter Tryz.func34, Tryz.ntmps34
  go_wp2_with fail
  refine (HC.out _).mono ?_
  rintro e w1 ⟨rfl, rfl⟩
  go_wp2_with (first
    | (with_reducible refine wpList_store_head rfl (.tmp 2) (.tmp 20) rfl w.heap.size rfl zeroH rfl zeroH hZ.out ?_; intro w4 hz4 ht4)
    | fail)
  refine bodyPost_ret (run_results_head rfl _ _ _ zeroH _ _ rfl hz4 rfl rfl) rfl ⟨rfl, Pk.turn_of (grown_put HT.out.grown ht4 (Nat.le_refl _))⟩

set_option maxRecDepth 100000 in
set_option maxHeartbeats 4000000 in
theorem getHead_nulls (k0 : Int) (t : List Int) (hb : Bs.IsB (k0 :: t)) (hl : (k0 :: t).length ≤ 100000000) (k1 : 1 ≤ k0) (k3 : k0 ≤ 3) (hg : getN t = none) (w : World) : Calls Tryz.prog 34 #[.string (strOfNums (k0 :: t))] w (HeadNo w) := by
  have hk0 := hb k0 (List.mem_cons_self ..)
  have hidx := idx_str k0 t hk0
  have hwr : IntKind.i64.wrap k0 = k0 := IntWalk.i64_in _ (by omega)
  have hne : (strOfNums (k0 :: t)).toList.isEmpty = false := by rw [Go.ByteArray.toList_eq]; rfl
  have hex1 : (strOfNums (k0 :: t)).extract 1 (strOfNums (k0 :: t)).size = strOfNums t := by
    rw [str_extract, strOfNums_size, List.drop_succ_cons, List.drop_zero, List.take_of_length_le (by simp)]
  have hsz : 0 < (strOfNums (k0 :: t)).size := by rw [strOfNums_size]; exact Nat.zero_lt_succ _
  have hsz1 : (1 : Int) ≤ ((strOfNums (k0 :: t)).size : Int) := by omega
  have HC := Lib.hid (fun W => coderOf_any k0 W k1 k3)
  have hZ := Lib.hid (hb_new w)
  have HT := Lib.hid (Turn.alloc w (.cells #[.int .i64 0, .slice none 0 0, .int .i64 0, .int .i64 0, .int .i64 0, .int .i64 0, .string ⟨#[]⟩, .int .i64 0, .int .i64 0, .string ⟨#[]⟩] 69) nowhere)
  have hbt : Oct.IsB t := fun x hx => hb x (List.mem_cons_of_mem _ hx)
  have hlt : t.length ≤ 100000000 := by rw [List.length_cons] at hl; omega
  obtain ⟨S, hS⟩ : ∃ S, strOfNums (k0 :: t) = S := ⟨_, rfl⟩
  obtain ⟨S1, hS1⟩ : ∃ S1, strOfNums t = S1 := ⟨_, rfl⟩
  rw [hS] at hidx hne hex1 hsz hsz1 ⊢
  rw [hS1] at hex1
  have HCV := Lib.hid (fun W => conv_seg2 t hbt (by omega) W)
  rw [hS1] at HCV
  have HBT := Lib.hid hbt
  have HGN := Lib.hid (fun a n c W hs => Nu.got_form (bs := t) (L := []) (z := 0) (E := 4) (m := 0) (by rw [hg]; rfl) rfl hbt hlt a n c W hs)
  clear hS hS1 hb hl hg hbt
  go_enter Tryz.func34, Tryz.ntmps34
  go_wp2_with fail
  refine (HC.out _).mono ?_
  rintro e w1 ⟨v, rfl, hv, ht1⟩
  have hnn := nil_no hv
  have hng := nil_guard hv
  have Z1 := Lib.hid (hZ.out.old ht1)
  have T1 := Lib.hid (HT.out.trans ht1 (fun _ _ h => h))
  clear hv ht1 hZ HT HC
  dsimp only
  go_upto_region 4 with (fail)
  clear hnn hng
  obtain ⟨W3, hW3⟩ : ∃ V, w1.alloc (.cells #[.int .i64 k0, .slice none 0 0, .int .i64 0, .int .i64 0, .int .i64 0, .int .i64 0, .string ⟨#[]⟩, .int .i64 0, .int .i64 0, .string ⟨#[]⟩] 69) = V := ⟨_, rfl⟩
  obtain ⟨hb3, hhb3⟩ : ∃ g, g = w1.heap.size := ⟨_, rfl⟩
  rw [hW3, ← hhb3]
  have H3 : Hid (HB W3 hb3 ⟨k0, none, 0, 0, zeroZ⟩) := Lib.hid (by rw [← hW3, hhb3]; exact heap_alloc_new w1 _)
  have T3 : Hid (Turn w W3 nowhere) := Lib.hid (by rw [← hW3]; exact T1.out.trans (Turn.alloc _ _ _) (fun _ _ h => h))
  have Z3 : Hid (HB W3 w.heap.size zeroH) := Lib.hid (by rw [← hW3]; exact Z1.out.old (Turn.alloc _ _ _))
  have hlt3 : w.heap.size < hb3 := by have := heap_lt Z1.out; omega
  clear hW3 hhb3 Z1 T1
  obtain ⟨cap, w4, hrun, hs4, ht4⟩ := HCV.out W3
  have HS4 := Lib.hid hs4
  have H4 := Lib.hid (H3.out.old ht4)
  have T4 := Lib.hid (T3.out.trans ht4 (fun _ _ h => h))
  have Z4 := Lib.hid (Z3.out.old ht4)
  clear hs4 ht4 H3 T3 Z3 HCV
  go_wp2_with fail
  refine (HGN.out _ _ _ _ HS4.out).mono ?_
  rintro e w5 ⟨a5, c5, rfl, hs5, ht5⟩
  have T5 := Lib.hid (T4.out.trans ht5 (fun _ _ h => h))
  have Z5 := Lib.hid (Z4.out.old ht5)
  clear hs5 ht5 T4 Z4 H4 HS4 hrun
  dsimp only
  go_wp2_with (first
    | (with_reducible refine wpList_store_head rfl (.tmp 2) (.tmp 35) rfl w.heap.size rfl zeroH rfl zeroH Z5.out ?_; intro w6 hz6 ht6)
    | fail)
  refine bodyPost_ret (run_results_head rfl _ _ _ zeroH _ _ rfl hz6 rfl rfl) rfl ⟨rfl, Pk.turn_of (grown_put T5.out.grown ht6 (Nat.le_refl _))⟩

set_option maxRecDepth 100000 in
set_option maxHeartbeats 4000000 in
theorem getHead_none (k0 : Int) (t r0 : List Int) (nl : List Bool) (m : Nat) (hb : Bs.IsB (k0 :: t)) (hl : (k0 :: t).length ≤ 100000000) (k1 : 1 ≤ k0) (k3 : k0 ≤ 3) (hg : getN t = some (nl, r0)) (hm : nl.length = m) (hc : cnt nl = m) (hck : checkE ⟨(m : Int), (m : Int), zeroC, zeroC⟩ k0 = 0) (w : World) :
    Calls Tryz.prog 34 #[.string (strOfNums (k0 :: t))] w (HeadYes w k0 nl m ⟨(m : Int), (m : Int), zeroC, zeroC⟩ r0) := by
  have hk0 := hb k0 (List.mem_cons_self ..)
  have hidx := idx_str k0 t hk0
  have hwr : IntKind.i64.wrap k0 = k0 := IntWalk.i64_in _ (by omega)
  have hne : (strOfNums (k0 :: t)).toList.isEmpty = false := by rw [Go.ByteArray.toList_eq]; rfl
  have hex1 : (strOfNums (k0 :: t)).extract 1 (strOfNums (k0 :: t)).size = strOfNums t := by
    rw [str_extract, strOfNums_size, List.drop_succ_cons, List.drop_zero, List.take_of_length_le (by simp)]
  have hsz : 0 < (strOfNums (k0 :: t)).size := by rw [strOfNums_size]; exact Nat.zero_lt_succ _
  have hsz1 : (1 : Int) ≤ ((strOfNums (k0 :: t)).size : Int) := by omega
  have HC := Lib.hid (fun W => coderOf_any k0 W k1 k3)
  have hZ := Lib.hid (hb_new w)
  have HT := Lib.hid (Turn.alloc w (.cells #[.int .i64 0, .slice none 0 0, .int .i64 0, .int .i64 0, .int .i64 0, .int .i64 0, .string ⟨#[]⟩, .int .i64 0, .int .i64 0, .string ⟨#[]⟩] 69) nowhere)
  have hbt : Oct.IsB t := fun x hx => hb x (List.mem_cons_of_mem _ hx)
  have hlt : t.length ≤ 100000000 := by rw [List.length_cons] at hl; omega
  obtain ⟨S, hS⟩ : ∃ S, strOfNums (k0 :: t) = S := ⟨_, rfl⟩
  obtain ⟨S1, hS1⟩ : ∃ S1, strOfNums t = S1 := ⟨_, rfl⟩
  rw [hS] at hidx hne hex1 hsz hsz1 ⊢
  rw [hS1] at hex1
  have HCV := Lib.hid (fun W => conv_seg2 t hbt (by omega) W)
  rw [hS1] at HCV
  have HBT := Lib.hid hbt
  obtain ⟨hn4, ht⟩ := Nu.getN_some hbt hg
  obtain ⟨q, hq⟩ : ∃ q, (Nu.encN nl).length = q := ⟨_, rfl⟩
  have hrl : t.length = q + r0.length := by rw [ht, List.length_append, hq]
  have hrb : Oct.IsB r0 := fun x hx => hbt x (by rw [ht]; exact List.mem_append_right _ hx)
  have HRB := Lib.hid hrb
  have HCN := Lib.hid hc
  have hrl2 : r0.length ≤ 100000000 := by omega
  have hwq : IntKind.i64.wrap (1 + (q : Int)) = 1 + (q : Int) := IntWalk.i64_in _ (by omega)
  have HGN := Lib.hid (fun a n c W hs => Nu.got_form (bs := t) (L := nl) (z := (q : Int)) (E := 0) (m := m) (by rw [hg]; show (nl, (t.length : Int) - (r0.length : Int), (0 : Int)) = _; rw [hrl]; exact congrArg (fun x => (nl, x, (0 : Int))) (by omega)) hm hbt hlt a n c W hs)
  have hm4 : m ≤ 4096 := by rw [← hm]; exact hn4
  have hex2 : S.extract (1 + q) S.size = strOfNums r0 := by
    rw [← hS, str_extract, strOfNums_size, Nat.add_comm 1 q, List.drop_succ_cons, ht, ← hq, List.drop_left, List.take_of_length_le (by simp)]
  obtain ⟨S2, hS2⟩ : ∃ S2, strOfNums r0 = S2 := ⟨_, rfl⟩
  have HCV2 := Lib.hid (fun W => conv_seg2 r0 hrb (by omega) W)
  rw [hS2] at HCV2 hex2
  have hsz2 : 1 + (q : Int) ≤ (S.size : Int) := by rw [← hS, strOfNums_size, List.length_cons]; omega
  clear hS hS1 hS2 hb hl hg hbt ht hq hrl hm hc hn4 hrb
  go_enter Tryz.func34, Tryz.ntmps34
  go_wp2_with fail
  refine (HC.out _).mono ?_
  rintro e w1 ⟨v, rfl, hv, ht1⟩
  have hnn := nil_no hv
  have hng := nil_guard hv
  have Z1 := Lib.hid (hZ.out.old ht1)
  have T1 := Lib.hid (HT.out.trans ht1 (fun _ _ h => h))
  clear hv ht1 hZ HT HC
  dsimp only
  go_upto_region 4 with (fail)
  clear hnn hng
  obtain ⟨W3, hW3⟩ : ∃ V, w1.alloc (.cells #[.int .i64 k0, .slice none 0 0, .int .i64 0, .int .i64 0, .int .i64 0, .int .i64 0, .string ⟨#[]⟩, .int .i64 0, .int .i64 0, .string ⟨#[]⟩] 69) = V := ⟨_, rfl⟩
  obtain ⟨hb3, hhb3⟩ : ∃ g, g = w1.heap.size := ⟨_, rfl⟩
  rw [hW3, ← hhb3]
  have H3 : Hid (HB W3 hb3 ⟨k0, none, 0, 0, zeroZ⟩) := Lib.hid (by rw [← hW3, hhb3]; exact heap_alloc_new w1 _)
  have T3 : Hid (Turn w W3 nowhere) := Lib.hid (by rw [← hW3]; exact T1.out.trans (Turn.alloc _ _ _) (fun _ _ h => h))
  have Z3 : Hid (HB W3 w.heap.size zeroH) := Lib.hid (by rw [← hW3]; exact Z1.out.old (Turn.alloc _ _ _))
  have hlt3 : w.heap.size < hb3 := by have := heap_lt Z1.out; omega
  clear hW3 hhb3 Z1 T1
  obtain ⟨cap, w4, hrun, hs4, ht4⟩ := HCV.out W3
  have HS4 := Lib.hid hs4
  have H4 := Lib.hid (H3.out.old ht4)
  have T4 := Lib.hid (T3.out.trans ht4 (fun _ _ h => h))
  have Z4 := Lib.hid (Z3.out.old ht4)
  clear hs4 ht4 H3 T3 Z3 HCV
  go_wp2_with fail
  refine (HGN.out _ _ _ _ HS4.out).mono ?_
  rintro e w5 ⟨a5, c5, rfl, hs5, ht5⟩
  have T5 := Lib.hid (T4.out.trans ht5 (fun _ _ h => h))
  have Z5 := Lib.hid (Z4.out.old ht5)
  have H5 := Lib.hid (H4.out.old ht5)
  have S5 := Lib.hid hs5
  clear hs5 ht5 T4 Z4 H4 HS4 hrun
  dsimp only
  obtain ⟨cap2, w6, hrun2, hs6, ht6⟩ := HCV2.out w5
  have T6 := Lib.hid (T5.out.trans ht6 (fun _ _ h => h))
  have Z6 := Lib.hid (Z5.out.old ht6)
  have H6 := Lib.hid (H5.out.old ht6)
  have S6 := Lib.hid (S5.out.grown ht6.grown)
  have HNR := Lib.hid (In.new_any _ _ cap2 r0 w6 (In.oseg hs6) (by omega))
  clear hs6 ht6 T5 Z5 H5 S5 HCV2
  go_wp2_with fail
  refine HNR.out.mono ?_
  rintro e w7 ⟨rb, rg, rfl, hrb1, hrg1, hrb2, hrg2, hrd, hg7⟩
  have t7 := Pk.turn_of hg7
  have TT7 : Hid (Turn w6 w7 (· = hb3)) := Lib.hid (t7.mono (fun _ _ e => e.elim))
  have H7 := Lib.hid (H6.out.old t7)
  have S7 := Lib.hid (S6.out.grown hg7)
  have R7 := Lib.hid hrd
  have h36 : hb3 < w6.heap.size := heap_lt H6.out
  have h06 : w.heap.size ≤ w6.heap.size := T6.out.size
  clear hg7 t7 hrd HNR hrun2
  dsimp only
  have HCT := Lib.hid (Nu.Count_any a5 m c5 nl w7 S7.out)
  go_wp2_with fail
  refine HCT.out.mono ?_
  rw [HCN.out]
  rintro e w8 ⟨rfl, ht8⟩
  have TT8 := Lib.hid (TT7.out.trans ht8 (fun _ _ e => e.elim))
  have H8 := Lib.hid (H7.out.old ht8)
  have R8 := Lib.hid (In.Turn.rd ht8 R7.out id id)
  have h78 := ht8.size
  clear ht8 TT7 H7 S7 R7 HCT
  dsimp only
  obtain ⟨d0, d1, d2, d3, d4, d5, d6, d7, d8, d9⟩ := H8.out.cellsAt
  have f1 := H8.out.froz 1
  have f2 := H8.out.froz 2
  have f3 := H8.out.froz 3
  have f4 := H8.out.froz 4
  have f5 := H8.out.froz 5
  have f6 := H8.out.froz 6
  have f7 := H8.out.froz 7
  have f8 := H8.out.froz 8
  have f9 := H8.out.froz 9
  go_upto_region 9 with (fail)
  have H9a := HB.setZone (HB.set1 H8.out a5 m c5) ⟨(m : Int), (m : Int), zeroC, zeroC⟩
  have T9a := (turn_set w8 hb3 1 (.slice a5 m c5)).trans (turn_zone _ hb3 ⟨(m : Int), (m : Int), zeroC, zeroC⟩) (fun _ _ h => h)
  obtain ⟨W9, hW9⟩ : ∃ V, ((((((((w8.setCell ⟨hb3, 1, none⟩ (.slice a5 m c5)).setCell ⟨hb3, 2, none⟩ (.int .i64 (m : Int))).setCell ⟨hb3, 3, none⟩ (.int .i64 (m : Int))).setCell ⟨hb3, 4, none⟩ (.int .i64 0)).setCell ⟨hb3, 5, none⟩ (.int .i64 0)).setCell ⟨hb3, 6, none⟩ (.string ⟨#[]⟩)).setCell ⟨hb3, 7, none⟩ (.int .i64 0)).setCell ⟨hb3, 8, none⟩ (.int .i64 0)).setCell ⟨hb3, 9, none⟩ (.string ⟨#[]⟩) = V := ⟨_, rfl⟩
  have H9 : Hid (HB W9 hb3 ⟨k0, a5, m, c5, ⟨(m : Int), (m : Int), zeroC, zeroC⟩⟩) := Lib.hid (by rw [← hW9]; exact H9a)
  have t9 : Turn w8 W9 (· = hb3) := by rw [← hW9]; exact T9a
  have TT9 := Lib.hid (TT8.out.trans t9 (fun _ _ h => h))
  have R9 := Lib.hid (In.Turn.rd t9 R8.out (by omega) (by omega))
  have h89 := t9.size
  rw [hW9]
  clear hW9 H9a T9a t9 TT8 H8 R8 d0 d1 d2 d3 d4 d5 d6 d7 d8 d9 f1 f2 f3 f4 f5 f6 f7 f8 f9
  obtain ⟨d0, d1, d2, d3, d4, d5, d6, d7, d8, d9⟩ := H9.out.cellsAt
  have HVA := Lib.hid (values_any ⟨k0, a5, m, c5, ⟨(m : Int), (m : Int), zeroC, zeroC⟩⟩ 0 (by show (m : Int) - (m : Int) = 0; omega) (by omega) W9)
  have HCK := Lib.hid (fun W => (by have h := Zn.Check_any ⟨(m : Int), (m : Int), zeroC, zeroC⟩ k0 W; rw [hck] at h; exact h))
  clear hck
  go_wp2_with fail
  refine HVA.out.mono ?_
  rintro e w10 ⟨rfl, hg10⟩
  have t10 := Pk.turn_of hg10
  have TT10 := Lib.hid (TT9.out.trans t10 (fun _ _ e => e.elim))
  have H10 := Lib.hid (H9.out.old t10)
  have R10 := Lib.hid (In.Turn.rd t10 R9.out id id)
  have h910 := t10.size
  clear hg10 t10 TT9 H9 R9 HVA d0 d1 d2 d3 d4 d5 d6 d7 d8 d9
  dsimp only
  obtain ⟨d0, d1, d2, d3, d4, d5, d6, d7, d8, d9⟩ := H10.out.cellsAt
  go_wp2_with fail
  refine (HCK.out _).mono ?_
  rintro e w11 ⟨rfl, hg11⟩
  have t11 := Pk.turn_of hg11
  have TT11 := Lib.hid (TT10.out.trans t11 (fun _ _ e => e.elim))
  have H11 := Lib.hid (H10.out.old t11)
  have R11 := Lib.hid (In.Turn.rd t11 R10.out id id)
  have h1011 := t11.size
  clear hg11 t11 TT10 H10 R10 HCK d0 d1 d2 d3 d4 d5 d6 d7 d8 d9
  dsimp only
  obtain ⟨d0, d1, d2, d3, d4, d5, d6, d7, d8, d9⟩ := H11.out.cellsAt
  have Z11 : Hid (HB w11 w.heap.size zeroH) := Lib.hid (Z6.out.turn TT11.out (by omega))
  go_wp2_with (first
    | (with_reducible refine wpList_store_head rfl (.tmp 2) (.tmp 73) rfl w.heap.size rfl ⟨k0, a5, m, c5, ⟨(m : Int), (m : Int), zeroC, zeroC⟩⟩ rfl zeroH Z11.out ?_; intro w12 hz12 ht12)
    | fail)
  have S11 := flags_stay S6.out H6.out TT11.out
  have S12 := flags_stay S11 Z11.out ht12
  refine bodyPost_ret (run_results_head rfl _ _ _ ⟨k0, a5, m, c5, ⟨(m : Int), (m : Int), zeroC, zeroC⟩⟩ _ _ rfl hz12 rfl rfl) rfl ⟨a5, c5, rb, rg, rfl, S12, In.Turn.rd ht12 R11.out (by omega) (by omega), HRB.out, hrl2, by omega, by have := ht12.size; omega, (fun ad e hn0 => by have := flags_lt S6.out ad e hn0; omega), ?_⟩
  exact Turn.trans (Turn.trans T6.out TT11.out (fun i hi e => by omega)) ht12 (fun i hi e => by omega)
end Go.Proofs.YtljanfnhmhimiaaGreat.Sg

namespace Go.Proofs.YtljanfnhmhimiaaGreat.Sg
open Go.RowKit Go.Joins Zn Zr Dv
open Is (IsI)

theorem row_not {w : World} {base e s n : Nat} {v : Value} {xs : List Value} (h : w.ownsRow base e s v n xs) {g : Nat} {cs : Array Value} {t : Nat} {fr : Nat × Nat} (hg : w.heap[g]? = some (.cells cs t fr)) (hne : t ≠ e) : v.ownBlock ≠ some g := by
  intro e1
  rcases h.2 with ⟨rfl, _⟩ | ⟨g1, cap1, cur1, rfl, _, hg1, _⟩
  · cases e1
  · obtain rfl : g1 = g := Option.some.inj e1
    rw [hg1] at hg
    injection hg with hg
    injection hg with _ h3 _
    exact hne h3.symm

set_option maxHeartbeats 1000000 in
theorem putAll_B {l : List Int} {E : Int} {B : List Int} {m : Nat} (hR : Pk.putR l 1 = (E, B)) (hm : B.length = m) (hu : Pk.IsU l) (a : Option Addr) (n c : Nat) (w : World) (hs : Us.Seg w a n c l) :
    Calls Tryz.prog 102 #[.slice a n c] w (Pk.PutF w m E B) := by
  have HP := Lib.hid (Pk.put_form hR hm hu a n c w hs)
  clear hR hm hu hs
  go_enter Tryz.func102, Tryz.ntmps102
  go_wp2_with fail
  refine HP.out.mono ?_
  rintro e w1 ⟨a1, k1, rfl, hs1, ht1⟩
  have HF : Hid (Pk.PutF w m E B (.returned (.tuple #[.slice a1 m k1, .int .i64 E])) w1) := Lib.hid ⟨_, _, rfl, hs1, ht1⟩
  clear hs1 ht1
  go_wp2
  go_ret2
  exact HF.out

theorem make_I (S : Nat) (hS : S ≤ 1000000) (W : World) : (Instr.makeSlice 131 (.int .i64 0) (.int .i64 (S : Int))).run Tryz.prog W = .ok (.slice (some ⟨W.heap.size, 0, none⟩) 0 S) (W.alloc (.cells (madeCells (Value.cells (.int .i64 0)) S) 2)) := by
  obtain ⟨i0, hi, hz0, hz1, hz2⟩ := info_parts Is.info_i64
  have h := run_make (P := Tryz.prog) W 131 2 i0 (.int .i64 0) Tryz.underlying131 hi hz0 .i64 .i64 0 (S : Int) (by omega) (by omega) (by rw [hz2]; omega) (by omega)
  rw [hz1, Int.toNat_natCast, Nat.mul_one] at h
  exact h

set_option maxRecDepth 100000 in
set_option maxHeartbeats 4000000 in
theorem putCells_I (b : Nat) (a : Option Addr) (n c m : Nat) (l : List Cel) (w : World) (hs : CSeg w a n c l) (hn : n ≤ 4096) (hi : IntOk l) (hm : (In.bestB (l.map (·.n))).length = m) :
    Calls Tryz.prog 238 #[.agg #[.func (.func 89) #[] #[], .func (.func 90) #[] #[], .func (.func 91) #[] #[], .func (.func 93) #[] #[], .func (.func 95) #[] #[], .func (.func 140) #[] #[.pointer (some ⟨b, 0, none⟩)]], .slice a n c] w (BytesX w m (In.bestB (l.map (·.n)))) := by
  obtain ⟨i0, ii, iz0, iz1, iz2⟩ := info_parts Is.info_i64
  have HS := Lib.hid hs
  have HL := Lib.hid hs.len
  have HV := Lib.hid (fun c W => value_I c W)
  have hmk := make_I n (by omega)
  have hcod := heap_alloc_new w (.cells #[.func (.func 89) #[] #[], .func (.func 90) #[] #[], .func (.func 91) #[] #[], .func (.func 93) #[] #[], .func (.func 95) #[] #[], .func (.func 140) #[] #[.pointer (some ⟨b, 0, none⟩)]] 99)
  have hmade := World.ownsRow_made (base := w.heap.size) (e := 2) (size := 1) (w.alloc (.cells #[.func (.func 89) #[] #[], .func (.func 90) #[] #[], .func (.func 91) #[] #[], .func (.func 93) #[] #[], .func (.func 95) #[] #[], .func (.func 140) #[] #[.pointer (some ⟨b, 0, none⟩)]] 99)) (madeCells (Value.cells (.int .i64 0)) n) n (by simp) (by unfold maxLen; omega) (by rw [size_madeCells]; omega)
  have hcod2 := (Below.heap_alloc (w.alloc (.cells #[.func (.func 89) #[] #[], .func (.func 90) #[] #[], .func (.func 91) #[] #[], .func (.func 93) #[] #[], .func (.func 95) #[] #[], .func (.func 140) #[] #[.pointer (some ⟨b, 0, none⟩)]] 99)) (.cells (madeCells (Value.cells (.int .i64 0)) n) 2) w.heap.size (by simp)).trans hcod
  have HC0 := Lib.hid hcod2
  have HM0 := Lib.hid hmade
  clear hs hcod hmade hcod2
  go_enter Tryz.func238, Tryz.ntmps238
  go_wp2
  go_loopw [5, 15] (fun vv iv wx => ∃ (k gv cv : Nat), iv = .int .i64 k ∧ k ≤ n ∧ vv = .slice (some ⟨gv, 0, none⟩) k cv ∧ wx.ownsRow w.heap.size 2 1 (.slice (some ⟨gv, 0, none⟩) k cv) k ((l.take k).map intV) ∧ wx.heap[w.heap.size]? = some (.cells #[.func (.func 89) #[] #[], .func (.func 90) #[] #[], .func (.func 91) #[] #[], .func (.func 93) #[] #[], .func (.func 95) #[] #[], .func (.func 140) #[] #[.pointer (some ⟨b, 0, none⟩)]] 99 (0, 0)) ∧ w.grownBy wx none) (fun _ iv _ => n - (intOf iv).toNat)
  case atStart => exact ⟨0, _, _, rfl, Nat.zero_le _, rfl, (by have h := HM0.out; rw [World.size_alloc] at h; exact h), HC0.out, grown_then (grown_alloc _ _) (grown_alloc _ _)⟩
  case round =>
    obtain ⟨k, gv, cv, rfl, hk, rfl, r1, hcd, hg⟩ := hrel
    have HG := Lib.hid hg
    have R1 := Lib.hid r1
    have HC := Lib.hid hcd
    have hgs := hg.size
    clear r1 hcd hg HM0 HC0 hmk
    by_cases hlt : k < n
    · obtain ⟨B, O, rfl, hcs⟩ := (HS.out.old HG.out).form (by omega)
      obtain ⟨x, hx⟩ : ∃ x, x = l.getD k zeroC := ⟨_, rfl⟩
      have HXE := Lib.hid hx
      have M1 := Lib.hid (map_snoc (f := intV) (l := l) (k := k) (by rw [HL.out]; exact hlt))
      rw [← hx] at M1
      have f0 : wr.cell? ⟨w.heap.size, 0, none⟩ = some (.func (.func 89) #[] #[]) := by rw [cell_of_row _ _ _ _ _ _ HC.out]; rfl
      have hwlt : w.heap.size < wr.heap.size := heap_lt HC.out
      have hlt2 : (k : Int) < (n : Int) := by omega
      clear hcs hx
      obtain ⟨c0, c1, c2⟩ := cells_at (HS.out.old HG.out) hlt HXE.out
      go_wp2_with fail
      refine (HV.out x _).mono ?_
      rintro e wv ⟨rfl, hgv⟩
      have GV := Lib.hid (grown_then (grown_alloc wr _) hgv)
      have HGV := Lib.hid (grown_then HG.out GV.out)
      have RV := Lib.hid (own_grow R1.out GV.out)
      have CV := Lib.hid (block_old HC.out GV.out)
      have hvs := HGV.out.size
      clear hgv GV HG R1 HC c0 c1 c2 f0
      dsimp only
      go_wp2_with (at_builtin; refine wpList_append_own _ rfl _ _ 131 rfl w.heap.size 2 i0 (.int .i64 0) 1 8 Tryz.underlying131 ii iz0 iz1 iz2 rfl (by decide) _ k _ rfl (RV.out.alloc _) ⟨wv.heap.size, 0, none⟩ 1 1 [.int .i64 x.n] rfl rfl (by intro y u hy; match y, hy with | 0, hy => simp at hy; subst hy; simp [Addr.add]) (by intro u hu; simp at hu; subst hu; rfl) (by unfold maxLen; omega) (by omega) (by simp; omega) ?_; intro V4 w4 hown4 hg4 hnil4)
      obtain ⟨g4, c4, rfl⟩ := Nu.ownsRow_form hown4 (by omega)
      have HG4 := Lib.hid (Bs.grownBy_trans (grown_then HGV.out (grown_alloc _ _)) hg4 (fun i e => (RV.out.lt i e).1))
      have R14 : Hid (w4.ownsRow w.heap.size 2 1 (.slice (some ⟨g4, 0, none⟩) (k + 1) c4) (k + 1) ((l.take (k + 1)).map intV)) := Lib.hid (by rw [M1.out]; exact hown4)
      have C4 : Hid (w4.heap[w.heap.size]? = some (.cells #[.func (.func 89) #[] #[], .func (.func 90) #[] #[], .func (.func 91) #[] #[], .func (.func 93) #[] #[], .func (.func 95) #[] #[], .func (.func 140) #[] #[.pointer (some ⟨b, 0, none⟩)]] 99 (0, 0))) := Lib.hid (by
        rw [hg4.block _ (by have := heap_lt CV.out; simp; omega) (fun e => ?_), Below.heap_alloc _ _ _ (heap_lt CV.out)]
        · exact CV.out
        · exact row_not RV.out CV.out (by decide) e.symm)
      clear hown4 hg4 hnil4 RV CV M1 HGV
      go_wp2
      go_roundw
      case rel => exact ⟨k + 1, _, _, by go_num, by omega, by go_num, R14.out, C4.out, HG4.out⟩
      case measure => simp [intOf]; omega
    · obtain rfl : k = n := by omega
      have hT : l.take k = l := List.take_of_length_le (by rw [HL.out]; exact Nat.le_refl _)
      rw [hT, int_row] at R1
      have f4 : wr.cell? ⟨w.heap.size, 4, none⟩ = some (.func (.func 95) #[] #[]) := by rw [cell_of_row _ _ _ _ _ _ HC.out]; rfl
      have HI : Hid (IsI (l.map (·.n))) := Lib.hid (fun y hy => by
        obtain ⟨z, hz, rfl⟩ := List.mem_map.1 hy
        exact hi z hz)
      have hR : In.tooMany (l.map (·.n)) (In.bestB (l.map (·.n))) = (0, In.bestB (l.map (·.n))) := In.few_of (by rw [List.length_map, HL.out]; exact hn)
      have hc := In.put_form hR hm HI.out (some ⟨gv, 0, none⟩) k cv wr (Is.Seg.own R1.out)
      clear hR
      have HP := Lib.hid hc
      clear hc hT hlt R1 HC
      go_wp2_with fail
      refine HP.out.mono ?_
      rintro e w9 ⟨a9, k9, rfl, hs9, ht9⟩
      have HF : Hid (BytesX w m (In.bestB (l.map (·.n))) (.returned (.slice a9 m k9)) w9) := Lib.hid ⟨a9, k9, rfl, hs9, (Pk.turn_of HG.out).trans ht9 (fun _ _ h => h)⟩
      clear hs9 ht9 HP
      dsimp only
      go_wp2
      go_ret
      exact HF.out

theorem make_B (S : Nat) (hS : S ≤ 1000000) (W : World) : (Instr.makeSlice 88 (.int .i64 0) (.int .i64 (S : Int))).run Tryz.prog W = .ok (.slice (some ⟨W.heap.size, 0, none⟩) 0 S) (W.alloc (.cells (madeCells (Value.cells (.int .u64 0)) S) 85)) := by
  obtain ⟨i0, hi, hz0, hz1, hz2⟩ := info_parts Us.info_u64
  have h := run_make (P := Tryz.prog) W 88 85 i0 (.int .u64 0) Tryz.underlying88 hi hz0 .i64 .i64 0 (S : Int) (by omega) (by omega) (by rw [hz2]; omega) (by omega)
  rw [hz1, Int.toNat_natCast, Nat.mul_one] at h
  exact h

set_option maxRecDepth 100000 in
set_option maxHeartbeats 4000000 in
theorem putCells_B (a : Option Addr) (n c m : Nat) (l : List Cel) (w : World) (hs : CSeg w a n c l) (hn : n ≤ 4096) (h2 : ∀ x ∈ l, 0 ≤ x.n ∧ x.n < 2) (hm : ((Pk.putR (l.map (·.n)) 1).2).length = m) :
    Calls Tryz.prog 242 #[.agg #[.func (.func 98) #[] #[], .func (.func 99) #[] #[], .func (.func 100) #[] #[], .func (.func 101) #[] #[], .func (.func 102) #[] #[], .func (.func 103) #[] #[]], .slice a n c] w (BytesX w m ((Pk.putR (l.map (·.n)) 1).2)) := by
  obtain ⟨i0, ii, iz0, iz1, iz2⟩ := info_parts Us.info_u64
  have HS := Lib.hid hs
  have HL := Lib.hid hs.len
  have HV := Lib.hid (fun c W => value_B c W)
  have hmk := make_B n (by omega)
  have hcod := heap_alloc_new w (.cells #[.func (.func 98) #[] #[], .func (.func 99) #[] #[], .func (.func 100) #[] #[], .func (.func 101) #[] #[], .func (.func 102) #[] #[], .func (.func 103) #[] #[]] 108)
  have hmade := World.ownsRow_made (base := w.heap.size) (e := 85) (size := 1) (w.alloc (.cells #[.func (.func 98) #[] #[], .func (.func 99) #[] #[], .func (.func 100) #[] #[], .func (.func 101) #[] #[], .func (.func 102) #[] #[], .func (.func 103) #[] #[]] 108)) (madeCells (Value.cells (.int .u64 0)) n) n (by simp) (by unfold maxLen; omega) (by rw [size_madeCells]; omega)
  have hcod2 := (Below.heap_alloc (w.alloc (.cells #[.func (.func 98) #[] #[], .func (.func 99) #[] #[], .func (.func 100) #[] #[], .func (.func 101) #[] #[], .func (.func 102) #[] #[], .func (.func 103) #[] #[]] 108)) (.cells (madeCells (Value.cells (.int .u64 0)) n) 85) w.heap.size (by simp)).trans hcod
  have HC0 := Lib.hid hcod2
  have HM0 := Lib.hid hmade
  clear hs hcod hmade hcod2
  go_enter Tryz.func242, Tryz.ntmps242
  go_wp2
  go_loopw [5, 15] (fun vv iv wx => ∃ (k gv cv : Nat), iv = .int .i64 k ∧ k ≤ n ∧ vv = .slice (some ⟨gv, 0, none⟩) k cv ∧ wx.ownsRow w.heap.size 85 1 (.slice (some ⟨gv, 0, none⟩) k cv) k ((l.take k).map bitV) ∧ wx.heap[w.heap.size]? = some (.cells #[.func (.func 98) #[] #[], .func (.func 99) #[] #[], .func (.func 100) #[] #[], .func (.func 101) #[] #[], .func (.func 102) #[] #[], .func (.func 103) #[] #[]] 108 (0, 0)) ∧ w.grownBy wx none) (fun _ iv _ => n - (intOf iv).toNat)
  case atStart => exact ⟨0, _, _, rfl, Nat.zero_le _, rfl, (by have h := HM0.out; rw [World.size_alloc] at h; exact h), HC0.out, grown_then (grown_alloc _ _) (grown_alloc _ _)⟩
  case round =>
    obtain ⟨k, gv, cv, rfl, hk, rfl, r1, hcd, hg⟩ := hrel
    have HG := Lib.hid hg
    have R1 := Lib.hid r1
    have HC := Lib.hid hcd
    have hgs := hg.size
    clear r1 hcd hg HM0 HC0 hmk
    by_cases hlt : k < n
    · obtain ⟨B, O, rfl, hcs⟩ := (HS.out.old HG.out).form (by omega)
      obtain ⟨x, hx⟩ : ∃ x, x = l.getD k zeroC := ⟨_, rfl⟩
      have HXE := Lib.hid hx
      have M1 := Lib.hid (map_snoc (f := bitV) (l := l) (k := k) (by rw [HL.out]; exact hlt))
      rw [← hx] at M1
      have f0 : wr.cell? ⟨w.heap.size, 0, none⟩ = some (.func (.func 98) #[] #[]) := by rw [cell_of_row _ _ _ _ _ _ HC.out]; rfl
      have hwlt : w.heap.size < wr.heap.size := heap_lt HC.out
      have hlt2 : (k : Int) < (n : Int) := by omega
      clear hcs hx
      obtain ⟨c0, c1, c2⟩ := cells_at (HS.out.old HG.out) hlt HXE.out
      go_wp2_with fail
      refine (HV.out x _).mono ?_
      rintro e wv ⟨rfl, hgv⟩
      have GV := Lib.hid (grown_then (grown_alloc wr _) hgv)
      have HGV := Lib.hid (grown_then HG.out GV.out)
      have RV := Lib.hid (own_grow R1.out GV.out)
      have CV := Lib.hid (block_old HC.out GV.out)
      have hvs := HGV.out.size
      clear hgv GV HG R1 HC c0 c1 c2 f0
      dsimp only
      go_wp2_with (at_builtin; refine wpList_append_own _ rfl _ _ 88 rfl w.heap.size 85 i0 (.int .u64 0) 1 8 Tryz.underlying88 ii iz0 iz1 iz2 rfl (by decide) _ k _ rfl (RV.out.alloc _) ⟨wv.heap.size, 0, none⟩ 1 1 [.int .u64 (In.u x.n)] rfl rfl (by intro y u hy; match y, hy with | 0, hy => simp at hy; subst hy; simp [Addr.add]) (by intro u hu; simp at hu; subst hu; rfl) (by unfold maxLen; omega) (by omega) (by simp; omega) ?_; intro V4 w4 hown4 hg4 hnil4)
      obtain ⟨g4, c4, rfl⟩ := Nu.ownsRow_form hown4 (by omega)
      have HG4 := Lib.hid (Bs.grownBy_trans (grown_then HGV.out (grown_alloc _ _)) hg4 (fun i e => (RV.out.lt i e).1))
      have R14 : Hid (w4.ownsRow w.heap.size 85 1 (.slice (some ⟨g4, 0, none⟩) (k + 1) c4) (k + 1) ((l.take (k + 1)).map bitV)) := Lib.hid (by rw [M1.out]; exact hown4)
      have C4 : Hid (w4.heap[w.heap.size]? = some (.cells #[.func (.func 98) #[] #[], .func (.func 99) #[] #[], .func (.func 100) #[] #[], .func (.func 101) #[] #[], .func (.func 102) #[] #[], .func (.func 103) #[] #[]] 108 (0, 0))) := Lib.hid (by
        rw [hg4.block _ (by have := heap_lt CV.out; simp; omega) (fun e => ?_), Below.heap_alloc _ _ _ (heap_lt CV.out)]
        · exact CV.out
        · exact row_not RV.out CV.out (by decide) e.symm)
      clear hown4 hg4 hnil4 RV CV M1 HGV
      go_wp2
      go_roundw
      case rel => exact ⟨k + 1, _, _, by go_num, by omega, by go_num, R14.out, C4.out, HG4.out⟩
      case measure => simp [intOf]; omega
    · obtain rfl : k = n := by omega
      have hT : l.take k = l := List.take_of_length_le (by rw [HL.out]; exact Nat.le_refl _)
      rw [hT, bit_row] at R1
      have f4 : wr.cell? ⟨w.heap.size, 4, none⟩ = some (.func (.func 102) #[] #[]) := by rw [cell_of_row _ _ _ _ _ _ HC.out]; rfl
      have hM : (l.map fun c => In.u c.n) = l.map (·.n) := List.map_congr_left fun y hy => by
        have := h2 y hy
        unfold In.u
        omega
      rw [hM] at R1
      have hU : Pk.IsU (l.map (·.n)) := fun y hy => by
        obtain ⟨z, hz, rfl⟩ := List.mem_map.1 hy
        have := h2 z hz
        omega
      obtain ⟨E, hE⟩ : ∃ E, E = (Pk.putR (l.map (·.n)) 1).1 := ⟨_, rfl⟩
      have hR : Pk.putR (l.map (·.n)) 1 = (E, (Pk.putR (l.map (·.n)) 1).2) := by rw [hE]
      have hc := putAll_B hR hm hU (some ⟨gv, 0, none⟩) k cv wr (Us.Seg.own R1.out)
      clear hE hR
      have HP := Lib.hid hc
      clear hc hT hlt R1 HC
      go_wp2_with fail
      refine HP.out.mono ?_
      rintro e w9 ⟨a9, k9, rfl, hs9, ht9⟩
      have HF : Hid (BytesX w m ((Pk.putR (l.map (·.n)) 1).2) (.returned (.slice a9 m k9)) w9) := Lib.hid ⟨a9, k9, rfl, hs9, (Pk.turn_of HG.out).trans ht9 (fun _ _ h => h)⟩
      clear hs9 ht9 HP
      dsimp only
      go_wp2
      go_ret
      exact HF.out

theorem make_T (S : Nat) (hS : S ≤ 1000000) (W : World) : (Instr.makeSlice 132 (.int .i64 0) (.int .i64 (S : Int))).run Tryz.prog W = .ok (.slice (some ⟨W.heap.size, 0, none⟩) 0 S) (W.alloc (.cells (madeCells (Value.cells (.string ⟨#[]⟩)) S) 9)) := by
  obtain ⟨i0, hi, hz0, hz1, hz2⟩ := info_parts Ss.info_str
  have h := run_make (P := Tryz.prog) W 132 9 i0 (.string ⟨#[]⟩) Tryz.underlying132 hi hz0 .i64 .i64 0 (S : Int) (by omega) (by omega) (by rw [hz2]; omega) (by omega)
  rw [hz1, Int.toNat_natCast, Nat.mul_one] at h
  exact h

set_option maxRecDepth 100000 in
set_option maxHeartbeats 4000000 in
theorem putCells_T (b : Nat) (a : Option Addr) (n c m : Nat) (l : List Cel) (w : World) (hs : CSeg w a n c l) (hn : n ≤ 4096) (ht : ∀ x ∈ l, x.s.size ≤ 65536) (hm : (Tx.bestT (l.map fun c => nm c.s)).length = m) :
    Calls Tryz.prog 246 #[.agg #[.func (.func 105) #[] #[], .func (.func 106) #[] #[], .func (.func 107) #[] #[], .func (.func 108) #[] #[], .func (.func 109) #[] #[], .func (.func 146) #[] #[.pointer (some ⟨b, 0, none⟩)]], .slice a n c] w (BytesX w m (Tx.bestT (l.map fun c => nm c.s))) := by
  obtain ⟨i0, ii, iz0, iz1, iz2⟩ := info_parts Ss.info_str
  have HS := Lib.hid hs
  have HL := Lib.hid hs.len
  have HV := Lib.hid (fun c W => value_T c W)
  have hmk := make_T n (by omega)
  have hcod := heap_alloc_new w (.cells #[.func (.func 105) #[] #[], .func (.func 106) #[] #[], .func (.func 107) #[] #[], .func (.func 108) #[] #[], .func (.func 109) #[] #[], .func (.func 146) #[] #[.pointer (some ⟨b, 0, none⟩)]] 117)
  have hmade := World.ownsRow_made (base := w.heap.size) (e := 9) (size := 1) (w.alloc (.cells #[.func (.func 105) #[] #[], .func (.func 106) #[] #[], .func (.func 107) #[] #[], .func (.func 108) #[] #[], .func (.func 109) #[] #[], .func (.func 146) #[] #[.pointer (some ⟨b, 0, none⟩)]] 117)) (madeCells (Value.cells (.string ⟨#[]⟩)) n) n (by simp) (by unfold maxLen; omega) (by rw [size_madeCells]; omega)
  have hcod2 := (Below.heap_alloc (w.alloc (.cells #[.func (.func 105) #[] #[], .func (.func 106) #[] #[], .func (.func 107) #[] #[], .func (.func 108) #[] #[], .func (.func 109) #[] #[], .func (.func 146) #[] #[.pointer (some ⟨b, 0, none⟩)]] 117)) (.cells (madeCells (Value.cells (.string ⟨#[]⟩)) n) 9) w.heap.size (by simp)).trans hcod
  have HC0 := Lib.hid hcod2
  have HM0 := Lib.hid hmade
  clear hs hcod hmade hcod2
  go_enter Tryz.func246, Tryz.ntmps246
  go_wp2
  go_loopw [5, 15] (fun vv iv wx => ∃ (k gv cv : Nat), iv = .int .i64 k ∧ k ≤ n ∧ vv = .slice (some ⟨gv, 0, none⟩) k cv ∧ wx.ownsRow w.heap.size 9 1 (.slice (some ⟨gv, 0, none⟩) k cv) k ((l.take k).map strV) ∧ wx.heap[w.heap.size]? = some (.cells #[.func (.func 105) #[] #[], .func (.func 106) #[] #[], .func (.func 107) #[] #[], .func (.func 108) #[] #[], .func (.func 109) #[] #[], .func (.func 146) #[] #[.pointer (some ⟨b, 0, none⟩)]] 117 (0, 0)) ∧ w.grownBy wx none) (fun _ iv _ => n - (intOf iv).toNat)
  case atStart => exact ⟨0, _, _, rfl, Nat.zero_le _, rfl, (by have h := HM0.out; rw [World.size_alloc] at h; exact h), HC0.out, grown_then (grown_alloc _ _) (grown_alloc _ _)⟩
  case round =>
    obtain ⟨k, gv, cv, rfl, hk, rfl, r1, hcd, hg⟩ := hrel
    have HG := Lib.hid hg
    have R1 := Lib.hid r1
    have HC := Lib.hid hcd
    have hgs := hg.size
    clear r1 hcd hg HM0 HC0 hmk
    by_cases hlt : k < n
    · obtain ⟨B, O, rfl, hcs⟩ := (HS.out.old HG.out).form (by omega)
      obtain ⟨x, hx⟩ : ∃ x, x = l.getD k zeroC := ⟨_, rfl⟩
      have HXE := Lib.hid hx
      have M1 := Lib.hid (map_snoc (f := strV) (l := l) (k := k) (by rw [HL.out]; exact hlt))
      rw [← hx] at M1
      have f0 : wr.cell? ⟨w.heap.size, 0, none⟩ = some (.func (.func 105) #[] #[]) := by rw [cell_of_row _ _ _ _ _ _ HC.out]; rfl
      have hwlt : w.heap.size < wr.heap.size := heap_lt HC.out
      have hlt2 : (k : Int) < (n : Int) := by omega
      clear hcs hx
      obtain ⟨c0, c1, c2⟩ := cells_at (HS.out.old HG.out) hlt HXE.out
      go_wp2_with fail
      refine (HV.out x _).mono ?_
      rintro e wv ⟨rfl, hgv⟩
      have GV := Lib.hid (grown_then (grown_alloc wr _) hgv)
      have HGV := Lib.hid (grown_then HG.out GV.out)
      have RV := Lib.hid (own_grow R1.out GV.out)
      have CV := Lib.hid (block_old HC.out GV.out)
      have hvs := HGV.out.size
      clear hgv GV HG R1 HC c0 c1 c2 f0
      dsimp only
      go_wp2_with (at_builtin; refine wpList_append_own _ rfl _ _ 132 rfl w.heap.size 9 i0 (.string ⟨#[]⟩) 1 16 Tryz.underlying132 ii iz0 iz1 iz2 rfl (by decide) _ k _ rfl (RV.out.alloc _) ⟨wv.heap.size, 0, none⟩ 1 1 [.string x.s] rfl rfl (by intro y u hy; match y, hy with | 0, hy => simp at hy; subst hy; simp [Addr.add]) (by intro u hu; simp at hu; subst hu; rfl) (by unfold maxLen; omega) (by omega) (by simp; omega) ?_; intro V4 w4 hown4 hg4 hnil4)
      obtain ⟨g4, c4, rfl⟩ := Nu.ownsRow_form hown4 (by omega)
      have HG4 := Lib.hid (Bs.grownBy_trans (grown_then HGV.out (grown_alloc _ _)) hg4 (fun i e => (RV.out.lt i e).1))
      have R14 : Hid (w4.ownsRow w.heap.size 9 1 (.slice (some ⟨g4, 0, none⟩) (k + 1) c4) (k + 1) ((l.take (k + 1)).map strV)) := Lib.hid (by rw [M1.out]; exact hown4)
      have C4 : Hid (w4.heap[w.heap.size]? = some (.cells #[.func (.func 105) #[] #[], .func (.func 106) #[] #[], .func (.func 107) #[] #[], .func (.func 108) #[] #[], .func (.func 109) #[] #[], .func (.func 146) #[] #[.pointer (some ⟨b, 0, none⟩)]] 117 (0, 0))) := Lib.hid (by
        rw [hg4.block _ (by have := heap_lt CV.out; simp; omega) (fun e => ?_), Below.heap_alloc _ _ _ (heap_lt CV.out)]
        · exact CV.out
        · exact row_not RV.out CV.out (by decide) e.symm)
      clear hown4 hg4 hnil4 RV CV M1 HGV
      go_wp2
      go_roundw
      case rel => exact ⟨k + 1, _, _, by go_num, by omega, by go_num, R14.out, C4.out, HG4.out⟩
      case measure => simp [intOf]; omega
    · obtain rfl : k = n := by omega
      have hT : l.take k = l := List.take_of_length_le (by rw [HL.out]; exact Nat.le_refl _)
      rw [hT, str_row] at R1
      have f4 : wr.cell? ⟨w.heap.size, 4, none⟩ = some (.func (.func 109) #[] #[]) := by rw [cell_of_row _ _ _ _ _ _ HC.out]; rfl
      have hOk : Tx.okB (l.map fun c => nm c.s) = true := (Tx.okB_iff _).2 ⟨by rw [List.length_map, HL.out]; exact hn, fun y hy => by
        obtain ⟨z, hz, rfl⟩ := List.mem_map.1 hy
        rw [nm_len]
        exact ht z hz⟩
      have hA : Tx.AllB (l.map fun c => nm c.s) := fun y hy => by
        obtain ⟨z, hz, rfl⟩ := List.mem_map.1 hy
        exact nm_isB _
      have hR : Tx.formR (Tx.bestT (l.map fun c => nm c.s)) (l.map fun c => nm c.s) = (0, Tx.bestT (l.map fun c => nm c.s)) := by unfold Tx.formR; rw [if_pos hOk]
      have hc := Tx.put_form hR hm hA (some ⟨gv, 0, none⟩) k cv wr (Ss.Seg.own R1.out)
      clear hR
      have HP := Lib.hid hc
      clear hc hT hlt R1 HC
      go_wp2_with fail
      refine HP.out.mono ?_
      rintro e w9 ⟨a9, k9, rfl, hs9, ht9⟩
      have HF : Hid (BytesX w m (Tx.bestT (l.map fun c => nm c.s)) (.returned (.slice a9 m k9)) w9) := Lib.hid ⟨a9, k9, rfl, hs9, (Pk.turn_of HG.out).trans ht9 (fun _ _ h => h)⟩
      clear hs9 ht9 HP
      dsimp only
      go_wp2
      go_ret
      exact HF.out
end Go.Proofs.YtljanfnhmhimiaaGreat.Sg
