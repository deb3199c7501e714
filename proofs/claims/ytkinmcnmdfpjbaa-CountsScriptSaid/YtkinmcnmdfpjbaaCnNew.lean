/-
  The program's counts made: with, New, Clone.
-/
import Derived.Test.YtkinmcnmdfpjbaaCnMem
import Derived.Test.YtkinmcnmdfpjbaaHBase
import Derived.Test.YtkinmcnmdfpjbaaSuPages
namespace Go.Proofs.Ytkinmcnmdfpjbaa.Cn
open Go.RowKit Bs Dv Gr
open Su (GeoOk geo_iff)

/-- a row of numbers in block h -/
structure UR (w : World) (h cap : Nat) (N : List Int) : Prop where
  row : ∀ j, j < N.length → w.cell? ⟨h, j, none⟩ = some (.int .u16 (N.getD j 0)) ∧ w.frozen? ⟨h, j, none⟩ = false
  le : N.length ≤ cap
  capm : cap ≤ maxLen
  lt : h < w.heap.size
theorem UR.turn {w w' : World} {h cap : Nat} {N : List Int} {S : Nat → Prop} (hc : UR w h cap N) (t : Turn w w' S) (hh : ¬ S h) : UR w' h cap N := by
  refine ⟨fun j hj => ?_, hc.le, hc.capm, Nat.lt_of_lt_of_le hc.lt t.size⟩
  obtain ⟨h1, h2⟩ := hc.row j hj
  exact ⟨t.cell h1 hh, (t.frozen (p := ⟨h, j, none⟩) (World.block_lt_of_cell? w _ h1) hh).trans h2⟩
theorem UR.set {w : World} {h cap : Nat} {N : List Int} (hc : UR w h cap N) (k : Nat) (x : Int) (hk : k < N.length) : UR (w.setCell ⟨h, k, none⟩ (.int .u16 x)) h cap (N.set k x) := by
  have ht := Turn.setCell w ⟨h, k, none⟩ (.int .u16 x) (S := (· = h)) rfl
  refine ⟨fun j hj => ?_, by rw [List.length_set]; exact hc.le, hc.capm, Nat.lt_of_lt_of_le hc.lt ht.size⟩
  rw [List.length_set] at hj
  rw [getD_set N k x j hk]
  have hfr : (w.setCell ⟨h, k, none⟩ (.int .u16 x)).frozen? ⟨h, j, none⟩ = w.frozen? ⟨h, j, none⟩ := World.frozen?_setCells h [.int .u16 x] k w _
  refine ⟨?_, hfr.trans (hc.row j hj).2⟩
  by_cases e : j = k
  · subst e
    rw [if_pos rfl]
    have h3 := World.cell?_setCells_in h [.int .u16 x] j w (fun i hi => by
      obtain rfl : i = 0 := by simpa using hi
      rw [Nat.add_zero, (hc.row j hj).1]; rfl) 0 (by simp)
    exact h3.trans rfl
  · rw [if_neg e]
    exact (World.cell?_setCells_out h [.int .u16 x] k w ⟨h, j, none⟩ (fun _ _ => by show j < k ∨ k + [Value.int .u16 x].length ≤ j; simp; omega)).trans (hc.row j hj).1
theorem UR.own {w : World} {base e g c : Nat} {N : List Int} (h : w.ownsRow base e 1 (.slice (some ⟨g, 0, none⟩) N.length c) N.length (N.map (Value.int .u16))) : UR w g c N := by
  rcases h.2 with ⟨e, _⟩ | ⟨g', cap, cur, e, _, hg, h1, h2, _⟩
  · cases e
  · cases e
    refine ⟨fun j hj => ⟨?_, by simp [World.frozen?, hg]⟩, h1, h2, (Array.getElem?_eq_some_iff.1 hg).1⟩
    have := h.cells (g := g) rfl j (.int .u16 (N.getD j 0)) (by rw [List.getElem?_map, List.getElem?_eq_getElem hj, List.getD_eq_getElem?_getD, List.getElem?_eq_getElem hj]; rfl)
    rwa [Addr.add_lit, Nat.zero_add] at this
theorem CC.seg {w : World} {g h cap : Nat} {size : Int} {N : List Int} (hc : CC w g h cap size N) : Hs.Seg w (some ⟨h, 0, none⟩) N.length cap N := by
  refine ⟨rfl, hc.le, hc.capm, (fun e => by cases e), fun ad had j u hu => ?_⟩
  cases had
  rw [List.getElem?_map] at hu
  cases hq : N[j]? with
  | none => rw [hq] at hu; cases hu
  | some x =>
    rw [hq] at hu
    have hj := (List.getElem?_eq_some_iff.1 hq).1
    have h2 := (hc.row j hj).1
    rw [List.getD_eq_getElem?_getD, hq] at h2
    rw [Addr.add_lit, Nat.zero_add, ← Option.some.inj hu]
    exact h2

theorem info_u16 : (Try.prog.info? 70).map (fun i => (i.zero, i.size, i.bytes)) = some (some (.int .u16 0), 1, 2) := by kernel_rfl
def roomH (S : Nat) : Array Value := madeCells (Value.int .u16 0).cells S
theorem make_roomH (S : Nat) (hS : S ≤ 1000000) (W : World) : (Instr.makeSlice 69 (.int .i64 (S : Int)) (.int .i64 (S : Int))).run Try.prog W = .ok (.slice (some ⟨W.heap.size, 0, none⟩) S S) (W.alloc (.cells (roomH S) 70)) := by
  obtain ⟨i0, hi, hz0, hz1, hz2⟩ := info_parts info_u16
  have h := run_make (P := Try.prog) W 69 70 i0 (.int .u16 0) Try.underlying69 hi hz0 .i64 .i64 (S : Int) (S : Int) (by omega) (by omega) (by rw [hz2]; omega) (by omega)
  rw [hz1, Int.toNat_natCast, Nat.mul_one] at h
  exact h
theorem made_row (W : World) (S : Nat) (hS : S ≤ 1000000) : UR (W.alloc (.cells (roomH S) 70)) W.heap.size S (List.replicate S 0) := by
  refine ⟨fun j hj => ?_, by rw [List.length_replicate]; exact Nat.le_refl _, by unfold maxLen; omega, by simp⟩
  rw [List.length_replicate] at hj
  have q := heap_alloc_new W (.cells (roomH S) 70)
  refine ⟨?_, by simp only [World.frozen?, q]; simp⟩
  rw [cell_of_row _ _ _ _ _ _ (heap_alloc_new W _)]
  have h1 : (roomH S).toList = List.replicate S (Value.int .u16 0) := toList_madeCells_one _ _
  rw [← Array.getElem?_toList, h1]
  simp [List.getD, hj]

set_option maxHeartbeats 1000000 in
theorem with_any (size : Int) (h cap : Nat) (N : List Int) (w : World) (hr : UR w h cap N) (hs : N.length ≤ 4096) :
    Calls Try.prog 37 #[.agg #[.int .i64 size, .int .i64 (N.length : Int)], .slice (some ⟨h, 0, none⟩) N.length cap] w fun e w' => e = .returned (.pointer (some ⟨w.heap.size + 1, 0, none⟩)) ∧ CC w' (w.heap.size + 1) h cap size N ∧ w.grownBy w' none := by
  have HR := Lib.hid hr
  have HLE := Lib.hid hs
  have HF : Hid (CC ((w.alloc (.cells #[.int .i64 size, .int .i64 (N.length : Int)] 28)).alloc (.cells #[.int .i64 size, .int .i64 (N.length : Int), .slice (some ⟨h, 0, none⟩) N.length cap, .pointer (some ⟨w.heap.size + 1, 0, none⟩)] 73)) (w.heap.size + 1) h cap size N ∧
      w.grownBy ((w.alloc (.cells #[.int .i64 size, .int .i64 (N.length : Int)] 28)).alloc (.cells #[.int .i64 size, .int .i64 (N.length : Int), .slice (some ⟨h, 0, none⟩) N.length cap, .pointer (some ⟨w.heap.size + 1, 0, none⟩)] 73)) none) := Lib.hid (by
    have g1 := grown_then (grown_alloc w (.cells #[.int .i64 size, .int .i64 (N.length : Int)] 28)) (grown_alloc _ (.cells #[.int .i64 size, .int .i64 (N.length : Int), .slice (some ⟨h, 0, none⟩) N.length cap, .pointer (some ⟨w.heap.size + 1, 0, none⟩)] 73))
    have b1 := heap_alloc_new (w.alloc (.cells #[.int .i64 size, .int .i64 (N.length : Int)] 28)) (.cells #[.int .i64 size, .int .i64 (N.length : Int), .slice (some ⟨h, 0, none⟩) N.length cap, .pointer (some ⟨w.heap.size + 1, 0, none⟩)] 73)
    rw [World.size_alloc] at b1
    have r1 := hr.turn (grown_turn g1) id
    exact ⟨⟨b1, r1.row, by have := hr.lt; omega, hr.le, hr.capm, hs, r1.lt⟩, g1⟩)
  obtain ⟨L, hL⟩ : ∃ L, N.length = L := ⟨_, rfl⟩
  rw [hL] at HF HLE ⊢
  clear hL hr hs
  go_enter Try.func37, Try.ntmps37
  go_wp2
  go_ret
  exact ⟨rfl, HF.out⟩

/-- What New hands back. -/
def NewX (w : World) (size blocks : Int) (e : Ending) (w' : World) : Prop :=
  w.grownBy w' none ∧ ((¬ GeoOk size blocks ∧ e = .returned (.tuple #[.pointer none, .int .i64 2])) ∨
    ∃ n : Nat, GeoOk size n ∧ blocks = n ∧ ∃ g h cap, e = .returned (.tuple #[.pointer (some ⟨g, 0, none⟩), .int .i64 0]) ∧ CC w' g h cap size (newC n) ∧ w.heap.size ≤ g ∧ w.heap.size ≤ h)
theorem ones_set (n i : Nat) (h : i < n) : (onesC n i).set i 1 = onesC n (i + 1) := by
  unfold onesC
  rw [List.set_append_right _ _ (by rw [List.length_replicate]; exact Nat.le_refl _), List.length_replicate, Nat.sub_self, show n - i = (n - (i + 1)) + 1 by omega, List.replicate_succ, List.set_cons_zero, List.replicate_succ', List.append_assoc]
  rfl
theorem geo_two {size blocks : Int} (h : ¬ GeoOk size blocks) : geoE size blocks = 2 := by
  unfold GeoOk at h
  exact geoE_no (by omega)

set_option maxHeartbeats 2000000 in
theorem new_any (size blocks : Int) (w : World) : Calls Try.prog 10 #[.agg #[.int .i64 size, .int .i64 blocks]] w (NewX w size blocks) := by
  have B0 := heap_alloc_new w (.cells #[.int .i64 size, .int .i64 blocks] 28)
  have G0 := grown_alloc w (.cells #[.int .i64 size, .int .i64 blocks] 28)
  have HC := Lib.hid (fun W => check_any size blocks W)
  have HB0 := Lib.hid B0
  have HG0 := Lib.hid G0
  by_cases h : GeoOk size blocks
  · have hE : geoE size blocks = 0 := (geo_iff _ _).2 h
    rw [hE] at HC
    obtain ⟨n, rfl⟩ : ∃ n : Nat, blocks = n := Int.eq_ofNat_of_zero_le (by unfold GeoOk at h; omega)
    have HGE := Lib.hid h
    have hn : 8 ≤ n ∧ n ≤ 4096 := by unfold GeoOk at h; omega
    have hmk := make_roomH n (by omega)
    have HMR := Lib.hid (fun W => made_row W n (by omega))
    have HW := Lib.hid (fun h cap N W => with_any size h cap N W)
    clear h hE B0 G0
    go_enter Try.func10, Try.ntmps10
    go_wp2_with fail
    refine (HC.out _).mono ?_
    rintro e w1 ⟨rfl, rfl⟩
    have HB1 := Lib.hid (block_old HB0.out (grown_alloc _ (.cells #[.int .i64 size, .int .i64 (n : Int)] 28)))
    have HG1 := Lib.hid (grown_then HG0.out (grown_alloc _ (.cells #[.int .i64 size, .int .i64 (n : Int)] 28)))
    obtain ⟨W1, hW1⟩ : ∃ V, (w.alloc (.cells #[.int .i64 size, .int .i64 (n : Int)] 28)).alloc (.cells #[.int .i64 size, .int .i64 (n : Int)] 28) = V := ⟨_, rfl⟩
    rw [hW1] at HB1 HG1 ⊢
    have hsz : w.heap.size < W1.heap.size := by rw [← hW1]; simp [World.size_alloc]; omega
    clear hW1 HB0 HG0
    dsimp only
    have c1 : W1.cell? ⟨w.heap.size, 1, none⟩ = some (.int .i64 n) := by rw [cell_of_row _ _ _ _ _ _ HB1.out]; rfl
    have HR1 := Lib.hid (HMR.out W1)
    have HB2 := Lib.hid (block_old HB1.out (grown_alloc W1 (.cells (roomH n) 70)))
    have HG2 := Lib.hid (grown_then HG1.out (grown_alloc W1 (.cells (roomH n) 70)))
    have HSZ := Lib.hid hsz
    go_wp2
    clear c1 hmk
    go_loopw [15] (fun si wr => ∃ k : Nat, k ≤ 2 ∧ si = .int .i64 k ∧ Hid (UR wr W1.heap.size n (onesC n k)) ∧ Hid (Turn (W1.alloc (.cells (roomH n) 70)) wr (· = W1.heap.size))) (fun si _ => 2 - (intOf si).toNat)
    case atStart => exact ⟨0, by omega, rfl, Lib.hid (by unfold onesC; exact HR1.out), Lib.hid (Turn.refl _ _)⟩
    case round =>
      obtain ⟨k, hk, rfl, HU, HT⟩ := hrel
      by_cases hlt : k < 2
      · have q1 : decide ((k : Int) < 2) = true := decide_eq_true (by omega)
        have hl : (onesC n k).length = n := ones_len n k (by omega)
        obtain ⟨hcell, hfr⟩ := HU.out.row k (by rw [hl]; omega)
        obtain ⟨x, hx⟩ : ∃ x, (onesC n k).getD k 0 = x := ⟨_, rfl⟩
        rw [hx] at hcell
        have HS := Lib.hid (HU.out.set k 1 (by rw [hl]; omega))
        rw [ones_set n k (by omega)] at HS
        have HT2 := Lib.hid (HT.out.trans (Turn.setCell wr ⟨W1.heap.size, k, none⟩ (.int .u16 1) (S := (· = W1.heap.size)) rfl) (fun _ _ e => e))
        have hkn : k < n := by omega
        clear hl hx HU HT
        go_wp2
        go_roundw
        case rel => exact ⟨k + 1, by omega, by go_num, HS, HT2⟩
        case measure => simp [intOf]; omega
      · have q1 : decide ((k : Int) < 2) = false := decide_eq_false (by omega)
        obtain rfl : k = 2 := by omega
        have HGR : Hid (w.grownBy wr none) := Lib.hid (grown_put HG2.out HT.out (by have := HSZ.out; omega))
        have c0 : wr.cell? ⟨w.heap.size, 0, none⟩ = some (.int .i64 size) := by
          have h1 : (W1.alloc (.cells (roomH n) 70)).cell? ⟨w.heap.size, 0, none⟩ = some (.int .i64 size) := by rw [cell_of_row _ _ _ _ _ _ HB2.out]; rfl
          exact HT.out.cell h1 (by have := HSZ.out; show ¬ w.heap.size = W1.heap.size; omega)
        have c1 : wr.cell? ⟨w.heap.size, 1, none⟩ = some (.int .i64 n) := by
          have h1 : (W1.alloc (.cells (roomH n) 70)).cell? ⟨w.heap.size, 1, none⟩ = some (.int .i64 n) := by rw [cell_of_row _ _ _ _ _ _ HB2.out]; rfl
          exact HT.out.cell h1 (by have := HSZ.out; show ¬ w.heap.size = W1.heap.size; omega)
        have hl : (onesC n 2).length = n := ones_len n 2 (by omega)
        have HW2 := Lib.hid (HW.out W1.heap.size n (onesC n 2) wr HU.out (by rw [hl]; omega))
        rw [hl] at HW2
        have HCC := Lib.hid (show onesC n 2 = newC n from rfl)
        clear hl HU
        go_wp2_with fail
        refine HW2.out.mono ?_
        rintro e w3 ⟨rfl, hcc, hg⟩
        have HX : Hid (NewX w size n (.returned (.tuple #[.pointer (some ⟨wr.heap.size + 1, 0, none⟩), .int .i64 0])) w3) := Lib.hid ⟨grown_then HGR.out hg, .inr ⟨n, HGE.out, rfl, wr.heap.size + 1, W1.heap.size, n, rfl, by rw [← HCC.out]; exact hcc, by have := HGR.out.size; omega, by have := HSZ.out; omega⟩⟩
        clear hcc hg
        dsimp only
        go_wp2
        go_ret2
        exact HX.out
  · have hE : geoE size blocks = 2 := geo_two h
    rw [hE] at HC
    have HNO := Lib.hid h
    clear h hE B0 G0
    go_enter Try.func10, Try.ntmps10
    go_wp2_with fail
    refine (HC.out _).mono ?_
    rintro e w1 ⟨rfl, rfl⟩
    have HX : Hid (NewX w size blocks (.returned (.tuple #[.pointer none, .int .i64 2])) ((w.alloc (.cells #[.int .i64 size, .int .i64 blocks] 28)).alloc (.cells #[.int .i64 size, .int .i64 blocks] 28))) := Lib.hid ⟨grown_then HG0.out (grown_alloc _ _), .inl ⟨HNO.out, rfl⟩⟩
    dsimp only
    go_wp2
    go_ret2
    exact HX.out
end Go.Proofs.Ytkinmcnmdfpjbaa.Cn
