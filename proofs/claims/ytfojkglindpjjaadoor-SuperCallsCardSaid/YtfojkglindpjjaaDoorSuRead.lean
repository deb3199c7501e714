/-
  The program's read: the super of a frame, whatever it is.
-/
import Derived.Test.YtfojkglindpjjaaDoorSuHead
import Derived.Test.YtfojkglindpjjaaDoorDrawVal
namespace Go.Proofs.YtfojkglindpjjaaDoor.Su
open Go.RowKit Bs Dv Gr Dr
open Oct (ofB Rd ReadN)
open Fr (block_turn)

theorem chunks_get : ∀ (f : Nat) (l : List Int) (k : Nat), 4 * (k + 1) ≤ l.length → l.length ≤ 4 * f → (chunks f l)[k]? = some (ofB ((l.drop (4 * k)).take 4))
  | 0, l, k, h1, h2 => by omega
  | f + 1, l, k, h1, h2 => by
    rw [chunks, if_neg (by omega)]
    cases k with
    | zero => rfl
    | succ k =>
      rw [List.getElem?_cons_succ, chunks_get f (l.drop 4) k (by rw [List.length_drop]; omega) (by rw [List.length_drop]; omega), List.drop_drop, show 4 + 4 * k = 4 * (k + 1) by omega]
theorem chunks_take (f : Nat) (l : List Int) (k : Nat) (h1 : 4 * (k + 1) ≤ l.length) (h2 : l.length ≤ 4 * f) : (chunks f l).take (k + 1) = (chunks f l).take k ++ [ofB ((l.drop (4 * k)).take 4)] := by
  obtain ⟨hk, h3⟩ := List.getElem?_eq_some_iff.1 (chunks_get f l k h1 h2)
  rw [List.take_succ_eq_append_getElem hk, h3]
theorem own_turnB {w w' : World} {base e size n : Nat} {v : Value} {xs : List Value} {S : Nat → Prop} (h : w.ownsRow base e size v n xs) (k : Turn w w' S) (hS : ∀ i, base ≤ i → ¬ S i) : w'.ownsRow base e size v n xs := by
  refine ⟨h.1, ?_⟩
  rcases h.2 with h2 | ⟨g, cap, cur, e1, h3, h4, h5⟩
  · exact .inl h2
  · refine .inr ⟨g, cap, cur, e1, h3, ?_, h5⟩
    rw [k.block g (Array.getElem?_eq_some_iff.1 h4).1 (hS g h3)]
    exact h4
theorem own_form1 {w : World} {base e n : Nat} {v : Value} {xs : List Value} (h : w.ownsRow base e 1 v n xs) : ∃ a c, v = .slice a n c ∧ ∀ ad, a = some ad → base ≤ ad.block := by
  rcases h.2 with ⟨rfl, rfl⟩ | ⟨g, c, cur, rfl, hb, _⟩
  · exact ⟨none, 0, rfl, fun _ h => by cases h⟩
  · exact ⟨_, c, rfl, fun ad had => by cases had; exact hb⟩
theorem wseg_own {w : World} {base e n c : Nat} {a : Option Addr} {l : List Int} (h : w.ownsRow base e 1 (.slice a n c) n (l.map (Value.int .u32))) : Ws.Seg w a n c l := by
  rcases h.2 with ⟨e1, h0⟩ | ⟨g, cap, cur, e1, _⟩
  · cases e1
    have hl := h.1
    rw [List.length_map] at hl
    obtain rfl : l = [] := List.length_eq_zero_iff.1 (by omega)
    exact Ws.Seg.nil w
  · cases e1
    exact Ws.Seg.own h
theorem cell_new (W : World) (x : Value) (t : TypeId) : (W.alloc (.cells #[x] t)).cell? ((⟨W.heap.size, 0, none⟩ : Addr).add 0) = some x := by
  rw [Addr.add_lit, cell_of_row _ _ _ _ _ _ (heap_alloc_new W _)]; rfl
theorem SB.pages_set {w : World} {g : Nat} {s : Sup} {a : Option Addr} {n c : Nat} (h : SB w g s a n c) (a' : Option Addr) (n' c' : Nat) : SB (w.setCell ⟨g, 4, none⟩ (.slice a' n' c')) g s a' n' c' :=
  Go.heap_setCell_same w g 4 _ _ (.slice a' n' c') h
/-- Rd's bytes, wherever its own blocks lie. -/
theorem rd_turn {w w' : World} {b g : Nat} {l : List Int} {S : Nat → Prop} (h : Rd w b g l) (t : Turn w w' S) (hb : ¬ S b) (hg : ¬ S g) : Rd w' b g l := by
  obtain ⟨o, c, h0, hle, hc, hj⟩ := h.cells
  have lt := World.block_lt_of_cell? w _ h0
  exact ⟨h.ne, ⟨o, c, t.cell h0 hb, hle, hc, fun j hjl => t.cell (hj j hjl) hg⟩, t.cell h.self hb, (t.frozen (p := ⟨b, 0, none⟩) lt hb).trans h.free⟩

/-- What read hands back. -/
def ReadX (w : World) (gen : Int) (d : List Int) (e : Ending) (w' : World) : Prop :=
  w.grownBy w' none ∧ ∃ (s : Sup) (a : Option Addr) (n c : Nat), e = .returned (.tuple #[.agg #[.int .u64 s.gen, .int .i64 s.size, .int .i64 s.blocks, .int .u32 s.root, .slice a n c], .bool (decide (OkD gen d))]) ∧
    (OkD gen d → s = readS gen d ∧ Ws.Seg w' a n c s.pages ∧ ∀ ad, a = some ad → w.heap.size ≤ ad.block)
theorem ReadX.no {w w' : World} {gen : Int} {d : List Int} (h : ¬ OkD gen d) (hg : w.grownBy w' none) : ReadX w gen d (.returned (.tuple #[.agg #[.int .u64 0, .int .i64 0, .int .i64 0, .int .u32 0, .slice none 0 0], .bool false])) w' :=
  ⟨hg, zeroS, none, 0, 0, by rw [decide_eq_false h]; rfl, fun h' => absurd h' h⟩

set_option maxRecDepth 100000 in
set_option maxHeartbeats 4000000 in
theorem read_any (t gen : Int) (d : List Int) (w : World) (hb : Bs.IsB d) (hl : d.length ≤ 4096) (hT : T4 w) :
    Calls Tryd.prog 28 #[.agg #[.int .u8 t, .int .u64 gen, .string (strOfNums d)]] w (ReadX w gen d) := by
  obtain ⟨i0, hi, hz0, hz1, hz2⟩ := info_parts Ws.info_u32
  have G0 := grown_alloc w (.cells #[.int .u8 t, .int .u64 gen, .string (strOfNums d)] 41)
  have B0 := heap_alloc_new w (.cells #[.int .u8 t, .int .u64 gen, .string (strOfNums d)] 41)
  obtain ⟨W0, hW0⟩ : ∃ X, w.alloc (.cells #[.int .u8 t, .int .u64 gen, .string (strOfNums d)] 41) = X := ⟨_, rfl⟩
  rw [hW0] at G0 B0
  have hs0 : W0.heap.size = w.heap.size + 1 := by rw [← hW0]; simp
  have G1 := grown_then G0 (grown_alloc W0 (.cells #[.int .u64 0, .int .i64 0, .int .i64 0, .int .u32 0, .slice none 0 0] 29))
  have B1 := block_old B0 (grown_alloc W0 (.cells #[.int .u64 0, .int .i64 0, .int .i64 0, .int .u32 0, .slice none 0 0] 29))
  have S1 := SB.new W0 zeroS none 0 0
  obtain ⟨W1, hW1⟩ : ∃ X, W0.alloc (.cells #[.int .u64 0, .int .i64 0, .int .i64 0, .int .u32 0, .slice none 0 0] 29) = X := ⟨_, rfl⟩
  have S1 : SB W1 W0.heap.size zeroS none 0 0 := by rw [← hW1]; exact S1
  rw [hW1] at G1 B1
  obtain ⟨cap, W2, hcv, hreg, htn, hcap1, hcap2⟩ := conv_bytes d hb (by omega) W1
  have HRN := Lib.hid (Oct.new_any (some ⟨W1.heap.size, 0, none⟩) d.length cap d W2 (hreg.seg hcap1 hcap2) (by omega))
  have HB1 := Lib.hid B1
  have HG1 := Lib.hid G1
  have HG2 := Lib.hid (grown_then G1 htn.grown)
  have HS2 := Lib.hid (S1.old htn.grown)
  have HB2 := Lib.hid (block_old B1 htn.grown)
  have HZ : Hid (W1.heap.size = W0.heap.size + 1 ∧ W1.heap.size ≤ W2.heap.size) := Lib.hid ⟨by rw [← hW1, World.size_alloc], htn.size⟩
  have hw0 : w.heap.size < W0.heap.size := by omega
  clear hs0
  have HT := Lib.hid hT
  have HBB := Lib.hid hb
  obtain ⟨S, hS⟩ : ∃ S, strOfNums d = S := ⟨_, rfl⟩
  rw [hS] at hcv HB1 HB2 hW0 ⊢
  have q2 : W1.cell? ⟨w.heap.size, 2, none⟩ = some (.string S) := by rw [cell_of_row _ _ _ _ _ _ HB1.out]; rfl
  have p1 : W2.cell? ⟨w.heap.size, 1, none⟩ = some (.int .u64 gen) := by rw [cell_of_row _ _ _ _ _ _ HB2.out]; rfl
  clear hb hT G0 B0 G1 B1 S1 hreg htn hcap1 hcap2 hS p1
  go_enter Tryd.func28, Tryd.ntmps28
  go_wp2_with fail
  refine HRN.out.mono ?_
  rintro e w3 ⟨b, g, rfl, hb3, hg3, hbl, hgl, hr3, hg⟩
  have HG3 := Lib.hid (grown_then HG2.out hg)
  have HS3 := Lib.hid (HS2.out.old hg)
  have HB3 := Lib.hid (block_old HB2.out hg)
  have HH := Lib.hid (readHead_any gen b g d w3 hr3 HBB.out hbl hgl (HT.out.grown HG3.out))
  have q1 : w3.cell? ⟨w.heap.size, 1, none⟩ = some (.int .u64 gen) := by rw [cell_of_row _ _ _ _ _ _ HB3.out]; rfl
  have hz1 := HZ.out.1
  have hz2 := HZ.out.2
  have hwb : W0.heap.size < b := by omega
  have hwg : W0.heap.size < g := by omega
  clear hg hr3 HG2 HS2 HB2 HRN q2 hcv hz1 hz2 HZ hb3 hg3
  dsimp only
  go_wp2_with fail
  refine HH.out.mono ?_
  rintro e w4 ⟨hg4, hx⟩
  have ht4 := turn_some hg4
  have HG4 := Lib.hid (grown_put HG3.out ht4 (by omega))
  have HS4 := Lib.hid (HS3.out.not ht4 (by omega))
  have hbl4 : b < w4.heap.size := Nat.lt_of_lt_of_le hbl hg4.size
  have hgl4 : g < w4.heap.size := Nat.lt_of_lt_of_le hgl hg4.size
  clear hg4 ht4 HG3 HS3 HB3 HH q1 HB1 HG1 hbl hgl hW0 hW1
  rcases hx with ⟨h14, rfl, hr4⟩ | ⟨h14, rfl⟩
  · obtain ⟨N, hN⟩ : ∃ N, d.length - 14 = N := ⟨_, rfl⟩
    have HNd : Hid ((d.drop 14).length = N) := Lib.hid (by rw [List.length_drop, hN])
    have hN1 : N ≤ 4082 := by omega
    obtain ⟨ps, hps⟩ : ∃ ps, chunks d.length (d.drop 14) = ps := ⟨_, rfl⟩
    have HPL : Hid (ps.length = N / 4) := Lib.hid (by rw [← hps, chunks_len _ _ (by rw [HNd.out]; omega), HNd.out])
    have HPT : Hid (∀ k, 4 * (k + 1) ≤ N → ps.take (k + 1) = ps.take k ++ [ofB (((d.drop 14).drop (4 * k)).take 4)]) := Lib.hid (fun k hk => by rw [← hps]; exact chunks_take _ _ k (by rw [HNd.out]; exact hk) (by rw [HNd.out]; omega))
    have HRS : Hid (readS gen d = ⟨gen, fieldB d 0, fieldB d 1, fieldB d 2, ps⟩) := Lib.hid (by rw [← hps]; rfl)
    have HOK : Hid (OkD gen d ↔ N % 4 = 0 ∧ (ps.length : Int) = fieldB d 3) := Lib.hid (by
      unfold OkD
      rw [HRS.out, hN]
      exact ⟨fun h => ⟨h.2.1, h.2.2⟩, fun h => ⟨h14, h.1, h.2⟩⟩)
    have HBR : Hid (Bs.IsB (d.drop 14)) := Lib.hid (fun x hx => HBB.out x (List.mem_of_mem_drop hx))
    obtain ⟨ds, hds⟩ : ∃ ds, d.drop 14 = ds := ⟨_, rfl⟩
    rw [hds] at HNd HPT HBR hr4
    obtain ⟨r, hr⟩ : ∃ r, decide (OkD gen d) = r := ⟨_, rfl⟩
    have HRD := Lib.hid hr
    obtain ⟨x0, hx0⟩ : ∃ x, fieldB d 0 = x := ⟨_, rfl⟩
    obtain ⟨x1, hx1⟩ : ∃ x, fieldB d 1 = x := ⟨_, rfl⟩
    obtain ⟨x2, hx2⟩ : ∃ x, fieldB d 2 = x := ⟨_, rfl⟩
    obtain ⟨x3, hx3⟩ : ∃ x, fieldB d 3 = x := ⟨_, rfl⟩
    rw [hx0, hx1, hx2] at HRS
    rw [hx3] at HOK
    have H5 : Hid (HB (w4.alloc (.cells #[.int .u64 gen, .int .i64 x0, .int .i64 x1, .int .u32 x2, .int .i64 x3] 70)) w4.heap.size gen x0 x1 x2 x3) := Lib.hid (heap_alloc_new w4 _)
    have hg5 := grown_alloc w4 (.cells #[.int .u64 gen, .int .i64 x0, .int .i64 x1, .int .u32 x2, .int .i64 x3] 70)
    have hs5 : (w4.alloc (.cells #[.int .u64 gen, .int .i64 x0, .int .i64 x1, .int .u32 x2, .int .i64 x3] 70)).heap.size = w4.heap.size + 1 := by simp
    rw [hx0, hx1, hx2, hx3]
    obtain ⟨W5, hW5⟩ : ∃ X, w4.alloc (.cells #[.int .u64 gen, .int .i64 x0, .int .i64 x1, .int .u32 x2, .int .i64 x3] 70) = X := ⟨_, rfl⟩
    rw [hW5] at H5 hg5 hs5
    have hg6 := grown_alloc W5 (.cells #[.int .u64 gen, .int .i64 x0, .int .i64 x1, .int .u32 x2, .slice none 0 0] 29)
    have hs6 : (W5.alloc (.cells #[.int .u64 gen, .int .i64 x0, .int .i64 x1, .int .u32 x2, .slice none 0 0] 29)).heap.size = W5.heap.size + 1 := by simp
    have S7 : SB (W5.alloc (.cells #[.int .u64 gen, .int .i64 x0, .int .i64 x1, .int .u32 x2, .slice none 0 0] 29)) W5.heap.size ⟨gen, x0, x1, x2, ps⟩ none 0 0 := heap_alloc_new W5 _
    obtain ⟨W6, hW6⟩ : ∃ X, W5.alloc (.cells #[.int .u64 gen, .int .i64 x0, .int .i64 x1, .int .u32 x2, .slice none 0 0] 29) = X := ⟨_, rfl⟩
    rw [hW6] at hg6 hs6 S7
    have HS7 := Lib.hid S7
    have HH6 := Lib.hid (H5.out.old hg6)
    have HG6 := Lib.hid (grown_then (grown_then HG4.out hg5) hg6)
    have HS6 := Lib.hid (HS4.out.old (grown_then hg5 hg6))
    have HR6 := Lib.hid (rd_turn hr4 (grown_turn (grown_then hg5 hg6)) id id)
    have hz4 : w4.heap.size < W5.heap.size := by omega
    have hz5 : W5.heap.size < W6.heap.size := by omega
    have HIH := Lib.hid (fun W a (k : Nat) c => headOf_any ⟨gen, x0, x1, x2, ps⟩ a k c W)
    obtain ⟨c0, c1, c2, c3, -⟩ := H5.out.cells
    clear hr4 h14 hN hps hds hr hx0 hx1 hx2 hx3 hg5 hs5 hg6 hs6 S7 HG4 HS4 H5 S1
    dsimp only
    have HW6 := Lib.hid hW6
    clear hW6
    go_wp2
    rw [HW6.out]
    clear c0 c1 c2 c3 HW6
    go_loopg [8] N (fun gh _ wr => ∃ (k : Nat) (a : Option Addr) (c : Nat), 4 * k + gh = N ∧ Hid (Rd wr b g (ds.drop (4 * k))) ∧ Hid (wr.ownsRow W6.heap.size 26 1 (.slice a k c) k ((ps.take k).map (Value.int .u32))) ∧ Hid (w.grownBy wr none) ∧ Hid (W6.heap.size ≤ wr.heap.size) ∧
      Hid (SB wr W5.heap.size ⟨gen, x0, x1, x2, ps⟩ a k c) ∧ Hid (SB wr W0.heap.size zeroS none 0 0) ∧ Hid (Su.HB wr w4.heap.size gen x0 x1 x2 x3))
    case atStart => exact ⟨0, none, 0, by omega, HR6, Lib.hid ⟨rfl, .inl ⟨rfl, rfl⟩⟩, HG6, Lib.hid (Nat.le_refl _), HS7, HS6, HH6⟩
    case round =>
      clear HR6 HG6 HS7 HS6 HH6 hW5
      obtain ⟨k, a, c, hk, HR, HO, HG, HL6, HS, HZ0, HHd⟩ := hrel
      have hrl : (ds.drop (4 * k)).length = gk := by rw [List.length_drop, HNd.out]; omega
      have HLF := Lib.hid (Oct.left_yes b g _ wr HR.out)
      rw [hrl] at HLF
      have hkk := hk
      have hl6 := HL6.out
      clear hk
      go_wp2_with fail
      refine HLF.out.mono ?_
      rintro e w1 ⟨rfl, rfl⟩
      dsimp only
      by_cases h0 : gk = 0
      · have q0 : decide (0 < gk) = false := decide_eq_false (by omega)
        have hps : ps.length = k := by rw [HPL.out]; omega
        have hok : OkD gen d ↔ (k : Int) = x3 := by
          rw [HOK.out, hps]
          exact ⟨fun h => h.2, fun h => ⟨by omega, h⟩⟩
        have hr2 : decide ((k : Int) = x3) = r := by rw [← HRD.out]; exact decide_eq_decide.2 hok.symm
        have htk : ps.take k = ps := List.take_of_length_le (Nat.le_of_eq hps)
        rw [htk] at HO
        clear h0 hrl HLF hkk hps hok htk HR
        go_upto_region 11 with (fail)
        refine wp_region_inv_at (I := fun a0 L x W => VI [3, 49, 50, 51, 52, 53] [49, 50, 51, 52, 53, 1000, 3]
          [.agg #[.int .u64 gen, .int .i64 x0, .int .i64 x1, .int .u32 x2, .slice a k c], .agg #[.int .u64 gen, .int .i64 x0, .int .i64 x1, .int .u32 x2, .slice a k c], .agg #[.int .u64 gen, .int .i64 x0, .int .i64 x1, .int .u32 x2, .int .i64 k], .agg #[.int .u64 gen, .int .i64 x0, .int .i64 x1, .int .u32 x2, .int .i64 x3], .bool r, undef, .bool r]
          (fun L W => Turn wr.drew W (· = W0.heap.size) ∧ ∃ s' a' n' c', SB W W0.heap.size s' a' n' c' ∧ (L 5 = true → s' = ⟨gen, x0, x1, x2, ps⟩ ∧ a' = a ∧ n' = k ∧ c' = c)) a0 L x W) (by kernel_rfl) (by kernel_rfl)
          (VI.start 54 (by simp) (by decide) ⟨Turn.refl _ _, zeroS, none, 0, 0, HZ0.out.old (grown_drew wr), fun h => by cases h⟩) ?_ ?_
        · show ∀ i, i < 7 → _
          refine all_snoc (all_snoc (all_snoc (all_snoc (all_snoc (all_snoc (all_snoc all_nil ?o0) ?o1) ?o2) ?o3) ?o4) ?o5) ?o6
          case o0 =>
            refine StepAt.mk rfl (ns := []) (by kernel_rfl) rfl ?_
            intro L x W h0 hn hI
            have e1 : x.tmps[7]?.getD undef = .pointer (some ⟨W5.heap.size, 0, none⟩) := hI.old 7 (by decide)
            have hB : SB W W5.heap.size ⟨gen, x0, x1, x2, ps⟩ a k c := HS.out.not (((Turn.drew wr (· = W0.heap.size))).trans hI.mem.1 (fun _ _ h => h)) (by omega)
            obtain ⟨c0, c1, c2, c3, c4⟩ := hB.cells
            refine wp_yield (v := .agg #[.int .u64 gen, .int .i64 x0, .int .i64 x1, .int .u32 x2, .slice a k c]) ?_ (hI.value (by decide) 0 (by decide) (by decide) rfl ⟨hI.mem.1, by obtain ⟨s', a', n', c', q1, q2⟩ := hI.mem.2; exact ⟨s', a', n', c', q1, fun h => q2 (upd_not h (by decide))⟩⟩)
            simp [go_sem, e1, c0, c1, c2, c3, c4]
          case o1 =>
            refine StepAt.mk rfl (ns := []) (by kernel_rfl) rfl ?_
            intro L x W h0 hn hI
            have e1 : x.tmps[7]?.getD undef = .pointer (some ⟨W5.heap.size, 0, none⟩) := hI.old 7 (by decide)
            have hB : SB W W5.heap.size ⟨gen, x0, x1, x2, ps⟩ a k c := HS.out.not (((Turn.drew wr (· = W0.heap.size))).trans hI.mem.1 (fun _ _ h => h)) (by omega)
            obtain ⟨c0, c1, c2, c3, c4⟩ := hB.cells
            refine wp_yield (v := .agg #[.int .u64 gen, .int .i64 x0, .int .i64 x1, .int .u32 x2, .slice a k c]) ?_ (hI.value (by decide) 1 (by decide) (by decide) rfl ⟨hI.mem.1, by obtain ⟨s', a', n', c', q1, q2⟩ := hI.mem.2; exact ⟨s', a', n', c', q1, fun h => q2 (upd_not h (by decide))⟩⟩)
            simp [go_sem, e1, c0, c1, c2, c3, c4]
          case o2 =>
            refine StepAt.mk rfl (ns := [1]) (by kernel_rfl) rfl ?_
            intro L x W h0 hn hI
            have e1 : x.tmps[50]?.getD undef = .agg #[.int .u64 gen, .int .i64 x0, .int .i64 x1, .int .u32 x2, .slice a k c] := hI.get 1 (by decide) (by decide) (hn 1 (by simp))
            refine wp_func (v := .agg #[.int .u64 gen, .int .i64 x0, .int .i64 x1, .int .u32 x2, .int .i64 k]) (R := fun w' => W.grownBy w' none) (f := 46) (vs := #[.agg #[.int .u64 gen, .int .i64 x0, .int .i64 x1, .int .u32 x2, .slice a k c]]) ?_ (HIH.out W a k c)
              (fun w' hg => hI.value (by decide) 2 (by decide) (by decide) rfl ⟨hI.mem.1.trans (Turn.mono (grown_turn hg) (fun _ _ h => h.elim)) (fun _ _ h => h), by obtain ⟨s', a', n', c', q1, q2⟩ := hI.mem.2; exact ⟨s', a', n', c', q1.old hg, fun h => q2 (upd_not h (by decide))⟩⟩)
            simp [go_sem, e1]
          case o3 =>
            refine StepAt.mk rfl (ns := []) (by kernel_rfl) rfl ?_
            intro L x W h0 hn hI
            have e1 : x.tmps[5]?.getD undef = .pointer (some ⟨w4.heap.size, 0, none⟩) := hI.old 5 (by decide)
            have hB : Su.HB W w4.heap.size gen x0 x1 x2 x3 := HHd.out.not (((Turn.drew wr (· = W0.heap.size))).trans hI.mem.1 (fun _ _ h => h)) (by omega)
            obtain ⟨c0, c1, c2, c3, c4⟩ := hB.cells
            refine wp_yield (v := .agg #[.int .u64 gen, .int .i64 x0, .int .i64 x1, .int .u32 x2, .int .i64 x3]) ?_ (hI.value (by decide) 3 (by decide) (by decide) rfl ⟨hI.mem.1, by obtain ⟨s', a', n', c', q1, q2⟩ := hI.mem.2; exact ⟨s', a', n', c', q1, fun h => q2 (upd_not h (by decide))⟩⟩)
            simp [go_sem, e1, c0, c1, c2, c3, c4]
          case o4 =>
            refine StepAt.mk rfl (ns := [2, 3]) (by kernel_rfl) rfl ?_
            intro L x W h0 hn hI
            have e1 : x.tmps[51]?.getD undef = .agg #[.int .u64 gen, .int .i64 x0, .int .i64 x1, .int .u32 x2, .int .i64 k] := hI.get 2 (by decide) (by decide) (hn 2 (by simp))
            have e2 : x.tmps[52]?.getD undef = .agg #[.int .u64 gen, .int .i64 x0, .int .i64 x1, .int .u32 x2, .int .i64 x3] := hI.get 3 (by decide) (by decide) (hn 3 (by simp))
            refine wp_yield (v := .bool r) ?_ (hI.value (by decide) 4 (by decide) (by decide) rfl ⟨hI.mem.1, by obtain ⟨s', a', n', c', q1, q2⟩ := hI.mem.2; exact ⟨s', a', n', c', q1, fun h => q2 (upd_not h (by decide))⟩⟩)
            simp [go_sem, e1, e2]
            rw [← hr2]
            by_cases hx : (k : Int) = x3 <;> simp [hx]
          case o5 =>
            refine StepAt.mk rfl (ns := [0, 2, 0]) (by kernel_rfl) rfl ?_
            intro L x W h0 hn hI
            obtain ⟨s', a', n', c', q1, q2⟩ := hI.mem.2
            refine wp_store_super rfl (.tmp 2) (.tmp 49) rfl W0.heap.size ?_ ⟨gen, x0, x1, x2, ps⟩ a k c ?_ s' a' n' c' q1 (fun w' hs ht => hI.other 5 (by decide) ⟨hI.mem.1.trans ht (fun _ _ h => h), _, _, _, _, hs, fun _ => ⟨rfl, rfl, rfl, rfl⟩⟩)
            · exact (hI.agr.at_ (by decide)).trans rfl
            · exact hI.vals 0 (by decide) (by decide) (hn 0 (by simp))
          case o6 =>
            refine StepAt.mk rfl (ns := [4, 5, 0, 1, 2, 3, 4, 5]) (by kernel_rfl) rfl ?_
            intro L x W h0 hn hI
            have e1 : x.tmps[53]?.getD undef = .bool r := hI.get 4 (by decide) (by decide) (hn 4 (by simp))
            refine wp_yield (v := .bool r) ?_ (hI.value (by decide) 6 (by decide) (by decide) rfl ⟨hI.mem.1, by obtain ⟨s', a', n', c', q1, q2⟩ := hI.mem.2; exact ⟨s', a', n', c', q1, fun h => q2 (upd_not h (by decide))⟩⟩)
            simp [go_sem, e1]
        · intro L x W hL hI
          replace hL : ∀ i, i < 7 → L i = true := hL
          have hform := hI.agr.form
          have v0 : At x 49 = .agg #[.int .u64 gen, .int .i64 x0, .int .i64 x1, .int .u32 x2, .slice a k c] := hI.vals 0 (by decide) (by decide) (hL 0 (by omega))
          have v1 : At x 50 = .agg #[.int .u64 gen, .int .i64 x0, .int .i64 x1, .int .u32 x2, .slice a k c] := hI.vals 1 (by decide) (by decide) (hL 1 (by omega))
          have v2 : At x 51 = .agg #[.int .u64 gen, .int .i64 x0, .int .i64 x1, .int .u32 x2, .int .i64 k] := hI.vals 2 (by decide) (by decide) (hL 2 (by omega))
          have v3 : At x 52 = .agg #[.int .u64 gen, .int .i64 x0, .int .i64 x1, .int .u32 x2, .int .i64 x3] := hI.vals 3 (by decide) (by decide) (hL 3 (by omega))
          have v4 : At x 53 = .bool r := hI.vals 4 (by decide) (by decide) (hL 4 (by omega))
          have v6 : At x 3 = .bool r := hI.vals 6 (by decide) (by decide) (hL 6 (by omega))
          obtain ⟨s', a', n', c', q1, q2⟩ := hI.mem.2
          obtain ⟨rfl, rfl, rfl, rfl⟩ := q2 (hL 5 (by omega))
          have HT9 := hI.mem.1
          clear hI q2 hL HIH
          rw [List.foldl_cons, List.foldl_cons, List.foldl_cons, List.foldl_cons, List.foldl_cons, List.foldl_cons, List.foldl_nil, v6, v0, v1, v2, v3, v4] at hform
          clear v0 v1 v2 v3 v4 v6
          subst hform
          have HT8 : Turn wr W (· = W0.heap.size) := (Turn.drew wr _).trans HT9 (fun _ _ h => h)
          have HF : Hid (ReadX w gen d (.returned (.tuple #[.agg #[.int .u64 gen, .int .i64 x0, .int .i64 x1, .int .u32 x2, .slice a' n' c'], .bool r])) W) := Lib.hid ⟨grown_put HG.out HT8 (by omega), ⟨gen, x0, x1, x2, ps⟩, a', n', c', by rw [HRD.out], fun _ => ⟨HRS.out.symm, wseg_own (own_turnB HO.out HT8 (fun i h e => by omega)), fun ad had => by
            obtain ⟨a2, c2, e2, h2⟩ := own_form1 HO.out
            cases e2
            have := h2 ad had
            have := HG.out.size
            omega⟩⟩
          have HQ := Lib.hid q1
          clear q1 HT9 HT8 HO HG HL6 HS HZ0 HHd hl6 hr2
          go_wp2
          exact bodyPost_ret (run_results_super rfl _ _ _ _ _ _ _ rfl HQ.out (.bool r) rfl) rfl HF.out
      · by_cases h4 : 4 ≤ gk
        · have q0 : decide (0 < gk) = true := decide_eq_true (by omega)
          have HNU := Lib.hid (Oct.number_yes b g _ 4 wr HR.out (fun x hx => HBR.out x (List.mem_of_mem_drop hx)) (by decide) (by decide) (by rw [hrl]; exact h4))
          have HPK := Lib.hid (HPT.out k (by omega))
          have hxb := Oct.ofB_bound ((ds.drop (4 * k)).take 4) (fun x hx => HBR.out x (List.mem_of_mem_drop (List.mem_of_mem_take hx)))
          have hx4 : ((ds.drop (4 * k)).take 4).length = 4 := by rw [List.length_take]; omega
          rw [hx4] at hxb
          have HDD : Hid ((ds.drop (4 * k)).drop 4 = ds.drop (4 * (k + 1))) := Lib.hid (by rw [List.drop_drop, Nat.mul_add])
          obtain ⟨x, hx⟩ : ∃ x, ofB ((ds.drop (4 * k)).take 4) = x := ⟨_, rfl⟩
          rw [hx] at HNU HPK hxb
          rw [show (256 : Int) ^ 4 = 4294967296 from by decide] at hxb
          have e2 : IntKind.u32.wrap x = x := by rw [IntKind.wrap_u32]; omega
          clear h0 hrl HLF hx hx4 hxb
          go_wp2_with fail
          refine HNU.out.mono ?_
          rintro e w1 ⟨rfl, hg1, hr1⟩
          have ht1 := turn_some hg1
          have HR1 : Hid (Rd w1 b g (ds.drop (4 * (k + 1)))) := Lib.hid (by rw [← HDD.out]; exact hr1)
          have HO1 := Lib.hid (own_turnB HO.out ht1 (fun i h e => by omega))
          have HG1 := Lib.hid (grown_put HG.out ht1 (by omega))
          have hl1 : W6.heap.size ≤ w1.heap.size := Nat.le_trans hl6 ht1.size
          have HS1 := Lib.hid (HS.out.not ht1 (by omega))
          have HZ1 := Lib.hid (HZ0.out.not ht1 (by omega))
          have HH1 := Lib.hid (HHd.out.not ht1 (by omega))
          have b4 := HS1.out.cells.2.2.2.2
          clear ht1 hr1 hg1 HR HO HG HL6 HS HZ0 HHd HNU HDD q0
          dsimp only
          go_wp2_with (first
            | (at_builtin; go_loud (refine wpList_append_own _ rfl (.tmp 43) (.tmp 46) 27 rfl W6.heap.size 26 i0 (.int .u32 0) 1 4 Tryd.underlying27 hi hz0 hz1 hz2 rfl (by decide) (.slice a k c) k _ rfl (HO1.out.alloc _) ⟨w1.heap.size, 0, none⟩ 1 1 [.int .u32 x] rfl rfl (by intro t u ht; match t, ht with | 0, ht => simp at ht; subst ht; exact cell_new w1 _ _) (by intro u hu; simp at hu; subst hu; rfl) (by unfold maxLen; omega) (by omega) (by simp only [World.size_alloc]; omega) ?_; intro v' w4' hown hgr _; obtain ⟨g', c', rfl⟩ := own_shape hown (by omega); have hgr0 := hgr; have HTA := Lib.hid ((Turn.alloc w1 (.cells #[.int .u32 x] 26) (fun i => W6.heap.size ≤ i)).trans (Turn.of_grown hgr (fun i e _ => ((HO1.out.alloc (.cells #[.int .u32 x] 26)).lt i (by first | exact e | (rw [← e]))).1)) (fun _ _ h => h)); have HOW := Lib.hid hown; have HS2 : Hid (SB w4' W5.heap.size ⟨gen, x0, x1, x2, ps⟩ a k c) := Lib.hid (block_turn HS1.out HTA.out (by omega)); have b5 := HS2.out.cells.2.2.2.2; have b6 := HS2.out.froz 4; clear hown hgr hgr0))
            | fail)
          have HO3 : Hid (w4'.ownsRow W6.heap.size 26 1 (.slice (some ⟨g', 0, none⟩) (k + 1) c') (k + 1) ((ps.take (k + 1)).map (Value.int .u32))) := Lib.hid (by rw [HPK.out, List.map_append]; exact HOW.out)
          have HG3 : Hid (w.grownBy w4' none) := Lib.hid (Turn.grown ((grown_turn HG1.out).trans HTA.out (fun i h e => by have e2 : W6.heap.size ≤ i := e; omega)))
          have hl3 : W6.heap.size ≤ w4'.heap.size := Nat.le_trans hl1 HTA.out.size
          have HZ3 : Hid (SB w4' W0.heap.size zeroS none 0 0) := Lib.hid (block_turn HZ1.out HTA.out (by omega))
          have HH3 : Hid (Su.HB w4' w4.heap.size gen x0 x1 x2 x3) := Lib.hid (block_turn HH1.out HTA.out (by omega))
          have HR3 := Lib.hid (rd_turn HR1.out HTA.out (by omega) (by omega))
          have ht5 := Turn.setCell w4' ⟨W5.heap.size, 4, none⟩ (.slice (some ⟨g', 0, none⟩) (k + 1) c') (S := (· = W5.heap.size)) rfl
          have hs5 := HS2.out.pages_set (some ⟨g', 0, none⟩) (k + 1) c'
          obtain ⟨W8, hW8⟩ : ∃ X, w4'.setCell ⟨W5.heap.size, 4, none⟩ (.slice (some ⟨g', 0, none⟩) (k + 1) c') = X := ⟨_, rfl⟩
          rw [hW8] at ht5 hs5
          have HS5 := Lib.hid hs5
          have HO5 := Lib.hid (own_turnB HO3.out ht5 (fun i h e => by omega))
          have HG5 := Lib.hid (grown_put HG3.out ht5 (by omega))
          have HZ5 := Lib.hid (HZ3.out.not ht5 (by omega))
          have HH5 := Lib.hid (HH3.out.not ht5 (by omega))
          have HR5 := Lib.hid (rd_turn HR3.out ht5 (by omega) (by omega))
          have HL5 : Hid (W6.heap.size ≤ W8.heap.size) := Lib.hid (Nat.le_trans hl3 ht5.size)
          clear ht5 hs5 HO3 HG3 HZ3 HH3 HR3 HS2 HTA HOW HO1 HG1 HS1 HZ1 HH1 HR1 HPK b4
          go_wp2
          go_roundg (gk - 4)
          case rel => rw [hW8]; exact ⟨k + 1, _, c', by omega, HR5, HO5, HG5, HL5, HS5, HZ5, HH5⟩
          case measure => omega
        · have q0 : decide (0 < gk) = true := decide_eq_true (by omega)
          have HNU := Lib.hid (Oct.number_more b g _ 4 wr HR.out (by decide) (by decide) (by rw [hrl]; omega))
          have HNO : Hid (¬ OkD gen d) := Lib.hid (fun h => by have := (HOK.out.1 h).1; omega)
          clear h0 hrl HLF h4 hkk HR HO HL6 HS HHd
          go_wp2_with fail
          refine HNU.out.mono ?_
          rintro e w1 ⟨rfl, rfl⟩
          dsimp only
          go_wp2_with (first
            | (with_reducible refine wpList_store_super rfl (.tmp 2) (.tmp 41) rfl W0.heap.size rfl zeroS none 0 0 rfl zeroS none 0 0 HZ0.out ?_; intro w6 hq6 ht6)
            | fail)
          refine bodyPost_ret (run_results_super rfl _ _ _ _ _ _ _ rfl hq6 (.bool false) rfl) rfl (ReadX.no HNO.out (grown_put HG.out ht6 (by omega)))
  · have HNO : Hid (¬ OkD gen d) := Lib.hid (fun h => by have := h.1; omega)
    have G5 := grown_then HG4.out (grown_alloc w4 (.cells #[.int .u64 0, .int .i64 0, .int .i64 0, .int .u32 0, .int .i64 0] 70))
    have S5 := HS4.out.old (grown_alloc w4 (.cells #[.int .u64 0, .int .i64 0, .int .i64 0, .int .u32 0, .int .i64 0] 70))
    have HG5 := Lib.hid G5
    have HS5 := Lib.hid S5
    clear G5 S5 HG4 HS4 h14
    dsimp only
    go_wp2_with (first
      | (with_reducible refine wpList_store_super rfl (.tmp 2) (.tmp 23) rfl W0.heap.size rfl zeroS none 0 0 rfl zeroS none 0 0 HS5.out ?_; intro w6 hq6 ht6)
      | fail)
    refine bodyPost_ret (run_results_super rfl _ _ _ _ _ _ _ rfl hq6 (.bool false) rfl) rfl (ReadX.no HNO.out (grown_put HG5.out ht6 (by omega)))
end Go.Proofs.YtfojkglindpjjaaDoor.Su
