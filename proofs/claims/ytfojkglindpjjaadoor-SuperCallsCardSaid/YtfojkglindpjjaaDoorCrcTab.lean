/-
  Tables by value, Update, Sum: the program's and the document's.
-/
import Derived.Test.YtfojkglindpjjaaDoorBase
import Derived.Test.YtfojkglindpjjaaDoorCrcNum
namespace Go.Proofs.YtfojkglindpjjaaDoor.Crc
open Go.RowKit Bs

/-- a table's cells -/
def tabN (n : Nat) (t : Nat → Nat) : Array Value := ((List.range n).map fun i => Value.int .u32 (t i : Int)).toArray
def tab (t : Nat → Nat) : Array Value := tabN 256 t

theorem tabN_get (n : Nat) (t : Nat → Nat) (y : Nat) (h : y < n) : (tabN n t)[y]? = some (.int .u32 (t y : Int)) := by
  simp [tabN, h]
theorem tab_get (t : Nat → Nat) (y : Nat) (h : y < 256) : (tab t)[y]? = some (.int .u32 (t y : Int)) := tabN_get 256 t y h
theorem tabN_size (n : Nat) (t : Nat → Nat) : (tabN n t).size = n := by simp [tabN]
theorem tab_size (t : Nat → Nat) : (tab t).size = 256 := tabN_size 256 t

theorem xor8 (S : Nat) (x : Int) (h0 : 0 ≤ x) (h1 : x < 256) : bits BinOp.xor IntKind.u8 ((S : Int) % 256) x = ((S % 256 ^^^ x.toNat : Nat) : Int) ∧ S % 256 ^^^ x.toNat < 256 := by
  refine ⟨?_, Nat.xor_lt_two_pow (n := 8) (by omega) (by omega)⟩
  rw [u8_xor _ _ (by omega) (by omega) h0 h1, show ((S : Int) % 256).toNat = S % 256 from by omega]
theorem xor32 (S T : Nat) (h0 : S < 4294967296) (h1 : T < 4294967296) : bits BinOp.xor IntKind.u32 ((S : Int) / 256) (T : Int) = ((S / 256 ^^^ T : Nat) : Int) := by
  have h := u32_xor_nat (S / 256) T (by omega) h1
  rw [← h]
  rfl

theorem upd_snoc (t : Nat → Nat) (s : Nat) (l : List Int) (k : Nat) (h : k < l.length) : upd t s (l.take (k + 1)) = step t (upd t s (l.take k)) (l.getD k 0).toNat := by
  rw [List.take_add_one, upd_append, List.getElem?_eq_getElem h, List.getD_eq_getElem?_getD, List.getElem?_eq_getElem h]
  rfl
theorem isB_getD {l : List Int} (h : Bs.IsB l) (k : Nat) : 0 ≤ l.getD k 0 ∧ l.getD k 0 < 256 := by
  rw [List.getD_eq_getElem?_getD]
  by_cases hk : k < l.length
  · rw [List.getElem?_eq_getElem hk]; exact h _ (List.getElem_mem _)
  · rw [List.getElem?_eq_none (by omega)]; decide

set_option maxRecDepth 100000 in
set_option maxHeartbeats 400000 in
theorem update_any (t : Nat → Nat) (s : Nat) (a : Option Addr) (n c : Nat) (l : List Int) (w : World) (hs : Seg w a n c l) (hb : Bs.IsB l) (h0 : s < 4294967296) (ht : ∀ i, i < 256 → t i < 4294967296) :
    Calls Tryd.prog 66 #[.agg (tab t), .int .u32 s, .slice a n c] w fun e w' => e = .returned (.int .u32 (upd t s l)) ∧ w.grownBy w' none := by
  have hgr := World.grownBy_alloc w (.cells (tab t) 78) none
  by_cases hn : n = 0
  · subst hn
    obtain rfl := List.eq_nil_of_length_eq_zero hs.len
    go_enter Tryd.func66, Tryd.ntmps66
    go_wp2
    refine wp_loop_rounds 1 ?_
    rw [rounds_succ]
    go_wp2
    go_ret
    exact ⟨rfl, hgr⟩
  · obtain ⟨g, o, rfl, k0⟩ := hs.addr (by omega)
    have hm := hs.cap
    have hle := hs.le
    have hl := hs.len
    unfold maxLen at hm
    have HG := Lib.hid hgr
    have HL := Lib.hid hl
    have K0 := Lib.hid k0
    have HT := Lib.hid ht
    have HB := Lib.hid hb
    clear k0 hs ht hb hl hgr
    go_enter Tryd.func66, Tryd.ntmps66
    go_wp2
    go_loop [1, 11] (fun sv i => ∃ k : Nat, k ≤ n ∧ i = .int .i64 k ∧ sv = .int .u32 (upd t s (l.take k))) (fun _ i => n - (intOf i).toNat)
    case atStart => exact ⟨0, Nat.zero_le _, rfl, rfl⟩
    case round =>
      obtain ⟨k, hk, rfl, rfl⟩ := hrel
      by_cases hlt : k < n
      · have q1 := HG.out.cell (K0.out k hlt) (by simp)
        have hx := isB_getD HB.out k
        have hS : upd t s (l.take k) < 4294967296 := upd_lt t HT.out _ _ (fun x hx => HB.out x (List.mem_of_mem_take hx)) h0
        have HU := Lib.hid (upd_snoc t s l k (by rw [HL.out]; exact hlt))
        generalize upd t s (l.take k) = S at hS HU
        generalize l.getD k 0 = x at q1 hx HU
        obtain ⟨e1, y1⟩ := xor8 S x hx.1 hx.2
        have e2 := xor32 S _ hS (HT.out _ y1)
        have e3 := tab_get t _ y1
        unfold step at HU
        generalize S % 256 ^^^ x.toNat = y at e1 e2 e3 y1 HU
        generalize t y = T at e2 e3 HU
        obtain ⟨x0, x1⟩ := hx
        go_wp2
        go_round
        case rel => exact ⟨k + 1, by omega, by go_num, by rw [HU.out]⟩
        case measure => simp [intOf]; omega
      · obtain rfl : k = n := by omega
        have HF := Lib.hid (List.take_of_length_le (l := l) (i := k) (by rw [HL.out]; exact Nat.le_refl _))
        go_wp2
        go_ret
        exact ⟨ret_int (by rw [HF.out]), HG.out⟩
set_option maxRecDepth 100000 in
set_option maxHeartbeats 400000 in
theorem rupdate_any (t : Nat → Nat) (s : Nat) (a : Option Addr) (n c : Nat) (l : List Int) (w : World) (hs : Seg w a n c l) (hb : Bs.IsB l) (h0 : s < 4294967296) (ht : ∀ i, i < 256 → t i < 4294967296) :
    Calls Tryd.prog 62 #[.agg (tab t), .int .u32 s, .slice a n c] w fun e w' => e = .returned (.int .u32 (upd t s l)) ∧ w.grownBy w' none := by
  have hgr := World.grownBy_alloc w (.cells (tab t) 78) none
  by_cases hn : n = 0
  · subst hn
    obtain rfl := List.eq_nil_of_length_eq_zero hs.len
    go_enter Tryd.func62, Tryd.ntmps62
    go_wp2
    refine wp_loop_rounds 1 ?_
    rw [rounds_succ]
    go_wp2
    go_ret
    exact ⟨rfl, hgr⟩
  · obtain ⟨g, o, rfl, k0⟩ := hs.addr (by omega)
    have hm := hs.cap
    have hle := hs.le
    have hl := hs.len
    unfold maxLen at hm
    have HG := Lib.hid hgr
    have HL := Lib.hid hl
    have K0 := Lib.hid k0
    have HT := Lib.hid ht
    have HB := Lib.hid hb
    clear k0 hs ht hb hl hgr
    go_enter Tryd.func62, Tryd.ntmps62
    go_wp2
    go_loop [1, 7] (fun sv i => ∃ k : Nat, k ≤ n ∧ i = .int .i64 k ∧ sv = .int .u32 (upd t s (l.take k))) (fun _ i => n - (intOf i).toNat)
    case atStart => exact ⟨0, Nat.zero_le _, rfl, rfl⟩
    case round =>
      obtain ⟨k, hk, rfl, rfl⟩ := hrel
      by_cases hlt : k < n
      · have q1 := HG.out.cell (K0.out k hlt) (by simp)
        have hx := isB_getD HB.out k
        have hS : upd t s (l.take k) < 4294967296 := upd_lt t HT.out _ _ (fun x hx => HB.out x (List.mem_of_mem_take hx)) h0
        have HU := Lib.hid (upd_snoc t s l k (by rw [HL.out]; exact hlt))
        generalize upd t s (l.take k) = S at hS HU
        generalize l.getD k 0 = x at q1 hx HU
        obtain ⟨e1, y1⟩ := xor8 S x hx.1 hx.2
        have e2 := xor32 S _ hS (HT.out _ y1)
        have e3 := tab_get t _ y1
        unfold step at HU
        generalize S % 256 ^^^ x.toNat = y at e1 e2 e3 y1 HU
        generalize t y = T at e2 e3 HU
        obtain ⟨x0, x1⟩ := hx
        go_wp2
        go_round
        case rel => exact ⟨k + 1, by omega, by go_num, by rw [HU.out]⟩
        case measure => simp [intOf]; omega
      · obtain rfl : k = n := by omega
        have HF := Lib.hid (List.take_of_length_le (l := l) (i := k) (by rw [HL.out]; exact Nat.le_refl _))
        go_wp2
        go_ret
        exact ⟨ret_int (by rw [HF.out]), HG.out⟩

theorem info_tab (t : Nat → Nat) : (Tryd.prog.info? 78).map (·.size) = some (tab t).size := by
  rw [tab_size]
  kernel_rfl
theorem ones_int (v : Nat) (h : v < 4294967296) : bits BinOp.xor IntKind.u32 IntKind.u32.max (v : Int) = ((ones ^^^ v : Nat) : Int) := u32_xor_nat ones v (by decide) h

set_option maxRecDepth 100000 in
set_option maxHeartbeats 400000 in
theorem sum_any (t : Nat → Nat) (a : Option Addr) (n c : Nat) (l : List Int) (w : World) (hs : Seg w a n c l) (hb : Bs.IsB l) (ht : ∀ i, i < 256 → t i < 4294967296) :
    Calls Tryd.prog 63 #[.agg (tab t), .slice a n c] w fun e w' => e = .returned (.int .u32 (sum t l)) ∧ w.grownBy w' none := by
  have hgr := World.grownBy_alloc w (.cells (tab t) 78) none
  have hS := Lib.hid (hs.grown hgr)
  have HG := Lib.hid hgr
  have HT := Lib.hid ht
  have hU : upd t ones l < 4294967296 := upd_lt t ht _ _ hb (by decide)
  have HB := Lib.hid hb
  have HI := Lib.hid (info_tab t)
  have hcell : (w.alloc (.cells (tab t) 78)).heap[w.heap.size]? = some (.cells (tab t) 78 (0, 0)) := heap_alloc_new w _
  have HC := Lib.hid hcell
  clear hgr ht hb hs hcell
  go_enter Tryd.func63, Tryd.ntmps63
  go_wp2_with (first
    | (refine wpList_load_row rfl _ _ rfl w.heap.size rfl _ (tab t) _ _ HC.out Tryd.underlying78 rfl HI.out ?_)
    | fail)
  refine (update_any t ones a n c l _ hS.out HB.out (by decide) HT.out).mono ?_
  rintro e w2 ⟨rfl, hg2⟩
  have hg3 := grownBy_trans HG.out hg2 (fun _ e => by cases e)
  have H3 := Lib.hid hg3
  have HO : Hid (bits BinOp.xor IntKind.u32 IntKind.u32.max (upd t ones l : Int) = (sum t l : Int)) := ones_int _ hU
  clear hg2 hg3
  generalize upd t ones l = U at HO hU
  go_wp2
  go_ret
  exact ⟨ret_int HO.out, H3.out⟩

set_option maxRecDepth 100000 in
set_option maxHeartbeats 400000 in
theorem rsum_any (t : Nat → Nat) (a : Option Addr) (n c : Nat) (l : List Int) (w : World) (hs : Seg w a n c l) (hb : Bs.IsB l) (ht : ∀ i, i < 256 → t i < 4294967296) :
    Calls Tryd.prog 47 #[.agg (tab t), .slice a n c] w fun e w' => e = .returned (.int .u32 (sum t l)) ∧ w.grownBy w' none := by
  have hgr := World.grownBy_alloc w (.cells (tab t) 78) none
  have hS := Lib.hid (hs.grown hgr)
  have HG := Lib.hid hgr
  have HT := Lib.hid ht
  have hU : upd t ones l < 4294967296 := upd_lt t ht _ _ hb (by decide)
  have HB := Lib.hid hb
  have HI := Lib.hid (info_tab t)
  have hcell : (w.alloc (.cells (tab t) 78)).heap[w.heap.size]? = some (.cells (tab t) 78 (0, 0)) := heap_alloc_new w _
  have HC := Lib.hid hcell
  clear hgr ht hb hs hcell
  go_enter Tryd.func47, Tryd.ntmps47
  go_wp2_with (first
    | (refine wpList_load_row rfl _ _ rfl w.heap.size rfl _ (tab t) _ _ HC.out Tryd.underlying78 rfl HI.out ?_)
    | fail)
  refine (rupdate_any t ones a n c l _ hS.out HB.out (by decide) HT.out).mono ?_
  rintro e w2 ⟨rfl, hg2⟩
  have hg3 := grownBy_trans HG.out hg2 (fun _ e => by cases e)
  have H3 := Lib.hid hg3
  have HO : Hid (bits BinOp.xor IntKind.u32 IntKind.u32.max (upd t ones l : Int) = (sum t l : Int)) := ones_int _ hU
  clear hg2 hg3
  generalize upd t ones l = U at HO hU
  go_wp2
  go_ret
  exact ⟨ret_int HO.out, H3.out⟩

end Go.Proofs.YtfojkglindpjjaaDoor.Crc
