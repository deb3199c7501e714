/-
  Texts behind bytes: putStrings; Plain.
-/
import Derived.Test.YtgbpmpeknbaccaaTxCan
import Derived.Test.YtgbpmpeknbaccaaOctPut
import Derived.Test.YtgbpmpeknbaccaaRef0
import Derived.Lib.AppendStr
import Derived.Test.YtgbpmpeknbaccaaMem
namespace Go.Proofs.Ytgbpmpeknbaccaa.Tx
open Go.RowKit Go.Joins
open Ss (IsS)
open Bs (info_u8)
open Oct (varB)
open Ref1 (GrowB)
open In (below_grown below_mono own_grown)

theorem strCells_nums (d : List Int) (h : Bs.IsB d) : Lib.strCells (strOfNums d) = d.map (Value.int .u8) := Dv.str_data d h
theorem sseg_below {w w' : World} {a : Option Addr} {n c B : Nat} {l : List (List Int)} (h : Ss.Seg w a n c l) (k : Below B w w') (hB : B = w.heap.size) : Ss.Seg w' a n c l := by
  subst hB; exact h.grown (Bs.grown_of k)
/-- A slice whose texts lie below stays. -/
theorem sseg_at {w w' : World} {a : Option Addr} {n c B : Nat} {l : List (List Int)} (h : Ss.Seg w a n c l) (k : Below B w w') (hb : ∀ ad, a = some ad → ad.block < B) : Ss.Seg w' a n c l := by
  refine ⟨h.len, h.le, h.cap, h.nil_, fun ad had j u hu => ?_⟩
  have e : (ad.add j).block = ad.block := by unfold Addr.add; split <;> rfl
  exact (k.cell (by rw [e]; exact hb ad had)).trans (h.at_ ad had j u hu)
theorem sseg_lt {w : World} {a : Option Addr} {n c : Nat} {l : List (List Int)} (h : Ss.Seg w a n c l) (hn : 0 < n) : ∀ ad, a = some ad → ad.block < w.heap.size := by
  intro ad had
  obtain ⟨g, o, rfl, hc⟩ := h.addr hn
  cases had
  exact World.block_lt_of_cell? w _ (hc 0 hn)
theorem strs_take (l : List (List Int)) (k : Nat) (x : List Int) (h : k < l.length) (hx : l.getD k [] = x) : strsB (l.take (k + 1)) = strsB (l.take k) ++ (varB 9 (x.length : Int) ++ x) := by
  rw [List.take_succ_eq_append_getElem h, strsB_snoc, ← hx]; simp [List.getD, h, strB]
theorem take_at {l : List (List Int)} {k : Nat} (h : k < l.length) : l.getD k [] ∈ l := by
  rw [List.getD_eq_getElem?_getD, List.getElem?_eq_getElem h]; exact List.getElem_mem _
theorem wrap_u64 {n : Nat} (h : n ≤ 1000000000) : IntKind.u64.wrap (n : Int) = (n : Int) := by rw [IntKind.wrap_u64]; omega

set_option maxRecDepth 100000 in
set_option maxHeartbeats 1000000 in
theorem putStrings_any (base : Nat) (v0 : Value) (n : Nat) (B : List Int) (a : Option Addr) (m c : Nat) (l : List (List Int)) (w : World) (hs : Ss.Seg w a m c l) (hblk : 0 < m → ∀ ad, a = some ad → ad.block < base) (hbase : base ≤ w.heap.size)
    (hown : w.ownsRow base 5 1 v0 n (B.map (Value.int .u8))) (hn : 0 < n) (hn2 : n ≤ 1000000000) (hb : AllB l) (hl : ∀ s ∈ l, s.length ≤ 65536) (hm : m ≤ 65536) :
    Calls Try.prog 31 #[v0, .slice a m c] w (GrowB base w (B ++ strsB l) (n + (strsB l).length)) := by
  obtain ⟨i0, hi, hz0, hz1, hz2⟩ := info_parts info_u8
  have hcap := hs.cap
  have hle := hs.le
  unfold maxLen at hcap
  have HLen := Lib.hid hs.len
  have HSeg := Lib.hid hs
  have HO := Lib.hid hown
  have HG := Lib.hid (Below.refl base w)
  have HW := Lib.hid hbase
  have HBk := Lib.hid hblk
  have HBB := Lib.hid hb
  have HLL := Lib.hid hl
  clear hs hown hbase hblk hb hl
  go_enter Try.func31, Try.ntmps31
  go_wp2
  go_loopw [0, 9] (fun so si wr => ∃ (k q : Nat) (V : Value), k ≤ m ∧ si = .int .i64 k ∧ V = so ∧ Hid ((strsB (l.take k)).length = q ∧ q ≤ k * 65546) ∧ Hid (wr.ownsRow base 5 1 V (n + q) ((B ++ strsB (l.take k)).map (Value.int .u8))) ∧ Hid (Below base w wr))
    (fun _ si _ => m - (intOf si).toNat)
  case atStart => exact ⟨0, 0, _, Nat.zero_le _, rfl, rfl, Lib.hid ⟨rfl, Nat.le_refl _⟩, Lib.hid (by simpa [strsB] using HO.out), HG⟩
  case round =>
    obtain ⟨k, q, V, hk, rfl, rfl, HQ, HO, HB⟩ := hrel
    by_cases hlt : k < m
    · have hsz0 : base ≤ wr.heap.size := Nat.le_trans HW.out HB.out.size
      have hseg := sseg_at HSeg.out HB.out (HBk.out (by omega))
      obtain ⟨gA, oA, rfl, hc⟩ := hseg.addr (by omega)
      have g1 := hc k hlt
      obtain ⟨x, hx⟩ : ∃ x, l.getD k [] = x := ⟨_, rfl⟩
      have hxm : x ∈ l := hx ▸ take_at (by rw [HLen.out]; exact hlt)
      have HXB := Lib.hid (HBB.out x hxm)
      rw [hx] at g1
      have HP := Lib.hid (strs_take l k x (by have := HLen.out; omega) hx)
      have hss := strOfNums_size x
      have hxl := HLL.out x hxm
      obtain ⟨xl, hxe⟩ : ∃ n, x.length = n := ⟨_, rfl⟩
      rw [hxe] at hss hxl
      have hwu := wrap_u64 (n := xl) (by omega)
      have HPut := Lib.hid (Oct.putVar_any none 0 0 [] (xl : Int) wr (Oct.Seg.nil wr) (by omega) (by omega) (by omega))
      have hvl := Oct.varB_le 9 (xl : Int)
      have HXe := Lib.hid hxe
      have HSS := Lib.hid hss
      clear hx hxm hc hseg hxe
      go_wp2_with fail
      refine HPut.out.mono ?_
      rintro e w1 hnew
      rw [List.nil_append] at hnew
      obtain ⟨g, p, rfl, hf⟩ := hnew.value
      obtain ⟨hp, hown1, hg⟩ := hf.is
      rw [← hp] at hvl
      have HPl := Lib.hid hp
      have HS1 := Lib.hid ((Oct.Seg.own hown1).at_ _ rfl)
      have HLn : Hid (((varB 9 (xl : Int)).map (Value.int .u8)).length = p * 1) := Lib.hid (by rw [List.length_map, hp]; omega)
      have HO1 := Lib.hid (own_grown HO.out hg)
      have HB1 := Lib.hid (HB.out.trans (below_grown hg hsz0))
      have HS2 : Hid (base ≤ w1.heap.size) := Lib.hid (Nat.le_trans hsz0 hg.size)
      have hqb := HQ.out.2
      clear hnew hf hown1 hg hp hsz0
      go_wp2_with (first
        | (at_builtin; refine wpList_append_own _ rfl (.tmp 13) (.tmp 17) 23 rfl base 5 i0 (.int .u8 0) 1 1 Try.underlying23 hi hz0 hz1 hz2 rfl (by decide) V (n + q) _ rfl HO1.out ⟨g, 0, none⟩ p p ((varB 9 (xl : Int)).map (Value.int .u8)) rfl HLn.out HS1.out (ints_oneCell _ _) (by unfold maxLen; omega) (by omega) HS2.out ?_; intro v2 w2 hown2 hgrow2 hnil2; have HO2 := Lib.hid hown2; have HB2 := Lib.hid (HB1.out.grown hgrow2 HS2.out (fun j e => (HO1.out.lt j e).1)); have HS3 : Hid (base ≤ w2.heap.size) := Lib.hid (Nat.le_trans HS2.out hgrow2.size); clear hown2 hgrow2 hnil2)
        | (at_builtin; refine Lib.wpList_append_own_string _ rfl (.tmp 19) (.tmp 20) 23 9 rfl base 5 i0 Try.underlying23 Try.underlying9 hi hz0 hz1 hz2 v2 (n + q + p) _ rfl HO2.out (strOfNums x) rfl (by rw [HSS.out]; unfold maxLen; omega) (by rw [HSS.out]; omega) HS3.out ?_; intro v3 w3 hown3 hgrow3 hnil3)
        | fail)
      rw [HSS.out, strCells_nums x HXB.out, ← List.map_append] at hown3
      go_roundw
      case rel =>
        refine ⟨k + 1, q + (p + xl), v3, by omega, by go_num, rfl, Lib.hid ⟨?_, by have := HQ.out.2; omega⟩, Lib.hid ?_, Lib.hid (HB2.out.grown hgrow3 HS3.out (fun j e => (HO2.out.lt j e).1))⟩
        · rw [HP.out, List.length_append, HQ.out.1, List.length_append, HXe.out, ← HPl.out]
        · rw [HP.out, HXe.out, show n + (q + (p + xl)) = n + q + p + xl from by omega, ← List.append_assoc, ← List.append_assoc]
          rw [List.map_append] at hown3 ⊢
          rw [List.map_append (l₁ := B ++ strsB (l.take k))]
          simpa using hown3
      case measure => simp [intOf]; omega
    · obtain rfl : k = m := by omega
      obtain ⟨g, cc, rfl⟩ := ownsRow_form HO.out (by omega)
      have HF : Hid (GrowB base w (B ++ strsB l) (n + (strsB l).length) (.returned (.slice (some ⟨g, 0, none⟩) (n + q) cc)) wr) := by
        have h1 := HQ.out.1
        have h2 := HO.out
        rw [List.take_of_length_le (Nat.le_of_eq HLen.out)] at h1 h2
        rw [h1]
        exact Lib.hid ⟨g, cc, rfl, h2, HB.out⟩
      go_wp2
      go_ret
      exact HF.out
end Go.Proofs.Ytgbpmpeknbaccaa.Tx
