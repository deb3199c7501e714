/-
  A reader of bytes over the slices of Base: New, Left, Number.
-/
import Derived.Test.YtfojkglindpjjaaDoorOctF
import Derived.WalkKit
import Derived.WalkLawsBesides
import Derived.BigQuiet
import Derived.Deep.QuietTactic
import Derived.Lib.Hide
import Derived.LaidEqlPtr
namespace Go.Proofs.YtfojkglindpjjaaDoor.Oct
open Go.RowKit
open Bs (Seg grownBy_trans ownsRow_mono info_u8 ret_int NewB)

/-- Block b is a reader of New's, at which the bytes l are left; its bytes lie in block g. -/
structure Rd (w : World) (b g : Nat) (l : List Int) : Prop where
  ne : g ≠ b
  cells : ∃ o c, w.cell? ⟨b, 0, none⟩ = some (.slice (some ⟨g, o, none⟩) l.length c) ∧ l.length ≤ c ∧ c ≤ maxLen ∧ ∀ j, j < l.length → w.cell? ⟨g, o + j, none⟩ = some (.int .u8 (l.getD j 0))
  self : w.cell? ⟨b, 1, none⟩ = some (.pointer (some ⟨b, 0, none⟩))
  free : w.frozen? ⟨b, 0, none⟩ = false

theorem Rd.kept {w w' : World} {b g : Nat} {l : List Int} (h : Rd w b g l) {row : Option Nat} (hg : w.grownBy w' row) (h1 : row ≠ some b) (h2 : row ≠ some g) : Rd w' b g l := by
  obtain ⟨o, c, h0, hle, hc, hj⟩ := h.cells
  have lt := World.block_lt_of_cell? w _ h0
  refine ⟨h.ne, ⟨o, c, hg.cell h0 (fun e => h1 e.symm), hle, hc, fun j hjl => hg.cell (hj j hjl) (fun e => h2 e.symm)⟩, hg.cell h.self (fun e => h1 e.symm), ?_⟩
  rw [World.frozen?_of_block (hg.block b lt (fun e => h1 e.symm))]
  exact h.free

theorem info_reader : (Tryd.prog.info? 90).isSome = true := by kernel_rfl
theorem eql_reader (a : Addr) (w : World) : (binOp .eql 67 (.pointer (some a)) (.pointer (some a))).run Tryd.prog w = .ok (.bool true) w := by
  obtain ⟨j, hj⟩ := Option.isSome_iff_exists.1 info_reader
  exact run_eql_ptr_same w a Tryd.underlying67 hj

theorem valid_yes (b : Nat) (w : World) (h : w.cell? ⟨b, 1, none⟩ = some (.pointer (some ⟨b, 0, none⟩))) : Calls Tryd.prog 59 #[.pointer (some ⟨b, 0, none⟩)] w fun e w' => e = .returned (.bool true) ∧ w = w' := by
  have he := eql_reader ⟨b, 0, none⟩
  go_enter Tryd.func59, Tryd.ntmps59
  go_wp2
  go_ret
  exact ⟨rfl, rfl⟩

theorem valid_nil (w : World) : Calls Tryd.prog 59 #[.pointer none] w fun e w' => e = .returned (.bool false) ∧ w = w' := by
  go_enter Tryd.func59, Tryd.ntmps59
  go_wp2
  go_ret
  exact ⟨rfl, rfl⟩

theorem left_yes (b g : Nat) (l : List Int) (w : World) (h : Rd w b g l) : Calls Tryd.prog 44 #[.pointer (some ⟨b, 0, none⟩)] w fun e w' => e = .returned (.int .i64 l.length) ∧ w = w' := by
  obtain ⟨o, c, h0, hle, hc, hj⟩ := h.cells
  go_enter Tryd.func44, Tryd.ntmps44
  go_wp2_with (go_at_call 59; refine (valid_yes b _ h.self).mono ?_; rintro e w' ⟨rfl, rfl⟩)
  go_ret
  exact ⟨rfl, rfl⟩

theorem left_nil (w : World) : Calls Tryd.prog 44 #[.pointer none] w fun e w' => e = .returned (.int .i64 0) ∧ w = w' := by
  go_enter Tryd.func44, Tryd.ntmps44
  go_wp2_with (go_at_call 59; refine (valid_nil _).mono ?_; rintro e w' ⟨rfl, rfl⟩)
  go_ret
  exact ⟨rfl, rfl⟩

/-- cut: n bytes from the front are handed out as they lie; the rest is left. -/
theorem Rd.cut {w : World} {b g : Nat} {l : List Int} (n : Nat) (o o' c c' m : Nat) (h : Rd w b g l) (h0 : w.cell? ⟨b, 0, none⟩ = some (.slice (some ⟨g, o, none⟩) l.length c)) (hm : m = l.length - n) (hle : l.length ≤ c) (hle' : m ≤ c') (hc : c' ≤ maxLen) (hc2 : c ≤ maxLen)
    (hj : ∀ j, j < l.length → w.cell? ⟨g, o + j, none⟩ = some (.int .u8 (l.getD j 0))) (ho : n < l.length → o' = o + n) (hn : n ≤ l.length) :
    Rd (w.setCell ⟨b, 0, none⟩ (.slice (some ⟨g, o', none⟩) m c')) b g (l.drop n) ∧ w.grownBy (w.setCell ⟨b, 0, none⟩ (.slice (some ⟨g, o', none⟩) m c')) (some b) ∧
      Seg (w.setCell ⟨b, 0, none⟩ (.slice (some ⟨g, o', none⟩) m c')) (some ⟨g, o, none⟩) n c (l.take n) := by
  have hne := h.ne
  have hlen : (l.drop n).length = m := by simp; omega
  refine ⟨⟨hne, ⟨o', c', ?_, by omega, hc, ?_⟩, ?_, ?_⟩, ⟨rfl, rfl, rfl, by simp, fun k _ hk => Below.heap_setCell _ _ _ _ (fun e => hk (by rw [e]))⟩, ⟨by simp; omega, by omega, hc2, (fun e => by cases e), ?_⟩⟩
  · rw [World.cell?_setCell_same _ _ _ h0, hlen]
  · intro j hjl
    rw [World.cell?_setCell_other _ _ _ _ (by intro e; exact hne (congrArg Addr.block e).symm)]
    have : n < l.length := by simp at hjl; omega
    rw [ho this, Nat.add_assoc, hj (n + j) (by simp at hjl; omega)]
    simp [List.getD]
  · rw [World.cell?_setCell_other _ _ _ _ (by intro e; cases e)]
    exact h.self
  · rw [World.frozen?_setCell]
    exact h.free
  · intro ad had j u hu
    cases had
    have hjn : j < n := by
      have := (List.getElem?_eq_some_iff.1 hu).1
      simp at this
      omega
    rw [Addr.add_lit, World.cell?_setCell_other _ _ _ _ (by intro e; exact hne (congrArg Addr.block e).symm), hj j (by omega)]
    rw [List.getElem?_map, List.getElem?_take_of_lt hjn] at hu
    simp only [List.getD]
    cases hq : l[j]? with
    | none => rw [hq] at hu; cases hu
    | some y => rw [hq] at hu; exact hu

theorem cut_any (b g : Nat) (l : List Int) (n : Nat) (w : World) (h : Rd w b g l) (hn : n ≤ l.length) :
    Calls Tryd.prog 61 #[.pointer (some ⟨b, 0, none⟩), .int .i64 n] w fun e w' =>
      ∃ o c, e = .returned (.slice (some ⟨g, o, none⟩) n c) ∧ Rd w' b g (l.drop n) ∧ w.grownBy w' (some b) ∧ Seg w' (some ⟨g, o, none⟩) n c (l.take n) := by
  obtain ⟨o, c, h0, hle, hc, hj⟩ := h.cells
  have hf := h.free
  have hs := h.self
  have hne := h.ne
  unfold maxLen at hc
  have hc2 : c ≤ maxLen := by unfold maxLen; omega
  by_cases hcn : c = n
  · subst hcn
    have R := Rd.cut c o o c 0 0 h h0 (by omega) hle (by omega) (by unfold maxLen; omega) hc2 hj (fun hh => by omega) hn
    have HR := Lib.hid R
    clear R hj h
    go_enter Tryd.func61, Tryd.ntmps61
    go_wp2
    go_ret
    exact ⟨o, c, rfl, HR.out⟩
  · have R := Rd.cut n o (o + n) c (c - n) (l.length - n) h h0 rfl hle (by omega) (by unfold maxLen; omega) hc2 hj (fun hh => rfl) hn
    have HR := Lib.hid R
    clear R hj h
    go_enter Tryd.func61, Tryd.ntmps61
    go_wp2
    go_ret
    exact ⟨o, c, rfl, HR.out⟩

theorem cells_reader : Tryd.prog.cellsOf 90 = 2 := by kernel_rfl

/-- A new reader: two new blocks; nothing that was there has turned. -/
def NewR (w : World) (l : List Int) (e : Ending) (w' : World) : Prop :=
  ∃ b g, e = .returned (.pointer (some ⟨b, 0, none⟩)) ∧ w.heap.size ≤ b ∧ w.heap.size ≤ g ∧ b < w'.heap.size ∧ g < w'.heap.size ∧ Rd w' b g l ∧ w.grownBy w' none

set_option maxRecDepth 100000 in
set_option maxHeartbeats 400000 in
theorem new_any (a : Option Addr) (n c : Nat) (l : List Int) (w : World) (hs : Seg w a n c l) (hn : n ≤ 140737488355328) :
    Calls Tryd.prog 42 #[.slice a n c] w (NewR w l) := by
  have HA := Lib.hid (add_any a none n c 0 0 l [] w hs (Seg.nil w) (by omega))
  go_enter Tryd.func42, Tryd.ntmps42
  go_wp2_with fail
  refine HA.out.mono ?_
  rintro e w1 ⟨rfl, hown, hg⟩
  rw [List.append_nil, Nat.add_zero] at hown
  have hl := hs.len
  have hb : w.heap.size < w1.heap.size := (hown.lt _ rfl).2
  have hfin : NewR w l (.returned (.pointer (some ⟨w1.heap.size, 0, none⟩))) (w1.alloc (.cells #[.slice (some ⟨w.heap.size, 0, none⟩) n n, .pointer (some ⟨w1.heap.size, 0, none⟩)] 90)) := by
    subst hl
    have h1 := Seg.own (hown.alloc (.cells #[.slice (some ⟨w.heap.size, 0, none⟩) l.length l.length, .pointer (some ⟨w1.heap.size, 0, none⟩)] 90))
    refine ⟨w1.heap.size, w.heap.size, rfl, hg.size, Nat.le_refl _, by simp, by simp; omega, ⟨by omega, ⟨0, l.length, ?_, Nat.le_refl _, h1.cap, ?_⟩, ?_, ?_⟩, grownBy_trans hg (World.grownBy_alloc w1 _ none) (fun _ e => by cases e)⟩
    · exact World.cell?_alloc_at _ _ _ _ rfl
    · intro j hj
      have := h1.at_ _ rfl j (.int .u8 (l.getD j 0)) (by simp [List.getD, hj])
      rw [Addr.add_lit] at this
      exact this
    · exact World.cell?_alloc_at _ _ _ _ rfl
    · exact World.frozen?_alloc_at _ _ _ _ rfl
  have HF := Lib.hid hfin
  clear hfin hown hg hs HA
  go_wp2
  go_ret
  exact HF.out

def ReadN (b g : Nat) (w : World) (v : Int) (r : List Int) (e : Ending) (w' : World) : Prop :=
  e = .returned (.tuple #[.int .u64 v, .int .i64 0]) ∧ w.grownBy w' (some b) ∧ Rd w' b g r

set_option maxRecDepth 100000 in
set_option maxHeartbeats 400000 in
theorem number_yes (b g : Nat) (l : List Int) (n : Nat) (w : World) (h : Rd w b g l) (hb : IsB l) (n1 : 1 ≤ n) (n8 : n ≤ 8) (hn : n ≤ l.length) :
    Calls Tryd.prog 45 #[.pointer (some ⟨b, 0, none⟩), .int .i64 n] w (ReadN b g w (ofB (l.take n)) (l.drop n)) := by
  obtain ⟨o, c, h0, hle, hc, hj⟩ := h.cells
  have HV := Lib.hid (valid_yes b w h.self)
  have HC := Lib.hid (cut_any b g l n w h hn)
  have HB : Hid (IsB (l.take n)) := Lib.hid (fun x hx => hb x (List.mem_of_mem_take hx))
  clear hj hb
  go_enter Tryd.func45, Tryd.ntmps45
  go_wp2_with (first
    | (go_at_call 59; refine HV.out.mono ?_; rintro e w' ⟨rfl, rfl⟩)
    | (go_at_call 60; refine (isSize_yes _ _ (by omega) (by omega)).mono ?_; rintro e w' ⟨rfl, rfl⟩)
    | fail)
  refine HC.out.mono ?_
  rintro e w1 ⟨o', c', rfl, hr, hg, hs⟩
  have HA := Lib.hid (of_any g o' n c' _ w1 hs HB.out n8)
  have HR := Lib.hid hr
  have HG := Lib.hid hg
  clear hr hg hs
  go_wp2_with fail
  refine HA.out.mono ?_
  rintro e w2 ⟨rfl, rfl⟩
  go_wp2
  go_ret2
  exact ⟨rfl, HG.out, HR.out⟩

set_option maxRecDepth 100000 in
set_option maxHeartbeats 400000 in
theorem number_arg (b g : Nat) (l : List Int) (n : Int) (w : World) (h : Rd w b g l) (hn : ¬ (1 ≤ n ∧ n ≤ 8)) :
    Calls Tryd.prog 45 #[.pointer (some ⟨b, 0, none⟩), .int .i64 n] w fun e w' => e = .returned (.tuple #[.int .u64 0, .int .i64 2]) ∧ w = w' := by
  have HV := Lib.hid (valid_yes b w h.self)
  have HN := Lib.hid hn
  clear hn
  go_enter Tryd.func45, Tryd.ntmps45
  go_wp2_with (first
    | (go_at_call 59; refine HV.out.mono ?_; rintro e w' ⟨rfl, rfl⟩)
    | (go_at_call 60; refine (isSize_no _ _ HN.out).mono ?_; rintro e w' ⟨rfl, rfl⟩)
    | fail)
  go_ret2
  exact ⟨rfl, rfl⟩

set_option maxRecDepth 100000 in
set_option maxHeartbeats 400000 in
theorem number_more (b g : Nat) (l : List Int) (n : Int) (w : World) (h : Rd w b g l) (n1 : 1 ≤ n) (n8 : n ≤ 8) (hn : (l.length : Int) < n) :
    Calls Tryd.prog 45 #[.pointer (some ⟨b, 0, none⟩), .int .i64 n] w fun e w' => e = .returned (.tuple #[.int .u64 0, .int .i64 7]) ∧ w = w' := by
  obtain ⟨o, c, h0, hle, hc, hj⟩ := h.cells
  have HV := Lib.hid (valid_yes b w h.self)
  clear hj
  go_enter Tryd.func45, Tryd.ntmps45
  go_wp2_with (first
    | (go_at_call 59; refine HV.out.mono ?_; rintro e w' ⟨rfl, rfl⟩)
    | (go_at_call 60; refine (isSize_yes _ _ (by omega) (by omega)).mono ?_; rintro e w' ⟨rfl, rfl⟩)
    | fail)
  go_ret2
  exact ⟨rfl, rfl⟩

theorem number_nil (n : Int) (w : World) :
    Calls Tryd.prog 45 #[.pointer none, .int .i64 n] w fun e w' => e = .returned (.tuple #[.int .u64 0, .int .i64 1]) ∧ w = w' := by
  go_enter Tryd.func45, Tryd.ntmps45
  go_wp2_with (go_at_call 59; refine (valid_nil _).mono ?_; rintro e w' ⟨rfl, rfl⟩)
  go_ret2
  exact ⟨rfl, rfl⟩

end Go.Proofs.YtfojkglindpjjaaDoor.Oct
