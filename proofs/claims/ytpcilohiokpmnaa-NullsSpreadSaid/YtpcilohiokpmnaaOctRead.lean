/-
  A reader: New, Bytes, Number, Var; Of.
-/
import Derived.Test.YtpcilohiokpmnaaOctPut
namespace Go.Proofs.Ytpcilohiokpmnaa.Oct
open Go.RowKit

theorem cells_reader : Try.prog.cellsOf 75 = 2 := by kernel_rfl

/-- A new reader: two new blocks; nothing that was there has turned. -/
def NewR (w : World) (l : List Int) (e : Ending) (w' : World) : Prop :=
  ∃ b g, e = .returned (.pointer (some ⟨b, 0, none⟩)) ∧ w.heap.size ≤ b ∧ w.heap.size ≤ g ∧ Rd w' b g l ∧ w.grownBy w' none

set_option maxRecDepth 100000 in
set_option maxHeartbeats 400000 in
theorem new_any (a : Option Addr) (n c : Nat) (l : List Int) (w : World) (hs : Seg w a n c l) (hn : n ≤ 140737488355328) :
    Calls Try.prog 27 #[.slice a n c] w (NewR w l) := by
  have HA := Lib.hid (add_any a none n c 0 0 l [] w hs (Seg.nil w) (by omega))
  go_enter Try.func27, Try.ntmps27
  go_wp2_with fail
  refine HA.out.mono ?_
  rintro e w1 ⟨rfl, hown, hg⟩
  rw [List.append_nil, Nat.add_zero] at hown
  have hl := hs.len
  have hb : w.heap.size < w1.heap.size := (hown.lt _ rfl).2
  have hfin : NewR w l (.returned (.pointer (some ⟨w1.heap.size, 0, none⟩))) (w1.alloc (.cells #[.slice (some ⟨w.heap.size, 0, none⟩) n n, .pointer (some ⟨w1.heap.size, 0, none⟩)] 75)) := by
    subst hl
    have h1 := Seg.own (hown.alloc (.cells #[.slice (some ⟨w.heap.size, 0, none⟩) l.length l.length, .pointer (some ⟨w1.heap.size, 0, none⟩)] 75))
    refine ⟨w1.heap.size, w.heap.size, rfl, hg.size, Nat.le_refl _, ⟨by omega, ⟨0, l.length, ?_, Nat.le_refl _, h1.cap, ?_⟩, ?_, ?_⟩, grownBy_trans hg (World.grownBy_alloc w1 _ none) (fun _ e => by cases e)⟩
    · exact World.cell?_alloc_at _ _ _ _ rfl
    · intro j hj
      have := h1.at_ _ rfl j (.int .u8 (l.getD j 0)) (by simp [List.getD, hj])
      rw [Addr.add_lit] at this
      exact this
    · exact World.cell?_alloc_at _ _ _ _ rfl
    · exact World.frozen?_alloc_at _ _ _ _ rfl
  have HF := Lib.hid hfin
  clear hfin hown hg hs HA
  go_wp2
  go_ret
  exact HF.out

theorem Seg.addr {w : World} {a : Option Addr} {n c : Nat} {l : List Int} (h : Seg w a n c l) (hn : 0 < n) : ∃ g o, a = some ⟨g, o, none⟩ ∧ ∀ j, j < n → w.cell? ⟨g, o + j, none⟩ = some (.int .u8 (l.getD j 0)) := by
  have hl := h.len
  cases a with
  | none => have := h.nil_ rfl; omega
  | some ad =>
    have hc := h.at_ ad rfl
    obtain ⟨g, o, spot⟩ := ad
    have h0 := hc 0 (.int .u8 (l.getD 0 0)) (by simp [List.getD]; rw [List.getElem?_eq_getElem (by omega)]; rfl)
    have hspot : spot = none := by simpa [Addr.add] using World.cell?_spot h0
    subst hspot
    refine ⟨g, o, rfl, fun j hj => ?_⟩
    have h1 := hc j (.int .u8 (l.getD j 0)) (by simp [List.getD]; rw [List.getElem?_eq_getElem (by omega)]; rfl)
    rw [Addr.add_lit] at h1
    exact h1

theorem or_add (acc x : Int) (s : Nat) (h0 : 0 ≤ acc) (h1 : acc < 2 ^ s) (h2 : 0 ≤ x) (h3 : x * 2 ^ s < 18446744073709551616) (h4 : s < 64) : bits BinOp.or IntKind.u64 acc (x * 2 ^ s) = acc + x * 2 ^ s := by
  have hp : (0 : Int) < 2 ^ s := Int.pow_pos (by decide)
  have h5 : 0 ≤ x * 2 ^ s := Int.mul_nonneg h2 (Int.le_of_lt hp)
  have h6 : (2 : Int) ^ s ≤ 2 ^ 63 := by exact_mod_cast Nat.pow_le_pow_right (by decide : 0 < 2) (by omega : s ≤ 63)
  have h7 : (2 : Int) ^ 63 = 9223372036854775808 := by decide
  rw [u64_or acc _ h0 (by omega) h5 h3]
  obtain ⟨a, rfl⟩ := Int.eq_ofNat_of_zero_le h0
  obtain ⟨y, rfl⟩ := Int.eq_ofNat_of_zero_le h2
  have e : (y : Int) * 2 ^ s = ((2 ^ s * y : Nat) : Int) := by rw [Nat.mul_comm, Int.natCast_mul, Int.natCast_pow]; rfl
  rw [e, Int.toNat_natCast, Int.toNat_natCast, Nat.or_comm, ← Nat.two_pow_add_eq_or_of_lt (by exact_mod_cast h1), Int.natCast_add, Int.add_comm]

/-- One byte more. -/
theorem of_step (l : List Int) (k : Nat) (hk : k < l.length) (hb : IsB l) (h8 : l.length ≤ 8) :
    0 ≤ ofB (l.take k) ∧ ofB (l.take k) < 2 ^ (8 * k) ∧ 0 ≤ l.getD k 0 ∧ l.getD k 0 < 256 ∧ l.getD k 0 * 2 ^ (8 * k) < 18446744073709551616 ∧ 0 ≤ l.getD k 0 * 2 ^ (8 * k) ∧ ofB (l.take (k + 1)) = ofB (l.take k) + l.getD k 0 * 2 ^ (8 * k) := by
  have e : ∀ i : Nat, (256 : Int) ^ i = 2 ^ (8 * i) := fun i => by rw [Int.pow_mul]; rfl
  have h1 := ofB_bound (l.take k) (fun x hx => hb x (List.mem_of_mem_take hx))
  have hlk : (l.take k).length = k := by rw [List.length_take]; omega
  rw [hlk, e] at h1
  have hg : l.getD k 0 = l[k] := by simp [List.getD, hk]
  have h2 := hb (l[k]) (List.getElem_mem hk)
  rw [hg]
  have hp : (0 : Int) < 2 ^ (8 * k) := Int.pow_pos (by decide)
  have h3 : l[k] * 2 ^ (8 * k) < 256 * 2 ^ (8 * k) := Int.mul_lt_mul_of_pos_right h2.2 hp
  have h4 : (256 : Int) * 2 ^ (8 * k) ≤ 18446744073709551616 := by
    have : (256 : Int) * 2 ^ (8 * k) = 2 ^ (8 + 8 * k) := by rw [Int.pow_add]; rfl
    rw [this]
    have h5 : (2 : Nat) ^ (8 + 8 * k) ≤ 18446744073709551616 := Nat.le_trans (Nat.pow_le_pow_right (by decide : 0 < 2) (by omega : 8 + 8 * k ≤ 64)) (by decide)
    have h6 : ((2 ^ (8 + 8 * k) : Nat) : Int) ≤ 18446744073709551616 := by omega
    rw [Int.natCast_pow] at h6
    exact h6
  refine ⟨h1.1, h1.2, h2.1, h2.2, by omega, Int.mul_nonneg h2.1 (Int.le_of_lt hp), ?_⟩
  rw [List.take_succ_eq_append_getElem hk, ofB_snoc, hlk, e]

set_option maxRecDepth 100000 in
set_option maxHeartbeats 400000 in
theorem of_any (g o n c : Nat) (l : List Int) (w : World) (hs : Seg w (some ⟨g, o, none⟩) n c l) (hb : IsB l) (h8 : n ≤ 8) :
    Calls Try.prog 55 #[.slice (some ⟨g, o, none⟩) n c] w fun e w' => e = .returned (.int .u64 (ofB l)) ∧ w = w' := by
  have hl := hs.len
  have hc : ∀ j, j < n → w.cell? ⟨g, o + j, none⟩ = some (.int .u8 (l.getD j 0)) := fun j hj => by
    obtain ⟨g', o', e, h⟩ := hs.addr (by omega)
    cases e
    exact h j hj
  have HS := Lib.hid (fun k (hk : k < n) => of_step l k (by omega) hb (by omega))
  have HT := Lib.hid (List.take_of_length_le (Nat.le_of_eq hl))
  have HC := Lib.hid hc
  clear hl hs hb hc
  go_enter Try.func55, Try.ntmps55
  go_wp2
  go_loop [3, 11] (fun sv si => ∃ (k : Nat) (acc : Int), k ≤ n ∧ si = .int .i64 k ∧ sv = .int .u64 acc ∧ Hid (acc = ofB (l.take k))) (fun _ si => n - (intOf si).toNat)
  case atStart => exact ⟨0, 0, Nat.zero_le _, rfl, rfl, rfl⟩
  case round =>
    obtain ⟨k, acc, hk, rfl, rfl, HA⟩ := hrel
    by_cases hlt : k < n
    · have g1 := HC.out k hlt
      obtain ⟨s1, s2, s3, s4, s5, s6, s7⟩ := HS.out k hlt
      rw [← HA.out] at s1 s2 s7
      have HS7 := Lib.hid s7
      obtain ⟨x, hx⟩ : ∃ x, x = l.getD k 0 := ⟨_, rfl⟩
      rw [← hx] at g1 s3 s4 s5 s6
      have HX := Lib.hid hx
      have ho := or_add acc x (8 * k) s1 s2 s3 s5 (by omega)
      clear hx s7
      go_wp2
      go_round
      case rel => exact ⟨k + 1, acc + x * 2 ^ (8 * k), by omega, by go_num, rfl, Lib.hid (by rw [HS7.out, HX.out])⟩
      case measure => simp [intOf]; omega
    · obtain rfl : k = n := by omega
      go_wp2
      go_ret
      exact ⟨ret_int (by rw [HA.out, HT.out]), rfl⟩

/-- Bytes: the first n bytes, as new memory; the reader has the rest. -/
def ReadB (b g : Nat) (w : World) (l r : List Int) (e : Ending) (w' : World) : Prop :=
  ∃ x, e = .returned (.tuple #[.slice (some ⟨x, 0, none⟩) l.length l.length, .int .i64 0]) ∧ w'.ownsRow w.heap.size 5 1 (.slice (some ⟨x, 0, none⟩) l.length l.length) l.length (l.map (Value.int .u8)) ∧ w.grownBy w' (some b) ∧ Rd w' b g r

theorem ReadB.value {b g : Nat} {w w' : World} {l r : List Int} {e : Ending} (h : ReadB b g w l r e w') :
    ∃ x q, e = .returned (.tuple #[.slice (some ⟨x, 0, none⟩) q q, .int .i64 0]) ∧ q = l.length ∧ w'.ownsRow w.heap.size 5 1 (.slice (some ⟨x, 0, none⟩) q q) q (l.map (Value.int .u8)) ∧ w.grownBy w' (some b) ∧ Rd w' b g r := by
  obtain ⟨x, he, ho⟩ := h
  exact ⟨x, l.length, he, rfl, ho⟩

set_option maxRecDepth 100000 in
set_option maxHeartbeats 400000 in
theorem bytes_yes (b g : Nat) (l : List Int) (n : Nat) (w : World) (h : Rd w b g l) (hn : n ≤ l.length) (hl : n ≤ 140737488355328) :
    Calls Try.prog 65 #[.pointer (some ⟨b, 0, none⟩), .int .i64 n] w (ReadB b g w (l.take n) (l.drop n)) := by
  obtain ⟨o, c, h0, hle, hc, hj⟩ := h.cells
  have HV := Lib.hid (valid_yes b w h.self)
  have HC := Lib.hid (cut_any b g l n w h hn)
  clear hj
  go_enter Try.func65, Try.ntmps65
  go_wp2_with (first
    | (go_at_call 52; refine HV.out.mono ?_; rintro e w' ⟨rfl, rfl⟩)
    | fail)
  refine HC.out.mono ?_
  rintro e w1 ⟨o', c', rfl, hr, hg, hs⟩
  have ht : (l.take n).length = n := by rw [List.length_take]; omega
  have HA := Lib.hid (add_any _ none n c' 0 0 _ [] w1 hs (Seg.nil w1) (by omega))
  go_wp2_with fail
  refine HA.out.mono ?_
  rintro e w2 ⟨rfl, hown, hg2⟩
  rw [List.append_nil, Nat.add_zero] at hown
  have lt : b < w.heap.size := World.block_lt_of_cell? w _ h0
  have hsz := hg.size
  have hfin : ReadB b g w (l.take n) (l.drop n) (.returned (.tuple #[.slice (some ⟨w1.heap.size, 0, none⟩) n n, .int .i64 0])) w2 := by
    unfold ReadB
    rw [ht]
    refine ⟨_, rfl, ownsRow_mono hown hsz, ⟨hg2.os.trans hg.os, hg2.tape.trans hg.tape, hg2.output.trans hg.output, Nat.le_trans hsz hg2.size, fun k hk hkb => (hg2.block k (by omega) (by simp)).trans (hg.block k hk hkb)⟩, hr.kept hg2 (by simp) (by simp)⟩
  have HF := Lib.hid hfin
  clear hfin hown hg hg2 hr hs ht h0 h
  go_wp2
  go_ret2
  exact HF.out

theorem bytes_arg (b g : Nat) (l : List Int) (n : Int) (w : World) (h : Rd w b g l) (hn : n < 0) :
    Calls Try.prog 65 #[.pointer (some ⟨b, 0, none⟩), .int .i64 n] w fun e w' => e = .returned (.tuple #[.slice none 0 0, .int .i64 2]) ∧ w = w' := by
  have HV := Lib.hid (valid_yes b w h.self)
  go_enter Try.func65, Try.ntmps65
  go_wp2_with (go_at_call 52; refine HV.out.mono ?_; rintro e w' ⟨rfl, rfl⟩)
  go_ret2
  exact ⟨rfl, rfl⟩

theorem bytes_nil (n : Int) (w : World) :
    Calls Try.prog 65 #[.pointer none, .int .i64 n] w fun e w' => e = .returned (.tuple #[.slice none 0 0, .int .i64 1]) ∧ w = w' := by
  go_enter Try.func65, Try.ntmps65
  go_wp2_with (go_at_call 52; refine (valid_nil _).mono ?_; rintro e w' ⟨rfl, rfl⟩)
  go_ret2
  exact ⟨rfl, rfl⟩

/-- Number: the number of the first n bytes; the reader has the rest. -/
def ReadN (b g : Nat) (w : World) (v : Int) (r : List Int) (e : Ending) (w' : World) : Prop :=
  e = .returned (.tuple #[.int .u64 v, .int .i64 0]) ∧ w.grownBy w' (some b) ∧ Rd w' b g r

set_option maxRecDepth 100000 in
set_option maxHeartbeats 400000 in
theorem number_yes (b g : Nat) (l : List Int) (n : Nat) (w : World) (h : Rd w b g l) (hb : IsB l) (n1 : 1 ≤ n) (n8 : n ≤ 8) (hn : n ≤ l.length) :
    Calls Try.prog 29 #[.pointer (some ⟨b, 0, none⟩), .int .i64 n] w (ReadN b g w (ofB (l.take n)) (l.drop n)) := by
  obtain ⟨o, c, h0, hle, hc, hj⟩ := h.cells
  have HV := Lib.hid (valid_yes b w h.self)
  have HC := Lib.hid (cut_any b g l n w h hn)
  have HB : Hid (IsB (l.take n)) := Lib.hid (fun x hx => hb x (List.mem_of_mem_take hx))
  clear hj hb
  go_enter Try.func29, Try.ntmps29
  go_wp2_with (first
    | (go_at_call 52; refine HV.out.mono ?_; rintro e w' ⟨rfl, rfl⟩)
    | (go_at_call 54; refine (isSize_yes _ _ (by omega) (by omega)).mono ?_; rintro e w' ⟨rfl, rfl⟩)
    | fail)
  refine HC.out.mono ?_
  rintro e w1 ⟨o', c', rfl, hr, hg, hs⟩
  have HA := Lib.hid (of_any g o' n c' _ w1 hs HB.out n8)
  have HR := Lib.hid hr
  have HG := Lib.hid hg
  clear hr hg hs
  go_wp2_with fail
  refine HA.out.mono ?_
  rintro e w2 ⟨rfl, rfl⟩
  go_wp2
  go_ret2
  exact ⟨rfl, HG.out, HR.out⟩

set_option maxRecDepth 100000 in
set_option maxHeartbeats 400000 in
theorem number_arg (b g : Nat) (l : List Int) (n : Int) (w : World) (h : Rd w b g l) (hn : ¬ (1 ≤ n ∧ n ≤ 8)) :
    Calls Try.prog 29 #[.pointer (some ⟨b, 0, none⟩), .int .i64 n] w fun e w' => e = .returned (.tuple #[.int .u64 0, .int .i64 2]) ∧ w = w' := by
  have HV := Lib.hid (valid_yes b w h.self)
  have HN := Lib.hid hn
  clear hn
  go_enter Try.func29, Try.ntmps29
  go_wp2_with (first
    | (go_at_call 52; refine HV.out.mono ?_; rintro e w' ⟨rfl, rfl⟩)
    | (go_at_call 54; refine (isSize_no _ _ HN.out).mono ?_; rintro e w' ⟨rfl, rfl⟩)
    | fail)
  go_ret2
  exact ⟨rfl, rfl⟩

set_option maxRecDepth 100000 in
set_option maxHeartbeats 400000 in
theorem number_more (b g : Nat) (l : List Int) (n : Int) (w : World) (h : Rd w b g l) (n1 : 1 ≤ n) (n8 : n ≤ 8) (hn : (l.length : Int) < n) :
    Calls Try.prog 29 #[.pointer (some ⟨b, 0, none⟩), .int .i64 n] w fun e w' => e = .returned (.tuple #[.int .u64 0, .int .i64 7]) ∧ w = w' := by
  obtain ⟨o, c, h0, hle, hc, hj⟩ := h.cells
  have HV := Lib.hid (valid_yes b w h.self)
  clear hj
  go_enter Try.func29, Try.ntmps29
  go_wp2_with (first
    | (go_at_call 52; refine HV.out.mono ?_; rintro e w' ⟨rfl, rfl⟩)
    | (go_at_call 54; refine (isSize_yes _ _ (by omega) (by omega)).mono ?_; rintro e w' ⟨rfl, rfl⟩)
    | fail)
  go_ret2
  exact ⟨rfl, rfl⟩

theorem number_nil (n : Int) (w : World) :
    Calls Try.prog 29 #[.pointer none, .int .i64 n] w fun e w' => e = .returned (.tuple #[.int .u64 0, .int .i64 1]) ∧ w = w' := by
  go_enter Try.func29, Try.ntmps29
  go_wp2_with (go_at_call 52; refine (valid_nil _).mono ?_; rintro e w' ⟨rfl, rfl⟩)
  go_ret2
  exact ⟨rfl, rfl⟩

theorem var_nil (w : World) :
    Calls Try.prog 28 #[.pointer none] w fun e w' => e = .returned (.tuple #[.int .u64 0, .int .i64 1]) ∧ w = w' := by
  go_enter Try.func28, Try.ntmps28
  go_wp2_with (go_at_call 52; refine (valid_nil _).mono ?_; rintro e w' ⟨rfl, rfl⟩)
  go_ret2
  exact ⟨rfl, rfl⟩
end Go.Proofs.Ytpcilohiokpmnaa.Oct
