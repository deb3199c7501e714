/-
  Put.
-/
import Derived.Test.YtpcilohiokpmnaaPkAcc
import Derived.Laws.MakeOwn
namespace Go.Proofs.Ytpcilohiokpmnaa.Pk
open Go.RowKit Bs Dv

/-- Put's answer r: its bytes, in new memory, or no bytes and an error. -/
def PutX (w : World) (r : Int × List Int) (e : Ending) (w' : World) : Prop :=
  ∃ a k, e = .returned (.tuple #[.slice a r.2.length k, .int .i64 r.1]) ∧ Seg w' a r.2.length k r.2 ∧ w.grownBy w' none ∧
    (r.1 = 0 → ∃ g, a = some ⟨g, 0, none⟩ ∧ w'.ownsRow w.heap.size 5 1 (.slice (some ⟨g, 0, none⟩) r.2.length k) r.2.length (r.2.map (Value.int .u8)))

def room (S : Nat) : Array Value := madeCells (Value.int .u8 0).cells S
theorem room_size (S : Nat) : (room S).size = S := size_madeCells _ _
theorem make_room (S : Nat) (hS : S ≤ 100000000) (W : World) : (Instr.makeSlice 23 (.int .i64 0) (.int .i64 (S : Int))).run Try.prog W = .ok (.slice (some ⟨W.heap.size, 0, none⟩) 0 S) (W.alloc (.cells (room S) 5)) := by
  obtain ⟨i0, hi, hz0, hz1, hz2⟩ := info_parts info_u8
  have h := run_make (P := Try.prog) W 23 5 i0 (.int .u8 0) Try.underlying23 hi hz0 .i64 .i64 0 (S : Int) (by omega) (by omega) (by rw [hz2]; omega) (by omega)
  rw [hz1, Int.toNat_natCast, Nat.mul_one] at h
  exact h

theorem putR_can {l : List Int} {v : Int} (h : canB l.length v = false) : putR l v = (2, []) := by unfold putR; rw [h]; rfl
theorem putR_wid {l : List Int} {v : Int} (h : canB l.length v = true) (hw : ¬ (wid l : Int) ≤ v) : putR l v = (3, []) := by unfold putR; rw [if_pos h, if_neg hw]
theorem putR_yes {l : List Int} {v : Nat} (h : canB l.length v = true) (hw : (wid l : Int) ≤ v) : putR l v = (0, getL 8 (packN v l) (sizeN l.length v)) := by unfold putR; rw [if_pos h, if_pos hw]; rfl

theorem put_err (r : Int × List Int) (E : Int) (w : World) (hr : r = (E, [])) (hE : E ≠ 0) : PutX w r (.returned (.tuple #[.slice none 0 0, .int .i64 E])) w := by
  subst hr
  exact ⟨none, 0, rfl, Seg.nil w, ⟨rfl, rfl, rfl, Nat.le_refl _, fun _ _ _ => rfl⟩, fun h => absurd h hE⟩

set_option maxHeartbeats 1000000 in
theorem put_no_any (a : Option Addr) (n c : Nat) (l : List Int) (v : Int) (w : World) (hs : Us.Seg w a n c l) (hu : IsU l) (hno : ¬ (putR l v).1 = 0) :
    Calls Try.prog 25 #[.slice a n c, .int .i64 v] w (PutX w (putR l v)) := by
  have hlen := hs.len
  cases hc : canB l.length v with
  | false =>
    have HP := Lib.hid (put_err (putR l v) 2 w (putR_can hc) (by decide))
    have HB : Hid (∀ w, Calls Try.prog 47 #[.int .i64 n, .int .i64 v] w fun e w' => e = .returned (.bool false) ∧ w = w') := Lib.hid (fun w => by have := can_any n v w; rwa [← hlen, hc, hlen] at this)
    generalize putR l v = R at HP ⊢
    clear hc hno hs hlen
    go_enter Try.func25, Try.ntmps25
    go_wp2_with (go_at_call 47; refine (HB.out _).mono ?_; rintro e w' ⟨rfl, rfl⟩)
    go_ret2
    exact HP.out
  | true =>
    have hw : ¬ (wid l : Int) ≤ v := fun h => hno ((put_ok l v).2 ⟨hc, h⟩)
    have HP := Lib.hid (put_err (putR l v) 3 w (putR_wid hc hw) (by decide))
    have HB : Hid (∀ w, Calls Try.prog 47 #[.int .i64 n, .int .i64 v] w fun e w' => e = .returned (.bool true) ∧ w = w') := Lib.hid (fun w => by have := can_any n v w; rwa [← hlen, hc, hlen] at this)
    have HW := Lib.hid (width_any a n c l w hs hu)
    have hgt : v < (wid l : Int) := by omega
    have hb := wid_bd hu
    generalize putR l v = R at HP ⊢
    generalize wid l = W at HW hgt hb
    clear hc hno hs hlen hw
    go_enter Try.func25, Try.ntmps25
    go_wp2_with (first
      | (go_at_call 47; refine (HB.out _).mono ?_; rintro e w' ⟨rfl, rfl⟩)
      | (go_at_call 48; refine HW.out.mono ?_; rintro e w' ⟨rfl, rfl⟩))
    go_ret2
    exact HP.out

theorem seg_form {w : World} {a : Option Addr} {n c : Nat} {l : List Int} (h : Us.Seg w a n c l) : ∃ g o, (a = some ⟨g, o, none⟩ ∨ n = 0) ∧ ∀ j, j < n → w.cell? ⟨g, o + j, none⟩ = some (.int .u64 (l.getD j 0)) := by
  by_cases hn : n = 0
  · exact ⟨0, 0, .inr hn, fun j hj => by omega⟩
  · obtain ⟨g, o, e, hc⟩ := h.addr (by omega)
    exact ⟨g, o, .inl e, hc⟩

theorem acc_start (w : World) (S : Nat) (hS : S ≤ 100000000) : Acc w.heap.size w.heap.size (w.heap.size + 1 + 1 + 1) (w.heap.size + 1 + 1) (w.heap.size + 1) S 0 0
    ((((w.alloc (.cells (room S) 5)).alloc (.cells #[.slice (some ⟨w.heap.size, 0, none⟩) 0 S] 23)).alloc (.cells #[.int .u8 0] 5)).alloc (.cells #[.int .i64 0] 3)) := by
  have h0 := World.ownsRow_made (base := w.heap.size) (e := 5) (size := 1) w (room S) S (Nat.le_refl _) (by unfold maxLen; omega) (by rw [room_size, Nat.mul_one])
  have b1 := cell_new (w.alloc (.cells (room S) 5)) (.slice (some ⟨w.heap.size, 0, none⟩) 0 S) 23
  have f1 := froz_new (w.alloc (.cells (room S) 5)) (.slice (some ⟨w.heap.size, 0, none⟩) 0 S) 23
  have b2 := cell_new ((w.alloc (.cells (room S) 5)).alloc (.cells #[.slice (some ⟨w.heap.size, 0, none⟩) 0 S] 23)) (.int .u8 0) 5
  have f2 := froz_new ((w.alloc (.cells (room S) 5)).alloc (.cells #[.slice (some ⟨w.heap.size, 0, none⟩) 0 S] 23)) (.int .u8 0) 5
  have b3 := cell_new (((w.alloc (.cells (room S) 5)).alloc (.cells #[.slice (some ⟨w.heap.size, 0, none⟩) 0 S] 23)).alloc (.cells #[.int .u8 0] 5)) (.int .i64 0) 3
  have f3 := froz_new (((w.alloc (.cells (room S) 5)).alloc (.cells #[.slice (some ⟨w.heap.size, 0, none⟩) 0 S] 23)).alloc (.cells #[.int .u8 0] 5)) (.int .i64 0) 3
  simp only [World.size_alloc] at b1 f1 b2 f2 b3 f3
  have up : ∀ {W : World} {B : Nat} {v : Value} (o : Obj), (W.cell? ⟨B, 0, none⟩ = some v ∧ W.frozen? ⟨B, 0, none⟩ = false) → ((W.alloc o).cell? ⟨B, 0, none⟩ = some v ∧ (W.alloc o).frozen? ⟨B, 0, none⟩ = false) :=
    fun {W B v} o h => ⟨(Turn.alloc W o nowhere).cell h.1 id, ((Turn.alloc W o nowhere).frozen (p := ⟨B, 0, none⟩) (World.block_lt_of_cell? W _ h.1) id).trans h.2⟩
  have k1 := up (.cells #[.int .i64 0] 3) (up (.cells #[.int .u8 0] 5) ⟨b1, f1⟩)
  have k2 := up (.cells #[.int .i64 0] 3) ⟨b2, f2⟩
  exact ⟨((h0.alloc _).alloc _).alloc _, k1.1, k2.1, b3, k1.2, k2.2, f3⟩

theorem putX_of {w w' : World} {g U L O S N : Nat} (hA : Acc w.heap.size g U L O S N (8 * S) w') (hg : w.grownBy w' none) : PutX w ((0 : Int), getL 8 N S) (.returned (.tuple #[.slice (some ⟨g, 0, none⟩) S S, .int .i64 0])) w' := by
  have h := hA.row
  rw [show 8 * S / 8 = S from by omega] at h
  have e : (((0 : Int), getL 8 N S) : Int × List Int).2.length = S := getL_length 8 N S
  refine ⟨some ⟨g, 0, none⟩, S, by rw [e], ?_, hg, fun _ => ⟨g, rfl, ?_⟩⟩
  · rw [e]; exact Seg.own h
  · rw [e]; exact h

set_option maxHeartbeats 2000000 in
theorem put_yes_any (a : Option Addr) (n c : Nat) (l : List Int) (v : Nat) (w : World) (hs : Us.Seg w a n c l) (hu : IsU l) (hok : (putR l v).1 = 0) :
    Calls Try.prog 25 #[.slice a n c, .int .i64 (v : Int)] w (PutX w (putR l v)) := by
  have hlen := hs.len
  obtain ⟨hc, hw⟩ := (put_ok l v).1 hok
  have hc' := (canB_iff _ _).1 hc
  rw [putR_yes hc hw]
  have hf : Fit v l := (wid_le l v hu.nonneg).1 (by omega)
  have HF := Lib.hid hf
  have HB : Hid (∀ w, Calls Try.prog 47 #[.int .i64 n, .int .i64 (v : Int)] w fun e w' => e = .returned (.bool true) ∧ w = w') := Lib.hid (fun w => by have := can_any n v w; rwa [← hlen, hc, hlen] at this)
  have HW := Lib.hid (width_any a n c l w hs hu)
  rw [hlen] at hc hc' ⊢
  have HS : Hid (∀ w, Calls Try.prog 49 #[.int .i64 n, .int .i64 (v : Int)] w fun e w' => e = .returned (.int .i64 (sizeN n v : Int)) ∧ w = w') := Lib.hid (fun w => by have := size_any n v w; rwa [sizeF_N hc] at this)
  have hub := unF_bd hc
  obtain ⟨u, hue⟩ := Int.eq_ofNat_of_zero_le hub.1
  have hue2 : unF n v = 8 * (sizeN n v : Int) - (n : Int) * (v : Int) := by unfold unF; rw [sizeF_N hc]
  have HU : Hid (∀ w, Calls Try.prog 51 #[.int .i64 n, .int .i64 (v : Int)] w fun e w' => e = .returned (.int .i64 (u : Int)) ∧ w = w') := Lib.hid (fun w => by have := un_any n v w hc; rwa [hue] at this)
  have hszb := sizeF_bd n v
  rw [sizeF_N hc] at hszb
  have hpi : (n : Int) * (v : Int) = ((n * v : Nat) : Int) := by rw [← Int.natCast_mul]
  rw [hpi] at hue2
  obtain ⟨S, hS⟩ : ∃ S, sizeN n v = S := ⟨_, rfl⟩
  rw [hS] at HS hue2 hszb ⊢
  have HUS : Hid (n * v + u = 8 * S) := Lib.hid (by omega)
  have hu8 : u < 8 := by omega
  have hv64 : v ≤ 64 := by omega
  have hnle : n ≤ 65536 := by omega
  have HV := Lib.hid (show (wid l : Int) ≤ (v : Int) from hw)
  have hwb := wid_bd hu
  have HLen := Lib.hid hlen
  have HSeg := Lib.hid hs
  have HIU := Lib.hid hu
  obtain ⟨R, hR⟩ : ∃ R, ((0 : Int), getL 8 (packN v l) S) = R := ⟨_, rfl⟩
  rw [hR]
  have HR := Lib.hid hR
  have hwv : (wid l : Int) ≤ (v : Int) := hw
  generalize wid l = W at HW hwv hwb HV
  have hmk := make_room S (by omega)
  have hmf : ∀ (fn : Fn) (first cap : Array Value) (w : World), (Instr.makeFunc fn first cap).run Try.prog w = .ok (.func fn first cap) w := fun _ _ _ _ => rfl
  have hcap := hs.cap
  have hle := hs.le
  unfold maxLen at hcap
  obtain ⟨gA, o, hform, hcell⟩ := seg_form hs
  have HCell := Lib.hid hcell
  have HForm := Lib.hid hform
  have HAcc := Lib.hid (acc_start w S (by omega))
  clear hcell hform
  clear hR hu hs hlen hS hue2 hue hub hok hc hc' hw hf hpi hszb
  have HT0 : Hid (Turn w ((((w.alloc (.cells (room S) 5)).alloc (.cells #[.slice (some ⟨w.heap.size, 0, none⟩) 0 S] 23)).alloc (.cells #[.int .u8 0] 5)).alloc (.cells #[.int .i64 0] 3)) nowhere) := Lib.hid
    ((((Turn.alloc w _ nowhere).trans (Turn.alloc _ _ nowhere) (fun _ _ h => h)).trans (Turn.alloc _ _ nowhere) (fun _ _ h => h)).trans (Turn.alloc _ _ nowhere) (fun _ _ h => h))
  go_enter Try.func25, Try.ntmps25
  go_wp2_with (first
    | (go_at_call 47; refine (HB.out _).mono ?_; rintro e w' ⟨rfl, rfl⟩)
    | (go_at_call 48; refine HW.out.mono ?_; rintro e w' ⟨rfl, rfl⟩)
    | (go_at_call 49; refine (HS.out _).mono ?_; rintro e w' ⟨rfl, rfl⟩))
  clear hmk hmf
  generalize ((((w.alloc (.cells (room S) 5)).alloc (.cells #[.slice (some ⟨w.heap.size, 0, none⟩) 0 S] 23)).alloc (.cells #[.int .u8 0] 5)).alloc (.cells #[.int .i64 0] 3)) = W0 at HAcc HT0 ⊢
  have HD : Hid (Apart w.heap.size (w.heap.size + 1 + 1 + 1) (w.heap.size + 1 + 1) (w.heap.size + 1)) := Lib.hid (by unfold Apart; omega)
  have HG : Hid (w.heap.size ≤ w.heap.size + 1 + 1 + 1 ∧ w.heap.size ≤ w.heap.size + 1 + 1 ∧ w.heap.size ≤ w.heap.size + 1) := Lib.hid (by omega)
  generalize w.heap.size + 1 + 1 + 1 = U at HAcc HD HG ⊢
  generalize w.heap.size + 1 + 1 = L at HAcc HD HG ⊢
  generalize w.heap.size + 1 = O at HAcc HD HG ⊢
  go_loopw [31] (fun si wr => ∃ k : Nat, k ≤ n ∧ si = .int .i64 k ∧ Hid (Acc w.heap.size w.heap.size U L O S (packN v (l.take k)) (k * v) wr) ∧ Hid (Turn w wr nowhere)) (fun si _ => n - (intOf si).toNat)
  case atStart => exact ⟨0, Nat.zero_le _, rfl, Lib.hid (by rw [Nat.zero_mul]; exact HAcc.out), HT0⟩
  case round =>
    obtain ⟨k, hk, rfl, HA, HT⟩ := hrel
    by_cases hlt : k < n
    · rcases HForm.out with rfl | hn0
      · have q0 := HT.out.cell (HCell.out k hlt) id
        have hx := getD_u HIU.out (show k < l.length by rw [HLen.out]; exact hlt)
        have hfit : (l.getD k 0).toNat < 2 ^ v := by
          rw [List.getD_eq_getElem?_getD, List.getElem?_eq_getElem (show k < l.length by rw [HLen.out]; exact hlt)]
          exact (HF.out _ (List.getElem_mem _)).2
        have htk := take_getD l k (by rw [HLen.out]; exact hlt)
        have hX : packN v (l.take k) < 2 ^ (k * v) := by
          have h := packN_lt v (l.take k) (fun y hy => HF.out y (List.mem_of_mem_take hy))
          rwa [List.length_take, HLen.out, Nat.min_eq_left hk] at h
        have hNX : packN v (l.take (k + 1)) = packN v (l.take k) + (l.getD k 0).toNat * 2 ^ (k * v) := by
          rw [htk, packN_snoc, List.length_take, HLen.out, Nat.min_eq_left hk]
        obtain ⟨x, hx'⟩ := Int.eq_ofNat_of_zero_le hx.1
        rw [hx'] at q0 hfit hNX hx
        rw [Int.toNat_natCast] at hfit hNX
        have hbs : k * v + v ≤ 8 * S := by
          have h1 : (k + 1) * v ≤ n * v := Nat.mul_le_mul_right _ hlt
          rw [Nat.add_mul, Nat.one_mul] at h1
          have := HUS.out
          omega
        have HWR := Lib.hid (write_any w.heap.size w.heap.size U L O S (packN v (l.take k)) (k * v) x v wr HD.out HA.out hX (by omega) hv64 hbs)
        rw [Nat.mod_eq_of_lt hfit, ← hNX, show k * v + v = (k + 1) * v from by rw [Nat.add_mul, Nat.one_mul]] at HWR
        clear hx' hfit htk hX hNX hbs hx
        go_wp2_with (go_at_call 50; refine HWR.out.mono ?_; rintro e wn ⟨rfl, hA2, hT2⟩; have HA2 := Lib.hid hA2; have HT2 := Lib.hid hT2; clear hA2 hT2)
        go_roundw
        case rel => exact ⟨k + 1, by omega, by go_num, HA2, Lib.hid (HT.out.trans HT2.out (fun i hi h => by rcases h with rfl | rfl | rfl | rfl <;> have := HG.out <;> omega))⟩
        case measure => simp [intOf]; omega
      · exfalso; omega
    · obtain rfl : k = n := by omega
      have htk : l.take k = l := List.take_of_length_le (Nat.le_of_eq HLen.out)
      rw [htk] at HA
      have hX : packN v l < 2 ^ (k * v) := by
        have h := packN_lt v l HF.out
        rwa [HLen.out] at h
      have HWR := Lib.hid (write_any w.heap.size w.heap.size U L O S (packN v l) (k * v) 0 u wr HD.out HA.out hX (by decide) (by omega) (Nat.le_of_eq HUS.out))
      rw [Nat.zero_mod, Nat.zero_mul, Nat.add_zero, HUS.out] at HWR
      clear htk hX
      go_wp2_with (first
        | (go_at_call 51; refine (HU.out _).mono ?_; rintro e w' ⟨rfl, rfl⟩)
        | (go_at_call 50; refine HWR.out.mono ?_; rintro e wn ⟨rfl, hA2, hT2⟩; have HA2 := Lib.hid hA2; have HT2 := Lib.hid hT2; clear hA2 hT2; have c1 := HA2.out.out; rw [show 8 * S / 8 = S from by omega] at c1))
      go_ret2
      rw [← HR.out]
      exact putX_of HA2.out (HT.out.trans HT2.out (fun i hi h => by rcases h with rfl | rfl | rfl | rfl <;> have := HG.out <;> omega)).grown

/-- Put, whatever it is asked. -/
theorem put_any (a : Option Addr) (n c : Nat) (l : List Int) (v : Int) (w : World) (hs : Us.Seg w a n c l) (hu : IsU l) :
    Calls Try.prog 25 #[.slice a n c, .int .i64 v] w (PutX w (putR l v)) := by
  by_cases h : (putR l v).1 = 0
  · have hc := (canB_iff _ _).1 ((put_ok l v).1 h).1
    obtain ⟨v', rfl⟩ := Int.eq_ofNat_of_zero_le hc.2.2.1
    exact put_yes_any a n c l v' w hs hu h
  · exact put_no_any a n c l v w hs hu h
end Go.Proofs.Ytpcilohiokpmnaa.Pk
