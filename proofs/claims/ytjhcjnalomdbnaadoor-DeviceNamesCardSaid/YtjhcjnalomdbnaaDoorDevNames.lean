/-
  The device's laws: DeviceNames.
-/
import Derived.Test.YtjhcjnalomdbnaaDoorDevTwo
namespace Go.Proofs.YtjhcjnalomdbnaaDoor.Dv.Names
open Go.RowKit Bs

def A : List Int := rep 128 97
def B : List Int := rep 128 98
def C : List Int := rep 128 99
def s1 : St := { z8.burn with pend := [(1, A)] }
def s2 : St := { s1.burn with pend := [(1, A), (1, B)] }
def p1 : List (Int × Nat) := [(1, 2), (0, 1)]
def p2 : List (Int × Nat) := [(1, 0), (1, 0)]
def p3 : List (Int × Nat) := [(0, 4)]
def c1 : St := s2.crash p1
def s3 : St := s2.flush.2
def s4 : St := s3.rot 1 7 3
def s5 : St := s4.setFuse 1
def s6 : St := (s5.write 2 C).2
def s7 : St := s6.setFuse (-5)
def s9 : St := s7.flush.2

theorem h1 : z8.write 8 A = (2, z8) := by kernel_rfl
theorem h2 : z8.write 0 [97] = (2, z8) := by kernel_rfl
theorem h3 : z8.write 1 A = (0, s1) := by kernel_rfl
theorem h4 : s1.write 1 B = (0, s2) := by kernel_rfl
theorem h5 : c1.read 1 = (rep 64 97 ++ rep 64 98, 0) := by kernel_rfl
theorem h6 : s2.flush = (0, s3) := by kernel_rfl
theorem h7 : s3.read 1 = (B, 0) := by kernel_rfl
theorem h8 : s4.read 1 = ([226, 99] ++ rep 126 98, 0) := by kernel_rfl
theorem h9 : s5.write 2 C = (0, s6) := by kernel_rfl
theorem h10 : s6.flush = (8, s6) := by kernel_rfl
theorem h11 : s6.write 9 [] = (2, s6) := by kernel_rfl
theorem h12 : s7.flush = (0, s9) := by kernel_rfl
theorem h13 : s9.ops = 5 := by kernel_rfl
theorem h14 : s9.pend.length = 0 := by kernel_rfl
theorem h15 : c1.ops = 0 := by kernel_rfl
theorem k1 : picksOk s2 p1 := by
  intro i hi
  match i, hi with
  | 0, _ => exact ⟨by decide, by decide, by decide, fun k hk => by omega⟩
  | 1, _ => exact ⟨by decide, by decide, by decide, fun k hk => by
      obtain rfl : k = 0 := by omega
      decide⟩
theorem k2 : ¬ picksOk s2 p2 := fun h => (h 1 (by decide)).2.2.2 0 (by decide) rfl
theorem k3 : ¬ picksOk s2 p3 := fun h => absurd (h 0 (by decide)).2.2.1 (by decide)
theorem r1 : rotOk s3 1 7 3 := ⟨by decide, by decide, by decide, fun i hi => by
  have := bit_lt 3 2 i (by decide) hi
  show (7 : Int) + i < 8 * ((128 : Nat) : Int)
  omega⟩
theorem r2 : ¬ rotOk s4 1 1023 3 := fun h => by
  have := h.2.2.2 1 (by decide)
  have : (1023 : Int) + (1 : Nat) < 8 * ((128 : Nat) : Int) := this
  omega
theorem r3 : ¬ rotOk s4 1 0 0 := fun h => h.2.2.1 rfl

theorem seg_lit2 (W : World) (a b : Int) (m n : Nat) (ha : -9223372036854775808 ≤ a ∧ a ≤ 9223372036854775807) (hb : -9223372036854775808 ≤ b ∧ b ≤ 9223372036854775807) (hm : m < 18446744073709551616) (hn : n < 18446744073709551616) :
    PSeg (W.alloc (.cells #[.int .i64 a, .int .u64 (m : Int), .int .i64 b, .int .u64 (n : Int)] 36)) (some ⟨W.heap.size, 0, none⟩) 2 2 [(a, m), (b, n)] := by
  have hg := heap_alloc_new W (.cells #[.int .i64 a, .int .u64 (m : Int), .int .i64 b, .int .u64 (n : Int)] 36)
  refine ⟨rfl, Nat.le_refl _, by unfold maxLen; omega, (fun e => by cases e), fun ad had k hk => ?_, fun p hp => ?_⟩
  · cases had
    rw [Addr.add_lit, Addr.add_lit, Nat.zero_add, Nat.zero_add, cell_of_row _ _ _ _ _ _ hg, cell_of_row _ _ _ _ _ _ hg]
    match k, hk with
    | 0, _ => exact ⟨rfl, rfl⟩
    | 1, _ => exact ⟨rfl, rfl⟩
  · simp only [List.mem_cons, List.not_mem_nil, or_false] at hp
    rcases hp with rfl | rfl
    · exact ⟨ha.1, ha.2, hm⟩
    · exact ⟨hb.1, hb.2, hn⟩
theorem seg_lit1 (W : World) (a : Int) (m : Nat) (ha : -9223372036854775808 ≤ a ∧ a ≤ 9223372036854775807) (hm : m < 18446744073709551616) :
    PSeg (W.alloc (.cells #[.int .i64 a, .int .u64 (m : Int)] 36)) (some ⟨W.heap.size, 0, none⟩) 1 1 [(a, m)] := by
  have hg := heap_alloc_new W (.cells #[.int .i64 a, .int .u64 (m : Int)] 36)
  refine ⟨rfl, Nat.le_refl _, by unfold maxLen; omega, (fun e => by cases e), fun ad had k hk => ?_, fun p hp => ?_⟩
  · cases had
    rw [Addr.add_lit, Addr.add_lit, Nat.zero_add, Nat.zero_add, cell_of_row _ _ _ _ _ _ hg, cell_of_row _ _ _ _ _ _ hg]
    match k, hk with
    | 0, _ => exact ⟨rfl, rfl⟩
  · simp only [List.mem_cons, List.not_mem_nil, or_false] at hp
    subst hp
    exact ⟨ha.1, ha.2, hm⟩

set_option maxRecDepth 100000 in
set_option maxHeartbeats 8000000 in
theorem names_any (w : World) (hT : T64 w) (hT2 : T32 w) : Calls Tryd.prog 3 #[] w fun e w' => e = .returned (.bool true) ∧ Turn w w' nowhere := by
  have HL := Lib.hid (lives_any w hT)
  have HT := Lib.hid hT
  have HT2 := Lib.hid hT2
  have HFA := Lib.hid (fun w => full_any 97 128 w (by omega))
  have HFB := Lib.hid (fun w => full_any 98 128 w (by omega))
  have HFC := Lib.hid (fun w => full_any 99 128 w (by omega))
  have HA : Hid (strOfNums A = strep 128 97) := Lib.hid rfl
  have HB : Hid (strOfNums B = strep 128 98) := Lib.hid rfl
  have HC : Hid (strOfNums C = strep 128 99) := Lib.hid rfl
  clear hT hT2
  go_enter Tryd.func3, Tryd.ntmps3
  go_wp2_with fail
  refine HL.out.mono ?_
  rintro e w1 ⟨rfl, t1⟩
  go_wp2_with fail
  refine (small_any _).mono ?_
  rintro e w2 ⟨rfl, t2⟩
  go_wp2_with fail
  refine (new_yes 128 8 w2 (by decide)).mono ?_
  intro e w3 hx
  obtain ⟨g, b, rfl, hd3, _⟩ := held_new (t1.trans t2 (fun _ _ h => h)) hx
  have hd3 : Held w w3 g b _ z8 := hd3
  clear hx t1 t2
  dsimp only
  -- New of another geometry
  go_wp2_with fail
  refine (new_no 130 8 _ (by decide)).mono ?_
  rintro e w4 ⟨rfl, t4⟩
  have hd4 := hd3.go t4
  clear hd3 t4
  dsimp only
  -- Load
  go_wp2_with fail
  refine (small_any _).mono ?_
  rintro e w5 ⟨rfl, t5⟩
  have hd5 := hd4.go t5
  clear hd4 t5
  go_wp2_with fail
  refine (load_no 128 8 _ w5 (by decide) (by decide)).mono ?_
  rintro e w6 ⟨rfl, t6⟩
  have hd6 := hd5.go t6
  clear hd5 t6
  dsimp only
  -- Write(8, ..)
  go_wp2_with fail
  refine (HFA.out _).mono ?_
  rintro e w7 ⟨rfl, rfl⟩
  rw [← HA.out]
  go_wp2_with fail
  refine (write_any g b _ z8 8 A w6 hd6.dev (rep_isB _ _ (by omega)) (by decide) (by decide) (by decide)).mono ?_
  intro e w7 hx
  obtain ⟨P7, rfl, hd7, _, _⟩ := hd6.wrote hx
  rw [h1] at hd7
  rw [h1]
  clear hx hd6
  dsimp only at hd7 ⊢
  -- Write(0, "a")
  go_wp2_with fail
  refine (write_any g b _ z8 0 [97] w7 hd7.dev (rep_isB 1 97 (by omega)) (by decide) (by decide) (by decide)).mono ?_
  intro e w8 hx
  obtain ⟨P8, rfl, hd8, _, _⟩ := hd7.wrote hx
  rw [h2] at hd8
  rw [h2]
  clear hx hd7
  dsimp only at hd8 ⊢
  -- Write(1, A)
  go_wp2_with fail
  refine (HFA.out _).mono ?_
  rintro e w9 ⟨rfl, rfl⟩
  rw [← HA.out]
  go_wp2_with fail
  refine (write_any g b _ z8 1 A w8 hd8.dev (rep_isB _ _ (by omega)) (by decide) (by decide) (by decide)).mono ?_
  intro e w9 hx
  obtain ⟨P9, rfl, hd9, _, _⟩ := hd8.wrote hx
  rw [h3] at hd9
  rw [h3]
  clear hx hd8
  dsimp only at hd9 ⊢
  -- Write(1, B)
  go_wp2_with fail
  refine (HFB.out _).mono ?_
  rintro e w10 ⟨rfl, rfl⟩
  rw [← HB.out]
  go_wp2_with fail
  refine (write_any g b _ s1 1 B w9 hd9.dev (rep_isB _ _ (by omega)) (by decide) (by decide) (by decide)).mono ?_
  intro e w10 hx
  obtain ⟨P10, rfl, hd10, _, _⟩ := hd9.wrote hx
  rw [h4] at hd10
  rw [h4]
  clear hx hd9
  dsimp only at hd10 ⊢
  -- Crash
  go_wp2_with fail
  refine (crash_yes g b P10 s2 _ 2 2 p1 _ (hd10.go (Turn.alloc _ _ _)).dev (seg_lit2 w10 1 0 2 1 (by omega) (by omega) (by omega) (by omega)) k1 (HT.out.held (hd10.go (Turn.alloc _ _ _)))).mono ?_
  intro e w11 hx
  obtain ⟨g', b', rfl, hc11, _, t11⟩ := held_crash ((hd10.go (Turn.alloc w10 _ _)).turn) hx
  have hw11 : Two w w11 g b P10 s2 g' b' _ c1 := Two.start (hd10.go (Turn.alloc w10 _ _)) t11 hc11
  clear hx hd10 hc11 t11
  dsimp only
  -- Crash of the same twice
  go_wp2_with fail
  refine (crash_no g b P10 s2 _ 2 2 p2 _ (hw11.go (Turn.alloc _ _ _)).d.dev (seg_lit2 w11 1 1 0 0 (by omega) (by omega) (by omega) (by omega)) k2).mono ?_
  rintro e w12 ⟨rfl, t12⟩
  have hw12 := (hw11.go (Turn.alloc w11 _ _)).go t12
  clear hw11 t12
  dsimp only
  -- Crash of a sector too far
  go_wp2_with fail
  refine (crash_no g b P10 s2 _ 1 1 p3 _ (hw12.go (Turn.alloc _ _ _)).d.dev (seg_lit1 w12 0 4 (by omega) (by omega)) k3).mono ?_
  rintro e w13 ⟨rfl, t13⟩
  have hw13 := (hw12.go (Turn.alloc w12 _ _)).go t13
  clear hw12 t13
  dsimp only
  -- c.Read
  go_wp2_with fail
  refine (read_any g' b' _ c1 1 w13 hw13.c.dev).mono ?_
  rw [h5]
  rintro e w14 ⟨rfl, t14⟩
  have hw14 := hw13.go t14
  clear hw13 t14
  dsimp only
  -- Flush
  go_wp2_with fail
  refine (flush_any g b P10 s2 w14 hw14.d.dev (by decide)).mono ?_
  intro e w15 hx
  obtain ⟨P15, rfl, hw15⟩ := hw14.wrote hx
  rw [h6] at hw15
  rw [h6]
  clear hx hw14
  dsimp only at hw15 ⊢
  -- Read
  go_wp2_with fail
  refine (read_any g b _ s3 1 w15 hw15.d.dev).mono ?_
  rw [h7]
  rintro e w16 ⟨rfl, t16⟩
  have hw16 := hw15.go t16
  clear hw15 t16
  dsimp only
  -- Rot
  go_wp2_with fail
  refine (rot_yes g b P15 s3 1 7 3 w16 hw16.d.dev (by decide) r1 (HT2.out.held hw16.d) (HT2.out.ne hw16.d)).mono ?_
  intro e w17 hx
  obtain ⟨rfl, hw17⟩ := hw16.rot hx
  have hw17 : Two w w17 g b P15 s4 g' b' _ c1 := hw17
  clear hx hw16
  dsimp only
  -- Read
  go_wp2_with fail
  refine (read_any g b _ s4 1 w17 hw17.d.dev).mono ?_
  rw [h8]
  rintro e w18 ⟨rfl, t18⟩
  have hw18 := hw17.go t18
  clear hw17 t18
  dsimp only
  -- Rot beyond the end, Rot of nothing
  go_wp2_with fail
  refine (rot_no g b P15 s4 1 1023 3 w18 hw18.d.dev (by decide) (by decide) r2).mono ?_
  rintro e w19 ⟨rfl, t19⟩
  have hw19 := hw18.go t19
  clear hw18 t19
  dsimp only
  go_wp2_with fail
  refine (rot_no g b P15 s4 1 0 0 w19 hw19.d.dev (by decide) (by decide) r3).mono ?_
  rintro e w20 ⟨rfl, t20⟩
  have hw20 := hw19.go t20
  clear hw19 t20
  dsimp only
  -- Fuse
  go_wp2_with fail
  refine (fuse_any g b P15 s4 1 w20 hw20.d.dev (by decide)).mono ?_
  intro e w21 hx
  obtain ⟨rfl, hw21⟩ := hw20.fused hx
  have hw21 : Two w w21 g b P15 s5 g' b' _ c1 := hw21
  clear hx hw20
  try dsimp only
  -- Write(2, C)
  go_wp2_with fail
  refine (HFC.out _).mono ?_
  rintro e w22 ⟨rfl, rfl⟩
  rw [← HC.out]
  go_wp2_with fail
  refine (write_any g b _ s5 2 C w21 hw21.d.dev (rep_isB _ _ (by omega)) (by decide) (by decide) (by decide)).mono ?_
  intro e w22 hx
  obtain ⟨P22, rfl, hw22⟩ := hw21.wrote hx
  rw [h9] at hw22
  rw [h9]
  clear hx hw21
  dsimp only at hw22 ⊢
  -- Flush
  go_wp2_with fail
  refine (flush_any g b P22 s6 w22 hw22.d.dev (by decide)).mono ?_
  intro e w23 hx
  obtain ⟨P23, rfl, hw23⟩ := hw22.wrote hx
  rw [h10] at hw23
  rw [h10]
  clear hx hw22
  dsimp only at hw23 ⊢
  -- Write(9, "")
  go_wp2_with fail
  refine (write_any g b _ s6 9 [] w23 hw23.d.dev isB_nil (by decide) (by decide) (by decide)).mono ?_
  intro e w24 hx
  obtain ⟨P24, rfl, hw24⟩ := hw23.wrote hx
  rw [h11] at hw24
  rw [h11]
  clear hx hw23
  dsimp only at hw24 ⊢
  -- Fuse
  go_wp2_with fail
  refine (fuse_any g b P24 s6 (-5) w24 hw24.d.dev (by decide)).mono ?_
  intro e w25 hx
  obtain ⟨rfl, hw25⟩ := hw24.fused hx
  have hw25 : Two w w25 g b P24 s7 g' b' _ c1 := hw25
  clear hx hw24
  try dsimp only
  -- Flush
  go_wp2_with fail
  refine (flush_any g b P24 s7 w25 hw25.d.dev (by decide)).mono ?_
  intro e w26 hx
  obtain ⟨P26, rfl, hw26⟩ := hw25.wrote hx
  rw [h12] at hw26
  rw [h12]
  clear hx hw25
  dsimp only at hw26 ⊢
  have e1 : strOfNums (rep 64 97 ++ rep 64 98) = strep 64 97 ++ strep 64 98 := rfl
  have e2 : strOfNums (226 :: 99 :: rep 126 98) = ⟨#[226, 99]⟩ ++ strep 126 98 := (str_append [226, 99] (rep 126 98)).symm
  have HO := Lib.hid (ops_any g b P26 s9 w26 hw26.d.dev)
  have HPE := Lib.hid (pending_any g b P26 s9 w26 hw26.d.dev)
  rw [h13] at HO
  rw [h14] at HPE
  have HW := Lib.hid hw26
  have F1 := Lib.hid (fun w => full_any 97 64 w (by omega))
  have F2 := Lib.hid (fun w => full_any 98 64 w (by omega))
  have F3 := Lib.hid (fun w => full_any 98 126 w (by omega))
  have z1 : ¬ 9223372036854775807 < (strep 64 97).size + (strep 64 98).size := by rw [strep_size, strep_size]; omega
  have z2 : ¬ 9223372036854775807 < 2 + (strep 126 98).size := by rw [strep_size]; omega
  rw [e1, e2, HB.out]
  clear e1 e2 hw26
  generalize strep 64 97 = X1 at *
  generalize strep 64 98 = X2 at *
  generalize strep 128 98 = Y at *
  generalize strep 126 98 = Z at *
  go_wp2_with fail
  refine (F1.out _).mono ?_
  rintro e w27 ⟨rfl, rfl⟩
  go_wp2_with fail
  refine (F2.out _).mono ?_
  rintro e w27 ⟨rfl, rfl⟩
  go_wp2_with fail
  refine (HFB.out _).mono ?_
  rintro e w27 ⟨rfl, rfl⟩
  go_wp2_with fail
  refine (F3.out _).mono ?_
  rintro e w27 ⟨rfl, rfl⟩
  go_wp2_with fail
  refine HO.out.mono ?_
  rintro e w27 ⟨rfl, rfl⟩
  go_wp2_with fail
  refine (flush_nil _).mono ?_
  rintro e w27 ⟨rfl, rfl⟩
  go_wp2_with fail
  refine (ops_nil _).mono ?_
  rintro e w27 ⟨rfl, rfl⟩
  go_wp2_with fail
  refine HPE.out.mono ?_
  rintro e w27 ⟨wa, wc, rfl, _, _, t27⟩
  have HOC := Lib.hid (ops_any g' b' _ c1 w27 (HW.out.go t27).c.dev)
  rw [h15] at HOC
  have HTF := Lib.hid (HW.out.go t27).d.turn
  clear t27
  go_wp2_with fail
  refine HOC.out.mono ?_
  rintro e w28 ⟨rfl, rfl⟩
  go_wp2
  go_ret
  refine ⟨?_, HTF.out⟩
  trace_state
  simp
end Go.Proofs.YtjhcjnalomdbnaaDoor.Dv.Names
