/-
  What the program's and the document's functions do, in memory and as plain functions: PkAcc, PkPut.
-/
import Derived.BigRegion
import Derived.Lib.AppendZeros
import Derived.Laws.MakeOwn
import Derived.Test.YtljanfnhmhimiaaGreatSmD
import Derived.Test.YtljanfnhmhimiaaGreatSmF

namespace Go.Proofs.YtljanfnhmhimiaaGreat.Pk
open Go.RowKit Bs Dv

/-- 'append(s, x)' onto a row of the call's own that has room: in place. -/
theorem run_append_one {P : Program} (w : World) (t ty e : TypeId) (i : TypeInfo) (ht : P.underlying t = some (.slice e)) (hi : P.info? e = some i) (hsize : i.size = 1)
    (base g n S : Nat) (xs : List Value) (x : Value) (hown : w.ownsRow base e 1 (.slice (some ⟨g, 0, none⟩) n S) n xs) (hroom : n + 1 ≤ S) (B c : Nat) (hx : w.cell? ⟨B, 0, none⟩ = some x) (h1 : x.oneCell' = true) :
    ∃ w', (Builtin.append_ #[t, t] ty #[.slice (some ⟨g, 0, none⟩) n S, .slice (some ⟨B, 0, none⟩) 1 c]).run P w = .ok (.slice (some ⟨g, 0, none⟩) (n + 1) S) w' ∧
      w'.ownsRow base e 1 (.slice (some ⟨g, 0, none⟩) (n + 1) S) (n + 1) (xs ++ [x]) ∧ w.grownBy w' (some g) := by
  rcases hown.2 with ⟨e1, _⟩ | ⟨g0, cap, cur, e1, hbg, hg, hnc, hcm, hcs, htake⟩
  · cases e1
  · cases e1
    have hcs' : cur.size = S := by simpa using hcs
    have hr := run_append_room (P := P) w t ty e i ht hi g n S cur hg ⟨B, 0, none⟩ 1 c [x] (by simp [hsize])
      (by
        intro j u hu
        cases j with
        | zero => simp at hu; subst hu; simpa [Addr.add] using hx
        | succ j => simp at hu) (by intro u hu; simp at hu; subst hu; exact h1) hroom (by simp [hsize]; omega)
    refine ⟨_, hr, ⟨by simp [show xs.length = n by simpa using hown.1], .inr ⟨g, S, _, rfl, hbg, setRow_heap w g cur _ e _ hg, hroom, hcm, ?_, ?_⟩⟩, ⟨rfl, rfl, rfl, by simp [World.setRow], fun k _ hk => setRow_other w g k _ (fun e => hk (by rw [e]))⟩⟩
    · simp only [List.size_toArray, List.length_append, List.length_take, List.length_drop, Array.length_toList, hsize, List.length_singleton]
      omega
    · have hx1 : xs.length = n := by simpa using hown.1
      have ht' : cur.toList.take n = xs := by simpa using htake
      simp only [hsize, Nat.mul_one]
      rw [ht', show n + 1 = (xs ++ [x]).length from by simp [hx1]]
      exact List.take_left

theorem getL_low (X Y p m : Nat) (h : m * 8 ≤ p) : getL 8 (X + Y * 2 ^ p) m = getL 8 X m := by
  rw [← getL_mod 8 m (X + Y * 2 ^ p), ← getL_mod 8 m X]
  congr 1
  have e : 2 ^ p = 2 ^ (m * 8) * 2 ^ (p - m * 8) := by rw [← Nat.pow_add]; congr 1; omega
  rw [e, ← Nat.mul_assoc, Nat.mul_comm Y, Nat.mul_assoc, Nat.add_mul_mod_self_left]

def Apart (g U L O : Nat) : Prop := g ≠ O ∧ g ≠ L ∧ g ≠ U ∧ O ≠ L ∧ O ≠ U ∧ L ≠ U
def Here (g U L O : Nat) (i : Nat) : Prop := i = g ∨ i = U ∨ i = L ∨ i = O

theorem own_set {W : World} {base e g n c B o : Nat} {xs : List Value} {v : Value} (h : W.ownsRow base e 1 (.slice (some ⟨g, 0, none⟩) n c) n xs) (hB : g ≠ B) : (W.setCell ⟨B, o, none⟩ v).ownsRow base e 1 (.slice (some ⟨g, 0, none⟩) n c) n xs :=
  h.kept (row := some B) ⟨rfl, rfl, rfl, by simp [World.setCell], fun k _ hk => Below.heap_setCell _ _ _ _ (fun e => hk (by rw [e]))⟩ (.inr (by simp [Value.ownBlock]; exact hB))
theorem cell_other {W : World} {B B' : Nat} {v u : Value} (h : W.cell? ⟨B, 0, none⟩ = some u) (hB : B ≠ B') : (W.setCell ⟨B', 0, none⟩ v).cell? ⟨B, 0, none⟩ = some u :=
  Turn.cell (Turn.setCell W ⟨B', 0, none⟩ v (S := fun i => i = B') rfl) h hB
theorem froz_any {W : World} {B B' : Nat} {v : Value} (h : W.frozen? ⟨B, 0, none⟩ = false) : (W.setCell ⟨B', 0, none⟩ v).frozen? ⟨B, 0, none⟩ = false := by
  rw [World.frozen?_setCell]; exact h
theorem cell_same {W : World} {B : Nat} {v u : Value} (h : W.cell? ⟨B, 0, none⟩ = some u) : (W.setCell ⟨B, 0, none⟩ v).cell? ⟨B, 0, none⟩ = some v :=
  World.cell?_setCell_same' _ _ _ (by rw [h]; rfl)

/-- the row, and the three boxes, whatever they hold -/
structure Boxes (base g U L O S m : Nat) (xs : List Value) (T u : Int) (W : World) : Prop where
  row : W.ownsRow base 5 1 (.slice (some ⟨g, 0, none⟩) m S) m xs
  out : W.cell? ⟨O, 0, none⟩ = some (.slice (some ⟨g, 0, none⟩) m S)
  last : W.cell? ⟨L, 0, none⟩ = some (.int .u8 T)
  used : W.cell? ⟨U, 0, none⟩ = some (.int .i64 u)
  fo : W.frozen? ⟨O, 0, none⟩ = false
  fl : W.frozen? ⟨L, 0, none⟩ = false
  fu : W.frozen? ⟨U, 0, none⟩ = false
theorem Boxes.drew {base g U L O S m : Nat} {xs : List Value} {T u : Int} {W : World} (h : Boxes base g U L O S m xs T u W) : Boxes base g U L O S m xs T u W.drew := ⟨h.row, h.out, h.last, h.used, h.fo, h.fl, h.fu⟩
theorem Boxes.alloc {base g U L O S m : Nat} {xs : List Value} {T u : Int} {W : World} (h : Boxes base g U L O S m xs T u W) (o : Obj) : Boxes base g U L O S m xs T u (W.alloc o) := by
  have k := Turn.alloc W o nowhere
  have lt : ∀ {B v}, W.cell? ⟨B, 0, none⟩ = some v → B < W.heap.size := fun h => World.block_lt_of_cell? W _ h
  exact ⟨h.row.alloc o, k.cell h.out id, k.cell h.last id, k.cell h.used id, (k.frozen (p := ⟨O, 0, none⟩) (lt h.out) id).trans h.fo, (k.frozen (p := ⟨L, 0, none⟩) (lt h.last) id).trans h.fl, (k.frozen (p := ⟨U, 0, none⟩) (lt h.used) id).trans h.fu⟩
theorem cell_new (W : World) (v : Value) (t : TypeId) : (W.alloc (.cells #[v] t)).cell? ⟨W.heap.size, 0, none⟩ = some v := by
  have h : (W.alloc (.cells #[v] t)).heap[W.heap.size]? = some (.cells #[v] t) := heap_alloc_new W _
  unfold World.cell?
  rw [show (⟨W.heap.size, 0, none⟩ : Addr).block = W.heap.size from rfl, h]
  rfl
theorem froz_new (W : World) (v : Value) (t : TypeId) : (W.alloc (.cells #[v] t)).frozen? ⟨W.heap.size, 0, none⟩ = false := by
  have h : (W.alloc (.cells #[v] t)).heap[W.heap.size]? = some (.cells #[v] t) := heap_alloc_new W _
  unfold World.frozen?
  rw [show (⟨W.heap.size, 0, none⟩ : Addr).block = W.heap.size from rfl, h]
  rfl
theorem Boxes.setL {base g U L O S m : Nat} {xs : List Value} {T u : Int} {W : World} (h : Boxes base g U L O S m xs T u W) (hd : Apart g U L O) (T' : Int) : Boxes base g U L O S m xs T' u (W.setCell ⟨L, 0, none⟩ (.int .u8 T')) := by
  obtain ⟨d1, d2, d3, d4, d5, d6⟩ := hd
  exact ⟨own_set h.row d2, cell_other h.out d4, cell_same h.last, cell_other h.used (Ne.symm d6), froz_any h.fo, froz_any h.fl, froz_any h.fu⟩
theorem Boxes.setU {base g U L O S m : Nat} {xs : List Value} {T u : Int} {W : World} (h : Boxes base g U L O S m xs T u W) (hd : Apart g U L O) (u' : Int) : Boxes base g U L O S m xs T u' (W.setCell ⟨U, 0, none⟩ (.int .i64 u')) := by
  obtain ⟨d1, d2, d3, d4, d5, d6⟩ := hd
  exact ⟨own_set h.row d3, cell_other h.out d5, cell_other h.last d6, cell_same h.used, froz_any h.fo, froz_any h.fl, froz_any h.fu⟩
/-- the byte behind the others, both boxes empty again -/
theorem Boxes.push {base g U L O S m : Nat} {xs : List Value} {T u : Int} {W W5 : World} (h : Boxes base g U L O S m xs T u W) (hd : Apart g U L O) (x : Value) (hg : W.grownBy W5 (some g)) (hr : W5.ownsRow base 5 1 (.slice (some ⟨g, 0, none⟩) (m + 1) S) (m + 1) (xs ++ [x])) :
    (W5.cell? ⟨O, 0, none⟩ = some (.slice (some ⟨g, 0, none⟩) m S) ∧ W5.frozen? ⟨O, 0, none⟩ = false) ∧ (W5.cell? ⟨L, 0, none⟩ = some (.int .u8 T) ∧ W5.frozen? ⟨L, 0, none⟩ = false) ∧ (W5.cell? ⟨U, 0, none⟩ = some (.int .i64 u) ∧ W5.frozen? ⟨U, 0, none⟩ = false) ∧
      Boxes base g U L O S (m + 1) (xs ++ [x]) T u (W5.setCell ⟨O, 0, none⟩ (.slice (some ⟨g, 0, none⟩) (m + 1) S)) := by
  obtain ⟨d1, d2, d3, d4, d5, d6⟩ := hd
  have k := Turn.of_grown (S := fun i => i = g) hg (fun i e _ => by cases e; rfl)
  have lt : ∀ {B v}, W.cell? ⟨B, 0, none⟩ = some v → B < W.heap.size := fun h => World.block_lt_of_cell? W _ h
  have o5 := k.cell h.out (Ne.symm d1)
  have f5 := (k.frozen (p := ⟨O, 0, none⟩) (lt h.out) (Ne.symm d1)).trans h.fo
  have l5 := k.cell h.last (Ne.symm d2)
  have u5 := k.cell h.used (Ne.symm d3)
  have fl5 := (k.frozen (p := ⟨L, 0, none⟩) (lt h.last) (Ne.symm d2)).trans h.fl
  have fu5 := (k.frozen (p := ⟨U, 0, none⟩) (lt h.used) (Ne.symm d3)).trans h.fu
  exact ⟨⟨o5, f5⟩, ⟨l5, fl5⟩, ⟨u5, fu5⟩, own_set hr d1, cell_same o5, cell_other l5 (Ne.symm d4), cell_other u5 (Ne.symm d5), froz_any f5, froz_any fl5, froz_any fu5⟩

/-- what was written: X in b bits; whole bytes in the row g, the bits of the last one in L, how many in U -/
def Acc (base g U L O S X b : Nat) (W : World) : Prop := Boxes base g U L O S (b / 8) ((getL 8 X (b / 8)).map (Value.int .u8)) ((X / 2 ^ (b / 8 * 8) : Nat) : Int) ((b % 8 : Nat) : Int) W

/-- some bits more, the byte not yet full -/
theorem acc_part {base g U L O S Y c y k u q T : Nat} {W : World} (hu : c % 8 = u) (hq : c / 8 = q) (hk : u + k < 8) (hT : Y / 2 ^ (q * 8) = T) (h : Boxes base g U L O S q ((getL 8 Y q).map (Value.int .u8)) ((T + y * 2 ^ u : Nat) : Int) ((u + k : Nat) : Int) W) :
    Acc base g U L O S (Y + y * 2 ^ c) (c + k) W := by
  unfold Acc
  have e1 : (c + k) / 8 = q := by omega
  have e2 : (c + k) % 8 = u + k := by omega
  have e3 : 2 ^ c = 2 ^ (q * 8) * 2 ^ u := by rw [← Nat.pow_add]; congr 1; omega
  rw [e1, e2, getL_low Y y c q (by omega)]
  have e4 : (Y + y * 2 ^ c) / 2 ^ (q * 8) = T + y * 2 ^ u := by
    rw [e3, ← Nat.mul_assoc, Nat.mul_comm y, Nat.mul_assoc, Nat.add_mul_div_left _ _ (two_pos _), hT]
  rw [e4]
  exact h
/-- the byte full -/
theorem acc_full {base g U L O S Y c y k u q T : Nat} {W : World} (hu : c % 8 = u) (hq : c / 8 = q) (hk : u + k = 8) (hT : Y / 2 ^ (q * 8) = T) (hT2 : T < 2 ^ u) (hy : y < 2 ^ k)
    (h : Boxes base g U L O S (q + 1) ((getL 8 Y q).map (Value.int .u8) ++ [Value.int .u8 ((T + y * 2 ^ u : Nat) : Int)]) 0 0 W) :
    Acc base g U L O S (Y + y * 2 ^ c) (c + k) W := by
  unfold Acc
  have e1 : (c + k) / 8 = q + 1 := by omega
  have e2 : (c + k) % 8 = 0 := by omega
  have e3 : 2 ^ c = 2 ^ (q * 8) * 2 ^ u := by rw [← Nat.pow_add]; congr 1; omega
  have e4 : (Y + y * 2 ^ c) / 2 ^ (q * 8) = T + y * 2 ^ u := by
    rw [e3, ← Nat.mul_assoc, Nat.mul_comm y, Nat.mul_assoc, Nat.add_mul_div_left _ _ (two_pos _), hT]
  have e5 : T + y * 2 ^ u < 2 ^ 8 := by
    have h1 : (y + 1) * 2 ^ u ≤ 2 ^ k * 2 ^ u := Nat.mul_le_mul_right _ hy
    rw [← Nat.pow_add, Nat.add_comm k u, hk, Nat.add_mul, Nat.one_mul] at h1
    omega
  rw [e1, e2, getL_snoc, getL_low Y y c q (by omega), e4, Nat.mod_eq_of_lt e5]
  have e6 : (Y + y * 2 ^ c) / 2 ^ ((q + 1) * 8) = 0 := by
    rw [Nat.add_mul, Nat.one_mul, Nat.pow_add, ← Nat.div_div_eq_div_mul, e4]
    exact Nat.div_eq_of_lt e5
  rw [e6, List.map_append]
  exact h

theorem put_val (T u k y m : Nat) (z : Nat) (hz : z < 18446744073709551616) (hy : z % 2 ^ k = y) (hk : k ≤ 8) (huk : u + k ≤ 8) (hT : T < 2 ^ u) (hm : y * 2 ^ u = m) :
    bits .and .u64 (z : Int) (IntKind.u64.wrap (IntKind.u64.wrap (2 ^ k) - 1)) = (y : Int) ∧ (y : Int) % 256 = (y : Int) ∧ (y : Int) * 2 ^ u % 256 = (m : Int) ∧ bits .or .u8 (T : Int) (m : Int) = ((T + y * 2 ^ u : Nat) : Int) ∧ y < 2 ^ k := by
  have hy2 : y < 2 ^ k := by rw [← hy]; exact Nat.mod_lt _ (two_pos k)
  have h8 : 2 ^ k ≤ 2 ^ 8 := Nat.pow_le_pow_right (by decide) hk
  have hm2 : m < 2 ^ 8 := by rw [← hm]; exact shl_lt y u k 8 hy2 huk
  have hT2 : T < 2 ^ 8 := Nat.lt_of_lt_of_le hT (Nat.pow_le_pow_right (by decide) (by omega))
  refine ⟨by rw [and_mask z k hz (by omega), hy], by omega, ?_, ?_, hy2⟩
  · rw [mul_cast, hm]; omega
  · rw [u8_or_nat T m hT2 hm2, ← hm, or_add T y u hT]

set_option maxHeartbeats 2000000 in
theorem write_any (base g U L O S X b v n : Nat) (w : World) (hd : Apart g U L O) (hA : Acc base g U L O S X b w) (hX : X < 2 ^ b) (hv : v < 18446744073709551616) (hn : n ≤ 64) (hS : b + n ≤ 8 * S) :
    Calls Tryz.prog 86 #[.int .u64 v, .int .i64 n, .pointer (some ⟨U, 0, none⟩), .pointer (some ⟨L, 0, none⟩), .pointer (some ⟨O, 0, none⟩)] w fun e w' =>
      e = .returned (.tuple #[]) ∧ Acc base g U L O S (X + v % 2 ^ n * 2 ^ b) (b + n) w' ∧ Turn w w' (Here g U L O) := by
  obtain ⟨i0, hi, hz0, hz1, hzz⟩ := info_parts info_u8
  have HD := Lib.hid hd
  have HA := Lib.hid hA
  have HX := Lib.hid hX
  clear hA hX hd
  go_enter Tryz.func86, Tryz.ntmps86
  go_wp2
  go_loopw [0, 1] (fun sv sn wr => ∃ d r z : Nat, sv = .int .u64 z ∧ sn = .int .i64 r ∧ d + r = n ∧ Hid (z = v / 2 ^ d) ∧ Hid (Acc base g U L O S (X + v % 2 ^ d * 2 ^ b) (b + d) wr) ∧ Hid (Turn w wr (Here g U L O))) (fun _ sn _ => (intOf sn).toNat)
  case atStart => exact ⟨0, n, v, rfl, rfl, by omega, Lib.hid (by simp), Lib.hid (by rw [Nat.pow_zero, Nat.mod_one, Nat.zero_mul, Nat.add_zero, Nat.add_zero]; exact HA.out), Lib.hid (Turn.refl _ _)⟩
  case round =>
    obtain ⟨d, r, z, rfl, rfl, hdr, HZ, HC, HT⟩ := hrel
    by_cases hr : 0 < r
    · obtain ⟨Y, hY⟩ : ∃ Y, X + v % 2 ^ d * 2 ^ b = Y := ⟨_, rfl⟩
      obtain ⟨c, hc⟩ : ∃ c, b + d = c := ⟨_, rfl⟩
      obtain ⟨u, hu⟩ : ∃ u, c % 8 = u := ⟨_, rfl⟩
      obtain ⟨q, hq⟩ : ∃ q, c / 8 = q := ⟨_, rfl⟩
      have hYlt : Y < 2 ^ c := by
        rw [← hY, ← hc]
        have h1 := Nat.mod_lt v (two_pos d)
        have h2 : (v % 2 ^ d + 1) * 2 ^ b ≤ 2 ^ d * 2 ^ b := Nat.mul_le_mul_right _ h1
        rw [Nat.add_mul, ← Nat.pow_add, Nat.one_mul, Nat.add_comm d b] at h2
        have := HX.out
        omega
      rw [hY, hc] at HC
      obtain ⟨T, hT⟩ : ∃ T, Y / 2 ^ (q * 8) = T := ⟨_, rfl⟩
      have hTlt : T < 2 ^ u := by
        rw [← hT]
        refine Nat.div_lt_of_lt_mul ?_
        rw [← Nat.pow_add, show q * 8 + u = c from by omega]; exact hYlt
      have hT8 : T < 256 := Nat.lt_of_lt_of_le hTlt (show 2 ^ u ≤ 2 ^ 8 from Nat.pow_le_pow_right (by decide) (by omega))
      have HBX : Hid (Boxes base g U L O S q ((getL 8 Y q).map (Value.int .u8)) (T : Int) (u : Int) wr) := Lib.hid (by
        have h := HC.out
        unfold Acc at h
        rw [hq, hT, hu] at h; exact h)
      have hu8 : u < 8 := by omega
      obtain ⟨s, hs⟩ : ∃ s, 8 - u = s := ⟨_, rfl⟩
      have e1 : (8 : Int) - (u : Int) = (s : Int) := by omega
      have hzlt : z < 18446744073709551616 := by rw [HZ.out]; exact Nat.lt_of_le_of_lt (Nat.div_le_self _ _) hv
      have hr64 : r ≤ 64 := by omega
      obtain ⟨k, hk⟩ : ∃ k, min r s = k := ⟨_, rfl⟩
      have hk1 : 1 ≤ k := by omega
      have hk8 : k ≤ 8 := by omega
      have huk : u + k ≤ 8 := by omega
      have HNEW : Hid (X + v % 2 ^ (d + k) * 2 ^ b = Y + z % 2 ^ k * 2 ^ c) := Lib.hid (by
        rw [← hY, ← hc, HZ.out, ← acc_at, Nat.add_mul, Nat.mul_assoc, ← Nat.pow_add, Nat.add_comm d b, Nat.add_assoc])
      have HZ2 : Hid (z / 2 ^ k = v / 2 ^ (d + k)) := Lib.hid (by rw [HZ.out, Nat.div_div_eq_div_mul, ← Nat.pow_add])
      obtain ⟨y, hy⟩ : ∃ y, z % 2 ^ k = y := ⟨_, rfl⟩
      obtain ⟨m, hm⟩ : ∃ m, y * 2 ^ u = m := ⟨_, rfl⟩
      obtain ⟨v1, v2, v3, v4, hylt⟩ := put_val T u k y m z hzlt hy hk8 huk hTlt hm
      obtain ⟨T2, hT2⟩ : ∃ T2, T + y * 2 ^ u = T2 := ⟨_, rfl⟩
      rw [hy] at HNEW
      rw [hT2] at v4
      obtain ⟨z2, hz2⟩ : ∃ z2, z / 2 ^ k = z2 := ⟨_, rfl⟩
      have v5 : (z : Int) / 2 ^ k = (z2 : Int) := by rw [div_cast _ _ (Int.natCast_nonneg z), Int.toNat_natCast, hz2]
      rw [hz2] at HZ2
      obtain ⟨r2, hr2⟩ : ∃ r2, r - k = r2 := ⟨_, rfl⟩
      have v6 : (r : Int) - (k : Int) = (r2 : Int) := by omega
      obtain ⟨u2, hu2⟩ : ∃ u2, u + k = u2 := ⟨_, rfl⟩
      have v7 : (u : Int) + (k : Int) = (u2 : Int) := by omega
      have hr2n : d + k + r2 = n := by omega
      have hr2r : r2 < r := by omega
      have hroom : q + (u2 / 8) ≤ S := by omega
      have HPART : Hid (∀ W, u2 < 8 → Boxes base g U L O S q ((getL 8 Y q).map (Value.int .u8)) (T2 : Int) (u2 : Int) W → Acc base g U L O S (X + v % 2 ^ (d + k) * 2 ^ b) (b + (d + k)) W) := Lib.hid (fun W h8 h => by
        have h1 := acc_part (k := k) hu hq (by omega) hT (by rw [hT2, hu2]; exact h)
        rw [HNEW.out, ← Nat.add_assoc, hc]; exact h1)
      have HFULL : Hid (∀ W, u2 = 8 → Boxes base g U L O S (q + 1) ((getL 8 Y q).map (Value.int .u8) ++ [Value.int .u8 (T2 : Int)]) 0 0 W → Acc base g U L O S (X + v % 2 ^ (d + k) * 2 ^ b) (b + (d + k)) W) := Lib.hid (fun W h8 h => by
        have h1 := acc_full (k := k) hu hq (by omega) hT hTlt hylt (by rw [hT2]; exact h)
        rw [HNEW.out, ← Nat.add_assoc, hc]; exact h1)
      have HB2 : Hid (Boxes base g U L O S q ((getL 8 Y q).map (Value.int .u8)) (T2 : Int) (u : Int) (wr.setCell ⟨L, 0, none⟩ (.int .u8 T2)).drew) := Lib.hid (HBX.out.setL HD.out (T2 : Int)).drew
      have HB3 : Hid (Boxes base g U L O S q ((getL 8 Y q).map (Value.int .u8)) (T2 : Int) (u2 : Int) ((wr.setCell ⟨L, 0, none⟩ (.int .u8 T2)).drew.setCell ⟨U, 0, none⟩ (.int .i64 u2)).drew) := Lib.hid (HB2.out.setU HD.out (u2 : Int)).drew
      have HT3 : Hid (Turn w ((wr.setCell ⟨L, 0, none⟩ (.int .u8 T2)).drew.setCell ⟨U, 0, none⟩ (.int .i64 u2)).drew (Here g U L O)) := Lib.hid
        ((((HT.out.trans (Turn.setCell wr ⟨L, 0, none⟩ (.int .u8 T2) (S := Here g U L O) (.inr (.inr (.inl rfl)))) (fun _ _ h => h)).trans (Turn.drew _ (Here g U L O)) (fun _ _ h => h)).trans (Turn.setCell _ ⟨U, 0, none⟩ (.int .i64 u2) (S := Here g U L O) (.inr (.inl rfl))) (fun _ _ h => h)).trans (Turn.drew _ (Here g U L O)) (fun _ _ h => h))
      have c1 := HBX.out.last
      have c2 := HBX.out.used
      have f1 := HBX.out.fl
      clear hT hTlt hq hu hc hY hYlt hs hy hm hz2 hr2 hT2 hylt HNEW
      have HU2 := Lib.hid hu2
      clear hu2
      have c3 := HB2.out.used
      have f3 := HB2.out.fu
      obtain ⟨W2, hW2⟩ : ∃ W2, (wr.setCell ⟨L, 0, none⟩ (.int .u8 T2)).drew = W2 := ⟨_, rfl⟩
      rw [hW2] at HB2 HB3 HT3 c3 f3
      have HW2 := Lib.hid hW2
      obtain ⟨W3, hW3⟩ : ∃ W3, (W2.setCell ⟨U, 0, none⟩ (.int .i64 u2)).drew = W3 := ⟨_, rfl⟩
      rw [hW3] at HB3 HT3
      have HW3 := Lib.hid hW3
      have c5 := HB3.out.used
      have c6 := HB3.out.out
      have c7 := HB3.out.last
      have f5 := HB3.out.fo
      clear hW2 hW3
      by_cases h8 : u2 < 8
      · obtain rfl : r = k := by have := HU2.out; omega
        have h8a : ((u2 : Int) == 8) = false := by simp; omega
        have HFIN := Lib.hid (HPART.out W3 h8 HB3.out)
        clear c6 c7 f5
        by_cases hrs : r ≤ s
        · go_wp2
          go_region
          rw [HW2.out]
          clear c1 c2 f1
          go_wp2
          go_region
          rw [HW3.out]
          go_wp2
          go_roundw
          case rel => exact ⟨d + r, r2, z2, rfl, rfl, hr2n, HZ2, HFIN, HT3⟩
          case measure => simp [intOf]; omega
        · exfalso; have := HU2.out; omega
      · obtain rfl : s = k := by have := HU2.out; omega
        have HU8 : Hid (u2 = 8) := Lib.hid (by have := HU2.out; omega)
        have h8a : ((u2 : Int) == 8) = true := by rw [HU8.out]; rfl
        have hroom1 : q + 1 ≤ S := by have := HU8.out; omega
        obtain ⟨W5, hr5, ho5, hg5⟩ := run_append_one (P := Tryz.prog) (W3.alloc (.cells #[.int .u8 (T2 : Int)] 5)) 45 45 5 i0 Tryz.underlying45 hi hz1 base g q S _ (.int .u8 (T2 : Int)) (HB3.out.row.alloc _) hroom1 W3.heap.size 1 (cell_new _ _ _) rfl
        obtain ⟨⟨c8, f8⟩, ⟨c9, f9⟩, ⟨c10, f10⟩, hb6⟩ := (HB3.out.alloc (.cells #[.int .u8 (T2 : Int)] 5)).push HD.out _ hg5 ho5
        have HR5 := Lib.hid hr5
        have HT5 := Lib.hid ((HT3.out.trans (Turn.alloc W3 (.cells #[.int .u8 (T2 : Int)] 5) (Here g U L O)) (fun _ _ h => h)).trans (Turn.of_grown (S := Here g U L O) hg5 (fun i e _ => by cases e; exact .inl rfl)) (fun _ _ h => h))
        obtain ⟨W6, hW6⟩ : ∃ W6, W5.setCell ⟨O, 0, none⟩ (.slice (some ⟨g, 0, none⟩) (q + 1) S) = W6 := ⟨_, rfl⟩
        have HT6 := Lib.hid (HT5.out.trans (Turn.setCell W5 ⟨O, 0, none⟩ (.slice (some ⟨g, 0, none⟩) (q + 1) S) (S := Here g U L O) (.inr (.inr (.inr rfl)))) (fun _ _ h => h))
        rw [hW6] at hb6 HT6
        have HW6 := Lib.hid hW6
        have HB6 := Lib.hid hb6
        have hb7 := hb6.setL HD.out 0
        have n1 : L ≠ O := Ne.symm HD.out.2.2.2.1
        have n2 : U ≠ O := Ne.symm HD.out.2.2.2.2.1
        have n3 : U ≠ L := Ne.symm HD.out.2.2.2.2.2
        have HFIN := Lib.hid (HFULL.out _ HU8.out (hb7.setU HD.out 0))
        have HT8 : Hid (Turn w ((W6.setCell ⟨L, 0, none⟩ (.int .u8 0)).setCell ⟨U, 0, none⟩ (.int .i64 0)) (Here g U L O)) := Lib.hid
          ((HT6.out.trans (Turn.setCell W6 ⟨L, 0, none⟩ (.int .u8 0) (S := Here g U L O) (.inr (.inr (.inl rfl)))) (fun _ _ h => h)).trans (Turn.setCell _ ⟨U, 0, none⟩ (.int .i64 0) (S := Here g U L O) (.inr (.inl rfl))) (fun _ _ h => h))
        clear hW6 hb6 hb7 hr5 ho5 hg5 h8
        by_cases hrs : s < r
        · have hrs' : ¬ r ≤ s := by omega
          go_wp2
          go_region
          rw [HW2.out]
          clear c1 c2 f1
          go_wp2
          go_region
          rw [HW3.out]
          go_wp2_with (at_builtin; refine Lib.wpList_append_run _ rfl _ _ _ _ rfl _ _ rfl rfl _ _ HR5.out ?_)
          go_roundw
          case rel =>
            rw [HW6.out]
            exact ⟨d + s, r2, z2, rfl, rfl, hr2n, HZ2, HFIN, HT8⟩
          case measure => simp [intOf]; omega
        · obtain rfl : s = r := by omega
          go_wp2
          go_region
          rw [HW2.out]
          clear c1 c2 f1
          go_wp2
          go_region
          rw [HW3.out]
          go_wp2_with (at_builtin; refine Lib.wpList_append_run _ rfl _ _ _ _ rfl _ _ rfl rfl _ _ HR5.out ?_)
          go_roundw
          case rel =>
            rw [HW6.out]
            exact ⟨d + s, r2, z2, rfl, rfl, hr2n, HZ2, HFIN, HT8⟩
          case measure => simp [intOf]; omega
    · obtain rfl : r = 0 := by omega
      obtain rfl : d = n := by omega
      go_wp2
      go_end0
      exact ⟨rfl, HC.out, HT.out⟩
end Go.Proofs.YtljanfnhmhimiaaGreat.Pk

namespace Go.Proofs.YtljanfnhmhimiaaGreat.Pk
open Go.RowKit Bs Dv

/-- Put's answer r: its bytes, in new memory, or no bytes and an error. -/
def PutX (w : World) (r : Int × List Int) (e : Ending) (w' : World) : Prop :=
  ∃ a k, e = .returned (.tuple #[.slice a r.2.length k, .int .i64 r.1]) ∧ Seg w' a r.2.length k r.2 ∧ w.grownBy w' none ∧
    (r.1 = 0 → ∃ g, a = some ⟨g, 0, none⟩ ∧ w'.ownsRow w.heap.size 5 1 (.slice (some ⟨g, 0, none⟩) r.2.length k) r.2.length (r.2.map (Value.int .u8)))

def room (S : Nat) : Array Value := madeCells (Value.int .u8 0).cells S
theorem room_size (S : Nat) : (room S).size = S := size_madeCells _ _
theorem make_room (S : Nat) (hS : S ≤ 100000000) (W : World) : (Instr.makeSlice 45 (.int .i64 0) (.int .i64 (S : Int))).run Tryz.prog W = .ok (.slice (some ⟨W.heap.size, 0, none⟩) 0 S) (W.alloc (.cells (room S) 5)) := by
  obtain ⟨i0, hi, hz0, hz1, hz2⟩ := info_parts info_u8
  have h := run_make (P := Tryz.prog) W 45 5 i0 (.int .u8 0) Tryz.underlying45 hi hz0 .i64 .i64 0 (S : Int) (by omega) (by omega) (by rw [hz2]; omega) (by omega)
  rw [hz1, Int.toNat_natCast, Nat.mul_one] at h
  exact h

theorem putR_can {l : List Int} {v : Int} (h : canB l.length v = false) : putR l v = (2, []) := by unfold putR; rw [h]; rfl
theorem putR_wid {l : List Int} {v : Int} (h : canB l.length v = true) (hw : ¬ (wid l : Int) ≤ v) : putR l v = (3, []) := by unfold putR; rw [if_pos h, if_neg hw]
theorem putR_yes {l : List Int} {v : Nat} (h : canB l.length v = true) (hw : (wid l : Int) ≤ v) : putR l v = (0, getL 8 (packN v l) (sizeN l.length v)) := by unfold putR; rw [if_pos h, if_pos hw]; rfl

theorem put_err (r : Int × List Int) (E : Int) (w : World) (hr : r = (E, [])) (hE : E ≠ 0) : PutX w r (.returned (.tuple #[.slice none 0 0, .int .i64 E])) w := by
  subst hr
  exact ⟨none, 0, rfl, Seg.nil w, ⟨rfl, rfl, rfl, Nat.le_refl _, fun _ _ _ => rfl⟩, fun h => absurd h hE⟩

set_option maxHeartbeats 1000000 in
theorem put_no_any (a : Option Addr) (n c : Nat) (l : List Int) (v : Int) (w : World) (hs : Us.Seg w a n c l) (hu : IsU l) (hno : ¬ (putR l v).1 = 0) :
    Calls Tryz.prog 50 #[.slice a n c, .int .i64 v] w (PutX w (putR l v)) := by
  have hlen := hs.len
  cases hc : canB l.length v with
  | false =>
    have HP := Lib.hid (put_err (putR l v) 2 w (putR_can hc) (by decide))
    have HB : Hid (∀ w, Calls Tryz.prog 83 #[.int .i64 n, .int .i64 v] w fun e w' => e = .returned (.bool false) ∧ w = w') := Lib.hid (fun w => by have := can_any n v w; rwa [← hlen, hc, hlen] at this)
    generalize putR l v = R at HP ⊢
    clear hc hno hs hlen
    go_enter Tryz.func50, Tryz.ntmps50
    go_wp2_with (go_at_call 83; refine (HB.out _).mono ?_; rintro e w' ⟨rfl, rfl⟩)
    go_ret2
    exact HP.out
  | true =>
    have hw : ¬ (wid l : Int) ≤ v := fun h => hno ((put_ok l v).2 ⟨hc, h⟩)
    have HP := Lib.hid (put_err (putR l v) 3 w (putR_wid hc hw) (by decide))
    have HB : Hid (∀ w, Calls Tryz.prog 83 #[.int .i64 n, .int .i64 v] w fun e w' => e = .returned (.bool true) ∧ w = w') := Lib.hid (fun w => by have := can_any n v w; rwa [← hlen, hc, hlen] at this)
    have HW := Lib.hid (width_any a n c l w hs hu)
    have hgt : v < (wid l : Int) := by omega
    have hb := wid_bd hu
    generalize putR l v = R at HP ⊢
    generalize wid l = W at HW hgt hb
    clear hc hno hs hlen hw
    go_enter Tryz.func50, Tryz.ntmps50
    go_wp2_with (first
      | (go_at_call 83; refine (HB.out _).mono ?_; rintro e w' ⟨rfl, rfl⟩)
      | (go_at_call 84; refine HW.out.mono ?_; rintro e w' ⟨rfl, rfl⟩))
    go_ret2
    exact HP.out

theorem seg_form {w : World} {a : Option Addr} {n c : Nat} {l : List Int} (h : Us.Seg w a n c l) : ∃ g o, (a = some ⟨g, o, none⟩ ∨ n = 0) ∧ ∀ j, j < n → w.cell? ⟨g, o + j, none⟩ = some (.int .u64 (l.getD j 0)) := by
  by_cases hn : n = 0
  · exact ⟨0, 0, .inr hn, fun j hj => by omega⟩
  · obtain ⟨g, o, e, hc⟩ := h.addr (by omega)
    exact ⟨g, o, .inl e, hc⟩

theorem acc_start (w : World) (S : Nat) (hS : S ≤ 100000000) : Acc w.heap.size w.heap.size (w.heap.size + 1 + 1 + 1) (w.heap.size + 1 + 1) (w.heap.size + 1) S 0 0
    ((((w.alloc (.cells (room S) 5)).alloc (.cells #[.slice (some ⟨w.heap.size, 0, none⟩) 0 S] 45)).alloc (.cells #[.int .u8 0] 5)).alloc (.cells #[.int .i64 0] 3)) := by
  have h0 := World.ownsRow_made (base := w.heap.size) (e := 5) (size := 1) w (room S) S (Nat.le_refl _) (by unfold maxLen; omega) (by rw [room_size, Nat.mul_one])
  have b1 := cell_new (w.alloc (.cells (room S) 5)) (.slice (some ⟨w.heap.size, 0, none⟩) 0 S) 45
  have f1 := froz_new (w.alloc (.cells (room S) 5)) (.slice (some ⟨w.heap.size, 0, none⟩) 0 S) 45
  have b2 := cell_new ((w.alloc (.cells (room S) 5)).alloc (.cells #[.slice (some ⟨w.heap.size, 0, none⟩) 0 S] 45)) (.int .u8 0) 5
  have f2 := froz_new ((w.alloc (.cells (room S) 5)).alloc (.cells #[.slice (some ⟨w.heap.size, 0, none⟩) 0 S] 45)) (.int .u8 0) 5
  have b3 := cell_new (((w.alloc (.cells (room S) 5)).alloc (.cells #[.slice (some ⟨w.heap.size, 0, none⟩) 0 S] 45)).alloc (.cells #[.int .u8 0] 5)) (.int .i64 0) 3
  have f3 := froz_new (((w.alloc (.cells (room S) 5)).alloc (.cells #[.slice (some ⟨w.heap.size, 0, none⟩) 0 S] 45)).alloc (.cells #[.int .u8 0] 5)) (.int .i64 0) 3
  simp only [World.size_alloc] at b1 f1 b2 f2 b3 f3
  have up : ∀ {W : World} {B : Nat} {v : Value} (o : Obj), (W.cell? ⟨B, 0, none⟩ = some v ∧ W.frozen? ⟨B, 0, none⟩ = false) → ((W.alloc o).cell? ⟨B, 0, none⟩ = some v ∧ (W.alloc o).frozen? ⟨B, 0, none⟩ = false) :=
    fun {W B v} o h => ⟨(Turn.alloc W o nowhere).cell h.1 id, ((Turn.alloc W o nowhere).frozen (p := ⟨B, 0, none⟩) (World.block_lt_of_cell? W _ h.1) id).trans h.2⟩
  have k1 := up (.cells #[.int .i64 0] 3) (up (.cells #[.int .u8 0] 5) ⟨b1, f1⟩)
  have k2 := up (.cells #[.int .i64 0] 3) ⟨b2, f2⟩
  exact ⟨((h0.alloc _).alloc _).alloc _, k1.1, k2.1, b3, k1.2, k2.2, f3⟩

theorem putX_of {w w' : World} {g U L O S N : Nat} (hA : Acc w.heap.size g U L O S N (8 * S) w') (hg : w.grownBy w' none) : PutX w ((0 : Int), getL 8 N S) (.returned (.tuple #[.slice (some ⟨g, 0, none⟩) S S, .int .i64 0])) w' := by
  have h := hA.row
  rw [show 8 * S / 8 = S from by omega] at h
  have e : (((0 : Int), getL 8 N S) : Int × List Int).2.length = S := getL_length 8 N S
  refine ⟨some ⟨g, 0, none⟩, S, by rw [e], ?_, hg, fun _ => ⟨g, rfl, ?_⟩⟩
  · rw [e]; exact Seg.own h
  · rw [e]; exact h

set_option maxHeartbeats 2000000 in
theorem put_yes_any (a : Option Addr) (n c : Nat) (l : List Int) (v : Nat) (w : World) (hs : Us.Seg w a n c l) (hu : IsU l) (hok : (putR l v).1 = 0) :
    Calls Tryz.prog 50 #[.slice a n c, .int .i64 (v : Int)] w (PutX w (putR l v)) := by
  have hlen := hs.len
  obtain ⟨hc, hw⟩ := (put_ok l v).1 hok
  have hc' := (canB_iff _ _).1 hc
  rw [putR_yes hc hw]
  have hf : Fit v l := (wid_le l v hu.nonneg).1 (by omega)
  have HF := Lib.hid hf
  have HB : Hid (∀ w, Calls Tryz.prog 83 #[.int .i64 n, .int .i64 (v : Int)] w fun e w' => e = .returned (.bool true) ∧ w = w') := Lib.hid (fun w => by have := can_any n v w; rwa [← hlen, hc, hlen] at this)
  have HW := Lib.hid (width_any a n c l w hs hu)
  rw [hlen] at hc hc' ⊢
  have HS : Hid (∀ w, Calls Tryz.prog 85 #[.int .i64 n, .int .i64 (v : Int)] w fun e w' => e = .returned (.int .i64 (sizeN n v : Int)) ∧ w = w') := Lib.hid (fun w => by have := size_any n v w; rwa [sizeF_N hc] at this)
  have hub := unF_bd hc
  obtain ⟨u, hue⟩ := Int.eq_ofNat_of_zero_le hub.1
  have hue2 : unF n v = 8 * (sizeN n v : Int) - (n : Int) * (v : Int) := by unfold unF; rw [sizeF_N hc]
  have HU : Hid (∀ w, Calls Tryz.prog 87 #[.int .i64 n, .int .i64 (v : Int)] w fun e w' => e = .returned (.int .i64 (u : Int)) ∧ w = w') := Lib.hid (fun w => by have := un_any n v w hc; rwa [hue] at this)
  have hszb := sizeF_bd n v
  rw [sizeF_N hc] at hszb
  have hpi : (n : Int) * (v : Int) = ((n * v : Nat) : Int) := by rw [← Int.natCast_mul]
  rw [hpi] at hue2
  obtain ⟨S, hS⟩ : ∃ S, sizeN n v = S := ⟨_, rfl⟩
  rw [hS] at HS hue2 hszb ⊢
  have HUS : Hid (n * v + u = 8 * S) := Lib.hid (by omega)
  have hu8 : u < 8 := by omega
  have hv64 : v ≤ 64 := by omega
  have hnle : n ≤ 65536 := by omega
  have HV := Lib.hid (show (wid l : Int) ≤ (v : Int) from hw)
  have hwb := wid_bd hu
  have HLen := Lib.hid hlen
  have HSeg := Lib.hid hs
  have HIU := Lib.hid hu
  obtain ⟨R, hR⟩ : ∃ R, ((0 : Int), getL 8 (packN v l) S) = R := ⟨_, rfl⟩
  rw [hR]
  have HR := Lib.hid hR
  have hwv : (wid l : Int) ≤ (v : Int) := hw
  generalize wid l = W at HW hwv hwb HV
  have hmk := make_room S (by omega)
  have hmf : ∀ (fn : Fn) (first cap : Array Value) (w : World), (Instr.makeFunc fn first cap).run Tryz.prog w = .ok (.func fn first cap) w := fun _ _ _ _ => rfl
  have hcap := hs.cap
  have hle := hs.le
  unfold maxLen at hcap
  obtain ⟨gA, o, hform, hcell⟩ := seg_form hs
  have HCell := Lib.hid hcell
  have HForm := Lib.hid hform
  have HAcc := Lib.hid (acc_start w S (by omega))
  clear hcell hform
  clear hR hu hs hlen hS hue2 hue hub hok hc hc' hw hf hpi hszb
  have HT0 : Hid (Turn w ((((w.alloc (.cells (room S) 5)).alloc (.cells #[.slice (some ⟨w.heap.size, 0, none⟩) 0 S] 45)).alloc (.cells #[.int .u8 0] 5)).alloc (.cells #[.int .i64 0] 3)) nowhere) := Lib.hid
    ((((Turn.alloc w _ nowhere).trans (Turn.alloc _ _ nowhere) (fun _ _ h => h)).trans (Turn.alloc _ _ nowhere) (fun _ _ h => h)).trans (Turn.alloc _ _ nowhere) (fun _ _ h => h))
  go_enter Tryz.func50, Tryz.ntmps50
  go_wp2_with (first
    | (go_at_call 83; refine (HB.out _).mono ?_; rintro e w' ⟨rfl, rfl⟩)
    | (go_at_call 84; refine HW.out.mono ?_; rintro e w' ⟨rfl, rfl⟩)
    | (go_at_call 85; refine (HS.out _).mono ?_; rintro e w' ⟨rfl, rfl⟩))
  clear hmk hmf
  generalize ((((w.alloc (.cells (room S) 5)).alloc (.cells #[.slice (some ⟨w.heap.size, 0, none⟩) 0 S] 45)).alloc (.cells #[.int .u8 0] 5)).alloc (.cells #[.int .i64 0] 3)) = W0 at HAcc HT0 ⊢
  have HD : Hid (Apart w.heap.size (w.heap.size + 1 + 1 + 1) (w.heap.size + 1 + 1) (w.heap.size + 1)) := Lib.hid (by unfold Apart; omega)
  have HG : Hid (w.heap.size ≤ w.heap.size + 1 + 1 + 1 ∧ w.heap.size ≤ w.heap.size + 1 + 1 ∧ w.heap.size ≤ w.heap.size + 1) := Lib.hid (by omega)
  generalize w.heap.size + 1 + 1 + 1 = U at HAcc HD HG ⊢
  generalize w.heap.size + 1 + 1 = L at HAcc HD HG ⊢
  generalize w.heap.size + 1 = O at HAcc HD HG ⊢
  go_loopw [31] (fun si wr => ∃ k : Nat, k ≤ n ∧ si = .int .i64 k ∧ Hid (Acc w.heap.size w.heap.size U L O S (packN v (l.take k)) (k * v) wr) ∧ Hid (Turn w wr nowhere)) (fun si _ => n - (intOf si).toNat)
  case atStart => exact ⟨0, Nat.zero_le _, rfl, Lib.hid (by rw [Nat.zero_mul]; exact HAcc.out), HT0⟩
  case round =>
    obtain ⟨k, hk, rfl, HA, HT⟩ := hrel
    by_cases hlt : k < n
    · rcases HForm.out with rfl | hn0
      · have q0 := HT.out.cell (HCell.out k hlt) id
        have hx := getD_u HIU.out (show k < l.length by rw [HLen.out]; exact hlt)
        have hfit : (l.getD k 0).toNat < 2 ^ v := by
          rw [List.getD_eq_getElem?_getD, List.getElem?_eq_getElem (show k < l.length by rw [HLen.out]; exact hlt)]
          exact (HF.out _ (List.getElem_mem _)).2
        have htk := take_getD l k (by rw [HLen.out]; exact hlt)
        have hX : packN v (l.take k) < 2 ^ (k * v) := by
          have h := packN_lt v (l.take k) (fun y hy => HF.out y (List.mem_of_mem_take hy))
          rwa [List.length_take, HLen.out, Nat.min_eq_left hk] at h
        have hNX : packN v (l.take (k + 1)) = packN v (l.take k) + (l.getD k 0).toNat * 2 ^ (k * v) := by
          rw [htk, packN_snoc, List.length_take, HLen.out, Nat.min_eq_left hk]
        obtain ⟨x, hx'⟩ := Int.eq_ofNat_of_zero_le hx.1
        rw [hx'] at q0 hfit hNX hx
        rw [Int.toNat_natCast] at hfit hNX
        have hbs : k * v + v ≤ 8 * S := by
          have h1 : (k + 1) * v ≤ n * v := Nat.mul_le_mul_right _ hlt
          rw [Nat.add_mul, Nat.one_mul] at h1
          have := HUS.out
          omega
        have HWR := Lib.hid (write_any w.heap.size w.heap.size U L O S (packN v (l.take k)) (k * v) x v wr HD.out HA.out hX (by omega) hv64 hbs)
        rw [Nat.mod_eq_of_lt hfit, ← hNX, show k * v + v = (k + 1) * v from by rw [Nat.add_mul, Nat.one_mul]] at HWR
        clear hx' hfit htk hX hNX hbs hx
        go_wp2_with (go_at_call 86; refine HWR.out.mono ?_; rintro e wn ⟨rfl, hA2, hT2⟩; have HA2 := Lib.hid hA2; have HT2 := Lib.hid hT2; clear hA2 hT2)
        go_roundw
        case rel => exact ⟨k + 1, by omega, by go_num, HA2, Lib.hid (HT.out.trans HT2.out (fun i hi h => by rcases h with rfl | rfl | rfl | rfl <;> have := HG.out <;> omega))⟩
        case measure => simp [intOf]; omega
      · exfalso; omega
    · obtain rfl : k = n := by omega
      have htk : l.take k = l := List.take_of_length_le (Nat.le_of_eq HLen.out)
      rw [htk] at HA
      have hX : packN v l < 2 ^ (k * v) := by
        have h := packN_lt v l HF.out
        rwa [HLen.out] at h
      have HWR := Lib.hid (write_any w.heap.size w.heap.size U L O S (packN v l) (k * v) 0 u wr HD.out HA.out hX (by decide) (by omega) (Nat.le_of_eq HUS.out))
      rw [Nat.zero_mod, Nat.zero_mul, Nat.add_zero, HUS.out] at HWR
      clear htk hX
      go_wp2_with (first
        | (go_at_call 87; refine (HU.out _).mono ?_; rintro e w' ⟨rfl, rfl⟩)
        | (go_at_call 86; refine HWR.out.mono ?_; rintro e wn ⟨rfl, hA2, hT2⟩; have HA2 := Lib.hid hA2; have HT2 := Lib.hid hT2; clear hA2 hT2; have c1 := HA2.out.out; rw [show 8 * S / 8 = S from by omega] at c1))
      go_ret2
      rw [← HR.out]
      exact putX_of HA2.out (HT.out.trans HT2.out (fun i hi h => by rcases h with rfl | rfl | rfl | rfl <;> have := HG.out <;> omega)).grown

/-- Put, whatever it is asked. -/
theorem put_any (a : Option Addr) (n c : Nat) (l : List Int) (v : Int) (w : World) (hs : Us.Seg w a n c l) (hu : IsU l) :
    Calls Tryz.prog 50 #[.slice a n c, .int .i64 v] w (PutX w (putR l v)) := by
  by_cases h : (putR l v).1 = 0
  · have hc := (canB_iff _ _).1 ((put_ok l v).1 h).1
    obtain ⟨v', rfl⟩ := Int.eq_ofNat_of_zero_le hc.2.2.1
    exact put_yes_any a n c l v' w hs hu h
  · exact put_no_any a n c l v w hs hu h
end Go.Proofs.YtljanfnhmhimiaaGreat.Pk
