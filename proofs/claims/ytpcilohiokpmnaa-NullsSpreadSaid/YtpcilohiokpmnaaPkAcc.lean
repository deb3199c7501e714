/-
  Put's closure: bits written behind others, through an accumulator of one byte.
-/
import Derived.Test.YtpcilohiokpmnaaPkCheck
import Derived.Test.YtpcilohiokpmnaaMem
import Derived.BigRegion
import Derived.Lib.AppendZeros
namespace Go.Proofs.Ytpcilohiokpmnaa.Pk
open Go.RowKit Bs Dv

/-- 'append(s, x)' onto a row of the call's own that has room: in place. -/
theorem run_append_one {P : Program} (w : World) (t ty e : TypeId) (i : TypeInfo) (ht : P.underlying t = some (.slice e)) (hi : P.info? e = some i) (hsize : i.size = 1)
    (base g n S : Nat) (xs : List Value) (x : Value) (hown : w.ownsRow base e 1 (.slice (some ⟨g, 0, none⟩) n S) n xs) (hroom : n + 1 ≤ S) (B c : Nat) (hx : w.cell? ⟨B, 0, none⟩ = some x) (h1 : x.oneCell' = true) :
    ∃ w', (Builtin.append_ #[t, t] ty #[.slice (some ⟨g, 0, none⟩) n S, .slice (some ⟨B, 0, none⟩) 1 c]).run P w = .ok (.slice (some ⟨g, 0, none⟩) (n + 1) S) w' ∧
      w'.ownsRow base e 1 (.slice (some ⟨g, 0, none⟩) (n + 1) S) (n + 1) (xs ++ [x]) ∧ w.grownBy w' (some g) := by
  rcases hown.2 with ⟨e1, _⟩ | ⟨g0, cap, cur, e1, hbg, hg, hnc, hcm, hcs, htake⟩
  · cases e1
  · cases e1
    have hcs' : cur.size = S := by simpa using hcs
    have hr := run_append_room (P := P) w t ty e i ht hi g n S cur hg ⟨B, 0, none⟩ 1 c [x] (by simp [hsize])
      (by
        intro j u hu
        cases j with
        | zero => simp at hu; subst hu; simpa [Addr.add] using hx
        | succ j => simp at hu) (by intro u hu; simp at hu; subst hu; exact h1) hroom (by simp [hsize]; omega)
    refine ⟨_, hr, ⟨by simp [show xs.length = n by simpa using hown.1], .inr ⟨g, S, _, rfl, hbg, setRow_heap w g cur _ e _ hg, hroom, hcm, ?_, ?_⟩⟩, ⟨rfl, rfl, rfl, by simp [World.setRow], fun k _ hk => setRow_other w g k _ (fun e => hk (by rw [e]))⟩⟩
    · simp only [List.size_toArray, List.length_append, List.length_take, List.length_drop, Array.length_toList, hsize, List.length_singleton]
      omega
    · have hx1 : xs.length = n := by simpa using hown.1
      have ht' : cur.toList.take n = xs := by simpa using htake
      simp only [hsize, Nat.mul_one]
      rw [ht', show n + 1 = (xs ++ [x]).length from by simp [hx1]]
      exact List.take_left

theorem getL_low (X Y p m : Nat) (h : m * 8 ≤ p) : getL 8 (X + Y * 2 ^ p) m = getL 8 X m := by
  rw [← getL_mod 8 m (X + Y * 2 ^ p), ← getL_mod 8 m X]
  congr 1
  have e : 2 ^ p = 2 ^ (m * 8) * 2 ^ (p - m * 8) := by rw [← Nat.pow_add]; congr 1; omega
  rw [e, ← Nat.mul_assoc, Nat.mul_comm Y, Nat.mul_assoc, Nat.add_mul_mod_self_left]

def Apart (g U L O : Nat) : Prop := g ≠ O ∧ g ≠ L ∧ g ≠ U ∧ O ≠ L ∧ O ≠ U ∧ L ≠ U
def Here (g U L O : Nat) (i : Nat) : Prop := i = g ∨ i = U ∨ i = L ∨ i = O

theorem own_set {W : World} {base e g n c B o : Nat} {xs : List Value} {v : Value} (h : W.ownsRow base e 1 (.slice (some ⟨g, 0, none⟩) n c) n xs) (hB : g ≠ B) : (W.setCell ⟨B, o, none⟩ v).ownsRow base e 1 (.slice (some ⟨g, 0, none⟩) n c) n xs :=
  h.kept (row := some B) ⟨rfl, rfl, rfl, by simp [World.setCell], fun k _ hk => Below.heap_setCell _ _ _ _ (fun e => hk (by rw [e]))⟩ (.inr (by simp [Value.ownBlock]; exact hB))
theorem own_drew {W : World} {base e g n c : Nat} {xs : List Value} (h : W.ownsRow base e 1 (.slice (some ⟨g, 0, none⟩) n c) n xs) : W.drew.ownsRow base e 1 (.slice (some ⟨g, 0, none⟩) n c) n xs := h
theorem cell_other {W : World} {B B' : Nat} {v u : Value} (h : W.cell? ⟨B, 0, none⟩ = some u) (hB : B ≠ B') : (W.setCell ⟨B', 0, none⟩ v).cell? ⟨B, 0, none⟩ = some u :=
  Turn.cell (Turn.setCell W ⟨B', 0, none⟩ v (S := fun i => i = B') rfl) h hB
theorem froz_any {W : World} {B B' : Nat} {v : Value} (h : W.frozen? ⟨B, 0, none⟩ = false) : (W.setCell ⟨B', 0, none⟩ v).frozen? ⟨B, 0, none⟩ = false := by
  rw [World.frozen?_setCell]; exact h
theorem cell_same {W : World} {B : Nat} {v u : Value} (h : W.cell? ⟨B, 0, none⟩ = some u) : (W.setCell ⟨B, 0, none⟩ v).cell? ⟨B, 0, none⟩ = some v :=
  World.cell?_setCell_same' _ _ _ (by rw [h]; rfl)

/-- the row, and the three boxes, whatever they hold -/
structure Boxes (base g U L O S m : Nat) (xs : List Value) (T u : Int) (W : World) : Prop where
  row : W.ownsRow base 5 1 (.slice (some ⟨g, 0, none⟩) m S) m xs
  out : W.cell? ⟨O, 0, none⟩ = some (.slice (some ⟨g, 0, none⟩) m S)
  last : W.cell? ⟨L, 0, none⟩ = some (.int .u8 T)
  used : W.cell? ⟨U, 0, none⟩ = some (.int .i64 u)
  fo : W.frozen? ⟨O, 0, none⟩ = false
  fl : W.frozen? ⟨L, 0, none⟩ = false
  fu : W.frozen? ⟨U, 0, none⟩ = false
theorem Boxes.drew {base g U L O S m : Nat} {xs : List Value} {T u : Int} {W : World} (h : Boxes base g U L O S m xs T u W) : Boxes base g U L O S m xs T u W.drew := ⟨h.row, h.out, h.last, h.used, h.fo, h.fl, h.fu⟩
theorem Boxes.alloc {base g U L O S m : Nat} {xs : List Value} {T u : Int} {W : World} (h : Boxes base g U L O S m xs T u W) (o : Obj) : Boxes base g U L O S m xs T u (W.alloc o) := by
  have k := Turn.alloc W o nowhere
  have lt : ∀ {B v}, W.cell? ⟨B, 0, none⟩ = some v → B < W.heap.size := fun h => World.block_lt_of_cell? W _ h
  exact ⟨h.row.alloc o, k.cell h.out id, k.cell h.last id, k.cell h.used id, (k.frozen (p := ⟨O, 0, none⟩) (lt h.out) id).trans h.fo, (k.frozen (p := ⟨L, 0, none⟩) (lt h.last) id).trans h.fl, (k.frozen (p := ⟨U, 0, none⟩) (lt h.used) id).trans h.fu⟩
theorem cell_new (W : World) (v : Value) (t : TypeId) : (W.alloc (.cells #[v] t)).cell? ⟨W.heap.size, 0, none⟩ = some v := by
  have h : (W.alloc (.cells #[v] t)).heap[W.heap.size]? = some (.cells #[v] t) := heap_alloc_new W _
  unfold World.cell?
  rw [show (⟨W.heap.size, 0, none⟩ : Addr).block = W.heap.size from rfl, h]
  rfl
theorem froz_new (W : World) (v : Value) (t : TypeId) : (W.alloc (.cells #[v] t)).frozen? ⟨W.heap.size, 0, none⟩ = false := by
  have h : (W.alloc (.cells #[v] t)).heap[W.heap.size]? = some (.cells #[v] t) := heap_alloc_new W _
  unfold World.frozen?
  rw [show (⟨W.heap.size, 0, none⟩ : Addr).block = W.heap.size from rfl, h]
  rfl
theorem Boxes.setL {base g U L O S m : Nat} {xs : List Value} {T u : Int} {W : World} (h : Boxes base g U L O S m xs T u W) (hd : Apart g U L O) (T' : Int) : Boxes base g U L O S m xs T' u (W.setCell ⟨L, 0, none⟩ (.int .u8 T')) := by
  obtain ⟨d1, d2, d3, d4, d5, d6⟩ := hd
  exact ⟨own_set h.row d2, cell_other h.out d4, cell_same h.last, cell_other h.used (Ne.symm d6), froz_any h.fo, froz_any h.fl, froz_any h.fu⟩
theorem Boxes.setU {base g U L O S m : Nat} {xs : List Value} {T u : Int} {W : World} (h : Boxes base g U L O S m xs T u W) (hd : Apart g U L O) (u' : Int) : Boxes base g U L O S m xs T u' (W.setCell ⟨U, 0, none⟩ (.int .i64 u')) := by
  obtain ⟨d1, d2, d3, d4, d5, d6⟩ := hd
  exact ⟨own_set h.row d3, cell_other h.out d5, cell_other h.last d6, cell_same h.used, froz_any h.fo, froz_any h.fl, froz_any h.fu⟩
/-- the byte behind the others, both boxes empty again -/
theorem Boxes.push {base g U L O S m : Nat} {xs : List Value} {T u : Int} {W W5 : World} (h : Boxes base g U L O S m xs T u W) (hd : Apart g U L O) (x : Value) (hg : W.grownBy W5 (some g)) (hr : W5.ownsRow base 5 1 (.slice (some ⟨g, 0, none⟩) (m + 1) S) (m + 1) (xs ++ [x])) :
    (W5.cell? ⟨O, 0, none⟩ = some (.slice (some ⟨g, 0, none⟩) m S) ∧ W5.frozen? ⟨O, 0, none⟩ = false) ∧ (W5.cell? ⟨L, 0, none⟩ = some (.int .u8 T) ∧ W5.frozen? ⟨L, 0, none⟩ = false) ∧ (W5.cell? ⟨U, 0, none⟩ = some (.int .i64 u) ∧ W5.frozen? ⟨U, 0, none⟩ = false) ∧
      Boxes base g U L O S (m + 1) (xs ++ [x]) T u (W5.setCell ⟨O, 0, none⟩ (.slice (some ⟨g, 0, none⟩) (m + 1) S)) := by
  obtain ⟨d1, d2, d3, d4, d5, d6⟩ := hd
  have k := Turn.of_grown (S := fun i => i = g) hg (fun i e _ => by cases e; rfl)
  have lt : ∀ {B v}, W.cell? ⟨B, 0, none⟩ = some v → B < W.heap.size := fun h => World.block_lt_of_cell? W _ h
  have o5 := k.cell h.out (Ne.symm d1)
  have f5 := (k.frozen (p := ⟨O, 0, none⟩) (lt h.out) (Ne.symm d1)).trans h.fo
  have l5 := k.cell h.last (Ne.symm d2)
  have u5 := k.cell h.used (Ne.symm d3)
  have fl5 := (k.frozen (p := ⟨L, 0, none⟩) (lt h.last) (Ne.symm d2)).trans h.fl
  have fu5 := (k.frozen (p := ⟨U, 0, none⟩) (lt h.used) (Ne.symm d3)).trans h.fu
  exact ⟨⟨o5, f5⟩, ⟨l5, fl5⟩, ⟨u5, fu5⟩, own_set hr d1, cell_same o5, cell_other l5 (Ne.symm d4), cell_other u5 (Ne.symm d5), froz_any f5, froz_any fl5, froz_any fu5⟩

/-- what was written: X in b bits; whole bytes in the row g, the bits of the last one in L, how many in U -/
def Acc (base g U L O S X b : Nat) (W : World) : Prop := Boxes base g U L O S (b / 8) ((getL 8 X (b / 8)).map (Value.int .u8)) ((X / 2 ^ (b / 8 * 8) : Nat) : Int) ((b % 8 : Nat) : Int) W

/-- some bits more, the byte not yet full -/
theorem acc_part {base g U L O S Y c y k u q T : Nat} {W : World} (hu : c % 8 = u) (hq : c / 8 = q) (hk : u + k < 8) (hT : Y / 2 ^ (q * 8) = T) (h : Boxes base g U L O S q ((getL 8 Y q).map (Value.int .u8)) ((T + y * 2 ^ u : Nat) : Int) ((u + k : Nat) : Int) W) :
    Acc base g U L O S (Y + y * 2 ^ c) (c + k) W := by
  unfold Acc
  have e1 : (c + k) / 8 = q := by omega
  have e2 : (c + k) % 8 = u + k := by omega
  have e3 : 2 ^ c = 2 ^ (q * 8) * 2 ^ u := by rw [← Nat.pow_add]; congr 1; omega
  rw [e1, e2, getL_low Y y c q (by omega)]
  have e4 : (Y + y * 2 ^ c) / 2 ^ (q * 8) = T + y * 2 ^ u := by
    rw [e3, ← Nat.mul_assoc, Nat.mul_comm y, Nat.mul_assoc, Nat.add_mul_div_left _ _ (two_pos _), hT]
  rw [e4]
  exact h
/-- the byte full -/
theorem acc_full {base g U L O S Y c y k u q T : Nat} {W : World} (hu : c % 8 = u) (hq : c / 8 = q) (hk : u + k = 8) (hT : Y / 2 ^ (q * 8) = T) (hT2 : T < 2 ^ u) (hy : y < 2 ^ k)
    (h : Boxes base g U L O S (q + 1) ((getL 8 Y q).map (Value.int .u8) ++ [Value.int .u8 ((T + y * 2 ^ u : Nat) : Int)]) 0 0 W) :
    Acc base g U L O S (Y + y * 2 ^ c) (c + k) W := by
  unfold Acc
  have e1 : (c + k) / 8 = q + 1 := by omega
  have e2 : (c + k) % 8 = 0 := by omega
  have e3 : 2 ^ c = 2 ^ (q * 8) * 2 ^ u := by rw [← Nat.pow_add]; congr 1; omega
  have e4 : (Y + y * 2 ^ c) / 2 ^ (q * 8) = T + y * 2 ^ u := by
    rw [e3, ← Nat.mul_assoc, Nat.mul_comm y, Nat.mul_assoc, Nat.add_mul_div_left _ _ (two_pos _), hT]
  have e5 : T + y * 2 ^ u < 2 ^ 8 := by
    have h1 : (y + 1) * 2 ^ u ≤ 2 ^ k * 2 ^ u := Nat.mul_le_mul_right _ hy
    rw [← Nat.pow_add, Nat.add_comm k u, hk, Nat.add_mul, Nat.one_mul] at h1
    omega
  rw [e1, e2, getL_snoc, getL_low Y y c q (by omega), e4, Nat.mod_eq_of_lt e5]
  have e6 : (Y + y * 2 ^ c) / 2 ^ ((q + 1) * 8) = 0 := by
    rw [Nat.add_mul, Nat.one_mul, Nat.pow_add, ← Nat.div_div_eq_div_mul, e4]
    exact Nat.div_eq_of_lt e5
  rw [e6, List.map_append]
  exact h

theorem put_val (T u k y m : Nat) (z : Nat) (hz : z < 18446744073709551616) (hy : z % 2 ^ k = y) (hk : k ≤ 8) (huk : u + k ≤ 8) (hT : T < 2 ^ u) (hm : y * 2 ^ u = m) :
    bits .and .u64 (z : Int) (IntKind.u64.wrap (IntKind.u64.wrap (2 ^ k) - 1)) = (y : Int) ∧ (y : Int) % 256 = (y : Int) ∧ (y : Int) * 2 ^ u % 256 = (m : Int) ∧ bits .or .u8 (T : Int) (m : Int) = ((T + y * 2 ^ u : Nat) : Int) ∧ y < 2 ^ k := by
  have hy2 : y < 2 ^ k := by rw [← hy]; exact Nat.mod_lt _ (two_pos k)
  have h8 : 2 ^ k ≤ 2 ^ 8 := Nat.pow_le_pow_right (by decide) hk
  have hm2 : m < 2 ^ 8 := by rw [← hm]; exact shl_lt y u k 8 hy2 huk
  have hT2 : T < 2 ^ 8 := Nat.lt_of_lt_of_le hT (Nat.pow_le_pow_right (by decide) (by omega))
  refine ⟨by rw [and_mask z k hz (by omega), hy], by omega, ?_, ?_, hy2⟩
  · rw [mul_cast, hm]; omega
  · rw [u8_or_nat T m hT2 hm2, ← hm, or_add T y u hT]

set_option maxHeartbeats 2000000 in
theorem write_any (base g U L O S X b v n : Nat) (w : World) (hd : Apart g U L O) (hA : Acc base g U L O S X b w) (hX : X < 2 ^ b) (hv : v < 18446744073709551616) (hn : n ≤ 64) (hS : b + n ≤ 8 * S) :
    Calls Try.prog 50 #[.int .u64 v, .int .i64 n, .pointer (some ⟨U, 0, none⟩), .pointer (some ⟨L, 0, none⟩), .pointer (some ⟨O, 0, none⟩)] w fun e w' =>
      e = .returned (.tuple #[]) ∧ Acc base g U L O S (X + v % 2 ^ n * 2 ^ b) (b + n) w' ∧ Turn w w' (Here g U L O) := by
  obtain ⟨i0, hi, hz0, hz1, hzz⟩ := info_parts info_u8
  have HD := Lib.hid hd
  have HA := Lib.hid hA
  have HX := Lib.hid hX
  clear hA hX hd
  go_enter Try.func50, Try.ntmps50
  go_wp2
  go_loopw [0, 1] (fun sv sn wr => ∃ d r z : Nat, sv = .int .u64 z ∧ sn = .int .i64 r ∧ d + r = n ∧ Hid (z = v / 2 ^ d) ∧ Hid (Acc base g U L O S (X + v % 2 ^ d * 2 ^ b) (b + d) wr) ∧ Hid (Turn w wr (Here g U L O))) (fun _ sn _ => (intOf sn).toNat)
  case atStart => exact ⟨0, n, v, rfl, rfl, by omega, Lib.hid (by simp), Lib.hid (by rw [Nat.pow_zero, Nat.mod_one, Nat.zero_mul, Nat.add_zero, Nat.add_zero]; exact HA.out), Lib.hid (Turn.refl _ _)⟩
  case round =>
    obtain ⟨d, r, z, rfl, rfl, hdr, HZ, HC, HT⟩ := hrel
    by_cases hr : 0 < r
    · obtain ⟨Y, hY⟩ : ∃ Y, X + v % 2 ^ d * 2 ^ b = Y := ⟨_, rfl⟩
      obtain ⟨c, hc⟩ : ∃ c, b + d = c := ⟨_, rfl⟩
      obtain ⟨u, hu⟩ : ∃ u, c % 8 = u := ⟨_, rfl⟩
      obtain ⟨q, hq⟩ : ∃ q, c / 8 = q := ⟨_, rfl⟩
      have hYlt : Y < 2 ^ c := by
        rw [← hY, ← hc]
        have h1 := Nat.mod_lt v (two_pos d)
        have h2 : (v % 2 ^ d + 1) * 2 ^ b ≤ 2 ^ d * 2 ^ b := Nat.mul_le_mul_right _ h1
        rw [Nat.add_mul, ← Nat.pow_add, Nat.one_mul, Nat.add_comm d b] at h2
        have := HX.out
        omega
      rw [hY, hc] at HC
      obtain ⟨T, hT⟩ : ∃ T, Y / 2 ^ (q * 8) = T := ⟨_, rfl⟩
      have hTlt : T < 2 ^ u := by
        rw [← hT]
        refine Nat.div_lt_of_lt_mul ?_
        rw [← Nat.pow_add, show q * 8 + u = c from by omega]; exact hYlt
      have hT8 : T < 256 := Nat.lt_of_lt_of_le hTlt (show 2 ^ u ≤ 2 ^ 8 from Nat.pow_le_pow_right (by decide) (by omega))
      have HBX : Hid (Boxes base g U L O S q ((getL 8 Y q).map (Value.int .u8)) (T : Int) (u : Int) wr) := Lib.hid (by
        have h := HC.out
        unfold Acc at h
        rw [hq, hT, hu] at h; exact h)
      have hu8 : u < 8 := by omega
      obtain ⟨s, hs⟩ : ∃ s, 8 - u = s := ⟨_, rfl⟩
      have e1 : (8 : Int) - (u : Int) = (s : Int) := by omega
      have hzlt : z < 18446744073709551616 := by rw [HZ.out]; exact Nat.lt_of_le_of_lt (Nat.div_le_self _ _) hv
      have hr64 : r ≤ 64 := by omega
      obtain ⟨k, hk⟩ : ∃ k, min r s = k := ⟨_, rfl⟩
      have hk1 : 1 ≤ k := by omega
      have hk8 : k ≤ 8 := by omega
      have huk : u + k ≤ 8 := by omega
      have HNEW : Hid (X + v % 2 ^ (d + k) * 2 ^ b = Y + z % 2 ^ k * 2 ^ c) := Lib.hid (by
        rw [← hY, ← hc, HZ.out, ← acc_at, Nat.add_mul, Nat.mul_assoc, ← Nat.pow_add, Nat.add_comm d b, Nat.add_assoc])
      have HZ2 : Hid (z / 2 ^ k = v / 2 ^ (d + k)) := Lib.hid (by rw [HZ.out, Nat.div_div_eq_div_mul, ← Nat.pow_add])
      obtain ⟨y, hy⟩ : ∃ y, z % 2 ^ k = y := ⟨_, rfl⟩
      obtain ⟨m, hm⟩ : ∃ m, y * 2 ^ u = m := ⟨_, rfl⟩
      obtain ⟨v1, v2, v3, v4, hylt⟩ := put_val T u k y m z hzlt hy hk8 huk hTlt hm
      obtain ⟨T2, hT2⟩ : ∃ T2, T + y * 2 ^ u = T2 := ⟨_, rfl⟩
      rw [hy] at HNEW
      rw [hT2] at v4
      obtain ⟨z2, hz2⟩ : ∃ z2, z / 2 ^ k = z2 := ⟨_, rfl⟩
      have v5 : (z : Int) / 2 ^ k = (z2 : Int) := by rw [div_cast _ _ (Int.natCast_nonneg z), Int.toNat_natCast, hz2]
      rw [hz2] at HZ2
      obtain ⟨r2, hr2⟩ : ∃ r2, r - k = r2 := ⟨_, rfl⟩
      have v6 : (r : Int) - (k : Int) = (r2 : Int) := by omega
      obtain ⟨u2, hu2⟩ : ∃ u2, u + k = u2 := ⟨_, rfl⟩
      have v7 : (u : Int) + (k : Int) = (u2 : Int) := by omega
      have hr2n : d + k + r2 = n := by omega
      have hr2r : r2 < r := by omega
      have hroom : q + (u2 / 8) ≤ S := by omega
      have HPART : Hid (∀ W, u2 < 8 → Boxes base g U L O S q ((getL 8 Y q).map (Value.int .u8)) (T2 : Int) (u2 : Int) W → Acc base g U L O S (X + v % 2 ^ (d + k) * 2 ^ b) (b + (d + k)) W) := Lib.hid (fun W h8 h => by
        have h1 := acc_part (k := k) hu hq (by omega) hT (by rw [hT2, hu2]; exact h)
        rw [HNEW.out, ← Nat.add_assoc, hc]; exact h1)
      have HFULL : Hid (∀ W, u2 = 8 → Boxes base g U L O S (q + 1) ((getL 8 Y q).map (Value.int .u8) ++ [Value.int .u8 (T2 : Int)]) 0 0 W → Acc base g U L O S (X + v % 2 ^ (d + k) * 2 ^ b) (b + (d + k)) W) := Lib.hid (fun W h8 h => by
        have h1 := acc_full (k := k) hu hq (by omega) hT hTlt hylt (by rw [hT2]; exact h)
        rw [HNEW.out, ← Nat.add_assoc, hc]; exact h1)
      have HB2 : Hid (Boxes base g U L O S q ((getL 8 Y q).map (Value.int .u8)) (T2 : Int) (u : Int) (wr.setCell ⟨L, 0, none⟩ (.int .u8 T2)).drew) := Lib.hid (HBX.out.setL HD.out (T2 : Int)).drew
      have HB3 : Hid (Boxes base g U L O S q ((getL 8 Y q).map (Value.int .u8)) (T2 : Int) (u2 : Int) ((wr.setCell ⟨L, 0, none⟩ (.int .u8 T2)).drew.setCell ⟨U, 0, none⟩ (.int .i64 u2)).drew) := Lib.hid (HB2.out.setU HD.out (u2 : Int)).drew
      have HT3 : Hid (Turn w ((wr.setCell ⟨L, 0, none⟩ (.int .u8 T2)).drew.setCell ⟨U, 0, none⟩ (.int .i64 u2)).drew (Here g U L O)) := Lib.hid
        ((((HT.out.trans (Turn.setCell wr ⟨L, 0, none⟩ (.int .u8 T2) (S := Here g U L O) (.inr (.inr (.inl rfl)))) (fun _ _ h => h)).trans (Turn.drew _ (Here g U L O)) (fun _ _ h => h)).trans (Turn.setCell _ ⟨U, 0, none⟩ (.int .i64 u2) (S := Here g U L O) (.inr (.inl rfl))) (fun _ _ h => h)).trans (Turn.drew _ (Here g U L O)) (fun _ _ h => h))
      have c1 := HBX.out.last
      have c2 := HBX.out.used
      have f1 := HBX.out.fl
      clear hT hTlt hq hu hc hY hYlt hs hy hm hz2 hr2 hT2 hylt HNEW
      have HU2 := Lib.hid hu2
      clear hu2
      have c3 := HB2.out.used
      have f3 := HB2.out.fu
      obtain ⟨W2, hW2⟩ : ∃ W2, (wr.setCell ⟨L, 0, none⟩ (.int .u8 T2)).drew = W2 := ⟨_, rfl⟩
      rw [hW2] at HB2 HB3 HT3 c3 f3
      have HW2 := Lib.hid hW2
      obtain ⟨W3, hW3⟩ : ∃ W3, (W2.setCell ⟨U, 0, none⟩ (.int .i64 u2)).drew = W3 := ⟨_, rfl⟩
      rw [hW3] at HB3 HT3
      have HW3 := Lib.hid hW3
      have c5 := HB3.out.used
      have c6 := HB3.out.out
      have c7 := HB3.out.last
      have f5 := HB3.out.fo
      clear hW2 hW3
      by_cases h8 : u2 < 8
      · obtain rfl : r = k := by have := HU2.out; omega
        have h8a : ((u2 : Int) == 8) = false := by simp; omega
        have HFIN := Lib.hid (HPART.out W3 h8 HB3.out)
        clear c6 c7 f5
        by_cases hrs : r ≤ s
        · go_wp2
          go_region
          rw [HW2.out]
          clear c1 c2 f1
          go_wp2
          go_region
          rw [HW3.out]
          go_wp2
          go_roundw
          case rel => exact ⟨d + r, r2, z2, rfl, rfl, hr2n, HZ2, HFIN, HT3⟩
          case measure => simp [intOf]; omega
        · exfalso; have := HU2.out; omega
      · obtain rfl : s = k := by have := HU2.out; omega
        have HU8 : Hid (u2 = 8) := Lib.hid (by have := HU2.out; omega)
        have h8a : ((u2 : Int) == 8) = true := by rw [HU8.out]; rfl
        have hroom1 : q + 1 ≤ S := by have := HU8.out; omega
        obtain ⟨W5, hr5, ho5, hg5⟩ := run_append_one (P := Try.prog) (W3.alloc (.cells #[.int .u8 (T2 : Int)] 5)) 23 23 5 i0 Try.underlying23 hi hz1 base g q S _ (.int .u8 (T2 : Int)) (HB3.out.row.alloc _) hroom1 W3.heap.size 1 (cell_new _ _ _) rfl
        obtain ⟨⟨c8, f8⟩, ⟨c9, f9⟩, ⟨c10, f10⟩, hb6⟩ := (HB3.out.alloc (.cells #[.int .u8 (T2 : Int)] 5)).push HD.out _ hg5 ho5
        have HR5 := Lib.hid hr5
        have HT5 := Lib.hid ((HT3.out.trans (Turn.alloc W3 (.cells #[.int .u8 (T2 : Int)] 5) (Here g U L O)) (fun _ _ h => h)).trans (Turn.of_grown (S := Here g U L O) hg5 (fun i e _ => by cases e; exact .inl rfl)) (fun _ _ h => h))
        obtain ⟨W6, hW6⟩ : ∃ W6, W5.setCell ⟨O, 0, none⟩ (.slice (some ⟨g, 0, none⟩) (q + 1) S) = W6 := ⟨_, rfl⟩
        have HT6 := Lib.hid (HT5.out.trans (Turn.setCell W5 ⟨O, 0, none⟩ (.slice (some ⟨g, 0, none⟩) (q + 1) S) (S := Here g U L O) (.inr (.inr (.inr rfl)))) (fun _ _ h => h))
        rw [hW6] at hb6 HT6
        have HW6 := Lib.hid hW6
        have HB6 := Lib.hid hb6
        have hb7 := hb6.setL HD.out 0
        have n1 : L ≠ O := Ne.symm HD.out.2.2.2.1
        have n2 : U ≠ O := Ne.symm HD.out.2.2.2.2.1
        have n3 : U ≠ L := Ne.symm HD.out.2.2.2.2.2
        have HFIN := Lib.hid (HFULL.out _ HU8.out (hb7.setU HD.out 0))
        have HT8 : Hid (Turn w ((W6.setCell ⟨L, 0, none⟩ (.int .u8 0)).setCell ⟨U, 0, none⟩ (.int .i64 0)) (Here g U L O)) := Lib.hid
          ((HT6.out.trans (Turn.setCell W6 ⟨L, 0, none⟩ (.int .u8 0) (S := Here g U L O) (.inr (.inr (.inl rfl)))) (fun _ _ h => h)).trans (Turn.setCell _ ⟨U, 0, none⟩ (.int .i64 0) (S := Here g U L O) (.inr (.inl rfl))) (fun _ _ h => h))
        clear hW6 hb6 hb7 hr5 ho5 hg5 h8
        by_cases hrs : s < r
        · have hrs' : ¬ r ≤ s := by omega
          go_wp2
          go_region
          rw [HW2.out]
          clear c1 c2 f1
          go_wp2
          go_region
          rw [HW3.out]
          go_wp2_with (at_builtin; refine Lib.wpList_append_run _ rfl _ _ _ _ rfl _ _ rfl rfl _ _ HR5.out ?_)
          go_roundw
          case rel =>
            rw [HW6.out]
            exact ⟨d + s, r2, z2, rfl, rfl, hr2n, HZ2, HFIN, HT8⟩
          case measure => simp [intOf]; omega
        · obtain rfl : s = r := by omega
          go_wp2
          go_region
          rw [HW2.out]
          clear c1 c2 f1
          go_wp2
          go_region
          rw [HW3.out]
          go_wp2_with (at_builtin; refine Lib.wpList_append_run _ rfl _ _ _ _ rfl _ _ rfl rfl _ _ HR5.out ?_)
          go_roundw
          case rel =>
            rw [HW6.out]
            exact ⟨d + s, r2, z2, rfl, rfl, hr2n, HZ2, HFIN, HT8⟩
          case measure => simp [intOf]; omega
    · obtain rfl : r = 0 := by omega
      obtain rfl : d = n := by omega
      go_wp2
      go_end0
      exact ⟨rfl, HC.out, HT.out⟩
end Go.Proofs.Ytpcilohiokpmnaa.Pk
