/-
  The device's laws: DeviceRot.
-/
import Derived.Test.YtjhcjnalomdbnaaDoorDevTwo
import Derived.Test.YtjhcjnalomdbnaaDoorDevFlip
namespace Go.Proofs.YtjhcjnalomdbnaaDoor.Dv
open Go.RowKit Bs

theorem inv_mid (a l c : List Int) (k : Nat) (hk : k < 8 * l.length) : Crc.inv (a ++ l ++ c) (8 * a.length + k) = a ++ Crc.inv l k ++ c := by
  have e1 : (8 * a.length + k) / 8 = a.length + k / 8 := by omega
  have e2 : (8 * a.length + k) % 8 = k % 8 := by omega
  have hj : k / 8 < l.length := by omega
  rw [Crc.inv_set (a ++ l ++ c) _ (by rw [e1]; simp; omega), Crc.inv_set l k hj, e1, e2]
  have e3 : (a ++ l ++ c).getD (a.length + k / 8) 0 = l.getD (k / 8) 0 := by
    rw [List.getD_eq_getElem?_getD, List.getD_eq_getElem?_getD, List.append_assoc, List.getElem?_append_right (by omega), Nat.add_sub_cancel_left, List.getElem?_append_left hj]
  rw [e3, List.append_assoc, List.set_append_right _ _ (by omega), Nat.add_sub_cancel_left, List.set_append_left _ _ hj, List.append_assoc]

theorem flipTo_mid (a l c : List Int) (q mask : Nat) : ∀ i, (∀ j, j < i → mask.testBit j = true → q + j < 8 * l.length) → Crc.flipTo (a ++ l ++ c) (8 * a.length + q) mask i = a ++ Crc.flipTo l q mask i ++ c := by
  intro i
  induction i with
  | zero => intro _; rfl
  | succ i ih =>
    intro h
    have h1 := ih (fun j hj => h j (by omega))
    show (if mask / 2 ^ i % 2 = 1 then _ else _) = a ++ (if mask / 2 ^ i % 2 = 1 then _ else _) ++ c
    by_cases hb : mask / 2 ^ i % 2 = 1
    · rw [if_pos hb, if_pos hb, h1, Nat.add_assoc, inv_mid _ _ _ _ (by rw [Crc.flipTo_length]; exact h i (by omega) (by rw [Nat.testBit_eq_decide_div_mod_eq]; exact decide_eq_true hb))]
    · rw [if_neg hb, if_neg hb, h1]

theorem flat_split (n : Nat) (d : List (List Int)) (h : IsD n d) (p : Nat) (hp : p < d.length) (x : List Int) : (d.set p x).flatten = (d.take p).flatten ++ x ++ (d.drop (p + 1)).flatten ∧ (d.take p).flatten.length = n * p := by
  constructor
  · rw [List.set_eq_take_append_cons_drop, if_pos hp, List.flatten_append, List.flatten_cons, List.append_assoc]
  · rw [flat_len n _ (fun l hl => h l (List.mem_of_mem_take hl)), List.length_take]
    congr 1
    omega

theorem rot_flat (s : St) (h : s.Ok) (p q mask : Nat) (hr : rotOk s (p : Int) (q : Int) mask) : (s.rot (p : Int) (q : Int) mask).dur.flatten = Crc.flip s.dur.flatten ((p : Int) * (s.size : Int) * 8 + (q : Int)) 32 mask := by
  have hp : p < s.dur.length := by have := hr.1.2; rw [h.dlen]; omega
  have hg := getD_mem h.dblk hp
  obtain ⟨e1, e2⟩ := flat_split s.size s.dur h.dblk p hp (Crc.flip (s.dur.getD p []) (q : Int) 32 mask)
  obtain ⟨e3, _⟩ := flat_split s.size s.dur h.dblk p hp (s.dur.getD p [])
  have e4 : s.dur.set p (s.dur.getD p []) = s.dur := by
    have : s.dur.getD p [] = s.dur[p] := by simp [List.getD, hp]
    rw [this, List.set_getElem_self]
  rw [e4] at e3
  show (s.dur.set (p : Int).toNat (Crc.flip (s.dur.getD (p : Int).toNat []) (q : Int) 32 mask)).flatten = _
  rw [Int.toNat_natCast, e1]
  have e5 : (p : Int) * (s.size : Int) * 8 + (q : Int) = ((8 * (s.size * p) + q : Nat) : Int) := by
    rw [Int.natCast_add, Int.natCast_mul, Int.natCast_mul, Int.mul_comm (p : Int), Int.mul_comm _ 8]
    rfl
  rw [e5]
  unfold Crc.flip
  rw [if_neg (by omega), if_neg (by omega), Int.toNat_natCast, Int.toNat_natCast]
  conv => rhs; rw [e3]
  rw [← e2]
  exact (flipTo_mid _ _ _ q mask 32 (fun j _ hj => by rw [hg.1]; have := hr.2.2.2 j hj; omega)).symm

theorem turn_bit (len q mask : Nat) : ∀ i j, (Crc.turn len q mask i).testBit (q + j) = (decide (j < i) && mask.testBit j && decide (q + j < 8 * len)) := by
  intro i
  induction i with
  | zero => intro j; simp [Crc.turn]
  | succ i ih =>
    intro j
    show (if mask / 2 ^ i % 2 = 1 ∧ q + i < 8 * len then Crc.turn len q mask i ^^^ 2 ^ (q + i) else Crc.turn len q mask i).testBit (q + j) = _
    have hm : mask.testBit i = decide (mask / 2 ^ i % 2 = 1) := Nat.testBit_eq_decide_div_mod_eq
    by_cases hc : mask / 2 ^ i % 2 = 1 ∧ q + i < 8 * len
    · rw [if_pos hc, Nat.testBit_xor, ih, Nat.testBit_two_pow]
      by_cases e : j = i
      · subst e
        simp [hm, hc.1, hc.2]
      · have e1 : ¬ i = j := fun h => e h.symm
        have e2 : (j < i + 1) = (j < i) := by apply propext; omega
        simp [e1, e2]
    · rw [if_neg hc, ih]
      by_cases e : j = i
      · subst e
        have : (mask.testBit j && decide (q + j < 8 * len)) = false := by
          rw [hm]
          by_cases h1 : mask / 2 ^ j % 2 = 1
          · have : ¬ q + j < 8 * len := fun h2 => hc ⟨h1, h2⟩
            simp [this]
          · simp [h1]
        simp only [Bool.and_assoc, this, Bool.and_false]
      · have e2 : (j < i + 1) = (j < i) := by apply propext; omega
        simp [e2]

theorem flip_ne (l : List Int) (B mask t : Nat) (h : IsB l) (ht : mask.testBit t = true) (ht2 : t < 32) (hb : B + t < 8 * l.length) : Crc.flip l (B : Int) 32 mask ≠ l := by
  intro e
  unfold Crc.flip at e
  rw [if_neg (by omega)] at e
  have h1 := Crc.num_flipTo l B mask h 32
  have e' : Crc.flipTo l B mask 32 = l := e
  rw [e'] at h1
  have h2 : Crc.turn l.length B mask 32 = 0 := by
    have h3 : Crc.num l ^^^ Crc.num l = Crc.num l ^^^ (Crc.num l ^^^ Crc.turn l.length B mask 32) := by rw [← h1]
    rw [Nat.xor_self, ← Nat.xor_assoc, Nat.xor_self, Nat.zero_xor] at h3
    exact h3.symm
  have h4 := turn_bit l.length B mask 32 t
  rw [h2, Nat.zero_testBit, ht] at h4
  simp [ht2, hb] at h4

theorem rot_twice (s : St) (h : s.Ok) (p q mask : Nat) (hr : rotOk s (p : Int) (q : Int) mask) : ((s.rot (p : Int) (q : Int) mask).rot (p : Int) (q : Int) mask).dur = s.dur := by
  have hp : p < s.dur.length := by have := hr.1.2; rw [h.dlen]; omega
  have hg := getD_mem h.dblk hp
  show (s.dur.set (p : Int).toNat _).set (p : Int).toNat (Crc.flip ((s.dur.set (p : Int).toNat (Crc.flip (s.dur.getD (p : Int).toNat []) (q : Int) 32 mask)).getD (p : Int).toNat []) (q : Int) 32 mask) = s.dur
  rw [Int.toNat_natCast, List.set_set]
  have e : (s.dur.set p (Crc.flip (s.dur.getD p []) (q : Int) 32 mask)).getD p [] = Crc.flip (s.dur.getD p []) (q : Int) 32 mask := by
    rw [List.getD_eq_getElem?_getD, List.getElem?_set_self hp]; rfl
  rw [e, Crc.flip_twice _ _ _ _ hg.2]
  have : s.dur.getD p [] = s.dur[p] := by simp [List.getD, hp]
  rw [this, List.set_getElem_self]

theorem _root_.Go.World.ownsRow.reg_own {w : World} {base e g n c : Nat} {l : List Int} (h : w.ownsRow base e 1 (.slice (some ⟨g, 0, none⟩) n c) n (l.map (Value.int .u8))) : Reg w g 0 l := Reg.own h

theorem ne_list {a b : ByteArray} (h : a ≠ b) : ¬ a.toList = b.toList := by
  rw [Go.ByteArray.toList_eq, Go.ByteArray.toList_eq]
  intro e
  apply h
  obtain ⟨⟨a⟩⟩ := a
  obtain ⟨⟨b⟩⟩ := b
  have : a = b := e
  rw [this]

theorem held_load {w0 w w' : World} {size blocks : Nat} {l : List Int} {e : Ending} (k0 : Turn w0 w nowhere) (k : LoadYes size blocks l w e w') :
    ∃ g b, e = .returned (.tuple #[.pointer (some ⟨g, 0, none⟩), .int .i64 0]) ∧ Held w0 w' g b (.slice none 0 0) (St.fresh size blocks (chunks size blocks l)) := by
  obtain ⟨g, b, he, hd, h1, h2, ht⟩ := k
  have := k0.size
  exact ⟨g, b, he, ⟨hd, fun k hk => by
    rcases hk with rfl | rfl | hk
    · omega
    · omega
    · simp [Value.ownBlock] at hk, k0.trans ht (fun _ _ h => h)⟩⟩

theorem conv_one (x : Int) (W : World) : (convert 68 9 (.slice (some ⟨W.heap.size, 0, none⟩) 1 1)).run Tryd.prog (W.alloc (.cells #[.int .u8 x] 5)) = .ok (.string (strep 1 x)) (W.alloc (.cells #[.int .u8 x] 5)) := by
  rw [← string_one]
  exact conv_any W.heap.size 0 1 1 [x] _ (fun j y hy => by
    have hg := heap_alloc_new W (.cells #[.int .u8 x] 5)
    refine ⟨?_, by unfold World.frozen?; rw [hg]; simp⟩
    rw [cell_of_row _ _ _ _ _ _ hg]
    cases j with
    | zero => simpa using hy
    | succ j => simp at hy) rfl

theorem light_small {S K : Nat} (hl : LightS (S : Int) (K : Int) = true) (hg : geoB (S : Int) (K : Int) = true) : S ≤ 512 ∧ K ≤ 40 := by
  have h1 := of_decide_eq_true hl
  have h2 := of_decide_eq_true hg
  omega

set_option maxRecDepth 100000 in
set_option maxHeartbeats 8000000 in
theorem rotlaw_any (size blocks x block bit mask : Int) (w : World) (hx : 0 ≤ x ∧ x < 256) (hbl : -9223372036854775808 ≤ block ∧ block ≤ 9223372036854775807) (hbi : -9223372036854775808 ≤ bit ∧ bit ≤ 9223372036854775807) (hmk : 0 ≤ mask ∧ mask ≤ 4294967295) (hT : T64 w) (hT2 : T32 w) :
    Calls Tryd.prog 7 #[.agg #[.int .i64 size, .int .i64 blocks], .int .u8 x, .int .i64 block, .int .i64 bit, .int .u32 mask] w fun e w' => e = .returned (.bool true) ∧ Turn w w' nowhere := by
  obtain ⟨M, rfl⟩ : ∃ M : Nat, mask = (M : Int) := ⟨mask.toNat, by omega⟩
  have t1 : Turn w (w.alloc (.cells #[.int .i64 size, .int .i64 blocks] 28)) nowhere := Turn.alloc _ _ _
  have g0 : (w.alloc (.cells #[.int .i64 size, .int .i64 blocks] 28)).cell? ⟨w.heap.size, 0, none⟩ = some (.int .i64 size) := by simp [go_sem]
  have g1 : (w.alloc (.cells #[.int .i64 size, .int .i64 blocks] 28)).cell? ⟨w.heap.size, 1, none⟩ = some (.int .i64 blocks) := by simp [go_sem]
  have HL := Lib.hid (lives_any _ (hT.turn t1 id))
  have HT2 := Lib.hid (hT2.turn t1 id)
  clear hT hT2
  go_enter Tryd.func7, Tryd.ntmps7
  go_wp2_with fail
  generalize w.alloc (.cells #[.int .i64 size, .int .i64 blocks] 28) = w1 at *
  have HG := Lib.hid (fun W (k : Turn w1 W nowhere) => (⟨k.cell g0 id, k.cell g1 id⟩ : W.cell? ⟨w.heap.size, 0, none⟩ = some (.int .i64 size) ∧ W.cell? ⟨w.heap.size, 1, none⟩ = some (.int .i64 blocks)))
  clear g0 g1
  refine HL.out.mono ?_
  rintro e w2 ⟨rfl, t2⟩
  obtain ⟨g0, g1⟩ := HG.out w2 t2
  go_wp2_with fail
  refine (light_any size blocks w2).mono ?_
  rintro e w3 ⟨rfl, t3⟩
  have t13 := t2.trans t3 (fun _ _ h => h)
  cases hl : LightS size blocks with
  | false =>
    have HF4 := Lib.hid (t1.trans t13 (fun _ _ h => h))
    clear t2 t3 t13 g0 g1
    go_wp2
    go_ret
    exact ⟨rfl, HF4.out⟩
  | true =>
    obtain ⟨g0b, g1b⟩ := HG.out w3 t13
    clear g0 g1
    go_wp2_with fail
    refine (check_any size blocks w3).mono ?_
    rintro e w4 ⟨rfl, e4⟩
    have t14 : Turn w1 w4 nowhere := by rw [e4]; exact t13.trans (Turn.alloc _ _ _) (fun _ _ h => h)
    clear e4
    cases hg : geoB size blocks with
    | false =>
      have HF4 := Lib.hid (t1.trans t14 (fun _ _ h => h))
      have hE : geoE size blocks = 2 := by unfold geoE; rw [hg]; rfl
      rw [hE]
      clear t2 t3 t13 t14 g0b g1b
      go_wp2
      go_ret
      exact ⟨rfl, HF4.out⟩
    | true =>
      have hE : geoE size blocks = 0 := by unfold geoE; rw [hg]; rfl
      rw [hE]
      have hgo := of_decide_eq_true hg
      obtain ⟨S, rfl⟩ : ∃ S : Nat, size = (S : Int) := ⟨size.toNat, by omega⟩
      obtain ⟨K, rfl⟩ : ∃ K : Nat, blocks = (K : Int) := ⟨blocks.toNat, by omega⟩
      obtain ⟨hS, hK⟩ := light_small hl hg
      have hN : S * K ≤ 20480 := Nat.le_trans (Nat.mul_le_mul hS hK) (by decide)
      have e1 : (S : Int) * (K : Int) = ((S * K : Nat) : Int) := by rw [Int.natCast_mul]
      have e2 : IntKind.i64.wrap ((S : Int) * (K : Int)) = (S : Int) * (K : Int) := by rw [e1, IntKind.wrap_i64]; omega
      have HFU := Lib.hid (fun w => full_any x (S * K) w (by omega))
      rw [← e1] at HFU
      have hcv := conv_one x w4
      obtain ⟨I, hI⟩ : ∃ I, I = rep (S * K) x := ⟨_, rfl⟩
      have hIB : IsB I := by rw [hI]; exact rep_isB _ _ hx
      have hIL : I.length = S * K := by rw [hI, rep_len]
      have hIT : strep (S * K) x = strOfNums I := by rw [hI]; rfl
      rw [hIT] at HFU
      have HIB := Lib.hid hIB
      have HIL := Lib.hid hIL
      clear hI hIT hIB hIL
      obtain ⟨g0c, g1c⟩ := HG.out w4 t14
      have t15 : Turn w1 (w4.alloc (.cells #[.int .u8 x] 5)) nowhere := t14.trans (Turn.alloc _ _ _) (fun _ _ h => h)
      clear t2 t3 t13 g0b g1b e1
      go_wp2_with fail
      refine (HFU.out _).mono ?_
      rintro e w5 ⟨rfl, rfl⟩
      generalize w4.alloc (.cells #[.int .u8 x] 5) = w5 at *
      obtain ⟨g0d, g1d⟩ := HG.out w5 t15
      clear g0c g1c hcv t14
      go_wp2_with fail
      refine (load_yes S K I w5 hg HIB.out HIL.out).mono ?_
      intro e w6 hx6
      obtain ⟨g, b, rfl, hd6⟩ := held_load t15 hx6
      have hfl : (St.fresh S K (chunks S K I)).dur.flatten = I := chunks_flat S K I HIL.out
      obtain ⟨s, hs⟩ : ∃ s, s = St.fresh S K (chunks S K I) := ⟨_, rfl⟩
      have hss : s.size = S := by rw [hs]; rfl
      have HSS := Lib.hid hs
      rw [← hs] at hd6 hfl
      clear hx6 g0d g1d
      dsimp only
      have HIM := Lib.hid (image_any g b _ s w6 hd6.dev)
      rw [hfl] at HIM
      obtain ⟨T, hTT⟩ : ∃ T, T = strOfNums I := ⟨_, rfl⟩
      rw [← hTT] at HIM ⊢
      have HD := Lib.hid hd6
      have HFL := Lib.hid hfl
      have HTT := Lib.hid hTT
      clear hd6 hs hfl hTT
      go_wp2_with fail
      refine HIM.out.mono ?_
      rintro e w7 ⟨rfl, rfl⟩
      by_cases hr : rotOk s block bit M
      · have hb := hr.1
        unfold St.hasB at hb
        obtain ⟨p, rfl⟩ : ∃ p : Nat, block = (p : Int) := ⟨block.toNat, by omega⟩
        obtain ⟨q, rfl⟩ : ∃ q : Nat, bit = (q : Int) := ⟨bit.toNat, by have := hr.2.1; omega⟩
        have hpk : p < K := by
          have h1 : s.blocks = K := by rw [HSS.out]; rfl
          omega
        have hm0 := hr.2.2.1
        obtain ⟨hlow, ht32⟩ := lowest_of 32 M hm0 (by omega)
        have hroom := hr.2.2.2 _ hlow.1
        have hps : p * S ≤ 20480 := Nat.le_trans (Nat.mul_le_mul (by omega : p ≤ 40) hS) (by decide)
        have hps2 : (p + 1) * S ≤ K * S := Nat.mul_le_mul_right _ hpk
        have hq : q < 8 * S := by omega
        have e3 : (p : Int) * (S : Int) = ((p * S : Nat) : Int) := by rw [Int.natCast_mul]
        have w1' : IntKind.i64.wrap ((p : Int) * (S : Int)) = (p : Int) * (S : Int) := by rw [e3, IntKind.wrap_i64]; omega
        have w2' : IntKind.i64.wrap ((p : Int) * (S : Int) * 8) = (p : Int) * (S : Int) * 8 := by rw [e3, IntKind.wrap_i64]; omega
        have w3' : IntKind.i64.wrap ((p : Int) * (S : Int) * 8 + (q : Int)) = (p : Int) * (S : Int) * 8 + (q : Int) := by rw [e3, IntKind.wrap_i64]; omega
        obtain ⟨J, hJ⟩ : ∃ J, J = Crc.flip I ((p : Int) * (S : Int) * 8 + (q : Int)) 32 M := ⟨_, rfl⟩
        have hJB : IsB J := by rw [hJ]; exact Crc.flip_isB _ _ _ _ HIB.out
        have hJL : J.length = S * K := by rw [hJ, Crc.flip_length, HIL.out]
        have hJI : J ≠ I := by
          rw [hJ, e3, show ((p * S : Nat) : Int) * 8 + (q : Int) = ((p * S * 8 + q : Nat) : Int) by omega]
          refine flip_ne I (p * S * 8 + q) M _ HIB.out hlow.1 ht32 ?_
          rw [HIL.out, Nat.mul_comm S K]
          rw [Nat.add_mul] at hps2
          omega
        have hrd : (s.rot (p : Int) (q : Int) M).dur.flatten = J := by rw [rot_flat s HD.out.dev.ok p q M hr, HFL.out, hss, hJ]
        have hr2 : rotOk (s.rot (p : Int) (q : Int) M) (p : Int) (q : Int) M := hr
        have hrd2 : ((s.rot (p : Int) (q : Int) M).rot (p : Int) (q : Int) M).dur.flatten = I := by rw [rot_twice s HD.out.dev.ok p q M hr, HFL.out]
        obtain ⟨U, hU⟩ : ∃ U, U = strOfNums J := ⟨_, rfl⟩
        have hUT : U ≠ T := fun e => hJI (str_inj hJB HIB.out (by rw [← hU, ← HTT.out, e]))
        have hUT2 := ne_list hUT
        have HQB : Hid ((p : Int) * (S : Int) * 8 + (q : Int) ≤ 9223372036854775807) := Lib.hid (by rw [e3]; omega)
        have HJ := Lib.hid hJ
        have HJL := Lib.hid hJL
        have HU := Lib.hid hU
        have HRD := Lib.hid hrd
        have HRD2 := Lib.hid hrd2
        have HR := Lib.hid hr
        have HR2 := Lib.hid hr2
        clear hJ hJB hJL hJI hrd hrd2 hr hr2 hU hUT hroom hlow ht32 hps hps2 hq e3 hb
        go_wp2_with fail
        refine (rot_yes g b _ s (p : Int) (q : Int) M w6 HD.out.dev (by omega) HR.out (HT2.out.held HD.out) (HT2.out.ne HD.out)).mono ?_
        intro e w7 hx7
        obtain ⟨rfl, hd7, _⟩ := HD.out.rot hx7
        have HD7 := Lib.hid hd7
        obtain ⟨cap, w8, hrun, hreg, ht8, hc1, hc2⟩ := conv_bytes I HIB.out (by rw [HIL.out]; omega) w7
        rw [← HTT.out, HIL.out] at hrun
        rw [HIL.out] at hc1
        have HREG := Lib.hid hreg
        have HT8 := Lib.hid ht8
        obtain ⟨g0e, g1e⟩ := HG.out w8 (hd7.turn.trans ht8 (fun _ _ h => h))
        clear hx7 hd7 hreg ht8
        dsimp only
        go_wp2_with fail
        refine (Crc.rflip_any (some ⟨w7.heap.size, 0, none⟩) (S * K) cap I ((p : Int) * (S : Int) * 8 + (q : Int)) 32 M w8 (by have := HREG.out.seg (by rw [HIL.out]; exact hc1) hc2; rwa [HIL.out] at this) HIB.out (by omega) HQB.out).mono ?_
        rintro e w9 ⟨fg, fc, rfl, hown, hgr⟩
        rw [← HJ.out] at hown
        have hcv2 := conv_any fg 0 (S * K) fc J w9 hown.reg_own HJL.out
        rw [← HU.out] at hcv2
        have HD9 := Lib.hid ((HD7.out.go HT8.out).go (Turn.of_grown hgr (fun i e => by cases e)))
        have HI9 := Lib.hid (image_any g b _ _ w9 HD9.out.dev)
        rw [HRD.out, ← HU.out] at HI9
        clear hown hgr
        dsimp only
        go_wp2_with fail
        refine HI9.out.mono ?_
        rintro e w10 ⟨rfl, rfl⟩
        go_wp2_with fail
        refine (rot_yes g b _ _ (p : Int) (q : Int) M w9 HD9.out.dev (by omega) HR2.out (HT2.out.held HD9.out) (HT2.out.ne HD9.out)).mono ?_
        intro e w11 hx11
        obtain ⟨rfl, hd11, _⟩ := HD9.out.rot hx11
        have HI11 := Lib.hid (image_any g b _ _ w11 hd11.dev)
        rw [HRD2.out, ← HTT.out] at HI11
        have HF11 := Lib.hid (t1.trans hd11.turn (fun _ _ h => h))
        clear hx11 hd11
        dsimp only
        go_wp2_with fail
        refine HI11.out.mono ?_
        rintro e w12 ⟨rfl, rfl⟩
        go_wp2
        go_ret
        exact ⟨by simp [hUT2], HF11.out⟩
      · go_wp2_with fail
        refine (rot_no g b _ s block bit M w6 HD.out.dev (by omega) hbi.2 hr).mono ?_
        rintro e w7 ⟨rfl, t7⟩
        have HD7 := Lib.hid (HD.out.go t7)
        have HIM7 := Lib.hid (image_any g b _ s w7 HD7.out.dev)
        rw [HFL.out, ← HTT.out] at HIM7
        have HF7 := Lib.hid (t1.trans HD7.out.turn (fun _ _ h => h))
        clear t7
        go_wp2_with fail
        refine HIM7.out.mono ?_
        rintro e w8 ⟨rfl, rfl⟩
        go_wp2
        go_ret
        exact ⟨by simp, HF7.out⟩
end Go.Proofs.YtjhcjnalomdbnaaDoor.Dv
