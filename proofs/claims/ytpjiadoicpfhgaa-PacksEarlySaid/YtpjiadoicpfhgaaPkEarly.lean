/-
  PacksEarly: numbers come one by one; left early they are left.
-/
import Derived.Test.YtpjiadoicpfhgaaPkLawEach
import Derived.StillTailTactics
import Derived.BigRegion
namespace Go.Proofs.Ytpjiadoicpfhgaa.Pk
open Go.RowKit Bs Dv Go.Shelf

attribute [local go_sem] Oper.semAt_some

theorem set_isU {l : List Int} {H : Nat} {v : Int} (h : IsU l) (hv : 0 ≤ v ∧ v < 18446744073709551616) : IsU (l.set H v) := fun x hx => by
  rcases List.mem_or_eq_of_mem_set hx with h1 | rfl
  · exact h x h1
  · exact hv
theorem snoc_isU {l : List Int} {v : Int} (h : IsU l) (hv : 0 ≤ v ∧ v < 18446744073709551616) : IsU (l ++ [v]) := fun x hx => by
  rcases List.mem_append.1 hx with h1 | h1
  · exact h x h1
  · simp at h1; subst h1; exact hv
theorem set_wid {l : List Int} {H : Nat} {v : Int} (h : IsU l) (hv : 0 ≤ v ∧ v < 18446744073709551616) : wid (l.set H v) ≤ wid (l ++ [v]) := by
  have h1 := (wid_le (l ++ [v]) _ (snoc_isU h hv).nonneg).1 (Nat.le_refl _)
  refine (wid_le _ _ (set_isU h hv).nonneg).2 (fun x hx => ?_)
  rcases List.mem_or_eq_of_mem_set hx with h2 | rfl
  · exact h1 x (List.mem_append_left _ h2)
  · exact h1 x (List.mem_append_right _ (List.mem_singleton.2 rfl))

set_option maxRecDepth 100000 in
set_option maxHeartbeats 2000000 in
theorem early_main (a0 : Option Addr) (n0 c0 : Nat) (l0 : List Int) (ea wh v : Int) (w : World) (s0 : Us.Seg w a0 n0 c0 l0) (u0 : IsU l0) (hv : 0 ≤ v ∧ v < 18446744073709551616) (hn : 0 < n0) (hn1 : n0 ≤ 100) :
    Calls Try.prog 6 #[.slice a0 n0 c0, .int .i64 ea, .int .i64 wh, .int .u64 v] w fun e w' => e = .returned (.bool true) ∧ Below w.heap.size w w' := by
  have S0 := Lib.hid s0
  have U0 := Lib.hid u0
  have L0 := Lib.hid s0.len
  have hL := s0.len
  have HT0 : Hid (Turn w (((w.alloc (.cells #[.slice a0 n0 c0] 28)).alloc (.cells #[.int .i64 ea] 3)).alloc (.cells #[.bool false] 4)) nowhere) := Lib.hid
    (Turn.then (Turn.then (Turn.alloc w _ nowhere) (Turn.alloc _ _ nowhere)) (Turn.alloc _ _ nowhere))
  have bL := Boxed.new w 28 (.slice a0 n0 c0)
  have bE := Boxed.new (w.alloc (.cells #[.slice a0 n0 c0] 28)) 3 (.int .i64 ea)
  have bR := Boxed.new ((w.alloc (.cells #[.slice a0 n0 c0] 28)).alloc (.cells #[.int .i64 ea] 3)) 4 (.bool false)
  rw [World.size_alloc] at bE
  rw [World.size_alloc, World.size_alloc] at bR
  have BL0 := Lib.hid ((bL.alloc (.cells #[.int .i64 ea] 3)).alloc (.cells #[.bool false] 4))
  have BE0 := Lib.hid (bE.alloc (.cells #[.bool false] 4))
  have BR0 := Lib.hid bR
  clear bL bE bR
  -- what Put answers, and what Each goes over
  have hc0 : canB l0.length (64 : Int) = true := (canB_iff _ _).2 ⟨by omega, by omega, by omega, by omega⟩
  have hok : (putR l0 64).1 = 0 := (put_ok _ _).2 ⟨hc0, (wid_bd u0).2⟩
  have hgp := get_put l0 64 u0 hok
  have hfb := put_isB l0 64
  obtain ⟨⟨E1, B1⟩, hR1⟩ : ∃ r, putR l0 64 = r := ⟨_, rfl⟩
  rw [hR1] at hok hgp hfb
  obtain rfl : E1 = 0 := hok
  dsimp only at hgp hfb
  rw [hL] at hgp
  obtain ⟨m1, hm1⟩ : ∃ m, B1.length = m := ⟨_, rfl⟩
  have HP := Lib.hid (put_form hR1 hm1 u0 a0 n0 c0)
  have HE : Hid (∀ x k W, Seg W x m1 k B1 → Calls Try.prog 20 #[.slice x m1 k, .int .i64 n0, .int .i64 64] W (EachX W l0 n0)) := Lib.hid (fun x k W hs => by
    have h := each_any x m1 k B1 n0 64 W hs hfb
    rwa [hgp] at h)
  have heq : ∀ (lb : Array Value) (W : World), (binOp .eql 39 (.func (.func 33) #[] lb) .nilFunc).run Try.prog W = .ok (.bool false) W := fun lb W => by kernel_rfl
  have hp1 := pick_range ea n0 (by omega)
  have hp2 := pick_range wh n0 (by omega)
  have HK1 := Lib.hid (fun W => (pick_any ea n0 W (by omega) (by omega)).mono (fun _ _ ⟨h1, h2⟩ => And.intro h1 h2.symm))
  have HK2 := Lib.hid (fun W => (pick_any wh n0 W (by omega) (by omega)).mono (fun _ _ ⟨h1, h2⟩ => And.intro h1 h2.symm))
  obtain ⟨E, hE⟩ := Int.eq_ofNat_of_zero_le hp1.1
  obtain ⟨H, hH⟩ := Int.eq_ofNat_of_zero_le hp2.1
  rw [hE] at hp1 HK1
  rw [hH] at hp2 HK2
  have hEn : E < n0 := by omega
  have hHn : H < n0 := by omega
  have g1 : ¬ (100 : Int) < (n0 : Int) := by omega
  have g2 : ((n0 : Int) == 0) = false := by simp; omega
  clear s0 u0 hc0 hgp hfb hR1 hm1 hp1 hp2 hE hH hL
  refine (callsIn_wide (n := 3)).1 ?_
  refine callsIn_of_wp_marks Try.func6 rfl trivial ?_ rfl
  simp only [Try.ntmps6, List.size_toArray, List.length_cons, List.length_nil, Nat.reduceAdd, Nat.reduceSub, Array.replicate_succ, Array.replicate_zero, List.push_toArray, List.append_toArray, List.nil_append, List.cons_append]
  refine wpIn_wide.2 ?_
  go_wp2_with fail
  refine (lives_any _).mono ?_
  rintro e w1 ⟨rfl, hT1⟩
  have T1 := Lib.hid (Turn.then HT0.out hT1)
  have bL := turn_boxed hT1 BL0.out
  have bE := turn_boxed hT1 BE0.out
  have bR := turn_boxed hT1 BR0.out
  have BL1 := Lib.hid bL
  have BE1 := Lib.hid bE
  have BR1 := Lib.hid bR
  have cL := bL.cell
  clear bL bE bR hT1 HT0 BL0 BE0 BR0
  dsimp only
  go_wp2_with fail
  refine (HP.out _ (useg_stay S0.out T1.out)).mono ?_
  rintro e w2 ⟨x1, k1, rfl, hs, hT⟩
  have T2 := Lib.hid (Turn.then T1.out hT)
  have X2 := Lib.hid hs
  have BL2 := Lib.hid (turn_boxed hT BL1.out)
  have BE2 := Lib.hid (turn_boxed hT BE1.out)
  have BR2 := Lib.hid (turn_boxed hT BR1.out)
  have cL := BL2.out.cell
  clear hs hT BL1 BE1 BR1
  dsimp only
  go_wp2_with fail
  refine (HE.out _ _ _ X2.out).mono ?_
  rintro e w3 ⟨lb, P, l', cnt, v', rfl, hI, hP, hT, hLL, hcn⟩
  have T3 := Lib.hid (Turn.then T2.out hT)
  have HI := Lib.hid hI
  have HPP := Lib.hid hP
  have HLL := Lib.hid hLL
  have Z23 := Lib.hid hT.size
  have BL3 := Lib.hid (turn_boxed hT BL2.out)
  have BE3 := Lib.hid (turn_boxed hT BE2.out)
  have BR3 := Lib.hid (turn_boxed hT BR2.out)
  have Z2 := Lib.hid BR2.out.lt
  have cL := BL3.out.cell
  have cE := BE3.out.cell
  have fE := BE3.out.frozen
  clear hI hP hT hLL hcn BL2 BE2 BR2
  dsimp only
  go_wp2_with fail
  refine wp_region_still_tail 8 (by kernel_rfl) (by kernel_rfl) ?_
  change wpStill _ _ w3.drew _ _ _
  simp only [List.take_succ_cons, List.take_zero, List.drop_succ_cons, List.drop_zero]
  still_step
  still_step
  still_step
  still_call (HK1.out _)
  still_step
  still_step
  still_step
  still_call (HK2.out _)
  refine wpStill_nil ?_
  change wpList _ _ _ _ _ w3.drew
  go_wp2
  obtain ⟨W4, hW4⟩ : ∃ W4, ((w3.setCell ⟨w.heap.size + 1, 0, none⟩ (.int .i64 (E : Int))).alloc (.cells #[.int .i64 0] 3)).drew = W4 := ⟨_, rfl⟩
  have z2 := Z2.out
  have z23 := Z23.out
  have hsz4 : W4.heap.size = w3.heap.size + 1 := by
    rw [← hW4]
    have h := World.size_alloc (w3.setCell ⟨w.heap.size + 1, 0, none⟩ (.int .i64 (E : Int))) (.cells #[.int .i64 0] 3)
    rw [show (w3.setCell ⟨w.heap.size + 1, 0, none⟩ (.int .i64 (E : Int))).heap.size = w3.heap.size from by simp [World.setCell]] at h
    exact h
  have r34 : Turn w3 W4 (fun i => i = w.heap.size + 1) := by
    rw [← hW4]
    exact ((Turn.setCell w3 ⟨w.heap.size + 1, 0, none⟩ (.int .i64 (E : Int)) (S := fun i => i = w.heap.size + 1) rfl).trans (Turn.alloc _ _ nowhere) (fun _ _ h => h.elim)).trans (Turn.drew _ nowhere) (fun _ _ h => h.elim)
  have bN4 : Boxed W4 w3.heap.size 3 (.int .i64 0) := by
    rw [← hW4]
    have h := Boxed.new (w3.setCell ⟨w.heap.size + 1, 0, none⟩ (.int .i64 (E : Int))) 3 (.int .i64 0)
    rw [show (w3.setCell ⟨w.heap.size + 1, 0, none⟩ (.int .i64 (E : Int))).heap.size = w3.heap.size from by simp [World.setCell]] at h
    exact h
  have bE4 : Boxed W4 (w.heap.size + 1) 3 (.int .i64 (E : Int)) := by
    rw [← hW4]
    exact (BE3.out.set (.int .i64 (E : Int))).alloc _
  have bL4 : Boxed W4 w.heap.size 28 (.slice a0 n0 c0) := (r34.block w.heap.size BL3.out.lt (by omega)).trans BL3.out
  have bR4 : Boxed W4 (w.heap.size + 1 + 1) 4 (.bool false) := (r34.block _ BR3.out.lt (by omega)).trans BR3.out
  have T4 : Turn w W4 nowhere := Turn.trans T3.out r34 (fun i hi h => by omega)
  have hP4 : ∀ i, P i → i < w3.heap.size := fun i hi => (HPP.out i hi).2
  have hI4 := HI.out.turn r34 (fun i hi h => by have := (HPP.out i hi).1; omega)
  have hP5 : ∀ i, P i → i < W4.heap.size := fun i hi => by have := hP4 i hi; omega
  have hcnt : cnt = n0 := by rw [← L0.out, HLL.out, getL_length]
  have HNth : Hid (∀ i, i < n0 → l0.getD i 0 = (nth l' v' i : Int)) := Lib.hid (fun i hi => by
    rw [HLL.out, getL_at _ _ _ _ (by omega)]; rfl)
  rw [hW4]
  clear hW4 cL cE fE heq BL3 BE3 BR3 r34 HI HP HE
  obtain ⟨gA, o, hform, hcell⟩ := seg_form S0.out
  have HCell := Lib.hid hcell
  obtain rfl : a0 = some ⟨gA, o, none⟩ := hform.resolve_right (by omega)
  clear hform hcell
  subst hcnt
  refine (wpIn_wide (n := 3)).1 ?_
  refine wpIn_rangeFunc_ownG rfl (by decide) (gf := 33) (lb := lb) rfl trivial (enters_of Try.func33 (by kernel_rfl) rfl)
    (iter_stops 2 (by decide) P l' cnt v' lb _ hI4 hP5) (fun h k => Kept.t h k) (Kept.b hP5) (Below.refl _ _) (fun _ => rfl)
    (fun pre W => (pre = (List.finRange cnt).take pre.length ∧ pre.length ≤ E) ∧ Boxed W w3.heap.size 3 (.int .i64 (pre.length : Int)) ∧ Below w3.heap.size W4 W)
    (fun cd pre W => (cd = Code.exit 0 ∧ Boxed W w3.heap.size 3 (.int .i64 (E : Int)) ∧ Below w3.heap.size W4 W) ∨ (¬ ∃ k, k ≤ cnt ∧ pre = (List.finRange cnt).take k))
    (OwnFrom.and (ownFrom_pure _ (fun (pre : List (Fin cnt)) => pre = (List.finRange cnt).take pre.length ∧ pre.length ≤ E)) (OwnFrom.and (Own.from (boxed_own w3.heap.size 3 (fun (pre : List (Fin cnt)) => .int .i64 (pre.length : Int))) _) (ownFrom_below (by omega) (by omega))))
    (fun cd s A B row hs hg hr => by
      rcases hs with ⟨h1, h2, h3⟩ | h
      · exact .inl ⟨h1, Own.from (boxed_own w3.heap.size 3 (fun (_ : List (Fin cnt)) => .int .i64 (E : Int))) _ s A B row h2 hg hr, ownFrom_below (β := List (Fin cnt)) (by omega) (by omega) s A B row h3 hg hr⟩
      · exact .inr h)
    ⟨⟨rfl, Nat.zero_le _⟩, bN4, Below.refl _ _⟩
    (fun x => { tmps := #[.slice (some ⟨gA, o, none⟩) cnt c0, .int .i64 ea, .int .i64 (H : Int), .int .u64 v, .pointer (some ⟨w.heap.size, 0, none⟩), .pointer (some ⟨w.heap.size + 1, 0, none⟩), undef, undef, .pointer (some ⟨w.heap.size + 1 + 1, 0, none⟩), .slice x1 m1 k1, .int .i64 0, .func (.func 33) #[] lb, .pointer (some ⟨w3.heap.size, 0, none⟩), .int .i64 (x.1 : Int), .int .u64 (nth l' v' x.1 : Int), undef, undef, undef, undef, undef, undef, .bool true, .bool false, .slice (some ⟨gA, o, none⟩) cnt c0, .int .i64 (cnt : Int), .bool (decide ((100 : Int) < (cnt : Int))), .bool (decide ((100 : Int) < (cnt : Int))), .slice (some ⟨gA, o, none⟩) cnt c0, .int .i64 (cnt : Int), .bool false, .bool (decide ((100 : Int) < (cnt : Int))), .tuple #[.slice x1 m1 k1, .int .i64 0], .slice (some ⟨gA, o, none⟩) cnt c0, .tuple #[.slice x1 m1 k1, .int .i64 0], .slice x1 m1 k1, .int .i64 0, .slice x1 m1 k1, .slice (some ⟨gA, o, none⟩) cnt c0, .int .i64 (cnt : Int), .func (.func 33) #[] lb, .int .i64 0, .bool false, .bool false, .func (.func 33) #[] lb, .bool false, .bool false, .int .i64 ea, .slice (some ⟨gA, o, none⟩) cnt c0, .int .i64 (cnt : Int), .int .i64 (E : Int), .int .i64 wh, .slice (some ⟨gA, o, none⟩) cnt c0, .int .i64 (cnt : Int), .int .i64 (H : Int), .func (.func 33) #[] lb, .int .i64 (x.1 : Int), .int .u64 (nth l' v' x.1 : Int), undef, undef, undef, undef, undef, undef, undef, undef, undef, undef, undef, undef, undef, undef, undef, undef, undef, undef, undef, undef, undef, undef, undef, undef, undef, undef, undef, undef, undef, undef, undef, undef, undef, undef, undef, undef, undef, undef, undef, undef, undef, undef, undef, undef, undef, undef, undef, undef, undef, undef, undef, undef, undef, undef, undef, undef, undef, undef], defers := [] }) ?assign ?body ?done ?stop
  case assign =>
    intro l x W K hK
    gi_wp2
    exact hK
  case body =>
    rintro y pre ⟨i, hi⟩ W ⟨⟨hpre, hle⟩, hN, hB⟩ _
    have HPre := Lib.hid hpre
    have bE5 := below_boxed hB (by omega) bE4
    have bL5 := below_boxed hB (by omega) bL4
    have bR5 := below_boxed hB (by omega) bR4
    have cE := bE5.cell
    have cL := bL5.cell
    have cN := hN.cell
    have fN := hN.frozen
    have cR := bR5.cell
    have fR := bR5.frozen
    clear hpre
    dsimp only
    by_cases hpe : pre.length = E
    · have HN := Lib.hid hN
      have HBB := Lib.hid hB
      have HPE := Lib.hid hpe
      have ee : ((pre.length : Int) == (E : Int)) = true := by rw [hpe]; exact beq_self_eq_true _
      clear hpe hN hB
      gi_wp2
      exact ⟨KeepsFrom.refl _ _, .inl ⟨rfl, by rw [← HPE.out]; exact HN.out, HBB.out⟩⟩
    · have ee : ((pre.length : Int) == (E : Int)) = false := beq_eq_false_iff_ne.2 (by omega)
      have hlt : pre.length < E := by omega
      clear hpe
      by_cases he : i = pre.length
      · have HNP := Lib.hid (is_prefix (x := ⟨i, hi⟩) HPre.out he)
        have tW : Turn w W nowhere := Turn.trans T4 ⟨hB.os, hB.tape, hB.output, hB.size, fun j _ hj => hB.block j (by omega)⟩ (S' := fun j => w3.heap.size ≤ j) (fun j hj h => by omega)
        have q := tW.cell (HCell.out i hi) id
        rw [HNth.out i hi] at q
        have HN := Lib.hid hN
        have HBB := Lib.hid hB
        have HE2 := Lib.hid he
        have ei : ((i : Int) != (pre.length : Int)) = false := by rw [he]; exact bne_self_eq_false _
        have ei2 : ((i : Int) == (pre.length : Int)) = true := by rw [he]; exact beq_self_eq_true _
        obtain ⟨z, hz⟩ : ∃ z, nth l' v' i = z := ⟨_, rfl⟩
        rw [hz] at q ⊢
        have ez : ((z : Int) != (z : Int)) = false := bne_self_eq_false _
        have hcI : (i : Int) < (cnt : Int) := by omega
        clear he hz hN hB tW
        gi_wp2
        refine ⟨(KeepsOthers.setCell _ _ _).from _, below_kept ((Below.refl w3.heap.size W).setCell (p := ⟨w3.heap.size, 0, none⟩) (Nat.le_refl _) _) hP4, ⟨HNP.out, by rw [List.length_append, List.length_singleton]; omega⟩, ?_, HBB.out.setCell (p := ⟨w3.heap.size, 0, none⟩) (Nat.le_refl _) _⟩
        have h := HN.out.set (.int .i64 ((pre.length : Int) + 1))
        rw [List.length_append, List.length_singleton]
        exact h
      · have HNP := Lib.hid (not_prefix (pre := pre) (x := ⟨i, hi⟩) he)
        have ei : ((i : Int) != (pre.length : Int)) = true := bne_iff_ne.2 (by omega)
        have ei2 : ((i : Int) == (pre.length : Int)) = false := beq_eq_false_iff_ne.2 (by omega)
        clear he
        gi_wp2
        exact ⟨(KeepsOthers.setCell _ _ _).from _, .inr HNP.out⟩
  case done =>
    rintro D ys W hD rfl ⟨⟨_, hle⟩, _⟩ _
    rw [List.length_finRange] at hle
    omega
  case stop =>
    rintro D cd pre W hD h1 h2 hK
    rcases h2 with ⟨rfl, hN, hB⟩ | h2
    · have T5 := Lib.hid (show Turn w W nowhere from Turn.trans T4 ⟨hB.os, hB.tape, hB.output, hB.size, fun j _ hj => hB.block j (by omega)⟩ (S' := fun j => w3.heap.size ≤ j) (fun j hj h => by omega))
      have hzW := hB.size
      have hDl := (Array.getElem?_eq_some_iff.1 hK).1
      have bL5 := below_boxed hB (by omega) bL4
      have bE5 := below_boxed hB (by omega) bE4
      have bR5 := below_boxed hB (by omega) bR4
      have BL5 := Lib.hid bL5
      have BE5 := Lib.hid bE5
      have BR5 := Lib.hid bR5
      have BN5 := Lib.hid hN
      have HKD := Lib.hid hK
      have cL := bL5.cell
      obtain ⟨sz, hszz⟩ : ∃ s, W.heap.size = s := ⟨_, rfl⟩
      have LT : Hid (w.heap.size < sz ∧ w.heap.size + 1 < sz ∧ w.heap.size + 1 + 1 < sz ∧ w3.heap.size < sz ∧ D < sz ∧ w.heap.size ≤ D) := Lib.hid (by
        have h1 := bL5.lt; have h2 := bE5.lt; have h3 := bR5.lt; have h4 := hN.lt; omega)
      have HSZ := Lib.hid hszz
      obtain ⟨j0, hj, hy0, hy1, hy2⟩ := info_parts Us.info_u64
      have HO := Lib.hid (fun W' (hs : Us.Seg W' (some ⟨gA, o, none⟩) cnt c0 l0) => Us.own_any (some ⟨gA, o, none⟩) cnt c0 l0 W' hs (by omega))
      have hH1 : (H : Int) < (cnt : Int) := by omega
      have u1 := set_isU (H := H) U0.out hv
      have u2 := snoc_isU U0.out hv
      have hwl := set_wid (H := H) U0.out hv
      have hwb := wid_bd u2
      have HWd := Lib.hid (fun a k W' hs => width_any a (cnt + 1) k (l0 ++ [v]) W' hs u2)
      have hok2 : (putR (l0.set H v) (wid (l0 ++ [v]) : Int)).1 = 0 := (put_ok _ _).2 ⟨(canB_iff _ _).2 (by rw [List.length_set, L0.out]; omega), by omega⟩
      have hgp2 := get_put (l0.set H v) _ u1 hok2
      have hfb2 := put_isB (l0.set H v) (wid (l0 ++ [v]) : Int)
      have hlen1 : (l0.set H v).length = cnt := by rw [List.length_set, L0.out]
      obtain ⟨Wd, hWd⟩ : ∃ W, wid (l0 ++ [v]) = W := ⟨_, rfl⟩
      rw [hWd] at HWd hok2 hgp2 hfb2 hwb
      obtain ⟨⟨E2, B2⟩, hR2⟩ : ∃ r, putR (l0.set H v) (Wd : Int) = r := ⟨_, rfl⟩
      rw [hR2] at hok2 hgp2 hfb2
      obtain rfl : E2 = 0 := hok2
      dsimp only at hgp2 hfb2
      rw [hlen1] at hgp2
      obtain ⟨m2, hm2⟩ : ∃ m, B2.length = m := ⟨_, rfl⟩
      have HP2 := Lib.hid (fun a k W' hs => put_form hR2 hm2 u1 a cnt k W' hs)
      have HG2 := Lib.hid (fun a k W' hs => get_form (m := cnt) hgp2 hlen1 hfb2 a m2 k W' hs)
      have eE : ((E : Int) == (E : Int)) = true := beq_self_eq_true _
      clear hR2 hm2 hgp2 hfb2 hWd hwl u1 u2 hlen1
      clear hN hB hK bL5 bE5 bR5 bL4 bE4 bR4 bN4 hI4 hP4 hP5 T4 hszz hsz4 hDl h1 hD hzW z2 z23 HK1 HK2 hEn hHn HNth HCell Z2 Z23 HLL T3 T2 T1 X2 HPP
      refine wpIn_wide.2 ?_
      go_wp2_with fail
      refine (HO.out _ (useg_stay S0.out T5.out)).mono ?_
      rintro e w6 ⟨g6, k6, rfl, ho6, hg6⟩
      have R6 := Lib.hid (turn_of hg6)
      have HO6 := Lib.hid ho6
      have GL6 : Hid (sz ≤ g6 ∧ g6 < w6.heap.size) := Lib.hid (by rw [← HSZ.out]; exact ho6.lt _ rfl)
      have cI := ho6.cellAt H (by omega)
      rw [List.getElem?_map, List.getElem?_eq_getElem (by rw [L0.out]; omega)] at cI
      simp only [Option.map_some] at cI
      generalize l0[H]'_ = zH at cI
      have fI := ho6.frozenAt H
      have HST := Lib.hid ((ho6.stored H (.int .u64 v)).1)
      have cL6 := (turn_of hg6).cell cL id
      have hne6 : w.heap.size ≠ g6 := by have h1 := GL6.out.1; have h2 := LT.out.1; omega
      have R7 := Lib.hid (show Turn W (w6.setCell ⟨g6, H, none⟩ (.int .u64 v)) (fun i => sz ≤ i) from ((R6.out.mono (S' := fun i => sz ≤ i) (fun _ _ h => h.elim)).trans (Turn.setCell w6 ⟨g6, H, none⟩ (.int .u64 v) (S := fun i => i = g6) rfl) (S' := fun i => i = g6) (S := fun i => sz ≤ i) (fun i hi h => by have := GL6.out.1; omega)))
      have Z7 : Hid ((w6.setCell ⟨g6, H, none⟩ (.int .u64 v)).heap.size = w6.heap.size) := Lib.hid (by simp [World.setCell])
      clear ho6 hg6
      dsimp only
      go_wp2_with fail
      have S7 := Lib.hid (useg_stay S0.out (Turn.trans T5.out R7.out (S := nowhere) (fun i hi h => by have := LT.out.1; omega)))
      refine (HO.out _ S7.out).mono ?_
      rintro e w8 ⟨g8, k8, rfl, ho8, hg8⟩
      have hz67 := Z7.out
      have g6b := GL6.out
      have g8b : w6.heap.size ≤ g8 := by rw [← hz67]; exact (ho8.lt _ rfl).1
      have HO8 := Lib.hid (ho8.alloc (.cells #[.int .u64 v] 27))
      have hrow7 := HST.out
      rw [← List.map_set] at hrow7
      have HM8 := Lib.hid (own_turn_any (own_turn_any hrow7 (turn_of hg8) id) (Turn.alloc w8 (.cells #[.int .u64 v] 27) nowhere) id)
      have R8 := Lib.hid (show Turn W (w8.alloc (.cells #[.int .u64 v] 27)) (fun i => sz ≤ i) from (R7.out.trans (turn_of hg8) (fun _ _ h => h.elim)).trans (Turn.alloc _ _ nowhere) (fun _ _ h => h.elim))
      have hbase : (w6.setCell ⟨g6, H, none⟩ (.int .u64 v)).heap.size ≤ (w8.alloc (.cells #[.int .u64 v] 27)).heap.size := Nat.le_trans hg8.size (by simp)
      have HBase := Lib.hid hbase
      have HL8 := Lib.hid (Us.lit_seg w8 [v] (by simp))
      have G8 := Lib.hid g8b
      clear ho8 hg8 hrow7 hbase hz67 g6b g8b cL6 cI fI hne6
      dsimp only
      go_wp2_with (at_builtin; refine Us.wpList_append_seg rfl (.tmp 80) (.tmp 82) 28 rfl (w6.setCell ⟨g6, H, none⟩ (.int .u64 v)).heap.size 27 j0 Try.underlying28 hj hy0 hy1 hy2 g8 cnt k8 _ rfl HO8.out (some ⟨w8.heap.size, 0, none⟩) 1 1 [v] rfl HL8.out (by omega) HBase.out ?_; intro g9 k9 w9 hown9 hgrow9; rw [← List.map_append] at hown9; have X9 := Lib.hid (Us.Seg.own hown9); have R89 := Lib.hid (Turn.of_grown (S := fun i => i = g8) hgrow9 (fun i e _ => by cases e; rfl)); clear hown9 hgrow9)
      refine (HWd.out _ _ _ X9.out).mono ?_
      rintro e w9 ⟨rfl, rfl⟩
      have R9 := Lib.hid (R8.out.trans R89.out (S' := fun i => i = g8) (fun i hi h => by have h1 := G8.out; have h2 := GL6.out; omega))
      have HM9 := Lib.hid (own_turn_any HM8.out R89.out (by have h1 := G8.out; have h2 := GL6.out; omega))
      have XM9 := Lib.hid (Us.Seg.own HM9.out)
      dsimp only
      go_wp2_with fail
      refine (HP2.out _ _ _ XM9.out).mono ?_
      rintro e wa ⟨xa, ka, rfl, hsa, hTa⟩
      have XA := Lib.hid hsa
      have RA := Lib.hid (R9.out.trans hTa (fun _ _ h => h.elim))
      have XMA := Lib.hid (useg_stay XM9.out hTa)
      clear hsa hTa
      dsimp only
      go_wp2_with fail
      refine (HG2.out _ _ _ XA.out).mono ?_
      rintro e wb ⟨xb, kb, rfl, hsb, hTb⟩
      have XB := Lib.hid hsb
      have RB := Lib.hid (RA.out.trans hTb (fun _ _ h => h.elim))
      have XMB := Lib.hid (useg_stay XMA.out hTb)
      have lt := LT.out
      have cN := RB.out.cell BN5.out.cell (by show ¬ sz ≤ w3.heap.size; omega)
      have cE := RB.out.cell BE5.out.cell (by show ¬ sz ≤ w.heap.size + 1; omega)
      clear hsb hTb lt
      dsimp only
      go_wp2_with fail
      refine (usame_form _ _ _ _ _ _ _ _ wb XB.out XMB.out true (Us.sameB_yes rfl)).mono ?_
      rintro e wc ⟨rfl, hTc⟩
      have lt := LT.out
      have RC := Lib.hid (RB.out.trans hTc (fun _ _ h => h.elim))
      have cR := RC.out.cell BR5.out.cell (by show ¬ sz ≤ w.heap.size + 1 + 1; omega)
      have fR := (RC.out.frozen (p := ⟨w.heap.size + 1 + 1, 0, none⟩) BR5.out.lt (by show ¬ sz ≤ w.heap.size + 1 + 1; omega)).trans BR5.out.frozen
      have HKc := Lib.hid ((RC.out.block D (by rw [HSZ.out]; omega) (by omega)).trans HKD.out)
      clear hTc lt
      dsimp only
      go_wp2
      have lt := LT.out
      have hK1 := (KeepsOthers.setCell wc ⟨w.heap.size + 1 + 1, 0, none⟩ (.bool true)).same D _ HKc.out rfl
      have d1 := cell_kept (cell_same (v := .bool true) cR) (grownBy_putObj' _ D (.deferred none)) (fun r e => by cases e; exact ⟨_, hK1, rfl⟩)
      have tF : Turn w ((wc.setCell ⟨w.heap.size + 1 + 1, 0, none⟩ (.bool true)).putObj D (.deferred none)) nowhere :=
        Turn.trans (Turn.trans (Turn.trans T5.out RC.out (fun i hi h => by have h2 : sz ≤ i := h; omega)) (Turn.setCell wc ⟨w.heap.size + 1 + 1, 0, none⟩ (.bool true) (S := fun i => i = w.heap.size + 1 + 1) rfl) (fun i hi h => by omega)) (Turn.of_grown (S := fun i => i = D) (grownBy_putObj' _ D (.deferred none)) (fun i e _ => by cases e; rfl)) (fun i hi h => by have h2 : D = i := h.symm; omega)
      refine ⟨by simp, .inl ⟨_, _, rfl, run_takeDeferred hK1, ?_⟩⟩
      refine ⟨.bool true, ?_, rfl, below_of tF⟩
      simp [results, Try.f6, go_sem, d1]
    · exact absurd h1 h2

set_option maxHeartbeats 1000000 in
theorem early_skip (a0 : Option Addr) (n0 c0 : Nat) (ea wh v : Int) (w : World) (hn : n0 = 0 ∨ 100 < n0) :
    Calls Try.prog 6 #[.slice a0 n0 c0, .int .i64 ea, .int .i64 wh, .int .u64 v] w fun e w' => e = .returned (.bool true) ∧ Below w.heap.size w w' := by
  have HT0 : Hid (Turn w (((w.alloc (.cells #[.slice a0 n0 c0] 28)).alloc (.cells #[.int .i64 ea] 3)).alloc (.cells #[.bool false] 4)) nowhere) := Lib.hid
    (Turn.then (Turn.then (Turn.alloc w _ nowhere) (Turn.alloc _ _ nowhere)) (Turn.alloc _ _ nowhere))
  have bL := Boxed.new w 28 (.slice a0 n0 c0)
  have bR := Boxed.new ((w.alloc (.cells #[.slice a0 n0 c0] 28)).alloc (.cells #[.int .i64 ea] 3)) 4 (.bool false)
  rw [World.size_alloc, World.size_alloc] at bR
  have BL0 := Lib.hid ((bL.alloc (.cells #[.int .i64 ea] 3)).alloc (.cells #[.bool false] 4))
  have BR0 := Lib.hid bR
  clear bL bR
  have hg : n0 = 0 ∨ (100 : Int) < (n0 : Int) := by omega
  clear hn
  rcases hg with hz | hz
  all_goals
    first
      | subst hz
      | skip
    go_enter Try.func6, Try.ntmps6
    go_wp2_with fail
    refine (lives_any _).mono ?_
    rintro e w1 ⟨rfl, hT1⟩
    have T1 := Lib.hid (Turn.then HT0.out hT1)
    have bL := turn_boxed hT1 BL0.out
    have bR := turn_boxed hT1 BR0.out
    have cL := bL.cell
    have cR := bR.cell
    have fR := bR.frozen
    have BR1 := Lib.hid bR
    clear bL bR hT1 HT0 BL0 BR0
    dsimp only
    go_wp2
    have d1 := (BR1.out.set (.bool true)).cell
    have tF : Turn w (w1.setCell ⟨w.heap.size + 1 + 1, 0, none⟩ (.bool true)) nowhere := Turn.trans T1.out (Turn.setCell w1 ⟨w.heap.size + 1 + 1, 0, none⟩ (.bool true) (S := fun i => i = w.heap.size + 1 + 1) rfl) (fun i hi h => by omega)
    refine bodyPost_ret (v := .bool true) (by simp [results, Try.f6, go_sem, d1]) rfl ⟨rfl, below_of tF⟩

theorem early_any (a0 : Option Addr) (n0 c0 : Nat) (l0 : List Int) (ea wh v : Int) (w : World) (s0 : Us.Seg w a0 n0 c0 l0) (u0 : IsU l0) (hv : 0 ≤ v ∧ v ≤ 18446744073709551615) :
    Calls Try.prog 6 #[.slice a0 n0 c0, .int .i64 ea, .int .i64 wh, .int .u64 v] w fun e w' => e = .returned (.bool true) ∧ Below w.heap.size w w' := by
  by_cases h : n0 = 0 ∨ 100 < n0
  · exact early_skip a0 n0 c0 ea wh v w h
  · exact early_main a0 n0 c0 l0 ea wh v w s0 u0 ⟨hv.1, by omega⟩ (by omega) (by omega)
end Go.Proofs.Ytpjiadoicpfhgaa.Pk
