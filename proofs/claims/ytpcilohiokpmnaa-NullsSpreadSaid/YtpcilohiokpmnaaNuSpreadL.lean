/-
  NullsSpread: what is not true has the numbers from 0 on; runs together are the flags, neighbours are unlike.
-/
import Derived.Test.YtpcilohiokpmnaaNuLaw
import Derived.Test.YtpcilohiokpmnaaNuTell
namespace Go.Proofs.Ytpcilohiokpmnaa.Nu
open Go.RowKit
open Dv (Turn nowhere)
open Pk (Turn.then PutF below_of)

theorem places_at (l : List Bool) (k : Nat) (hk : k < l.length) (b : Bool) (hb : l.getD k false = b) : (placesF 0 l).getD k 0 = if b = true then -1 else (nextP (l.take k) : Int) := by
  have h1 := (places_take l k hk b hb).1
  have h2 : l = l.take (k + 1) ++ l.drop (k + 1) := (List.take_append_drop _ _).symm
  have hl : (placesF 0 (l.take k)).length = k := by rw [places_len, List.length_take]; omega
  conv => lhs; rw [h2, places_app, h1]
  rw [List.append_assoc, List.getD_eq_getElem?_getD, List.getElem?_append_right (by rw [hl]; exact Nat.le_refl _), hl, Nat.sub_self]
  rfl
/-- the flags of the first k runs -/
def accL (l : List Bool) (k : Nat) : List Bool := flagsR ((runsL l).take k)
theorem accL_zero (l : List Bool) : accL l 0 = [] := rfl
theorem accL_all (l : List Bool) : accL l (runsL l).length = l := by unfold accL; rw [List.take_length, runs_join]
theorem accL_succ (l : List Bool) (k : Nat) (hk : k < (runsL l).length) : accL l (k + 1) = accL l k ++ List.replicate ((runsL l).getD k (0, false)).1 ((runsL l).getD k (0, false)).2 ∧ (accL l k).length + ((runsL l).getD k (0, false)).1 ≤ l.length ∧ 1 ≤ ((runsL l).getD k (0, false)).1 := by
  have h2 := flags_len _ _ hk
  rw [runs_join] at h2
  refine ⟨(flags_at _ _ hk).2, h2, ?_⟩
  rw [List.getD_eq_getElem?_getD, List.getElem?_eq_getElem hk]
  exact runs_pos l _ (List.getElem_mem hk)
theorem lens_at (l : List Bool) (k : Nat) (hk : k < (runsL l).length) : (lens l).getD k 0 = (((runsL l).getD k (0, false)).1 : Int) := by
  unfold lens; simp [List.getD, hk]
theorem flgs_at (l : List Bool) (k : Nat) (hk : k < (runsL l).length) : (flgs l).getD k false = ((runsL l).getD k (0, false)).2 := by
  unfold flgs; simp [List.getD, hk]

set_option maxRecDepth 100000 in
set_option maxHeartbeats 4000000 in
theorem spreadl_no (a : Option Addr) (n c : Nat) (w : World) (h : 300 < n) :
    Calls Try.prog 6 #[.slice a n c] w fun e w' => e = .returned (.bool true) ∧ Below w.heap.size w w' := by
  have h' : (300 : Int) < (n : Int) := by omega
  clear h
  go_enter Try.func6, Try.ntmps6
  go_wp2_with fail
  refine (lives_any _).mono ?_
  rintro e w1 ⟨rfl, hT⟩
  have T1 := Lib.hid hT
  clear hT
  dsimp only
  go_wp2
  go_ret
  exact ⟨rfl, below_of T1.out⟩

set_option maxRecDepth 100000 in
set_option maxHeartbeats 8000000 in
theorem spreadl_yes (a : Option Addr) (n c : Nat) (l : List Bool) (w : World) (s : Bl.Seg w a n c l) (h : n ≤ 300) :
    Calls Try.prog 6 #[.slice a n c] w fun e w' => e = .returned (.bool true) ∧ Below w.heap.size w w' := by
  obtain ⟨j0, hj, hy0, hy1, hy2⟩ := info_parts Bl.info_bool
  have hl := s.len
  have HL := Lib.hid hl
  obtain ⟨z, hz⟩ : ∃ z, cnt l = z := ⟨_, rfl⟩
  have hzn : z ≤ n := by have := cnt_le l; omega
  obtain ⟨r, hr⟩ : ∃ r, (runsL l).length = r := ⟨_, rfl⟩
  have hrn : r ≤ n := by have := runs_len l; omega
  have HR := Lib.hid hr
  have hsp1 : spreadF l ((n : Int) - (z : Int)) = placesF 0 l := by unfold spreadF; rw [hl, hz, if_pos rfl]
  have PC := Lib.hid (fun W h => Count_any a n c l W h)
  have PS := Lib.hid (fun W h hm => spread_any a n c l ((n : Int) - (z : Int)) n W h (by omega) hm)
  rw [hz] at PC
  rw [hsp1] at PS
  have PS := Lib.hid (fun W h => PS.out W h (by rw [places_len, hl]))
  have PR := Lib.hid (fun W h => tell_any a n c l W h (by omega))
  rw [hr] at PR
  have S0 := Lib.hid s
  have h' : ¬ (300 : Int) < (n : Int) := by omega
  have hw : IntKind.i64.wrap ((n : Int) - (z : Int)) = (n : Int) - (z : Int) := by rw [IntKind.wrap_i64]; omega
  have e2 : ((n : Int) != (n : Int)) = false := bne_self_eq_false _
  have hz1 : ¬ (z : Int) < 0 := by omega
  have hz2 : ¬ (n : Int) < (z : Int) := by omega
  clear s hl hz hr hsp1
  go_enter Try.func6, Try.ntmps6
  go_wp2_with fail
  refine (lives_any _).mono ?_
  rintro e w1 ⟨rfl, hT⟩
  have T1 := Lib.hid hT
  have H := Lib.hid (PC.out w1 (bseg_stay S0.out hT))
  clear hT PC
  dsimp only
  go_wp2_with fail
  refine H.out.mono ?_
  rintro e w3 ⟨rfl, hT⟩
  have T3 := Lib.hid (Turn.then T1.out hT)
  clear H hT T1
  have H := Lib.hid (PS.out w3 (bseg_stay S0.out T3.out))
  clear PS
  dsimp only
  go_wp2_with fail
  refine H.out.mono ?_
  rintro e w4 ⟨xa, ka, rfl, hs, hT⟩
  have T4 := Lib.hid (Turn.then T3.out hT)
  have SA := Lib.hid hs
  clear H hT hs T3
  dsimp only
  go_wp2
  go_loopw [5, 6] (fun sn si wr => ∃ k : Nat, k ≤ n ∧ si = .int .i64 k ∧ sn = .int .i64 (nextP (l.take k) : Int) ∧ Hid (Turn w4 wr nowhere)) (fun _ si _ => n - (intOf si).toNat)
  case atStart => exact ⟨0, Nat.zero_le _, rfl, rfl, Lib.hid (Turn.refl _ _)⟩
  case round =>
    obtain ⟨k, hk, rfl, rfl, HT⟩ := hrel
    by_cases hlt : k < n
    · obtain ⟨g, o, rfl, hc⟩ := (bseg_stay S0.out (Turn.then T4.out HT.out)).addr (by omega)
      obtain ⟨ga, oa, rfl, hca⟩ := (jseg_stay SA.out HT.out).addr (by omega)
      have hck := hc k hlt
      have hqa := hca k hlt
      obtain ⟨b, hb⟩ : ∃ b, l.getD k false = b := ⟨_, rfl⟩
      have hkl : k < l.length := by rw [HL.out]; exact hlt
      have hp2 := (places_take l k hkl b hb).2
      rw [places_at l k hkl b hb] at hqa
      rw [hb] at hck
      have hnk : nextP (l.take k) ≤ 1000000 := by have h1 := nextP_le (l.take k); rw [List.length_take] at h1; omega
      obtain ⟨q, hq⟩ : ∃ q, nextP (l.take k) = q := ⟨_, rfl⟩
      rw [hq] at hp2 hnk hqa
      rw [hq]
      have hlt2 : (k : Int) < (n : Int) := by omega
      clear hc hca hb hq hkl
      cases b with
      | true =>
        have hp3 : nextP (l.take (k + 1)) = q := by simpa using hp2
        have HP3 := Lib.hid hp3
        simp only [if_true] at hqa
        clear hp2 hp3
        go_wp2
        go_roundw
        case rel => exact ⟨k + 1, by omega, by go_num, by rw [HP3.out], HT⟩
        case measure => simp [intOf]; omega
      | false =>
        have hp3 : nextP (l.take (k + 1)) = q + 1 := by simpa using hp2
        have HP3 := Lib.hid hp3
        have hwq : IntKind.i64.wrap ((q : Int) + 1) = (q : Int) + 1 := by rw [IntKind.wrap_i64]; omega
        have e3 : ((q : Int) != (q : Int)) = false := bne_self_eq_false _
        simp only [Bool.false_eq_true, if_false] at hqa
        clear hp2 hp3
        go_wp2
        go_roundw
        case rel => exact ⟨k + 1, by omega, by go_num, by rw [HP3.out]; go_num, HT⟩
        case measure => simp [intOf]; omega
    · obtain rfl : n = k := by omega
      have T5 := Lib.hid (Turn.then T4.out HT.out)
      clear T4 HT SA
      have H := Lib.hid (PR.out wr (bseg_stay S0.out T5.out))
      clear PR
      have hlt2 : ¬ (n : Int) < (n : Int) := by omega
      go_wp2_with fail
      refine H.out.mono ?_
      rintro e w6 ⟨xe, ke, xf, kf, rfl, hs, hs2, hT⟩
      have T6 := Lib.hid (Turn.then T5.out hT)
      have HSE := Lib.hid hs
      have HSF := Lib.hid hs2
      clear H hT hs hs2 T5 hlt2
      dsimp only
      go_wp2
      go_loopw [10, 11] (fun so si wr => ∃ (k q : Nat) (aV : Option Addr) (cV : Nat), k ≤ r ∧ si = .int .i64 k ∧ so = .slice aV q cV ∧ Hid ((accL l k).length = q) ∧ Hid (wr.ownsRow w6.heap.size 4 1 (.slice aV q cV) q ((accL l k).map Value.bool)) ∧ Hid (Below w6.heap.size w6 wr)) (fun _ si _ => r - (intOf si).toNat)
      case atStart => exact ⟨0, 0, none, 0, Nat.zero_le _, rfl, rfl, Lib.hid rfl, Lib.hid (World.ownsRow_nil _ _ _ _), Lib.hid (Below.refl _ _)⟩
      case round =>
        obtain ⟨k, q, aV, cV, hk, rfl, rfl, HLq, HO, HB⟩ := hrel
        by_cases hlt : k < r
        · have hkr : k < (runsL l).length := by rw [HR.out]; exact hlt
          obtain ⟨ge, oe, ee, hce⟩ := (HSE.out.grown (Bs.grown_of HB.out)).addr (by omega)
          obtain ⟨gf, of, ef, hcf⟩ := (bseg_below HSF.out HB.out rfl).addr (by omega)
          subst ee
          subst ef
          obtain ⟨hac, hal, hx1⟩ := accL_succ l k hkr
          have hxx := lens_at l k hkr
          have hff := flgs_at l k hkr
          have hap := fun j (e : k = j + 1) => by
            have h := apart_at (runsL l) j (runs_apart l) (by rw [← e]; exact hkr)
            rw [← e, ← flgs_at l k hkr, ← flgs_at l j (by omega)] at h
            exact h
          obtain ⟨x, hx⟩ : ∃ x, ((runsL l).getD k (0, false)).1 = x := ⟨_, rfl⟩
          obtain ⟨f, hf⟩ : ∃ f, ((runsL l).getD k (0, false)).2 = f := ⟨_, rfl⟩
          rw [hx] at hac hal hx1 hxx
          rw [hf] at hac hff
          rw [HLq.out, HL.out] at hal
          have HA := Lib.hid hac
          have HX := Lib.hid hxx
          have HF := Lib.hid hff
          have hck := hce k hlt
          have hcfk := hcf k hlt
          rw [hxx] at hck
          rw [hff] at hcfk
          have hd1 : decide ((x : Int) < 1) = false := decide_eq_false (by omega)
          have hd2 : decide ((x : Int) > (n : Int)) = false := decide_eq_false (by omega)
          have hd2n : decide (n < x) = false := decide_eq_false (by omega)
          have hp1 : ¬ (x : Int) < 1 := by omega
          have hp2 : ¬ (n : Int) < (x : Int) := by omega
          have HOs : Hid (∀ nq, (wr.drewN nq).ownsRow w6.heap.size 4 1 (.slice aV q cV) q ((accL l k).map Value.bool) ∧ Below w6.heap.size w6 (wr.drewN nq)) := Lib.hid fun nq => ⟨HO.out, Bs.below_drewN nq HB.out⟩
          have hlt2 : (k : Int) < (r : Int) := by omega
          by_cases hk0 : k = 0
          · have hd3n : decide (0 < k) = false := decide_eq_false (by omega)
            have hd3 : decide ((k : Int) > 0) = false := decide_eq_false (by omega)
            have hp3 : ¬ (0 : Int) < (k : Int) := by omega
            clear hcf hce hac hxx hff hap hx hf hkr hk0 HB HO hp3
            go_wp2
            go_quiet (fail)
            obtain ⟨v, hv⟩ : ∃ v, wr.drewN nq = v := ⟨_, rfl⟩
            have HO2 := Lib.hid (HOs.out nq).1
            have HB2 := Lib.hid (HOs.out nq).2
            rw [hv] at HO2 HB2 ⊢
            clear hck hcfk hv HOs
            go_wp2
            go_loopw [10, 12] (fun so si wk => ∃ (d : Nat) (aW : Option Addr) (cW : Nat), d ≤ x ∧ si = .int .i64 d ∧ so = .slice aW (q + d) cW ∧ Hid (wk.ownsRow w6.heap.size 4 1 (.slice aW (q + d) cW) (q + d) ((accL l k ++ List.replicate d f).map Value.bool)) ∧ Hid (Below w6.heap.size w6 wk)) (fun _ si _ => x - (intOf si).toNat)
            case atStart => exact ⟨0, aV, cV, Nat.zero_le _, rfl, rfl, Lib.hid (by rw [List.replicate_zero, List.append_nil]; exact HO2.out), HB2⟩
            case round =>
              obtain ⟨d, aW, cW, hdx, rfl, rfl, HP, HQ⟩ := hrel
              have hck := (HSE.out.grown (Bs.grown_of HQ.out))
              obtain ⟨ge2, oe2, ee2, hce2⟩ := hck.addr (by omega)
              cases ee2
              have hqe := hce2 k hlt
              rw [HX.out] at hqe
              obtain ⟨gf2, of2, ef2, hcf2⟩ := (bseg_below HSF.out HQ.out rfl).addr (by omega)
              cases ef2
              have hqf := hcf2 k hlt
              rw [HF.out] at hqf
              clear hce2 hcf2 hck
              by_cases hdl : d < x
              · have hdl2 : (d : Int) < (x : Int) := by omega
                have HZ2 := Lib.hid HQ.out.size
                go_wp2_with (first
                  | (at_builtin; refine wpList_append_own _ rfl (.tmp 130) (.tmp 135) 27 rfl w6.heap.size 4 j0 (.bool false) 1 1 Try.underlying27 hj hy0 hy1 hy2 rfl (by decide) (.slice aW (q + d) cW) (q + d) _ rfl (HP.out.alloc _) ⟨wr.heap.size, 0, none⟩ 1 1 [.bool f] rfl rfl (by intro t u ht; match t, ht with | 0, ht => simp at ht; subst ht; exact Pk.cell_new wr _ _) (by intro u hu; simp at hu; subst hu; rfl) (by unfold maxLen; omega) (by omega) (by have := HZ2.out; simp; omega) ?_; intro v8 w8 hown8 hg8 hnil8; obtain ⟨g8, c8, rfl⟩ := Go.ownsRow_succ hown8)
                  | fail)
                go_roundw
                case rel =>
                  refine ⟨d + 1, _, _, by omega, by go_num, rfl, Lib.hid ?_, Lib.hid ((HQ.out.alloc HQ.out.size _).grown hg8 (by have := HZ2.out; simp; omega) (fun j e => (((HP.out.alloc (.cells #[.bool f] 4)).lt j e)).1))⟩
                  rw [List.replicate_succ', ← List.append_assoc, List.map_append]
                  exact hown8
                case measure => simp [intOf]; omega
              · obtain rfl : d = x := by omega
                have hdl2 : ¬ (d : Int) < (d : Int) := by omega
                go_wp2
                go_roundw
                case rel =>
                  refine ⟨k + 1, q + d, aW, cW, by omega, by go_num, rfl, Lib.hid ?_, Lib.hid ?_, HQ⟩
                  · rw [HA.out, List.length_append, List.length_replicate, HLq.out]
                  · rw [HA.out]; exact HP.out
                case measure => simp [intOf]; omega
          · obtain ⟨j, hjk⟩ : ∃ j, k = j + 1 := ⟨k - 1, by omega⟩
            have hne := hap j hjk
            have hcj := hcf j (by omega)
            rw [hff] at hne
            obtain ⟨y, hy⟩ : ∃ y, (flgs l).getD j false = y := ⟨_, rfl⟩
            rw [hy] at hne hcj
            have hd3n : decide (0 < k) = true := decide_eq_true (by omega)
            have hd3 : decide ((k : Int) > 0) = true := decide_eq_true (by omega)
            have hp3 : (0 : Int) < (k : Int) := by omega
            have HNE : Hid (¬ f = y) := Lib.hid hne
            have hwj : IntKind.i64.wrap ((k : Int) - 1) = (j : Int) := by rw [IntKind.wrap_i64]; omega
            have hjj : (k : Int) - 1 = (j : Int) := by omega
            have hjr : (j : Int) < (r : Int) := by omega
            clear hcf hce hac hxx hff hap hx hf hkr hk0 HB HO hne hy hjk hp3
            go_wp2
            go_quiet (fail)
            have hd4 : (f == y) = false := beq_eq_false_iff_ne.2 HNE.out
            rw [hd4]
            clear hd4
            clear hcj
            obtain ⟨v, hv⟩ : ∃ v, wr.drewN nq = v := ⟨_, rfl⟩
            have HO2 := Lib.hid (HOs.out nq).1
            have HB2 := Lib.hid (HOs.out nq).2
            rw [hv] at HO2 HB2 ⊢
            clear hck hcfk hv HOs
            go_wp2
            go_loopw [10, 12] (fun so si wk => ∃ (d : Nat) (aW : Option Addr) (cW : Nat), d ≤ x ∧ si = .int .i64 d ∧ so = .slice aW (q + d) cW ∧ Hid (wk.ownsRow w6.heap.size 4 1 (.slice aW (q + d) cW) (q + d) ((accL l k ++ List.replicate d f).map Value.bool)) ∧ Hid (Below w6.heap.size w6 wk)) (fun _ si _ => x - (intOf si).toNat)
            case atStart => exact ⟨0, aV, cV, Nat.zero_le _, rfl, rfl, Lib.hid (by rw [List.replicate_zero, List.append_nil]; exact HO2.out), HB2⟩
            case round =>
              obtain ⟨d, aW, cW, hdx, rfl, rfl, HP, HQ⟩ := hrel
              have hck := (HSE.out.grown (Bs.grown_of HQ.out))
              obtain ⟨ge2, oe2, ee2, hce2⟩ := hck.addr (by omega)
              cases ee2
              have hqe := hce2 k hlt
              rw [HX.out] at hqe
              obtain ⟨gf2, of2, ef2, hcf2⟩ := (bseg_below HSF.out HQ.out rfl).addr (by omega)
              cases ef2
              have hqf := hcf2 k hlt
              rw [HF.out] at hqf
              clear hce2 hcf2 hck
              by_cases hdl : d < x
              · have hdl2 : (d : Int) < (x : Int) := by omega
                have HZ2 := Lib.hid HQ.out.size
                go_wp2_with (first
                  | (at_builtin; refine wpList_append_own _ rfl (.tmp 130) (.tmp 135) 27 rfl w6.heap.size 4 j0 (.bool false) 1 1 Try.underlying27 hj hy0 hy1 hy2 rfl (by decide) (.slice aW (q + d) cW) (q + d) _ rfl (HP.out.alloc _) ⟨wr.heap.size, 0, none⟩ 1 1 [.bool f] rfl rfl (by intro t u ht; match t, ht with | 0, ht => simp at ht; subst ht; exact Pk.cell_new wr _ _) (by intro u hu; simp at hu; subst hu; rfl) (by unfold maxLen; omega) (by omega) (by have := HZ2.out; simp; omega) ?_; intro v8 w8 hown8 hg8 hnil8; obtain ⟨g8, c8, rfl⟩ := Go.ownsRow_succ hown8)
                  | fail)
                go_roundw
                case rel =>
                  refine ⟨d + 1, _, _, by omega, by go_num, rfl, Lib.hid ?_, Lib.hid ((HQ.out.alloc HQ.out.size _).grown hg8 (by have := HZ2.out; simp; omega) (fun j e => (((HP.out.alloc (.cells #[.bool f] 4)).lt j e)).1))⟩
                  rw [List.replicate_succ', ← List.append_assoc, List.map_append]
                  exact hown8
                case measure => simp [intOf]; omega
              · obtain rfl : d = x := by omega
                have hdl2 : ¬ (d : Int) < (d : Int) := by omega
                go_wp2
                go_roundw
                case rel =>
                  refine ⟨k + 1, q + d, aW, cW, by omega, by go_num, rfl, Lib.hid ?_, Lib.hid ?_, HQ⟩
                  · rw [HA.out, List.length_append, List.length_replicate, HLq.out]
                  · rw [HA.out]; exact HP.out
                case measure => simp [intOf]; omega
        · obtain rfl : k = r := by omega
          have T7 := Lib.hid (Turn.then T6.out (turn_below HB.out))
          have hO := HO.out
          have hacc : accL l k = l := by have := accL_all l; rwa [HR.out] at this
          have hqn : q = n := by rw [← HLq.out, hacc]; exact HL.out
          rw [hacc] at hO
          subst hqn
          have HS4 : Hid (Calls Try.prog 12 #[.slice aV q cV, .slice a q c] wr fun e w' => e = .returned (.bool true) ∧ Turn wr w' nowhere) := Lib.hid (by
            obtain ⟨a2, c2, e2, hseg⟩ := bown_slice hO
            cases e2
            exact bsame_form _ a q q _ c l l wr hseg (bseg_stay S0.out T7.out) true (Bl.sameB_yes rfl))
          clear hO hacc HO HB
          have hlt2 : ¬ (k : Int) < (k : Int) := by omega
          go_wp2_with fail
          refine HS4.out.mono ?_
          rintro e w14 ⟨rfl, hT⟩
          have T14 := Lib.hid (Turn.then T7.out hT)
          clear HS4 T7 hT
          dsimp only
          go_wp2
          go_ret
          exact ⟨rfl, below_of T14.out⟩

theorem spreadl_any (a : Option Addr) (n c : Nat) (l : List Bool) (w : World) (s : Bl.Seg w a n c l) :
    Calls Try.prog 6 #[.slice a n c] w fun e w' => e = .returned (.bool true) ∧ Below w.heap.size w w' := by
  by_cases h : 300 < n
  · exact spreadl_no a n c w h
  · exact spreadl_yes a n c l w s (by omega)
end Go.Proofs.Ytpcilohiokpmnaa.Nu
