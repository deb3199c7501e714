/-
  The iterator over the runs of flags: what it hands on.
-/
import Derived.Test.YtpcilohiokpmnaaFeed
import Derived.Test.YtpcilohiokpmnaaBBase
import Derived.Test.YtpcilohiokpmnaaNuRunsN
namespace Go.Proofs.Ytpcilohiokpmnaa.Nu
open Go.RowKit Go.Shelf
open Dv (Turn)
open Pk (Kept)

attribute [local go_sem] Oper.semAt_some

theorem bseg_turn {w w' : World} {a : Option Addr} {n c : Nat} {l : List Bool} {S : Nat → Prop} (h : Bl.Seg w a n c l) (k : Turn w w' S) (hne : ∀ ad, a = some ad → 0 < n → ¬ S ad.block) : Bl.Seg w' a n c l :=
  ⟨h.len, h.le, h.cap, h.nil_, fun ad had j u hu => k.cell (h.at_ ad had j u hu) (by
    rw [Dv.block_add]
    have hj := (List.getElem?_eq_some_iff.1 hu).1
    rw [List.length_map, h.len] at hj
    exact hne ad had (by omega))⟩

/-- run k, as yield is handed it -/
def encR (l : List Bool) (k : Nat) : Array Value := #[.int .i64 (((runsL l).getD k (0, false)).1 : Int), .bool ((runsL l).getD k (0, false)).2]

/-- the first i are alike, the next one is not -/
theorem lead_cut {m : List Bool} {i : Nat} (h0 : 0 < i) (hi : i < m.length) (hs : ∀ j, j < i → m.getD j false = m.getD 0 false) (hn : ¬ m.getD i false = m.getD 0 false) : runsL m = (i, m.getD 0 false) :: runsL (m.drop i) := by
  have e : m = List.replicate ((i - 1) + 1) (m.getD 0 false) ++ m.drop i := by
    conv => lhs; rw [← List.take_append_drop i m]
    congr 1
    rw [show i - 1 + 1 = i from by omega]
    apply List.ext_getElem
    · simp; omega
    · intro j h1 h2
      have hj : j < i := by simp at h1; omega
      have h3 := hs j hj
      rw [List.getD_eq_getElem?_getD, List.getElem?_eq_getElem (by omega)] at h3
      rw [List.getElem_take, List.getElem_replicate]
      exact h3
  have := runs_lead (m.getD 0 false) (m.drop i) (fun y t h => by
    have h4 : (m.drop i)[0]? = some y := by rw [h]; rfl
    rw [List.getElem?_drop, Nat.add_zero] at h4
    rw [List.getD_eq_getElem?_getD, h4] at hn
    exact hn) (i - 1)
  rw [← e, show i - 1 + 1 = i from by omega] at this
  exact this
theorem lead_all {m : List Bool} (h0 : 0 < m.length) (hs : ∀ j, j < m.length → m.getD j false = m.getD 0 false) : runsL m = [(m.length, m.getD 0 false)] := by
  have e : m = List.replicate ((m.length - 1) + 1) (m.getD 0 false) ++ [] := by
    rw [List.append_nil, show m.length - 1 + 1 = m.length from by omega]
    apply List.ext_getElem
    · simp
    · intro j h1 h2
      have h3 := hs j h1
      rw [List.getD_eq_getElem?_getD, List.getElem?_eq_getElem h1] at h3
      rw [List.getElem_replicate]
      exact h3
  have := runs_lead (m.getD 0 false) [] (fun y t h => by cases h) (m.length - 1)
  rw [← e, show m.length - 1 + 1 = m.length from by omega] at this
  exact this
/-- what is left of the runs -/
theorem left_at {R S : List (Nat × Bool)} {k : Nat} {q : Nat × Bool} (h : q :: S = R.drop k) : k < R.length ∧ R.getD k (0, false) = q ∧ S = R.drop (k + 1) := by
  have hk : k < R.length := by
    apply Classical.byContradiction
    intro hc
    rw [List.drop_eq_nil_of_le (by omega)] at h
    cases h
  rw [List.drop_eq_getElem_cons hk] at h
  obtain ⟨h1, h2⟩ := List.cons.inj h
  exact ⟨hk, by rw [List.getD_eq_getElem?_getD, List.getElem?_eq_getElem hk, h1]; rfl, h2⟩

set_option maxRecDepth 100000 in
set_option maxHeartbeats 4000000 in
theorem runs_in (m : Nat) (hm : 1 ≤ m) (y : Nat) (P : Nat → Prop) (a : Option Addr) (n c : Nat) (l : List Bool) (J : Nat → World → Prop)
    (hY : ∀ k W1, k < (runsL l).length → J k W1 → YieldAt Fence.wide (m - 1) Try.prog y (encR l k) W1 fun x W' => x = .returned (.bool true) ∧ J (k + 1) W' ∧ Kept P W1 W')
    (W : World) (hs : Bl.Seg W a n c l) (hP : ∀ ad, a = some ad → 0 < n → P ad.block) (h0 : J 0 W) :
    CallsIn Fence.wide m Try.prog 58 #[.slice a n c, .func (.yield y) #[] #[]] W fun e W' => (∃ z, e = .returned z) ∧ J (runsL l).length W' := by
  have HY := Lib.hid hY
  have HS0 := Lib.hid hs
  have HP0 := Lib.hid hP
  have HJ0 := Lib.hid h0
  clear hY hs hP h0
  refine callsIn_of_wp Try.func58 rfl trivial ?_ rfl
  simp only [Try.ntmps58, List.size_toArray, List.length_cons, List.length_nil, Nat.reduceAdd, Nat.reduceSub, Array.replicate_succ, Array.replicate_zero, List.push_toArray, List.append_toArray, List.nil_append, List.cons_append]
  refine wpIn_wide.2 ?_
  go_wp2
  go_step3
  go_wp2
  go_step3
  go_wp2
  go_loopw [0] (fun sf wr => ∃ (k : Nat) (a' : Option Addr) (n' c' : Nat) (r : List Bool), sf = .slice a' n' c' ∧ Hid (k ≤ (runsL l).length) ∧ Hid (Bl.Seg W a' n' c' r) ∧ Hid (∀ ad, a' = some ad → 0 < n' → P ad.block) ∧ Hid (runsL r = (runsL l).drop k) ∧ Hid (J k wr) ∧ Hid (Kept P W wr))
    (fun sf _ => match sf with | .slice _ k _ => k | _ => 0)
  case atStart => exact ⟨0, a, n, c, l, rfl, Lib.hid (Nat.zero_le _), HS0, HP0, Lib.hid rfl, HJ0, Lib.hid (Turn.refl _ _)⟩
  case round =>
    obtain ⟨k, a', n', c', r, rfl, HKN, HS, HP, HR, HJ, HK⟩ := hrel
    have hle := HS.out.le
    have hcap := HS.out.cap
    unfold maxLen at hcap
    by_cases hn0 : n' = 0
    · subst hn0
      have HF : Hid (J (runsL l).length wr) := Lib.hid (by
        have hr := HR.out
        rw [List.eq_nil_of_length_eq_zero HS.out.len] at hr
        have h2 := congrArg List.length hr
        rw [List.length_drop] at h2
        have h3 := HKN.out
        have : k = (runsL l).length := by
          have h4 : (runsL []).length = 0 := rfl
          omega
        rw [← this]
        exact HJ.out)
      go_wp2
      rw [Exit.noGoto_normal]
      go_end0
      exact ⟨⟨_, rfl⟩, HF.out⟩
    · obtain ⟨g, o, rfl, hc⟩ := HS.out.addr (by omega)
      have hc0 := hc 0 (by omega)
      rw [Nat.add_zero] at hc0
      obtain ⟨x, hx⟩ : ∃ x, r.getD 0 false = x := ⟨_, rfl⟩
      have HX := Lib.hid hx
      have HL := Lib.hid HS.out.len
      have HC := Lib.hid hc
      rw [hx] at hc0
      have hw0 := HK.out.cell hc0 (fun h => h (HP.out _ rfl (by omega)))
      clear hx hc hc0
      have hn1 : (0 : Int) < (n' : Int) := by omega
      go_wp2
      go_loopw [0, 11] (fun sf si w2 => ∃ i : Nat, i ≤ n' ∧ si = .int .i64 i ∧ sf = .slice (some ⟨g, o, none⟩) n' c' ∧ wr = w2 ∧ Hid (∀ j, j < i → r.getD j false = x)) (fun _ si _ => n' - (intOf si).toNat)
      case atStart => exact ⟨0, Nat.zero_le _, rfl, rfl, rfl, Lib.hid (fun j h => absurd h (Nat.not_lt_zero j))⟩
      case round =>
        obtain ⟨i, hi, rfl, rfl, rfl, HI⟩ := hrel
        by_cases hlt : i < n'
        · have hwi := HK.out.cell (HC.out i hlt) (fun h => h (HP.out ⟨g, o, none⟩ rfl (by omega)))
          by_cases he : r.getD i false = x
          · have HI2 : Hid (∀ j, j < i + 1 → r.getD j false = x) := Lib.hid (fun j hj => by
              by_cases hji : j = i
              · rw [hji]; exact he
              · exact HI.out j (by omega))
            rw [he] at hwi
            clear he
            cases x
            all_goals
              go_wp2
              go_roundw
              case rel => exact ⟨i + 1, by omega, by go_num, rfl, trivial, HI2⟩
              case measure => simp [intOf]; omega
          · have hi0 : 0 < i := by
              rcases Nat.eq_zero_or_pos i with h | h
              · subst h; exact absurd HX.out he
              · exact h
            have HI0 := Lib.hid hi0
            have HCut := Lib.hid (lead_cut (m := r) (i := i) hi0 (by rw [HL.out]; exact hlt) (fun j hj => by rw [HI.out j hj, HX.out]) (by rw [HX.out]; exact he))
            rw [HX.out] at HCut
            obtain ⟨hkN, hq, hrest⟩ := left_at (HCut.out.symm.trans HR.out)
            have hE : encR l k = #[.int .i64 (i : Int), .bool x] := by unfold encR; rw [hq]
            obtain ⟨fn, tmps, assign, body, hy, hR⟩ := HY.out k wr hkN HJ.out
            rw [hE] at hy
            have HKN2 := Lib.hid hkN
            have HRest := Lib.hid hrest
            have HS2 := Lib.hid (HS.out.drop (k := i) (by omega))
            have hci : ¬ c' = i := by omega
            obtain ⟨y2, hy2⟩ : ∃ y, r.getD i false = y := ⟨_, rfl⟩
            rw [hy2] at hwi he
            clear hE hq hkN hrest hy2 hi0
            refine (wpIn_wide (n := m)).1 ?_
            cases x <;> cases y2 <;> first | exact absurd rfl he | skip
            all_goals clear he
            all_goals
              gi_wp2
              refine hR.mono ?_
              rintro e W3 ⟨rfl, hJ3, hk3⟩
              have HJ3 := Lib.hid hJ3
              have HK3 := Lib.hid (Kept.t HK.out hk3)
              clear hJ3 hk3 hR hy
              gi_wp2
              go_roundw
              case rel => exact ⟨k + 1, _, _, _, _, rfl, HKN2, HS2, Lib.hid (fun ad e _ => by cases e; exact HP.out ⟨g, o, none⟩ rfl (by omega)), HRest, HJ3, HK3⟩
              case measure => dsimp only; have := HI0.out; omega
        · obtain rfl : i = n' := by omega
          have HAll := Lib.hid (lead_all (m := r) (by rw [HL.out]; omega) (fun j hj => by rw [HI.out j (by rw [HL.out] at hj; exact hj), HX.out]))
          rw [HX.out, HL.out] at HAll
          obtain ⟨hkN, hq, hrest⟩ := left_at (HAll.out.symm.trans HR.out)
          have hE : encR l k = #[.int .i64 (i : Int), .bool x] := by unfold encR; rw [hq]
          obtain ⟨fn, tmps, assign, body, hy, hR⟩ := HY.out k wr hkN HJ.out
          rw [hE] at hy
          have HN : Hid ((runsL l).length = k + 1) := Lib.hid (by
            have h := congrArg List.length hrest
            rw [List.length_drop] at h
            simp at h
            omega)
          clear hE hq hkN hrest
          refine (wpIn_wide (n := m)).1 ?_
          cases x
          all_goals
            gi_wp2
            refine (wpIn_wide (n := m)).1 ?_
            gi_wp2
            refine hR.mono ?_
            rintro e W3 ⟨rfl, hJ3, hk3⟩
            have HJ3 : Hid (J (runsL l).length W3) := Lib.hid (by rw [HN.out]; exact hJ3)
            clear hJ3 hk3 hR hy
            gi_wp2
            rw [Exit.noGoto_ret]
            refine bodyPost_ret (results_none rfl _ _ _) rfl ?_
            exact ⟨⟨_, rfl⟩, HJ3.out⟩

/-- The runs of flags, handed on one by one. -/
theorem runs_feeds (m : Nat) (hm : 1 ≤ m) (P : Nat → Prop) (a : Option Addr) (n c : Nat) (l : List Bool) (w : World) (hs : Bl.Seg w a n c l) (hP : ∀ ad, a = some ad → 0 < n → P ad.block) (hPw : ∀ i, P i → i < w.heap.size) :
    Feeds Fence.wide m Try.prog 58 #[.slice a n c] #[] (encR l) (runsL l).length (Kept P) w :=
  fun y J W hW _ hY h0 => runs_in m hm y P a n c l J hY W (bseg_turn hs (S := fun i => w.heap.size ≤ i) ⟨hW.os, hW.tape, hW.output, hW.size, fun k hk _ => hW.block k hk⟩ (fun ad had hn h => by have := hPw _ (hP ad had hn); omega)) hP h0
end Go.Proofs.Ytpcilohiokpmnaa.Nu
