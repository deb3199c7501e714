/-
  The document's Lengths.
-/
import Derived.Test.YtpcilohiokpmnaaNuRef1
namespace Go.Proofs.Ytpcilohiokpmnaa.Nu
open Go.RowKit
open Dv (Turn nowhere)
open Pk (Turn.then)

theorem cell_new' (w : World) (v : Value) (t : TypeId) (B : Nat) (h : w.heap.size = B) : (w.alloc (.cells #[v] t)).cell? ⟨B, 0, none⟩ = some v := by subst h; exact Pk.cell_new w v t
theorem flagsR_len (R : List (Nat × Bool)) : ∀ p ∈ R, p.1 ≤ (flagsR R).length := by
  induction R with
  | nil => intro p hp; cases hp
  | cons q R ih =>
    intro p hp
    rw [flagsR_cons, List.length_append, List.length_replicate]
    rcases List.mem_cons.1 hp with rfl | h
    · omega
    · have := ih p h; omega
theorem lens_le (l : List Bool) : ∀ x ∈ lens l, 1 ≤ x ∧ x ≤ l.length := by
  intro x hx
  obtain ⟨p, hp, rfl⟩ := List.mem_map.1 hx
  have h1 := flagsR_len _ p hp
  rw [runs_join] at h1
  have h2 := runs_pos l p hp
  omega
theorem lens_pos {l : List Bool} (h : 0 < l.length) : 0 < (lens l).length := by
  match l, h with
  | x :: t, _ =>
    obtain ⟨n, r, e⟩ := runs_head x t
    unfold lens
    rw [e]
    simp
theorem upLast_set : ∀ (L : List Int), 0 < L.length → upLast L = L.set (L.length - 1) (L.getD (L.length - 1) 0 + 1)
  | [], h => by simp at h
  | [x], _ => rfl
  | x :: y :: r, _ => by
    have ih := upLast_set (y :: r) (by simp)
    rw [upLast, ih]
    simp
theorem upLast_len (L : List Int) (h : 0 < L.length) : (upLast L).length = L.length := by rw [upLast_set L h, List.length_set]
theorem lens_take (l : List Bool) (k : Nat) (hk : k < l.length) :
    (k = 0 → lens (l.take (k + 1)) = lens (l.take k) ++ [1]) ∧
    (∀ j, k = j + 1 → (l.getD k false = l.getD j false → lens (l.take (k + 1)) = upLast (lens (l.take k))) ∧ (¬ l.getD k false = l.getD j false → lens (l.take (k + 1)) = lens (l.take k) ++ [1])) := by
  have e : l.take (k + 1) = l.take k ++ [l.getD k false] := by
    rw [List.take_succ_eq_append_getElem hk, List.getD_eq_getElem?_getD, List.getElem?_eq_getElem hk]; rfl
  rw [e, lens_snoc]
  refine ⟨fun h => by subst h; rfl, fun j hj => ?_⟩
  have hl : (l.take k).getLast? = some (l.getD j false) := by
    rw [List.getLast?_eq_getElem?, List.length_take, Nat.min_eq_left (by omega), List.getElem?_take_of_lt (by omega), hj, Nat.add_sub_cancel, List.getElem?_eq_getElem (by omega), List.getD_eq_getElem?_getD, List.getElem?_eq_getElem (by omega)]
    rfl
  rw [hl]
  exact ⟨fun h => by rw [h, if_pos rfl], fun h => by rw [if_neg (fun he => h (Option.some.inj he).symm)]⟩

set_option maxRecDepth 100000 in
set_option maxHeartbeats 2000000 in
theorem rlengths_any (a : Option Addr) (n c : Nat) (l : List Bool) (m : Nat) (w : World) (hs : Bl.Seg w a n c l) (hn : n ≤ 1000000) (hm : (lens l).length = m) :
    Calls Try.prog 21 #[.slice a n c] w (IntF w m (lens l)) := by
  obtain ⟨i0, hi, hz0, hz1, hz2⟩ := info_parts info_int
  have HL := Lib.hid hs.len
  have HS := Lib.hid hs
  have HM := Lib.hid hm
  clear hs hm
  go_enter Try.func21, Try.ntmps21
  go_wp2
  go_loopw [3, 4] (fun so si wr => ∃ (k q : Nat) (aV : Option Addr) (cV : Nat), k ≤ n ∧ si = .int .i64 k ∧ so = .slice aV q cV ∧ Hid ((lens (l.take k)).length = q) ∧ Hid (wr.ownsRow w.heap.size 3 1 (.slice aV q cV) q ((lens (l.take k)).map (Value.int .i64))) ∧ Hid (Below w.heap.size w wr)) (fun _ si _ => n - (intOf si).toNat)
  case atStart => exact ⟨0, 0, none, 0, Nat.zero_le _, rfl, rfl, Lib.hid rfl, Lib.hid (World.ownsRow_nil _ _ _ _), Lib.hid (Below.refl _ _)⟩
  case round =>
    obtain ⟨k, q, aV, cV, hk, rfl, rfl, HQ, HO, HB⟩ := hrel
    by_cases hlt : k < n
    · obtain ⟨g, o, rfl, hc⟩ := (bseg_below HS.out HB.out rfl).addr (by omega)
      have hck := hc k hlt
      obtain ⟨t0, t1⟩ := lens_take l k (by rw [HL.out]; exact hlt)
      have HQk : Hid (q ≤ k) := Lib.hid (by
        rw [← HQ.out]
        have := runs_len (l.take k)
        unfold lens
        rw [List.length_map]
        rw [List.length_take] at this
        omega)
      have HZ := Lib.hid HB.out.size
      have HOs : Hid (∀ nq, (wr.drewN nq).ownsRow w.heap.size 3 1 (.slice aV q cV) q ((lens (l.take k)).map (Value.int .i64)) ∧ Below w.heap.size w (wr.drewN nq)) := Lib.hid fun nq => ⟨HO.out, Bs.below_drewN nq HB.out⟩
      by_cases hk0 : k = 0
      · subst hk0
        have HE := Lib.hid (t0 rfl)
        have hd0 : decide ((0 : Int) > 0) = false := rfl
        clear t0 t1 hc
        go_wp2
        go_quiet (fail)
        have HO2 := Lib.hid (HOs.out nq).1
        have HB2 := Lib.hid (HOs.out nq).2
        obtain ⟨v, hv⟩ : ∃ v, wr.drewN nq = v := ⟨_, rfl⟩
        rw [hv] at HO2 HB2 ⊢
        have HZ2 := Lib.hid HB2.out.size
        clear hck hv
        go_wp2_with (first
          | (at_builtin; go_loud (refine wpList_append_own _ rfl (.tmp 33) (.tmp 34) 34 rfl w.heap.size 3 i0 (.int .i64 0) 1 8 Try.underlying34 hi hz0 hz1 hz2 rfl (by decide) (.slice aV q cV) q _ rfl (HO2.out.alloc _) ⟨v.heap.size, 0, none⟩ 1 1 [.int .i64 1] rfl rfl (by intro t u ht; match t, ht with | 0, ht => simp at ht; subst ht; exact Pk.cell_new v _ _) (by intro u hu; simp at hu; subst hu; rfl) (by have := HQk.out; unfold maxLen; omega) (by have := HQk.out; omega) (by have := HZ2.out; simp; omega) ?_; intro v8 w8 hown8 hg8 hnil8; obtain ⟨g8, c8, rfl⟩ := Go.ownsRow_succ hown8))
          | fail)
        go_roundw
        case rel =>
          refine ⟨0 + 1, q + 1, _, _, by omega, by go_num, rfl, Lib.hid ?_, Lib.hid ?_, Lib.hid ((HB2.out.alloc HB2.out.size _).grown hg8 (by have := HZ2.out; simp; omega) (fun j e => (((HO2.out.alloc (.cells #[.int .i64 1] 3)).lt j e)).1))⟩
          · rw [HE.out, List.length_append, HQ.out]; rfl
          · rw [HE.out, List.map_append]
            exact hown8
        case measure => simp [intOf]; omega
      · obtain ⟨j, rfl⟩ : ∃ j, k = j + 1 := ⟨k - 1, by omega⟩
        have hcj := hc j (by omega)
        obtain ⟨t2, t3⟩ := t1 j rfl
        obtain ⟨x, hx⟩ : ∃ x, l.getD (j + 1) false = x := ⟨_, rfl⟩
        obtain ⟨y, hy⟩ : ∃ y, l.getD j false = y := ⟨_, rfl⟩
        rw [hx] at hck t2 t3
        rw [hy] at hcj t2 t3
        have hjw : IntKind.i64.wrap (((j + 1 : Nat) : Int) - 1) = (j : Int) := by rw [IntKind.wrap_i64]; omega
        have hd0 : decide (((j + 1 : Nat) : Int) > 0) = true := decide_eq_true (by omega)
        have hd1 : ((j + 1 : Nat) : Int) - 1 = (j : Int) := by omega
        clear t0 t1 hc hx hy hk0
        by_cases hxy : x = y
        · have HE := Lib.hid (t2 hxy)
          have hxy1 : (x == y) = true := by rw [hxy]; exact beq_self_eq_true y
          have hq0 : 0 < q := by
            rw [← HQ.out]
            exact lens_pos (by rw [List.length_take]; have := HL.out; omega)
          obtain ⟨i, rfl⟩ : ∃ i, q = i + 1 := ⟨q - 1, by omega⟩
          clear t2 t3 hxy
          have hqb := HQk.out
          have hiw : IntKind.i64.wrap (((i + 1 : Nat) : Int) - 1) = (i : Int) := by rw [IntKind.wrap_i64]; omega
          have hi1 : ((i + 1 : Nat) : Int) - 1 = (i : Int) := by omega
          go_wp2
          go_quiet (fail)
          have HO2 := Lib.hid (HOs.out nq).1
          have HB2 := Lib.hid (HOs.out nq).2
          obtain ⟨v, hv⟩ : ∃ v, wr.drewN nq = v := ⟨_, rfl⟩
          rw [hv] at HO2 HB2 ⊢
          clear hck hcj hv
          obtain ⟨gV, cV', eV⟩ := Go.ownsRow_succ HO2.out
          obtain ⟨rfl, rfl⟩ : aV = some ⟨gV, 0, none⟩ ∧ cV = cV' := by cases eV; exact ⟨rfl, rfl⟩
          clear eV
          have hcell := HO2.out.cellAt i (by omega)
          have hil : i < (lens (l.take (j + 1))).length := by rw [HQ.out]; omega
          rw [List.getElem?_map, List.getElem?_eq_getElem hil] at hcell
          simp only [Option.map_some] at hcell
          have hfree := HO2.out.frozenAt i
          have hxb := lens_le (l.take (j + 1)) _ (List.getElem_mem hil)
          have hUp := upLast_set (lens (l.take (j + 1))) (by omega)
          rw [HQ.out, Nat.add_sub_cancel, List.getD_eq_getElem?_getD, List.getElem?_eq_getElem hil] at hUp
          simp only [Option.getD_some] at hUp
          have hUl := upLast_len (lens (l.take (j + 1))) (by omega)
          rw [HQ.out] at hUl
          generalize (lens (l.take (j + 1)))[i]'hil = z at hcell hUp hxb
          have hz2 : z ≤ 1000001 := by have := hxb.2; rw [List.length_take] at this; omega
          have hz1 := hxb.1
          have hwz : IntKind.i64.wrap (z + 1) = z + 1 := by rw [IntKind.wrap_i64]; omega
          have HO3 : Hid ((v.setCell ⟨gV, i, none⟩ (.int .i64 (z + 1))).ownsRow w.heap.size 3 1 (.slice (some ⟨gV, 0, none⟩) (i + 1) cV) (i + 1) ((lens (l.take (j + 1 + 1))).map (Value.int .i64))) := Lib.hid (by
            rw [HE.out, hUp, List.map_set]
            exact (HO2.out.stored i (.int .i64 (z + 1))).1)
          have HB3 : Hid (Below w.heap.size w (v.setCell ⟨gV, i, none⟩ (.int .i64 (z + 1)))) := Lib.hid (HB2.out.setCell (p := ⟨gV, i, none⟩) (HO2.out.lt gV rfl).1 _)
          have HQ3 : Hid ((lens (l.take (j + 1 + 1))).length = i + 1) := Lib.hid (by rw [HE.out]; exact hUl)
          clear hUp hUl hxb hil
          go_wp2
          go_roundw
          case rel => exact ⟨j + 1 + 1, i + 1, _, _, by omega, by go_num, rfl, HQ3, HO3, HB3⟩
          case measure => simp [intOf]; omega
        · have HE := Lib.hid (t3 hxy)
          have hxy1 : (x == y) = false := beq_eq_false_iff_ne.2 hxy
          clear t2 t3 hxy
          go_wp2
          go_quiet (fail)
          have HO2 := Lib.hid (HOs.out nq).1
          have HB2 := Lib.hid (HOs.out nq).2
          obtain ⟨v, hv⟩ : ∃ v, wr.drewN nq = v := ⟨_, rfl⟩
          rw [hv] at HO2 HB2 ⊢
          have HZ2 := Lib.hid HB2.out.size
          clear hck hcj hv
          go_wp2_with (first
            | (at_builtin; go_loud (refine wpList_append_own _ rfl (.tmp 33) (.tmp 34) 34 rfl w.heap.size 3 i0 (.int .i64 0) 1 8 Try.underlying34 hi hz0 hz1 hz2 rfl (by decide) (.slice aV q cV) q _ rfl (HO2.out.alloc _) ⟨v.heap.size, 0, none⟩ 1 1 [.int .i64 1] rfl rfl (by intro t u ht; match t, ht with | 0, ht => simp at ht; subst ht; exact Pk.cell_new v _ _) (by intro u hu; simp at hu; subst hu; rfl) (by have := HQk.out; unfold maxLen; omega) (by have := HQk.out; omega) (by have := HZ2.out; simp; omega) ?_; intro v8 w8 hown8 hg8 hnil8; obtain ⟨g8, c8, rfl⟩ := Go.ownsRow_succ hown8))
            | fail)
          go_roundw
          case rel =>
            refine ⟨j + 1 + 1, q + 1, _, _, by omega, by go_num, rfl, Lib.hid ?_, Lib.hid ?_, Lib.hid ((HB2.out.alloc HB2.out.size _).grown hg8 (by have := HZ2.out; simp; omega) (fun j e => (((HO2.out.alloc (.cells #[.int .i64 1] 3)).lt j e)).1))⟩
            · rw [HE.out, List.length_append, HQ.out]; rfl
            · rw [HE.out, List.map_append]
              exact hown8
          case measure => simp [intOf]; omega
    · obtain rfl : k = n := by omega
      have HF : Hid (IntF w m (lens l) (.returned (.slice aV q cV)) wr) := Lib.hid (by
        have hO := HO.out
        have hQ := HQ.out
        rw [List.take_of_length_le (Nat.le_of_eq HL.out)] at hO hQ
        obtain ⟨a2, c2, e2, hseg⟩ := own_slice hO
        cases e2
        have : q = m := by rw [← hQ, HM.out]
        subst this
        exact ⟨_, _, rfl, hseg, turn_below HB.out⟩)
      go_wp2
      go_ret
      exact HF.out
end Go.Proofs.Ytpcilohiokpmnaa.Nu
