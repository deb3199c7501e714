/-
  IntsSame: many of the same take few bytes; near ones few bits each; moved up all together they take as many.
-/
import Derived.Test.YteolpjlpjjjchaaInBack
import Derived.Test.YteolpjlpjjjchaaInMono
import Derived.Test.YteolpjlpjjjchaaKitPick
import Derived.Test.YteolpjlpjjjchaaHBase
import Derived.Laws.OwnMore
import Derived.BigRegion
namespace Go.Proofs.Yteolpjlpjjjchaa.In
open Go.RowKit Go.Joins
open Is (IsI)
open Pk (PutF Turn.then below_of)
open Dv (Turn nowhere)

theorem own_made (C : Nat) (hC : C ≤ 65536) (w : World) : (w.alloc (.cells (roomI C) 2)).ownsRow w.heap.size 2 1 (.slice (some ⟨w.heap.size, 0, none⟩) C C) C ((List.replicate C (0 : Int)).map (Value.int .i64)) := by
  have hh : (w.alloc (.cells (roomI C) 2)).heap[w.heap.size]? = some (.cells (roomI C) 2 (0, 0)) := heap_alloc_new w _
  have e : roomI C = (fillV C C 0).toArray := by
    have h1 := roomI_list C
    have h2 : fillV 0 C 0 = fillV C C 0 := by simp [fillV]
    rw [← h2, ← h1]
  rw [e] at hh ⊢
  rw [← fillV_full]
  refine ⟨by rw [fillV_len C C 0 (Nat.le_refl _), Nat.mul_one], .inr ⟨w.heap.size, C, _, rfl, Nat.le_refl _, hh, Nat.le_refl _, by unfold maxLen; omega, by simp [fillV_len C C 0], ?_⟩⟩
  simp only [Nat.mul_one]
  exact List.take_of_length_le (by rw [fillV_len C C 0 (Nat.le_refl _)]; exact Nat.le_refl _)
/-- the first k of L, and nothing behind them -/
def padL (L : List Int) (k : Nat) : List Int := L.take k ++ List.replicate (L.length - k) 0
theorem padL_zero (L : List Int) : padL L 0 = List.replicate L.length 0 := by simp [padL]
theorem padL_full (L : List Int) : padL L L.length = L := by simp [padL]
theorem padL_len (L : List Int) (k : Nat) (h : k ≤ L.length) : (padL L k).length = L.length := by simp [padL]; omega
theorem padL_set (L : List Int) (k : Nat) (x : Int) (h : k < L.length) (hx : L.getD k 0 = x) : (padL L k).set k x = padL L (k + 1) := by
  have e : x = L[k] := by rw [← hx]; simp [List.getD, h]
  unfold padL
  rw [e, List.take_succ_eq_append_getElem h, List.set_append_right _ _ (by rw [List.length_take]; omega), show k - (L.take k).length = 0 from by rw [List.length_take]; omega]
  obtain ⟨m, hm⟩ : ∃ m, L.length - k = m + 1 := ⟨L.length - k - 1, by omega⟩
  rw [hm, List.replicate_succ, List.set_cons_zero, show L.length - (k + 1) = m from by omega, List.append_assoc, List.singleton_append]
theorem rem_bd (b : Int) : -4611686018427387904 < b.tmod 4611686018427387904 ∧ b.tmod 4611686018427387904 < 4611686018427387904 := by
  have e := Int.tmod_eq_emod (a := b) (b := 4611686018427387904)
  split at e <;> omega
theorem stored_pad {w : World} {base g n c : Nat} {L : List Int} {k : Nat} {x : Int} (h : w.ownsRow base 2 1 (.slice (some ⟨g, 0, none⟩) n c) n ((padL L k).map (Value.int .i64))) (hk : k < L.length) (hx : L.getD k 0 = x) :
    (w.setCell ⟨g, k, none⟩ (.int .i64 x)).ownsRow base 2 1 (.slice (some ⟨g, 0, none⟩) n c) n ((padL L (k + 1)).map (Value.int .i64)) ∧ w.grownBy (w.setCell ⟨g, k, none⟩ (.int .i64 x)) (some g) := by
  have := h.stored k (.int .i64 x)
  rwa [show ((padL L k).map (Value.int .i64)).set k (.int .i64 x) = (padL L (k + 1)).map (Value.int .i64) from by rw [← padL_set L k x hk hx, List.map_set]] at this

set_option maxRecDepth 100000 in
set_option maxHeartbeats 1000000 in
theorem same_law (v n : Int) (a2 : Option Addr) (n2 c2 : Nat) (l2 : List Int) (by_ : Int) (w : World) (gv : -9223372036854775808 ≤ v ∧ v ≤ 9223372036854775807) (s2 : Hs.Seg w a2 n2 c2 l2) (u2 : Hs.IsH l2) :
    Calls Try.prog 6 #[.int .i64 v, .int .i64 n, .slice a2 n2 c2, .int .i64 by_] w fun e w' => e = .returned (.bool true) ∧ Below w.heap.size w w' := by
  have L2 := s2.len
  have S2 := Lib.hid s2
  by_cases hg : 200 < n2 ∨ n2 = 0
  · have hg2 : (200 : Int) < n2 ∨ n2 = 0 := by omega
    clear hg L2 s2 u2 gv
    rcases hg2 with h1 | rfl
    all_goals
      go_enter Try.func6, Try.ntmps6
      go_wp2_with fail
      refine (lives_any _).mono ?_
      rintro e w1 ⟨rfl, hg1⟩
      have T1 := Lib.hid hg1
      clear hg1
      dsimp only
      go_wp2
      go_ret
      exact ⟨rfl, below_of T1.out⟩
  · have hn0 : n2 ≤ 200 := by omega
    have hn1 : 1 ≤ n2 := by omega
    have hra := Bs.pick_range n 4096 (by omega)
    have HPa := Lib.hid (fun W => Bs.pick_any n 4096 W (by omega) (by omega))
    obtain ⟨K, hK⟩ : ∃ A : Nat, Bs.pick n 4096 = (A : Int) := ⟨(Bs.pick n 4096).toNat, by omega⟩
    rw [hK] at HPa hra
    obtain ⟨N, hN⟩ : ∃ N, N = K + 1 := ⟨_, rfl⟩
    have hN1 : (1 : Int) + (K : Int) = (N : Int) := by omega
    have HN : Hid (1 ≤ N ∧ N ≤ 4096) := Lib.hid (by omega)
    have hN3 : N ≤ 4096 := by omega
    have hN4 : IntKind.i64.wrap (N : Int) = (N : Int) := by rw [IntKind.wrap_i64]; first | omega | (split <;> omega)
    obtain ⟨BY, hBY⟩ : ∃ B, by_.tmod 4611686018427387904 = B := ⟨_, rfl⟩
    have hbd := rem_bd by_
    rw [hBY] at hbd
    have HU := Lib.hid u2
    have HL2 := Lib.hid L2
    have HGv := Lib.hid gv
    have hneb : ((n2 : Int) == 0) = false := by simp; omega
    have hmkN := make_fullI N (by omega)
    have hmk2 := make_fullI n2 (by omega)
    clear s2 u2 hg L2 hK hra hN gv
    go_enter Try.func6, Try.ntmps6
    go_wp2_with fail
    refine (lives_any _).mono ?_
    rintro e w1 ⟨rfl, hT⟩
    have T1 := Lib.hid hT
    clear hT
    dsimp only
    go_wp2_with fail
    refine (HPa.out _).mono ?_
    rintro e w' ⟨rfl, rfl⟩
    dsimp only
    obtain ⟨G, hG⟩ : ∃ G, w1.heap.size = G := ⟨_, rfl⟩
    have hown0 := own_made N (by omega) w1
    obtain ⟨LV, hLV⟩ : ∃ LV, List.replicate N v = LV := ⟨_, rfl⟩
    have HLV : Hid (LV.length = N ∧ ∀ k, k < N → LV.getD k 0 = v) := Lib.hid (by
      rw [← hLV]
      exact ⟨List.length_replicate, fun k hk => by simp [List.getD, hk]⟩)
    have HLe := Lib.hid hLV
    have hp0 : List.replicate N (0 : Int) = padL LV 0 := by rw [padL_zero, HLV.out.1]
    rw [hp0] at hown0
    rw [hG] at hown0
    have O0 := Lib.hid hown0
    have B0 : Hid (Below w.heap.size w (w1.alloc (.cells (roomI N) 2))) := Lib.hid ((below_of T1.out).alloc T1.out.size _)
    have HGw : Hid (w.heap.size ≤ G) := Lib.hid (by rw [← hG]; exact T1.out.size)
    clear hown0 hLV hp0 HPa
    go_wp2
    go_loopw [10] (fun si wr => ∃ k : Nat, k ≤ N ∧ si = .int .i64 k ∧ Hid (wr.ownsRow G 2 1 (.slice (some ⟨G, 0, none⟩) N N) N ((padL LV k).map (Value.int .i64))) ∧ Hid (Below w.heap.size w wr)) (fun si _ => N - (intOf si).toNat)
    case atStart => exact ⟨0, Nat.zero_le _, rfl, O0, B0⟩
    case round =>
      obtain ⟨k, hk, rfl, HO, HB⟩ := hrel
      by_cases hlt : k < N
      · have hst := stored_pad (x := v) HO.out (by rw [HLV.out.1]; exact hlt) (HLV.out.2 k hlt)
        have hc := own_cell HO.out k (by rw [padL_len _ _ (by rw [HLV.out.1]; omega), HLV.out.1]; exact hlt)
        obtain ⟨x0, hx0⟩ : ∃ x, (padL LV k).getD k 0 = x := ⟨_, rfl⟩
        rw [hx0] at hc
        have hf := HO.out.frozenAt k
        have HO1 := Lib.hid hst.1
        have HB1 : Hid (Below w.heap.size w (wr.setCell ⟨G, k, none⟩ (.int .i64 v))) := Lib.hid (HB.out.grown hst.2 HB.out.size (fun j e => by cases e; exact HGw.out))
        clear hst hx0
        go_wp2
        go_roundw
        case rel => exact ⟨k + 1, by omega, by go_num, HO1, HB1⟩
        case measure => simp [intOf]; omega
      · obtain rfl : k = N := by omega
        have hsl := HO.out
        have hfull : padL LV k = List.replicate k v := by
          have h := padL_full LV
          rw [HLV.out.1] at h
          rw [h, HLe.out]
        rw [hfull] at hsl
        obtain ⟨SL, hSL⟩ : ∃ n, (bestB (List.replicate k v)).length = n := ⟨_, rfl⟩
        have hS12 : SL ≤ 12 := by
          rw [← hSL]; exact same_short v k HN.out.1 HN.out.2 (fun x hx => by rw [List.mem_singleton.1 hx]; exact HGv.out)
        have HPut := Lib.hid (put_form (few_of (by rw [List.length_replicate]; exact HN.out.2)) hSL (fun x hx => by rw [List.eq_of_mem_replicate hx]; exact HGv.out) _ _ _ wr (Is.Seg.own hsl))
        clear hsl hfull hSL HO HLV HLe O0 B0
        go_wp2_with fail
        refine HPut.out.mono ?_
        rintro e w5 ⟨x5, k5, rfl, -, hT⟩
        have B5 : Hid (Below w.heap.size w w5) := Lib.hid (HB.out.trans (below_mono (below_of hT) HB.out.size))
        clear hT HPut HB
        dsimp only
        have hw5 : w.heap.size ≤ w5.heap.size := B5.out.size
        have hRA : ((w5.alloc (.cells (roomI n2) 2)).alloc (.cells (roomI n2) 2)).drew.ownsRow w.heap.size 2 1 (.slice (some ⟨w5.heap.size, 0, none⟩) n2 n2) n2 ((List.replicate n2 (0 : Int)).map (Value.int .i64)) :=
          Bs.ownsRow_mono ((own_made n2 (by omega) w5).alloc _) hw5
        have hRB : ((w5.alloc (.cells (roomI n2) 2)).alloc (.cells (roomI n2) 2)).drew.ownsRow w.heap.size 2 1 (.slice (some ⟨w5.heap.size + 1, 0, none⟩) n2 n2) n2 ((List.replicate n2 (0 : Int)).map (Value.int .i64)) := by
          have h := own_made n2 (by omega) (w5.alloc (.cells (roomI n2) 2))
          have e : (w5.alloc (.cells (roomI n2) 2)).heap.size = w5.heap.size + 1 := by simp
          rw [e] at h
          exact Bs.ownsRow_mono h (by omega)
        have hBX : Below w.heap.size w ((w5.alloc (.cells (roomI n2) 2)).alloc (.cells (roomI n2) 2)).drew := ((B5.out.alloc B5.out.size _).alloc (by simp; omega) _).drew
        have HRA := Lib.hid hRA
        have HRB := Lib.hid hRB
        have HBX := Lib.hid hBX
        have HNE : Hid (w5.heap.size ≠ w5.heap.size + 1) := Lib.hid (by omega)
        have HNE2 : Hid (w5.heap.size + 1 ≠ w5.heap.size) := Lib.hid (by omega)
        have HWs := Lib.hid hw5
        clear hRA hRB hBX hw5 B5
        go_wp2_with fail
        go_region
        · generalize ((w5.alloc (.cells (roomI n2) 2)).alloc (.cells (roomI n2) 2)).drew = X at *
          generalize w5.heap.size + 1 = gb at *
          generalize w5.heap.size = ga at *
          clear HNE2
          have HLB : Hid ((l2.map (· + BY)).length = n2) := Lib.hid (by rw [List.length_map]; exact HL2.out)
          have HA0 : Hid (X.ownsRow w.heap.size 2 1 (.slice (some ⟨ga, 0, none⟩) n2 n2) n2 ((padL l2 0).map (Value.int .i64))) := Lib.hid (by rw [padL_zero, HL2.out]; exact HRA.out)
          have HB0 : Hid (X.ownsRow w.heap.size 2 1 (.slice (some ⟨gb, 0, none⟩) n2 n2) n2 ((padL (l2.map (· + BY)) 0).map (Value.int .i64))) := Lib.hid (by rw [padL_zero, HLB.out]; exact HRB.out)
          clear HRA HRB
          have hne2 : ¬ ga = gb := HNE.out
          go_wp2
          go_loopw [15] (fun si wr => ∃ k : Nat, k ≤ n2 ∧ si = .int .i64 k ∧ Hid (wr.ownsRow w.heap.size 2 1 (.slice (some ⟨ga, 0, none⟩) n2 n2) n2 ((padL l2 k).map (Value.int .i64))) ∧ Hid (wr.ownsRow w.heap.size 2 1 (.slice (some ⟨gb, 0, none⟩) n2 n2) n2 ((padL (l2.map (· + BY)) k).map (Value.int .i64))) ∧ Hid (Below w.heap.size w wr)) (fun si _ => n2 - (intOf si).toNat)
          case atStart => exact ⟨0, Nat.zero_le _, rfl, HA0, HB0, HBX⟩
          case round =>
            obtain ⟨j, hj, rfl, HA, HBb, HB⟩ := hrel
            by_cases hlt : j < n2
            · obtain ⟨gA, oA, rfl, hc⟩ := (S2.out.grown (Bs.grown_of HB.out)).addr (by omega)
              have g1 := hc j hlt
              obtain ⟨y, hy⟩ : ∃ y, l2.getD j 0 = y := ⟨_, rfl⟩
              rw [hy] at g1
              have hyb : 0 ≤ y ∧ y ≤ 65535 := HU.out y (by rw [← hy, List.getD_eq_getElem?_getD, List.getElem?_eq_getElem (by rw [HL2.out]; exact hlt)]; exact List.getElem_mem _)
              have hyB : (l2.map (· + BY)).getD j 0 = y + BY := by
                rw [← hy]
                simp [List.getD, List.getElem?_eq_getElem (show j < l2.length by rw [HL2.out]; exact hlt)]
              have h3 := stored_pad HA.out (by rw [HL2.out]; exact hlt) hy
              have hb3 := Pk.own_set (v := .int .i64 y) (o := j) HBb.out (fun e => hne2 e.symm)
              have h4 := stored_pad hb3 (by rw [HLB.out]; exact hlt) hyB
              have ca := own_cell HA.out j (by rw [padL_len _ _ (by rw [HL2.out]; omega), HL2.out]; exact hlt)
              have cb := own_cell hb3 j (by rw [padL_len _ _ (by rw [HLB.out]; omega), HLB.out]; exact hlt)
              have cb0 := own_cell HBb.out j (by rw [padL_len _ _ (by rw [HLB.out]; omega), HLB.out]; exact hlt)
              obtain ⟨xa, hxa⟩ : ∃ x, (padL l2 j).getD j 0 = x := ⟨_, rfl⟩
              obtain ⟨xb, hxb⟩ : ∃ x, (padL (l2.map (· + BY)) j).getD j 0 = x := ⟨_, rfl⟩
              rw [hxa] at ca
              rw [hxb] at cb cb0
              have fa := HA.out.frozenAt j
              have fb := HBb.out.frozenAt j
              have HA2 : Hid (((wr.setCell ⟨ga, j, none⟩ (.int .i64 y)).setCell ⟨gb, j, none⟩ (.int .i64 (y + BY))).drew.ownsRow w.heap.size 2 1 (.slice (some ⟨ga, 0, none⟩) n2 n2) n2 ((padL l2 (j + 1)).map (Value.int .i64))) := Lib.hid (Pk.own_set h3.1 hne2)
              have HB2 : Hid (((wr.setCell ⟨ga, j, none⟩ (.int .i64 y)).setCell ⟨gb, j, none⟩ (.int .i64 (y + BY))).drew.ownsRow w.heap.size 2 1 (.slice (some ⟨gb, 0, none⟩) n2 n2) n2 ((padL (l2.map (· + BY)) (j + 1)).map (Value.int .i64))) := Lib.hid h4.1
              have HB3 : Hid (Below w.heap.size w ((wr.setCell ⟨ga, j, none⟩ (.int .i64 y)).setCell ⟨gb, j, none⟩ (.int .i64 (y + BY))).drew) := Lib.hid (((HB.out.grown h3.2 HB.out.size (fun i e => by cases e; exact (HA.out.lt ga rfl).1)).grown h4.2 (Nat.le_trans HB.out.size h3.2.size) (fun i e => by cases e; exact (HBb.out.lt gb rfl).1)).drew)
              have hy1 : wrap64 y = y := by rw [← IntWalk.i64_left, IntKind.wrap_i64]; first | omega | (split <;> omega)
              have hy2 : IntKind.i64.wrap y = y := by rw [IntKind.wrap_i64]; first | omega | (split <;> omega)
              have hy3 : IntKind.i64.wrap (y + BY) = y + BY := by rw [IntKind.wrap_i64]; first | omega | (split <;> omega)
              clear hc hy hyB h3 hb3 h4 hxa hxb
              go_wp2_with fail
              go_region
              go_wp2
              go_roundw
              case rel => exact ⟨j + 1, by omega, by go_num, HA2, HB2, HB3⟩
              case measure => simp [intOf]; omega
            · obtain rfl : j = n2 := by omega
              have hsa := HA.out
              have hsb := HBb.out
              have hfa : padL l2 j = l2 := by have h := padL_full l2; rwa [HL2.out] at h
              have hfb : padL (l2.map (· + BY)) j = l2.map (· + BY) := by have h := padL_full (l2.map (· + BY)); rwa [HLB.out] at h
              rw [hfa] at hsa
              rw [hfb] at hsb
              have hIa : IsI l2 := fun x hx => by have := HU.out x hx; omega
              have hIb : IsI (l2.map (· + BY)) := fun x hx => by
                obtain ⟨z, hz, rfl⟩ := List.mem_map.1 hx
                have := HU.out z hz
                show -9223372036854775808 ≤ z + BY ∧ z + BY ≤ 9223372036854775807
                omega
              have hne : l2 ≠ [] := fun e => by have := HL2.out; rw [e] at this; simp at this; omega
              have hsh := packed_shift l2 BY hne (by rw [HL2.out]; omega)
              have hnear := packed_near l2 hne (by rw [HL2.out]; exact hn0) (fun x hx => by have := HU.out x hx; omega)
              obtain ⟨PA, hPA⟩ : ∃ n, (encB 3 l2).length = n := ⟨_, rfl⟩
              rw [hPA, HL2.out] at hnear
              rw [hPA] at hsh
              have HPA := Lib.hid (fun W h => packed_form (few_of (by rw [HL2.out]; omega)) hPA hIa (some ⟨ga, 0, none⟩) j j W h)
              have HPB := Lib.hid (fun W h => packed_form (few_of (by rw [HLB.out]; omega)) hsh hIb (some ⟨gb, 0, none⟩) j j W h)
              have HA1 := Lib.hid (HPA.out wr (Is.Seg.own hsa))
              have HSb := Lib.hid (Is.Seg.own hsb)
              clear hsa hsb hfa hfb hIa hIb hne hsh hPA HA HBb HA0 HB0
              go_wp2_with fail
              refine HA1.out.mono ?_
              rintro e w8 ⟨x8, k8, rfl, -, hT⟩
              have B8 : Hid (Below w.heap.size w w8) := Lib.hid (HB.out.trans (below_mono (below_of hT) HB.out.size))
              have HB1 := Lib.hid (HPB.out w8 (iseg_stay HSb.out hT))
              clear hT HA1 HPA HPB HSb HB
              dsimp only
              go_wp2_with fail
              refine HB1.out.mono ?_
              rintro e w9 ⟨x9, k9, rfl, -, hT⟩
              have B9 : Hid (Below w.heap.size w w9) := Lib.hid (B8.out.trans (below_mono (below_of hT) B8.out.size))
              clear hT HB1 B8
              dsimp only
              go_wp2
              go_ret
              exact ⟨Bs.ret_bool (decide_eq_true (by omega)), B9.out⟩
        · generalize ((w5.alloc (.cells (roomI n2) 2)).alloc (.cells (roomI n2) 2)).drew = X at *
          generalize w5.heap.size + 1 = ga at *
          generalize w5.heap.size = gb at *
          have HRC := HRA
          clear HRA HNE
          have HRA := HRB
          clear HRB
          have HRB := HRC
          have HNE := HNE2
          clear HRC HNE2
          have HLB : Hid ((l2.map (· + BY)).length = n2) := Lib.hid (by rw [List.length_map]; exact HL2.out)
          have HA0 : Hid (X.ownsRow w.heap.size 2 1 (.slice (some ⟨ga, 0, none⟩) n2 n2) n2 ((padL l2 0).map (Value.int .i64))) := Lib.hid (by rw [padL_zero, HL2.out]; exact HRA.out)
          have HB0 : Hid (X.ownsRow w.heap.size 2 1 (.slice (some ⟨gb, 0, none⟩) n2 n2) n2 ((padL (l2.map (· + BY)) 0).map (Value.int .i64))) := Lib.hid (by rw [padL_zero, HLB.out]; exact HRB.out)
          clear HRA HRB
          have hne2 : ¬ ga = gb := HNE.out
          go_wp2
          go_loopw [15] (fun si wr => ∃ k : Nat, k ≤ n2 ∧ si = .int .i64 k ∧ Hid (wr.ownsRow w.heap.size 2 1 (.slice (some ⟨ga, 0, none⟩) n2 n2) n2 ((padL l2 k).map (Value.int .i64))) ∧ Hid (wr.ownsRow w.heap.size 2 1 (.slice (some ⟨gb, 0, none⟩) n2 n2) n2 ((padL (l2.map (· + BY)) k).map (Value.int .i64))) ∧ Hid (Below w.heap.size w wr)) (fun si _ => n2 - (intOf si).toNat)
          case atStart => exact ⟨0, Nat.zero_le _, rfl, HA0, HB0, HBX⟩
          case round =>
            obtain ⟨j, hj, rfl, HA, HBb, HB⟩ := hrel
            by_cases hlt : j < n2
            · obtain ⟨gA, oA, rfl, hc⟩ := (S2.out.grown (Bs.grown_of HB.out)).addr (by omega)
              have g1 := hc j hlt
              obtain ⟨y, hy⟩ : ∃ y, l2.getD j 0 = y := ⟨_, rfl⟩
              rw [hy] at g1
              have hyb : 0 ≤ y ∧ y ≤ 65535 := HU.out y (by rw [← hy, List.getD_eq_getElem?_getD, List.getElem?_eq_getElem (by rw [HL2.out]; exact hlt)]; exact List.getElem_mem _)
              have hyB : (l2.map (· + BY)).getD j 0 = y + BY := by
                rw [← hy]
                simp [List.getD, List.getElem?_eq_getElem (show j < l2.length by rw [HL2.out]; exact hlt)]
              have h3 := stored_pad HA.out (by rw [HL2.out]; exact hlt) hy
              have hb3 := Pk.own_set (v := .int .i64 y) (o := j) HBb.out (fun e => hne2 e.symm)
              have h4 := stored_pad hb3 (by rw [HLB.out]; exact hlt) hyB
              have ca := own_cell HA.out j (by rw [padL_len _ _ (by rw [HL2.out]; omega), HL2.out]; exact hlt)
              have cb := own_cell hb3 j (by rw [padL_len _ _ (by rw [HLB.out]; omega), HLB.out]; exact hlt)
              have cb0 := own_cell HBb.out j (by rw [padL_len _ _ (by rw [HLB.out]; omega), HLB.out]; exact hlt)
              obtain ⟨xa, hxa⟩ : ∃ x, (padL l2 j).getD j 0 = x := ⟨_, rfl⟩
              obtain ⟨xb, hxb⟩ : ∃ x, (padL (l2.map (· + BY)) j).getD j 0 = x := ⟨_, rfl⟩
              rw [hxa] at ca
              rw [hxb] at cb cb0
              have fa := HA.out.frozenAt j
              have fb := HBb.out.frozenAt j
              have HA2 : Hid (((wr.setCell ⟨ga, j, none⟩ (.int .i64 y)).setCell ⟨gb, j, none⟩ (.int .i64 (y + BY))).drew.ownsRow w.heap.size 2 1 (.slice (some ⟨ga, 0, none⟩) n2 n2) n2 ((padL l2 (j + 1)).map (Value.int .i64))) := Lib.hid (Pk.own_set h3.1 hne2)
              have HB2 : Hid (((wr.setCell ⟨ga, j, none⟩ (.int .i64 y)).setCell ⟨gb, j, none⟩ (.int .i64 (y + BY))).drew.ownsRow w.heap.size 2 1 (.slice (some ⟨gb, 0, none⟩) n2 n2) n2 ((padL (l2.map (· + BY)) (j + 1)).map (Value.int .i64))) := Lib.hid h4.1
              have HB3 : Hid (Below w.heap.size w ((wr.setCell ⟨ga, j, none⟩ (.int .i64 y)).setCell ⟨gb, j, none⟩ (.int .i64 (y + BY))).drew) := Lib.hid (((HB.out.grown h3.2 HB.out.size (fun i e => by cases e; exact (HA.out.lt ga rfl).1)).grown h4.2 (Nat.le_trans HB.out.size h3.2.size) (fun i e => by cases e; exact (HBb.out.lt gb rfl).1)).drew)
              have hy1 : wrap64 y = y := by rw [← IntWalk.i64_left, IntKind.wrap_i64]; first | omega | (split <;> omega)
              have hy2 : IntKind.i64.wrap y = y := by rw [IntKind.wrap_i64]; first | omega | (split <;> omega)
              have hy3 : IntKind.i64.wrap (y + BY) = y + BY := by rw [IntKind.wrap_i64]; first | omega | (split <;> omega)
              clear hc hy hyB h3 hb3 h4 hxa hxb
              go_wp2_with fail
              go_region
              go_wp2
              go_roundw
              case rel => exact ⟨j + 1, by omega, by go_num, HA2, HB2, HB3⟩
              case measure => simp [intOf]; omega
            · obtain rfl : j = n2 := by omega
              have hsa := HA.out
              have hsb := HBb.out
              have hfa : padL l2 j = l2 := by have h := padL_full l2; rwa [HL2.out] at h
              have hfb : padL (l2.map (· + BY)) j = l2.map (· + BY) := by have h := padL_full (l2.map (· + BY)); rwa [HLB.out] at h
              rw [hfa] at hsa
              rw [hfb] at hsb
              have hIa : IsI l2 := fun x hx => by have := HU.out x hx; omega
              have hIb : IsI (l2.map (· + BY)) := fun x hx => by
                obtain ⟨z, hz, rfl⟩ := List.mem_map.1 hx
                have := HU.out z hz
                show -9223372036854775808 ≤ z + BY ∧ z + BY ≤ 9223372036854775807
                omega
              have hne : l2 ≠ [] := fun e => by have := HL2.out; rw [e] at this; simp at this; omega
              have hsh := packed_shift l2 BY hne (by rw [HL2.out]; omega)
              have hnear := packed_near l2 hne (by rw [HL2.out]; exact hn0) (fun x hx => by have := HU.out x hx; omega)
              obtain ⟨PA, hPA⟩ : ∃ n, (encB 3 l2).length = n := ⟨_, rfl⟩
              rw [hPA, HL2.out] at hnear
              rw [hPA] at hsh
              have HPA := Lib.hid (fun W h => packed_form (few_of (by rw [HL2.out]; omega)) hPA hIa (some ⟨ga, 0, none⟩) j j W h)
              have HPB := Lib.hid (fun W h => packed_form (few_of (by rw [HLB.out]; omega)) hsh hIb (some ⟨gb, 0, none⟩) j j W h)
              have HA1 := Lib.hid (HPA.out wr (Is.Seg.own hsa))
              have HSb := Lib.hid (Is.Seg.own hsb)
              clear hsa hsb hfa hfb hIa hIb hne hsh hPA HA HBb HA0 HB0
              go_wp2_with fail
              refine HA1.out.mono ?_
              rintro e w8 ⟨x8, k8, rfl, -, hT⟩
              have B8 : Hid (Below w.heap.size w w8) := Lib.hid (HB.out.trans (below_mono (below_of hT) HB.out.size))
              have HB1 := Lib.hid (HPB.out w8 (iseg_stay HSb.out hT))
              clear hT HA1 HPA HPB HSb HB
              dsimp only
              go_wp2_with fail
              refine HB1.out.mono ?_
              rintro e w9 ⟨x9, k9, rfl, -, hT⟩
              have B9 : Hid (Below w.heap.size w w9) := Lib.hid (B8.out.trans (below_mono (below_of hT) B8.out.size))
              clear hT HB1 B8
              dsimp only
              go_wp2
              go_ret
              exact ⟨Bs.ret_bool (decide_eq_true (by omega)), B9.out⟩
end Go.Proofs.Yteolpjlpjjjchaa.In
