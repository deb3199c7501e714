/-
  Packed columns read again: getPacked.
-/
import Derived.Test.YteolpjlpjjjchaaInGetR
import Derived.Deep.RegionWith
namespace Go.Proofs.Yteolpjlpjjjchaa.In
open Go.RowKit Go.Joins
open Is (IsI)
open Oct (Rd ReadN ReadB ofB valid_yes)
open Pk (getR wid IsU GetF)
open Dv (Turn nowhere)

set_option maxRecDepth 100000 in
set_option maxHeartbeats 400000 in
theorem bytes_more (b g : Nat) (l : List Int) (n : Int) (w : World) (h : Rd w b g l) (n0 : 0 ≤ n) (hn : (l.length : Int) < n) :
    Calls Try.prog 67 #[.pointer (some ⟨b, 0, none⟩), .int .i64 n] w fun e w' => e = .returned (.tuple #[.slice none 0 0, .int .i64 7]) ∧ w = w' := by
  obtain ⟨o, c, h0, hle, hc, hj⟩ := h.cells
  have HV := Lib.hid (valid_yes b w h.self)
  clear hj
  go_enter Try.func67, Try.ntmps67
  go_wp2_with (first
    | (go_at_call 45; refine HV.out.mono ?_; rintro e w' ⟨rfl, rfl⟩)
    | fail)
  go_ret2
  exact ⟨rfl, rfl⟩

/-- getPacked's answer -/
def gotK (n : Nat) (bs : List Int) : Option (List Int × List Int) := (decK true n bs).map fun l => (l, [])
theorem gotK_short {n : Nat} {bs : List Int} (h : bs.length < 9) : gotK n bs = none := by unfold gotK decK; rw [if_pos h]; rfl
theorem gotK_bad {n : Nat} {bs : List Int} (h : 9 ≤ bs.length) {E : Int} {B : List Int} (hR : getR (bs.drop 9) n (bs.getD 8 0) = (E, B)) (hE : ¬ E = 0) : gotK n bs = none := by
  unfold gotK decK; rw [if_neg (by omega), if_pos (by rw [hR]; exact hE)]; rfl
theorem gotK_not {n : Nat} {bs : List Int} (h : 9 ≤ bs.length) {B : List Int} (hR : getR (bs.drop 9) n (bs.getD 8 0) = (0, B)) (hE : ¬ (minL (B.map (above bs)) = sg (ofB (bs.take 8)) ∧ ((wid B : Nat) : Int) = bs.getD 8 0)) : gotK n bs = none := by
  unfold gotK decK; rw [if_neg (by omega), if_neg (by rw [hR]; simp), if_pos (by rw [hR]; exact ⟨rfl, hE⟩)]; rfl
theorem gotK_yes {n : Nat} {bs : List Int} (h : 9 ≤ bs.length) {B : List Int} (hR : getR (bs.drop 9) n (bs.getD 8 0) = (0, B)) (hE : minL (B.map (above bs)) = sg (ofB (bs.take 8)) ∧ ((wid B : Nat) : Int) = bs.getD 8 0) : gotK n bs = some (B.map (above bs), []) := by
  unfold gotK decK; rw [if_neg (by omega), if_neg (by rw [hR]; simp), if_neg (by rw [hR]; exact fun h => h.2 hE), hR]; rfl
theorem above_isI (bs B : List Int) : IsI (B.map (above bs)) := by
  intro x hx
  obtain ⟨v, _, rfl⟩ := List.mem_map.1 hx
  unfold above
  exact sg_bd _ (by omega) (by omega)
theorem above_wrap (bs : List Int) (v : Int) : wrap64 (IntKind.u64.wrap (ofB (bs.take 8) + v)) = above bs v := by
  rw [IntKind.wrap_u64]
  exact wrap_sg _ (by omega) (by omega)
theorem above_take (bs B : List Int) (k : Nat) (x : Int) (h : k < B.length) (hx : B.getD k 0 = x) : (B.map (above bs)).take (k + 1) = (B.map (above bs)).take k ++ [above bs x] := by
  rw [List.take_succ_eq_append_getElem (by rw [List.length_map]; exact h), ← hx]
  simp [List.getD, h]
theorem getD_byte {bs : List Int} (hb : Oct.IsB bs) (h : 9 ≤ bs.length) : 0 ≤ bs.getD 8 0 ∧ bs.getD 8 0 < 256 := by
  have := hb (bs.getD 8 0) (by rw [List.getD_eq_getElem?_getD, List.getElem?_eq_getElem (by omega)]; exact List.getElem_mem _)
  exact this

set_option maxRecDepth 100000 in
set_option maxHeartbeats 2000000 in
theorem getPacked_any (b g n : Nat) (bs : List Int) (w : World) (h : Rd w b g bs) (hg : g < w.heap.size) (hb : Oct.IsB bs) (hn : n ≤ 65536) (hcap : bs.length ≤ 100000000) :
    Calls Try.prog 54 #[.pointer (some ⟨b, 0, none⟩), .int .i64 n] w (GetsX b g w (gotK n bs)) := by
  by_cases h9 : bs.length < 9
  · have HN := Lib.hid (bytes_more b g bs 9 w h (by decide) (by omega))
    have HF : Hid (GetsX b g w (gotK n bs) (.returned (.tuple #[.slice none 0 0, .int .i64 7])) w) := Lib.hid (by
      rw [gotK_short h9]
      exact ⟨Turn.refl w _, 7, by decide, rfl⟩)
    clear h9 h hb hg hcap
    go_enter Try.func54, Try.ntmps54
    go_wp2_with fail
    refine HN.out.mono ?_
    rintro e w' ⟨rfl, rfl⟩
    dsimp only
    go_wp2
    go_ret2
    exact HF.out
  · have h9' : 9 ≤ bs.length := by omega
    obtain ⟨i0, hi, hz0, hz1, hz2⟩ := info_parts Is.info_i64
    have hbl : b < w.heap.size := World.block_lt_of_cell? w _ h.self
    have HBL := Lib.hid hbl
    have HGL := Lib.hid hg
    have HBy := Lib.hid (Oct.bytes_yes b g bs 9 w h h9' (by decide))
    obtain ⟨E, B, hR⟩ : ∃ E B, getR (bs.drop 9) n (bs.getD 8 0) = (E, B) := ⟨_, _, rfl⟩
    obtain ⟨m, hm⟩ : ∃ m, B.length = m := ⟨_, rfl⟩
    have HGet := Lib.hid (fun a len c W hs => Pk.get_form hR hm (Pk.fit_isB (isB_drop hb 9)) a len c W hs)
    have h8 := getD_byte hb h9'
    have HR := Lib.hid hR
    have HMl := Lib.hid hm
    have HBs := Lib.hid hb
    have H9 := Lib.hid h9'
    have HC := Lib.hid hcap
    obtain ⟨z, hz⟩ : ∃ z, ofB (bs.take 8) = z := ⟨_, rfl⟩
    obtain ⟨v8, hv8⟩ : ∃ v, bs.getD 8 0 = v := ⟨_, rfl⟩
    have hzb := ofB_bd8 (bs.take 8) (isB_take hb 8) (by rw [List.length_take]; omega)
    rw [hz] at hzb
    rw [hv8] at h8 HGet
    have HZ := Lib.hid hz
    have HV8 := Lib.hid hv8
    clear hR hm hb h9 h9' hg hbl hcap h hz hv8
    go_enter Try.func54, Try.ntmps54
    go_wp2_with fail
    refine HBy.out.mono ?_
    intro e w1 hby
    obtain ⟨x1, q1, rfl, hq1, hown1, hg1, hr1⟩ := hby.value
    obtain rfl : q1 = 9 := by rw [hq1, List.length_take]; have := H9.out; omega
    have HOwn1 := Lib.hid hown1
    have HT1 : Hid (Turn w w1 (At b)) := Lib.hid (turn_read hg1)
    have HR1 := Lib.hid hr1
    have hseg1 := Oct.Seg.own hown1
    have c8 : w1.cell? ⟨x1, 8, none⟩ = some (.int .u8 v8) := by
      have := hseg1.at_ _ rfl 8 (.int .u8 v8) (by
        rw [← HV8.out]
        have := H9.out
        simp [List.getD, List.getElem?_eq_getElem (show 8 < bs.length by omega)])
      rwa [Addr.add_lit] at this
    have HOF : Hid (∀ m, Calls Try.prog 47 #[.slice (some ⟨x1, 0, none⟩) 8 9] (w1.drewN m) fun e w' => e = .returned (.int .u64 z) ∧ w' = w1.drewN m) := Lib.hid (fun m => by
      have hsg := oseg (((bseg hseg1).grown (w' := w1.drewN m) ⟨rfl, rfl, rfl, Nat.le_refl _, fun _ _ _ => rfl⟩).take (show 8 ≤ 9 by decide))
      have h := Oct.of_any x1 0 8 9 _ (w1.drewN m) hsg (isB_take (isB_take HBs.out 9) 8) (by decide)
      rw [List.take_take, show min 8 9 = 8 from rfl, HZ.out] at h
      exact h.mono fun e w' ⟨a, b⟩ => ⟨a, b.symm⟩)
    clear hq1 hown1 hg1 hr1 hseg1 hby
    dsimp only
    go_wp2_with fail
    go_quiet ((go_at_call 47; exact Calls.quiet_of_same (HOF.out _)))
    have htX : Turn w1 (w1.drewN nq) (At b) := Turn.drewN w1 nq _
    have hRX : Rd (w1.drewN nq) b g (bs.drop 9) := Turn.rd (Turn.drewN w1 nq nowhere) HR1.out id id
    have HTX : Hid (Turn w (w1.drewN nq) (At b)) := Lib.hid (turn_more HT1.out htX (fun i e => .inl e))
    clear HOF HOwn1 HR1 c8 htX HT1
    generalize w1.drewN nq = X at *
    have HL := Lib.hid (Oct.left_yes b g _ X hRX)
    obtain ⟨q, hq⟩ : ∃ q, (bs.drop 9).length = q := ⟨_, rfl⟩
    have hqc : q ≤ 140737488355328 := by rw [← hq, List.length_drop]; have := HC.out; omega
    have HBy2 := Lib.hid (Oct.bytes_yes b g (bs.drop 9) q X hRX (by omega) hqc)
    rw [List.take_of_length_le (Nat.le_of_eq hq), List.drop_eq_nil_of_le (Nat.le_of_eq hq)] at HBy2
    rw [hq] at HL
    have HQ := Lib.hid hq
    have HXs : Hid (w.heap.size ≤ X.heap.size) := Lib.hid HTX.out.size
    clear hRX hq hqc
    go_wp2_with (first
      | (go_at_call 29; refine HL.out.mono ?_; rintro e w' ⟨rfl, rfl⟩)
      | fail)
    refine HBy2.out.mono ?_
    intro e w2 hby
    obtain ⟨x2, q2, rfl, hq2, hown2, hg2, hr2⟩ := hby.value
    obtain rfl : q2 = q := by rw [hq2]; exact HQ.out
    have HG := Lib.hid (HGet.out _ _ _ w2 (bseg (Oct.Seg.own hown2)))
    have HT2 : Hid (Turn w w2 (At b)) := Lib.hid (turn_more HTX.out (turn_read hg2) (fun i e => .inl e))
    have HR2 := Lib.hid hr2
    clear hby hq2 hown2 hg2 hr2 HBy2 HL HGet HTX HXs
    dsimp only
    go_wp2_with fail
    refine HG.out.mono ?_
    rintro e w3 ⟨a3, k3, rfl, hs3, ht3⟩
    have HT3 : Hid (Turn w w3 (At b)) := Lib.hid (turn_more HT2.out ht3 (fun i e => e.elim))
    have HR3 : Hid (Rd w3 b g []) := Lib.hid (Turn.rd ht3 HR2.out id id)
    have HS3 := Lib.hid hs3
    clear hs3 ht3 HG HR2 HT2
    dsimp only
    by_cases hE : E = 0
    · subst hE
      obtain ⟨p1, p2, p3, p4⟩ := Pk.put_get (bs.drop 9) n (bs.getD 8 0) (Pk.fit_isB (isB_drop HBs.out 9)) (by rw [HR.out])
      rw [HR.out] at p2 p4
      obtain rfl : m = n := by rw [← HMl.out]; exact Int.ofNat.inj p2
      have HU := Lib.hid p4
      have hmk := make_roomI m (by omega)
      have h0 := World.ownsRow_made (base := w3.heap.size) (e := 2) (size := 1) w3 (roomI m) m (Nat.le_refl _) (by unfold maxLen; omega) (by rw [roomI_size, Nat.mul_one])
      have HO0 := Lib.hid h0
      have HB0 : Hid (Below w3.heap.size w3 (w3.alloc (.cells (roomI m) 2))) := Lib.hid ((Below.refl _ w3).alloc (Nat.le_refl _) _)
      obtain ⟨L, hL⟩ : ∃ L, B.map (above bs) = L := ⟨_, rfl⟩
      have HLl : Hid (L.length = m) := Lib.hid (by rw [← hL, List.length_map]; exact HMl.out)
      have HLI : Hid (IsI L) := Lib.hid (by rw [← hL]; exact above_isI bs B)
      have HLt : Hid (∀ k x, k < m → B.getD k 0 = x → L.take (k + 1) = L.take k ++ [wrap64 (IntKind.u64.wrap (z + x))]) := Lib.hid (fun k x hk hx => by
        rw [← HZ.out, above_wrap, ← hL]
        exact above_take bs B k x (by rw [HMl.out]; exact hk) hx)
      have HX : Hid ((minL L = wrap64 z ∧ ((wid B : Nat) : Int) = v8 → gotK m bs = some (L, [])) ∧ (¬ (minL L = wrap64 z ∧ ((wid B : Nat) : Int) = v8) → gotK m bs = none)) := Lib.hid (by
        rw [← HZ.out, wrap_sg _ (by rw [HZ.out]; exact hzb.1) (by rw [HZ.out]; exact hzb.2), ← HV8.out, ← hL]
        exact ⟨fun h => gotK_yes H9.out HR.out h, fun h => gotK_not H9.out HR.out h⟩)
      clear p1 p2 p3 p4 h0 hL
      go_wp2
      go_loopw [13, 52] (fun so si wr => ∃ k : Nat, k ≤ m ∧ si = .int .i64 k ∧ so = .slice (some ⟨w3.heap.size, 0, none⟩) k m ∧ Hid (wr.ownsRow w3.heap.size 2 1 (.slice (some ⟨w3.heap.size, 0, none⟩) k m) k ((L.take k).map (Value.int .i64))) ∧ Hid (Below w3.heap.size w3 wr))
        (fun _ si _ => m - (intOf si).toNat)
      case atStart => exact ⟨0, Nat.zero_le _, rfl, rfl, HO0, HB0⟩
      case round =>
        obtain ⟨k, hk, rfl, rfl, HO, HB⟩ := hrel
        by_cases hlt : k < m
        · have hseg := HS3.out.grown (Bs.grown_of HB.out)
          obtain ⟨gA, oA, rfl, hc⟩ := hseg.addr (by omega)
          have g1 := hc k hlt
          obtain ⟨x, hx⟩ : ∃ x, B.getD k 0 = x := ⟨_, rfl⟩
          rw [hx] at g1
          have HP := Lib.hid (HLt.out k x hlt hx)
          obtain ⟨y, hy⟩ : ∃ y, wrap64 (IntKind.u64.wrap (z + x)) = y := ⟨_, rfl⟩
          rw [hy] at HP
          clear hx hc hseg
          go_wp2_with (at_builtin; refine wpList_append_fits _ rfl (.tmp 56) (.tmp 61) 27 rfl w3.heap.size 2 i0 1 Try.underlying27 hi hz1 w3.heap.size k m _ rfl (HO.out.alloc _) ⟨wr.heap.size, 0, none⟩ 1 1 [.int .i64 y] rfl rfl (by intro t u ht; match t, ht with | 0, ht => simp at ht; subst ht; exact Pk.cell_new wr _ _) (by intro u hu; simp at hu; subst hu; rfl) (by omega) ?_; intro w5 hown5 hgrow5)
          go_roundw
          case rel =>
            refine ⟨k + 1, by omega, by go_num, rfl, Lib.hid ?_, Lib.hid ((HB.out.alloc HB.out.size _).grown hgrow5 (by have := HB.out.size; simp; omega) (fun j e => by cases e; exact Nat.le_refl _))⟩
            rw [HP.out, List.map_append]
            exact hown5
          case measure => simp [intOf]; omega
        · obtain rfl : k = m := by omega
          have hown := HO.out
          rw [List.take_of_length_le (Nat.le_of_eq HLl.out)] at hown
          have HSeg := Lib.hid (Is.Seg.own hown)
          have HMin := Lib.hid (smallest_any _ _ _ L wr HSeg.out HLI.out)
          have HWid := Lib.hid (Pk.width_any _ _ _ B wr (HS3.out.grown (Bs.grown_of HB.out)) HU.out)
          have HT4 : Hid (Turn w wr (At b)) := Lib.hid (turn_more HT3.out (turn_below (S := nowhere) HB.out) (fun i e => e.elim))
          have HR4 : Hid (Rd wr b g []) := Lib.hid (Turn.rd (turn_below (S := nowhere) HB.out) HR3.out id id)
          have HF0 : Hid (gotK k bs = none → GetsX b g w (gotK k bs) (.returned (.tuple #[.slice none 0 0, .int .i64 4])) wr) := Lib.hid (fun e => by
            rw [e]; exact ⟨HT4.out, 4, by decide, rfl⟩)
          have HF1 : Hid (gotK k bs = some (L, []) → GetsX b g w (gotK k bs) (.returned (.tuple #[.slice (some ⟨w3.heap.size, 0, none⟩) k k, .int .i64 0])) wr) := Lib.hid (fun e => by
            rw [e]
            refine ⟨HT4.out, _, k, by rw [HLl.out], ?_, HR4.out⟩
            rw [HLl.out]; exact HSeg.out)
          obtain ⟨M, hM⟩ : ∃ M, minL L = M := ⟨_, rfl⟩
          obtain ⟨V, hV⟩ : ∃ V : Nat, wid B = V := ⟨_, rfl⟩
          obtain ⟨z', hz'⟩ : ∃ z', wrap64 z = z' := ⟨_, rfl⟩
          rw [hM, hV, hz'] at HX
          rw [hM] at HMin
          rw [hV] at HWid
          clear hown hM hV
          by_cases c1 : M = z'
          · subst c1
            by_cases c2 : (V : Int) = v8
            · have HF := Lib.hid (HF1.out (HX.out.1 ⟨rfl, c2⟩))
              subst c2
              go_wp2_with (first
                | (go_at_call 64; refine HMin.out.mono ?_; rintro e w' ⟨rfl, rfl⟩)
                | (go_at_call 65; refine HWid.out.mono ?_; rintro e w' ⟨rfl, rfl⟩)
                | fail)
              go_ret2
              exact HF.out
            · have HF := Lib.hid (HF0.out (HX.out.2 fun h => c2 h.2))
              have hb : ((V : Int) == v8) = false := by simpa using c2
              clear c2
              go_wp2_with (first
                | (go_at_call 64; refine HMin.out.mono ?_; rintro e w' ⟨rfl, rfl⟩)
                | (go_at_call 65; refine HWid.out.mono ?_; rintro e w' ⟨rfl, rfl⟩)
                | fail)
              go_ret2
              exact HF.out
          · have HF := Lib.hid (HF0.out (HX.out.2 fun h => c1 h.1))
            have hb : (M == z') = false := by simpa using c1
            clear c1
            go_wp2_with (first
              | (go_at_call 64; refine HMin.out.mono ?_; rintro e w' ⟨rfl, rfl⟩)
              | (go_at_call 65; refine HWid.out.mono ?_; rintro e w' ⟨rfl, rfl⟩)
              | fail)
            go_ret2
            exact HF.out
    · have HF : Hid (GetsX b g w (gotK n bs) (.returned (.tuple #[.slice none 0 0, .int .i64 E])) w3) := Lib.hid (by
        rw [gotK_bad H9.out HR.out hE]
        exact ⟨HT3.out, E, hE, rfl⟩)
      have hb : (E == 0) = false := by simpa using hE
      clear hE
      go_wp2
      go_ret2
      exact HF.out
end Go.Proofs.Yteolpjlpjjjchaa.In
