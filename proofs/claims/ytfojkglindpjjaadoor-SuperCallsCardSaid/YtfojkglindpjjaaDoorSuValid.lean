/-
  The program's isValid: flags of the blocks that are in use.
-/
import Derived.Test.YtfojkglindpjjaaDoorSuTake
import Derived.Test.YtfojkglindpjjaaDoorSuPages
import Derived.Deep.Cut
namespace Go.Proofs.YtfojkglindpjjaaDoor.Su
open Go.RowKit Bs Dv Gr
open Fr (block_turn room)

def flagsF (N : Nat) (M : List Int) : List Bool := (List.range N).map fun j : Nat => decide ((j : Int) ∈ M)
theorem flags_len (N : Nat) (M : List Int) : (flagsF N M).length = N := by simp [flagsF]
theorem flags_get {N k : Nat} (M : List Int) (h : k < N) : (flagsF N M).getD k false = decide ((k : Int) ∈ M) := by simp [flagsF, List.getD, h]
theorem flags_set (N k : Nat) (M : List Int) : (flagsF N M).set k true = flagsF N (M ++ [(k : Int)]) := by
  apply List.ext_getElem?
  intro j
  by_cases hj : j < N
  · by_cases e : k = j
    · subst e
      rw [List.getElem?_set_self (by rw [flags_len]; exact hj)]
      simp [flagsF, hj]
    · rw [List.getElem?_set_ne e]
      have e2 : ¬ (j : Int) = (k : Int) := by omega
      simp [flagsF, hj, e2]
  · rw [List.getElem?_eq_none (by rw [List.length_set, flags_len]; omega), List.getElem?_eq_none (by rw [flags_len]; omega)]
theorem flags_none (N : Nat) : List.replicate N false = flagsF N [] := by
  apply List.ext_getElem?
  intro j
  by_cases hj : j < N <;> simp [flagsF, hj]
def freeAll (blocks : Int) : List Int → List Int → Prop
  | _, [] => True
  | M, p :: l => (p < blocks ∧ p ∉ M) ∧ freeAll blocks (M ++ [p]) l
theorem free_iff (blocks : Int) : ∀ (l M : List Int), freeAll blocks M l ↔ (∀ p ∈ l, p < blocks ∧ p ∉ M) ∧ l.Nodup
  | [], M => by simp [freeAll]
  | p :: l, M => by
    rw [freeAll, free_iff blocks l (M ++ [p]), List.nodup_cons]
    constructor
    · rintro ⟨h1, h2, h3⟩
      refine ⟨fun q hq => ?_, fun hp => (h2 p hp).2 (by simp), h3⟩
      rcases List.mem_cons.1 hq with rfl | hq
      · exact h1
      · exact ⟨(h2 q hq).1, fun hm => (h2 q hq).2 (by simp [hm])⟩
    · rintro ⟨h1, h2, h3⟩
      refine ⟨h1 p (by simp), fun q hq => ⟨(h1 q (by simp [hq])).1, fun hm => ?_⟩, h3⟩
      rcases List.mem_append.1 hm with hm | hm
      · exact (h1 q (by simp [hq])).2 hm
      · rw [List.mem_singleton] at hm; subst hm; exact h2 hq
def marks (root : Int) : List Int := [0, 1] ++ (if root = 0 then [] else [root])
theorem valid_free {s : Sup} (hg : GeoOk s.size s.blocks) (h0 : s.gen ≠ 0) (hr : s.root = 0 ∨ pageP s.blocks s.root) (hl : (s.pages.length : Int) = pagesF s.size s.blocks) (hw : Ws.IsW s.pages) :
    Valid s ↔ freeAll s.blocks (marks s.root) s.pages := by
  rw [free_iff]
  unfold Valid pagesOk
  constructor
  · rintro ⟨_, _, _, _, h5, h6⟩
    refine ⟨fun p hp => ?_, h6⟩
    obtain ⟨h7, h8⟩ := h5 p hp
    refine ⟨h7.2, fun hm => ?_⟩
    have := h7.1
    unfold marks at hm
    by_cases e : s.root = 0
    · rw [if_pos e] at hm; simp at hm; omega
    · rw [if_neg e] at hm; simp at hm; omega
  · rintro ⟨h5, h6⟩
    refine ⟨hg, h0, hr, hl, fun p hp => ?_, h6⟩
    obtain ⟨h7, h8⟩ := h5 p hp
    have hw1 := hw p hp
    unfold marks at h8
    by_cases e : s.root = 0
    · rw [if_pos e] at h8
      simp at h8
      exact ⟨⟨by omega, h7⟩, by omega⟩
    · rw [if_neg e] at h8
      simp at h8
      exact ⟨⟨by omega, h7⟩, h8.2.2⟩

theorem take_any (g N : Nat) (M : List Int) (p : Int) (w : World) (hN : N ≤ 1000000) (hp : 0 ≤ p ∧ p < 4294967296) (hF : Fl w g (flagsF N M)) :
    Calls Tryd.prog 49 #[.slice (some ⟨g, 0, none⟩) N N, .int .u32 p] w fun e w' => Turn w w' (· = g) ∧ ((e = .returned (.bool true) ∧ (p < (N : Int) ∧ p ∉ M) ∧ Fl w' g (flagsF N (M ++ [p]))) ∨ (e = .returned (.bool false) ∧ ¬ (p < (N : Int) ∧ p ∉ M))) := by
  obtain ⟨k, rfl⟩ := Int.eq_ofNat_of_zero_le hp.1
  by_cases h1 : (k : Int) < (N : Int)
  · have hk : k < N := by omega
    by_cases h2 : (k : Int) ∈ M
    · refine (take_used g N k _ w (flags_len N M) hN hk hF (by rw [flags_get M hk]; simpa using h2)).mono fun e w' h => ?_
      obtain ⟨rfl, rfl⟩ := h
      exact ⟨Turn.refl _ _, .inr ⟨rfl, fun h => h.2 h2⟩⟩
    · refine (take_free g N k _ w (flags_len N M) hN hk hF (by rw [flags_get M hk]; simpa using h2)).mono fun e w' h => ?_
      obtain ⟨rfl, hf, ht⟩ := h
      rw [flags_set] at hf
      exact ⟨ht, .inl ⟨rfl, ⟨h1, h2⟩, hf⟩⟩
  · refine (take_far g N _ (k : Int) w (flags_len N M) hN hp (by omega)).mono fun e w' h => ?_
    obtain ⟨rfl, rfl⟩ := h
    exact ⟨Turn.refl _ _, .inr ⟨rfl, fun h => h1 h.1⟩⟩

theorem take_drop (l : List Int) (k : Nat) (h : k < l.length) : l.take (k + 1) = l.take k ++ [l.getD k 0] ∧ l.drop k = l.getD k 0 :: l.drop (k + 1) := by
  have e : l.getD k 0 = l[k] := by simp [List.getD, h]
  rw [e]
  exact ⟨List.take_succ_eq_append_getElem h, List.drop_eq_getElem_cons h⟩
theorem put_new {a w w' : World} {g : Nat} (h : a.grownBy w none) (t : Turn w w' (· = g)) (hg : a.heap.size ≤ g) : a.grownBy w' none := grown_put h t hg

set_option maxRecDepth 100000 in
set_option maxHeartbeats 4000000 in
theorem valid_any (s : Sup) (a : Option Addr) (n c : Nat) (w : World) (hs : Ws.Seg w a n c s.pages) (ho : SupOk s) :
    Calls Tryd.prog 32 #[.agg #[.int .u64 s.gen, .int .i64 s.size, .int .i64 s.blocks, .int .u32 s.root, .slice a n c]] w fun e w' => e = .returned (.bool (decide (Valid s))) ∧ w.grownBy w' none := by
  have HB0 := Lib.hid (SB.new w s a n c)
  have HG0 := Lib.hid (grown_alloc w (.cells #[.int .u64 s.gen, .int .i64 s.size, .int .i64 s.blocks, .int .u32 s.root, .slice a n c] 29))
  have HW : Hid (Ws.IsW s.pages) := Lib.hid (fun x hx => by have := ho.pages x hx; omega)
  have hro := ho.root
  have hgen := ho.gen
  have HVF := Lib.hid (fun (h1 : GeoOk s.size s.blocks) h2 h3 h4 => valid_free (s := s) h1 h2 h3 h4 HW.out)
  have HVD : Hid (Valid s → GeoOk s.size s.blocks ∧ s.gen ≠ 0 ∧ (s.root = 0 ∨ pageP s.blocks s.root) ∧ (s.pages.length : Int) = pagesF s.size s.blocks) := Lib.hid (fun h => ⟨h.1, h.2.1, h.2.2.1, h.2.2.2.1⟩)
  have HL := Lib.hid hs.len
  have hle := hs.le
  have hcap := hs.cap
  unfold maxLen at hcap
  have HS := Lib.hid hs
  obtain ⟨V, hV⟩ : ∃ V, Valid s = V := ⟨_, rfl⟩
  have HDV : Hid (∀ b : Bool, (V ↔ b = true) → decide (Valid s) = b) := Lib.hid (fun b h => by
    have : Valid s ↔ b = true := by rw [hV]; exact h
    by_cases hv : Valid s
    · rw [decide_eq_true hv, this.1 hv]
    · rw [decide_eq_false hv]
      cases b with
      | false => rfl
      | true => exact absurd (this.2 rfl) hv)
  rw [hV] at HVF HVD
  obtain ⟨R, hR⟩ : ∃ R, decide (Valid s) = R := ⟨_, rfl⟩
  rw [hR] at HDV
  rw [hR]
  clear hV hR hs ho
  obtain ⟨gen, size, blocks, root, pages⟩ := s
  dsimp only at *
  obtain ⟨E, hE⟩ : ∃ E, geoE size blocks = E := ⟨_, rfl⟩
  have HCQ : Hid (∀ W, Calls Tryd.prog 34 #[.agg #[.int .i64 size, .int .i64 blocks]] W fun e w' => e = .returned (.int .i64 E) ∧ W.grownBy w' none) := Lib.hid (fun W => (check_any size blocks W).mono fun e w' ⟨h1, h2⟩ => ⟨by rw [← hE]; exact h1, by rw [h2]; exact grown_alloc _ _⟩)
  have HPQ := Lib.hid (fun W => pages_any size blocks W)
  have HGE : Hid (GeoOk size blocks ↔ E = 0) := Lib.hid (by rw [← hE]; exact (geo_iff size blocks).symm)
  clear hE
  obtain ⟨P, hP⟩ : ∃ P, pagesF size blocks = P := ⟨_, rfl⟩
  rw [hP] at HPQ HVF HVD
  clear hP
  obtain ⟨W0, hW0⟩ : ∃ X, w.alloc (.cells #[.int .u64 gen, .int .i64 size, .int .i64 blocks, .int .u32 root, .slice a n c] 29) = X := ⟨_, rfl⟩
  rw [hW0] at HB0
  rw [hW0] at HG0
  obtain ⟨c0, c1, c2, c3, c4⟩ := HB0.out.gw
  by_cases q0 : E = 0
  · have hgeo : GeoOk size blocks := HGE.out.2 q0
    by_cases q1 : gen = 0
    · have e0 : (E != 0) = false := by rw [q0]; rfl
      have e1 : (gen == 0) = true := beq_iff_eq.2 q1
      have HF : Hid (R = false) := Lib.hid (HDV.out false ⟨fun h => absurd q1 (HVD.out h).2.1, fun h => by cases h⟩)
      clear q0 q1 hgeo HVF HVD
      go_enter Tryd.func32, Tryd.ntmps32
      go_upto_region 1 with (fail)
      refine wp_region_grow (by kernel_rfl) ?_
      repeat (go_big_quiet_step (first | (go_at_call 34; with_reducible exact Calls.grow_of (HCQ.out _)) | (go_at_call 18; with_reducible exact Calls.grow_of (HPQ.out _)) | fail))
      refine wpQuiet_nil ?_
      rintro _ ⟨p, rfl⟩
      have HGF := Lib.hid (grown_then HG0.out p.grown)
      go_wp2
      go_ret
      have hF := HF.out
      subst hF
      exact ⟨rfl, HGF.out⟩
    · by_cases q2 : (n : Int) = P
      · have e0 : (E != 0) = false := by rw [q0]; rfl
        have e1 : (gen == 0) = false := beq_eq_false_iff_ne.2 q1
        have e2 : ((n : Int) != P) = false := by rw [q2]; simp
        have hb : 8 ≤ blocks ∧ blocks ≤ 4096 := ⟨hgeo.2.2.2.1, hgeo.2.2.2.2⟩
        have HFA : Hid ((root = 0 ∨ pageP blocks root) → (V ↔ freeAll blocks (marks root) pages)) := Lib.hid (fun h => HVF.out hgeo q1 h (by rw [HL.out]; exact q2))
        have HRO : Hid (V → root = 0 ∨ pageP blocks root) := Lib.hid (fun h => (HVD.out h).2.2.1)
        obtain ⟨N, rfl⟩ := Int.eq_ofNat_of_zero_le (show 0 ≤ blocks by omega)
        have hN : 8 ≤ N ∧ N ≤ 4096 := by omega
        have hmk := make_flags N (by omega)
        clear q0 q1 q2 hgeo HVF HVD hb HGE
        go_enter Tryd.func32, Tryd.ntmps32
        go_upto_region 1 with (fail)
        refine wp_region_grow (by kernel_rfl) ?_
        repeat (go_big_quiet_step (first | (go_at_call 34; with_reducible exact Calls.grow_of (HCQ.out _)) | (go_at_call 18; with_reducible exact Calls.grow_of (HPQ.out _)) | fail))
        refine wpQuiet_nil ?_
        rintro _ ⟨p, rfl⟩
        have HG1 := Lib.hid (grown_then HG0.out p.grown)
        have HB1 := Lib.hid (HB0.out.old p.grown)
        clear c0 c1 c2 c3 c4
        obtain ⟨w1, hw1⟩ : ∃ X, X = p.at_ := ⟨_, rfl⟩
        rw [← hw1] at HG1 HB1 ⊢
        clear hw1 p
        have HFL := Lib.hid (fl_made w1 N)
        have HG2 := Lib.hid (grown_then HG1.out (grown_alloc w1 (.cells (roomB N) 4)))
        have HB2 := Lib.hid (HB1.out.old (grown_alloc w1 (.cells (roomB N) 4)))
        have hwg : w.heap.size ≤ w1.heap.size := HG1.out.size
        have hgg : w.heap.size ≠ w1.heap.size := by have := HB1.out.lt; omega
        obtain ⟨-, -, b2, -, -⟩ := HB1.out.cells
        clear HB1 HG1
        go_wp2
        obtain ⟨W2, hW2⟩ : ∃ X, w1.alloc (.cells (roomB N) 4) = X := ⟨_, rfl⟩
        obtain ⟨B, hB⟩ : ∃ g, w1.heap.size = g := ⟨_, rfl⟩
        rw [hW2, hB] at HFL
        rw [hW2] at HG2 HB2
        rw [hB] at hwg hgg
        clear b2 hmk
        go_loopw [29] (fun si wr => ∃ k : Nat, k ≤ 2 ∧ si = .int .i64 k ∧ Hid (Fl wr B (flagsF N ([0, 1].take k))) ∧ Hid (Turn W2 wr (· = B))) (fun si _ => 2 - (intOf si).toNat)
        case atStart => exact ⟨0, by omega, rfl, Lib.hid (by rw [hW2]; show Fl W2 B (flagsF N []); rw [← flags_none]; exact HFL.out), Lib.hid (by rw [hW2]; exact Turn.refl _ _)⟩
        case round =>
          obtain ⟨k, hk, rfl, HFk, HTk⟩ := hrel
          by_cases hlt : k < 2
          · obtain ⟨x0, x1⟩ := HFk.out k (by rw [flags_len]; omega)
            have HF1 : Hid (Fl (wr.setCell ⟨B, k, none⟩ (.bool true)) B (flagsF N ([0, 1].take (k + 1)))) := Lib.hid (by
              have h := HFk.out.set k
              rw [flags_set] at h
              rcases (show k = 0 ∨ k = 1 by omega) with rfl | rfl <;> exact h)
            have HT1 : Hid (Turn W2 (wr.setCell ⟨B, k, none⟩ (.bool true)) (· = B)) := Lib.hid (HTk.out.trans (Turn.setCell _ _ _ (S := (· = B)) rfl) (fun _ _ e => e))
            obtain ⟨x, hx⟩ : ∃ x, (flagsF N ([0, 1].take k)).getD k false = x := ⟨_, rfl⟩
            rw [hx] at x0
            clear hx
            go_wp2
            go_roundw
            case rel => exact ⟨k + 1, by omega, by go_num, HF1, HT1⟩
            case measure => simp [intOf]; omega
          · obtain rfl : k = 2 := by omega
            have HF2 : Hid (Fl wr B (flagsF N [0, 1])) := HFk
            have HB3 := Lib.hid (HB2.out.not HTk.out hgg)
            have HG3 := Lib.hid (grown_put HG2.out HTk.out hwg)
            obtain ⟨-, -, -, b3, -⟩ := HB3.out.cells
            clear HFk HTk HB2 HG2 HFL hW2
            by_cases hr0 : root = 0
            · have q0 : (root != 0) = false := by rw [hr0]; rfl
              have HVA : Hid (V ↔ freeAll (N : Int) (marks root) pages) := Lib.hid (HFA.out (.inl hr0))
              have HFA1 : Hid (Fl wr B (flagsF N (marks root))) := Lib.hid (by unfold marks; rw [if_pos hr0]; exact HF2.out)
              have HGA := HG3
              have HBA := HB3
              clear hr0 HFA HRO HF2 HG3 HB3
              obtain ⟨-, -, -, -, b4⟩ := HBA.out.cells
              go_wp2
              clear b3 b4 HBA
              go_loopw [49] (fun si wr => ∃ k : Nat, k ≤ n ∧ si = .int .i64 k ∧ Hid (Fl wr B (flagsF N (marks root ++ pages.take k))) ∧ Hid (w.grownBy wr none) ∧ Hid (V ↔ freeAll (N : Int) (marks root ++ pages.take k) (pages.drop k))) (fun si _ => n - (intOf si).toNat)
              case atStart => exact ⟨0, Nat.zero_le _, rfl, Lib.hid (by rw [List.take_zero, List.append_nil]; exact HFA1.out), HGA, Lib.hid (by rw [List.take_zero, List.append_nil]; exact HVA.out)⟩
              case round =>
                clear HGA HFA1 HVA
                obtain ⟨k, hk, rfl, HFk, HGk, HVk⟩ := hrel
                by_cases hlt : k < n
                · have HTD := take_drop pages k (by rw [HL.out]; exact hlt)
                  obtain ⟨ga, oa, rfl, hc⟩ := (HS.out.grown HGk.out).addr (by omega)
                  have hck := hc k hlt
                  have hp := bd HW.out k
                  obtain ⟨p, hpp⟩ : ∃ p, pages.getD k 0 = p := ⟨_, rfl⟩
                  rw [hpp] at HTD hck hp
                  have HT := Lib.hid HTD
                  have HTA := Lib.hid (take_any B N (marks root ++ pages.take k) p wr (by omega) hp HFk.out)
                  clear hc hpp HTD
                  go_wp2_with fail
                  refine HTA.out.mono ?_
                  rintro e w4 ⟨ht, h⟩
                  have HG4 := Lib.hid (grown_put HGk.out ht hwg)
                  rcases h with ⟨rfl, hin, hf⟩ | ⟨rfl, hno⟩
                  · have HF4 : Hid (Fl w4 B (flagsF N (marks root ++ pages.take (k + 1)))) := Lib.hid (by rw [HT.out.1, ← List.append_assoc]; exact hf)
                    have HV4 : Hid (V ↔ freeAll (N : Int) (marks root ++ pages.take (k + 1)) (pages.drop (k + 1))) := Lib.hid (by
                      rw [HVk.out, HT.out.2, freeAll, HT.out.1, ← List.append_assoc]
                      exact and_iff_right hin)
                    clear ht hin hf HTA HGk HFk HVk hck
                    dsimp only
                    go_wp2
                    go_roundw
                    case rel => exact ⟨k + 1, by omega, by go_num, HF4, HG4, HV4⟩
                    case measure => simp [intOf]; omega
                  · have hR : R = false := HDV.out false ⟨fun hv => by rw [HVk.out, HT.out.2, freeAll] at hv; exact absurd hv.1 hno, fun h => by cases h⟩
                    clear ht hno HTA HGk HFk HVk hck
                    dsimp only
                    go_wp2
                    go_ret
                    subst hR
                    exact ⟨rfl, HG4.out⟩
                · obtain rfl : k = n := by omega
                  have hR : R = true := HDV.out true ⟨fun _ => rfl, fun _ => by rw [HVk.out, List.drop_of_length_le (by rw [HL.out]; exact Nat.le_refl _)]; exact trivial⟩
                  clear HFk HVk
                  go_wp2
                  go_ret
                  subst hR
                  exact ⟨rfl, HGk.out⟩
            · have q0 : (root != 0) = true := bne_iff_ne.2 hr0
              have HTA := Lib.hid (take_any B N [0, 1] root wr (by omega) hro HF2.out)
              go_wp2_with fail
              refine HTA.out.mono ?_
              rintro e w4 ⟨ht, h⟩
              have HGA := Lib.hid (grown_put HG3.out ht hwg)
              have HBA := Lib.hid (HB3.out.not ht hgg)
              rcases h with ⟨rfl, hin, hf⟩ | ⟨rfl, hno⟩
              · have hpg : pageP (N : Int) root := by
                  have h2 := hin.2
                  simp at h2
                  exact ⟨by omega, hin.1⟩
                have HVA : Hid (V ↔ freeAll (N : Int) (marks root) pages) := Lib.hid (HFA.out (.inr hpg))
                have HFA1 : Hid (Fl w4 B (flagsF N (marks root))) := Lib.hid (by unfold marks; rw [if_neg hr0]; exact hf)
                clear hr0 HFA HRO HF2 HG3 HB3 ht hin hf HTA b3 hpg
                dsimp only
                obtain ⟨-, -, -, -, b4⟩ := HBA.out.cells
                go_wp2
                clear b4 HBA
                go_loopw [49] (fun si wr => ∃ k : Nat, k ≤ n ∧ si = .int .i64 k ∧ Hid (Fl wr B (flagsF N (marks root ++ pages.take k))) ∧ Hid (w.grownBy wr none) ∧ Hid (V ↔ freeAll (N : Int) (marks root ++ pages.take k) (pages.drop k))) (fun si _ => n - (intOf si).toNat)
                case atStart => exact ⟨0, Nat.zero_le _, rfl, Lib.hid (by rw [List.take_zero, List.append_nil]; exact HFA1.out), HGA, Lib.hid (by rw [List.take_zero, List.append_nil]; exact HVA.out)⟩
                case round =>
                  clear HGA HFA1 HVA
                  obtain ⟨k, hk, rfl, HFk, HGk, HVk⟩ := hrel
                  by_cases hlt : k < n
                  · have HTD := take_drop pages k (by rw [HL.out]; exact hlt)
                    obtain ⟨ga, oa, rfl, hc⟩ := (HS.out.grown HGk.out).addr (by omega)
                    have hck := hc k hlt
                    have hp := bd HW.out k
                    obtain ⟨p, hpp⟩ : ∃ p, pages.getD k 0 = p := ⟨_, rfl⟩
                    rw [hpp] at HTD hck hp
                    have HT := Lib.hid HTD
                    have HTA := Lib.hid (take_any B N (marks root ++ pages.take k) p wr (by omega) hp HFk.out)
                    clear hc hpp HTD
                    go_wp2_with fail
                    refine HTA.out.mono ?_
                    rintro e w4 ⟨ht, h⟩
                    have HG4 := Lib.hid (grown_put HGk.out ht hwg)
                    rcases h with ⟨rfl, hin, hf⟩ | ⟨rfl, hno⟩
                    · have HF4 : Hid (Fl w4 B (flagsF N (marks root ++ pages.take (k + 1)))) := Lib.hid (by rw [HT.out.1, ← List.append_assoc]; exact hf)
                      have HV4 : Hid (V ↔ freeAll (N : Int) (marks root ++ pages.take (k + 1)) (pages.drop (k + 1))) := Lib.hid (by
                        rw [HVk.out, HT.out.2, freeAll, HT.out.1, ← List.append_assoc]
                        exact and_iff_right hin)
                      clear ht hin hf HTA HGk HFk HVk hck
                      dsimp only
                      go_wp2
                      go_roundw
                      case rel => exact ⟨k + 1, by omega, by go_num, HF4, HG4, HV4⟩
                      case measure => simp [intOf]; omega
                    · have hR : R = false := HDV.out false ⟨fun hv => by rw [HVk.out, HT.out.2, freeAll] at hv; exact absurd hv.1 hno, fun h => by cases h⟩
                      clear ht hno HTA HGk HFk HVk hck
                      dsimp only
                      go_wp2
                      go_ret
                      subst hR
                      exact ⟨rfl, HG4.out⟩
                  · obtain rfl : k = n := by omega
                    have hR : R = true := HDV.out true ⟨fun _ => rfl, fun _ => by rw [HVk.out, List.drop_of_length_le (by rw [HL.out]; exact Nat.le_refl _)]; exact trivial⟩
                    clear HFk HVk
                    go_wp2
                    go_ret
                    subst hR
                    exact ⟨rfl, HGk.out⟩
              · have hR : R = false := HDV.out false ⟨fun hv => by
                  rcases HRO.out hv with h | h
                  · exact absurd h hr0
                  · exact absurd ⟨h.2, by have := h.1; simp; omega⟩ hno, fun h => by cases h⟩
                clear hr0 HFA HRO HF2 HG3 HB3 ht hno HTA b3
                dsimp only
                go_wp2
                go_ret
                subst hR
                exact ⟨rfl, HGA.out⟩
      · have e0 : (E != 0) = false := by rw [q0]; rfl
        have e1 : (gen == 0) = false := beq_eq_false_iff_ne.2 q1
        have e2 : ((n : Int) != P) = true := bne_iff_ne.2 q2
        have HF : Hid (R = false) := Lib.hid (HDV.out false ⟨fun h => absurd (by rw [← HL.out]; exact (HVD.out h).2.2.2) q2, fun h => by cases h⟩)
        clear q0 q1 q2 hgeo HVF HVD
        go_enter Tryd.func32, Tryd.ntmps32
        go_upto_region 1 with (fail)
        refine wp_region_grow (by kernel_rfl) ?_
        repeat (go_big_quiet_step (first | (go_at_call 34; with_reducible exact Calls.grow_of (HCQ.out _)) | (go_at_call 18; with_reducible exact Calls.grow_of (HPQ.out _)) | fail))
        refine wpQuiet_nil ?_
        rintro _ ⟨p, rfl⟩
        have HGF := Lib.hid (grown_then HG0.out p.grown)
        go_wp2
        go_ret
        have hF := HF.out
        subst hF
        exact ⟨rfl, HGF.out⟩
  · have e0 : (E != 0) = true := bne_iff_ne.2 q0
    have HF : Hid (R = false) := Lib.hid (HDV.out false ⟨fun h => absurd (HGE.out.1 (HVD.out h).1) q0, fun h => by cases h⟩)
    clear q0 HVF HVD
    go_enter Tryd.func32, Tryd.ntmps32
    go_upto_region 1 with (fail)
    refine wp_region_grow (by kernel_rfl) ?_
    repeat (go_big_quiet_step (first | (go_at_call 34; with_reducible exact Calls.grow_of (HCQ.out _)) | (go_at_call 18; with_reducible exact Calls.grow_of (HPQ.out _)) | fail))
    refine wpQuiet_nil ?_
    rintro _ ⟨p, rfl⟩
    have HGF := Lib.hid (grown_then HG0.out p.grown)
    go_wp2
    go_ret
    have hF := HF.out
    subst hF
    exact ⟨rfl, HGF.out⟩
end Go.Proofs.YtfojkglindpjjaaDoor.Su
