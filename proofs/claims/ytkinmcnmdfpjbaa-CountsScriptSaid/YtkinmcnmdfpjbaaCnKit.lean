/-
  What the statements of layer 12 share: counts that a law has made, LightGeo, small, lives.
-/
import Derived.Test.YtkinmcnmdfpjbaaCnTakeP
import Derived.Laws.ResultCell
import Derived.Laws.Rows
namespace Go.Proofs.Ytkinmcnmdfpjbaa.Cn
open Go.RowKit Bs Dv Gr
open Su (GeoOk geo_iff)

/-- counts of the law's own: made since w0 -/
structure CN (w0 w : World) (g h cap : Nat) (size : Int) (n : Nat) (N : List Int) : Prop where
  cc : CC w g h cap size N
  ok : CnOk size n N
  new : w0.heap.size ≤ h
  newg : w0.heap.size ≤ g
  gr : w0.grownBy w none
theorem CnOk.self {size : Int} {n : Nat} {N : List Int} (h : CnOk size n N) : CnOk size N.length N := by
  have e := h.len
  subst e
  exact h
theorem CN.old {w0 w w' : World} {g h cap : Nat} {size : Int} {n : Nat} {N : List Int} (k : CN w0 w g h cap size n N) (t : w.grownBy w' none) : CN w0 w' g h cap size n N := ⟨k.cc.old t, k.ok, k.new, k.newg, grown_then k.gr t⟩
/-- another one's row has turned -/
theorem CN.beside {w0 w w' : World} {g h cap h2 : Nat} {size : Int} {n : Nat} {N : List Int} (k : CN w0 w g h cap size n N) (t : Turn w w' (· = h2)) (hg : g ≠ h2) (hh : h ≠ h2) (h0 : w0.heap.size ≤ h2) : CN w0 w' g h cap size n N := ⟨k.cc.turn t hg hh, k.ok, k.new, k.newg, grown_put k.gr t h0⟩
theorem CnOk.at' {size : Int} {n : Nat} {N : List Int} (h : CnOk size n N) (k : Nat) : 0 ≤ N.getD k 0 ∧ N.getD k 0 < 65536 := by
  rw [List.getD_eq_getElem?_getD]
  by_cases hk : k < N.length
  · rw [List.getElem?_eq_getElem hk]; exact h.cnt _ (List.getElem_mem hk)
  · rw [List.getElem?_eq_none (by omega)]; decide
theorem CnOk.add {size : Int} {n : Nat} {N : List Int} (h : CnOk size n N) (k : Nat) : CnOk size n (addN N k) := by
  unfold addN
  by_cases e : addE N k = 0
  · rw [if_pos e]
    unfold addE at e
    by_cases h1 : ¬ (2 ≤ k ∧ k < N.length)
    · rw [if_pos h1] at e; cases e
    · rw [if_neg h1] at e
      have h2 := Classical.not_not.1 h1
      by_cases h3 : N.getD k 0 = 0
      · rw [if_pos h3] at e; cases e
      · rw [if_neg h3] at e
        by_cases h4 : N.getD k 0 = 65535
        · rw [if_pos h4] at e; cases e
        · have := h.at' k
          exact h.set k h2.1 _ (by omega)
  · rw [if_neg e]; exact h
theorem CnOk.sub {size : Int} {n : Nat} {N : List Int} (h : CnOk size n N) (k : Nat) : CnOk size n (subN N k) := by
  unfold subN
  by_cases e : subE N k = 0
  · rw [if_pos e]
    unfold subE at e
    by_cases h1 : ¬ (2 ≤ k ∧ k < N.length)
    · rw [if_pos h1] at e; cases e
    · rw [if_neg h1] at e
      have h2 := Classical.not_not.1 h1
      by_cases h3 : N.getD k 0 = 0
      · rw [if_pos h3] at e; cases e
      · have := h.at' k
        exact h.set k h2.1 _ (by omega)
  · rw [if_neg e]; exact h
/-- Take's answer, one known -/
theorem CN.took {w0 w w' : World} {g h cap : Nat} {size : Int} {n : Nat} {N H : List Int} {e : Ending} {k : Nat} (c : CN w0 w g h cap size n N) (ht : TakeR H N (some k)) (hx : TookC H N g h cap size w e w') :
    e = .returned (.tuple #[.int .u32 (k : Int), .int .i64 0]) ∧ CN w0 w' g h cap size n (N.set k 1) ∧ Turn w w' (· = h) := by
  obtain ⟨t, ⟨k', hk, he, hcc⟩ | ⟨hk, he, hcc⟩⟩ := hx
  · obtain rfl : k = k' := Option.some.inj (take_one ht hk)
    cases ht with
    | one _ hf hl => exact ⟨he, ⟨hcc, c.ok.set k hf.1 1 (by decide), c.new, c.newg, grown_put c.gr t c.new⟩, t⟩
  · cases take_one ht hk
theorem CN.full {w0 w w' : World} {g h cap : Nat} {size : Int} {n : Nat} {N H : List Int} {e : Ending} (c : CN w0 w g h cap size n N) (ht : TakeR H N none) (hx : TookC H N g h cap size w e w') :
    e = .returned (.tuple #[.int .u32 0, .int .i64 9]) ∧ CN w0 w' g h cap size n N ∧ Turn w w' (· = h) := by
  obtain ⟨t, ⟨k', hk, he, hcc⟩ | ⟨hk, he, hcc⟩⟩ := hx
  · cases take_one ht hk
  · exact ⟨he, ⟨hcc, c.ok, c.new, c.newg, grown_put c.gr t c.new⟩, t⟩
theorem CN.take {w0 w : World} {g h cap : Nat} {size : Int} {n : Nat} {N : List Int} (c : CN w0 w g h cap size n N) :
    Calls Try.prog 13 #[.pointer (some ⟨g, 0, none⟩), .pointer none] w (TookC [] N g h cap size w) := take_nil g h cap size N w c.cc c.ok.self
theorem CN.takeh {w0 w0' w : World} {g h cap g2 h2 cap2 : Nat} {size : Int} {n : Nat} {N H : List Int} (c : CN w0 w g h cap size n N) (d : CN w0' w g2 h2 cap2 size n H) :
    Calls Try.prog 13 #[.pointer (some ⟨g, 0, none⟩), .pointer (some ⟨g2, 0, none⟩)] w (TookC H N g h cap size w) := take_held g h cap size N g2 h2 cap2 H w c.cc c.ok.self d.cc d.ok.cnt (by rw [c.ok.len, d.ok.len])
theorem CN.add {w0 w : World} {g h cap : Nat} {size : Int} {n : Nat} {N : List Int} (c : CN w0 w g h cap size n N) (k : Nat) (hk : k < 4294967296) :
    Calls Try.prog 14 #[.pointer (some ⟨g, 0, none⟩), .int .u32 (k : Int)] w fun e w' => e = .returned (.int .i64 (addE N k)) ∧ CN w0 w' g h cap size n (addN N k) ∧ Turn w w' (· = h) :=
  (add_any g h cap size N k w c.cc hk c.ok.cnt).mono fun _ _ ⟨h1, h2, h3⟩ => ⟨h1, ⟨h2, c.ok.add k, c.new, c.newg, grown_put c.gr h3 c.new⟩, h3⟩
theorem CN.sub {w0 w : World} {g h cap : Nat} {size : Int} {n : Nat} {N : List Int} (c : CN w0 w g h cap size n N) (k : Nat) (hk : k < 4294967296) :
    Calls Try.prog 15 #[.pointer (some ⟨g, 0, none⟩), .int .u32 (k : Int)] w fun e w' => e = .returned (.tuple #[.int .i64 (subV N k), .int .i64 (subE N k)]) ∧ CN w0 w' g h cap size n (subN N k) ∧ Turn w w' (· = h) :=
  (sub_any g h cap size N k w c.cc hk c.ok.cnt).mono fun _ _ ⟨h1, h2, h3⟩ => ⟨h1, ⟨h2, c.ok.sub k, c.new, c.newg, grown_put c.gr h3 c.new⟩, h3⟩
theorem CN.get {w0 w : World} {g h cap : Nat} {size : Int} {n : Nat} {N : List Int} (c : CN w0 w g h cap size n N) (k : Nat) (hk : k < 4294967296) :
    Calls Try.prog 18 #[.pointer (some ⟨g, 0, none⟩), .int .u32 (k : Int)] w fun e w' => e = .returned (.int .i64 (N.getD k 0)) ∧ w = w' := get_any g h cap size N k w c.cc hk c.ok.cnt
/-- New's, where the geometry may be -/
theorem new_yes (size : Int) (n : Nat) (w0 w : World) (hg : w0.grownBy w none) (hok : GeoOk size n) :
    Calls Try.prog 10 #[.agg #[.int .i64 size, .int .i64 (n : Int)]] w fun e w' => ∃ g h cap, e = .returned (.tuple #[.pointer (some ⟨g, 0, none⟩), .int .i64 0]) ∧ CN w0 w' g h cap size n (newC n) ∧ w.grownBy w' none ∧ w.heap.size ≤ g ∧ w.heap.size ≤ h := by
  refine (new_any size n w).mono ?_
  rintro e w' ⟨g1, ⟨hno, _⟩ | ⟨m, hm, he, g, h, cap, rfl, hcc, hlg, hlh⟩⟩
  · exact absurd hok hno
  · obtain rfl : n = m := by omega
    exact ⟨g, h, cap, rfl, ⟨hcc, new_ok hm, Nat.le_trans hg.size hlh, Nat.le_trans hg.size hlg, grown_then hg g1⟩, g1, hlg, hlh⟩
theorem new_no (size blocks : Int) (w : World) (hno : ¬ GeoOk size blocks) :
    Calls Try.prog 10 #[.agg #[.int .i64 size, .int .i64 blocks]] w fun e w' => e = .returned (.tuple #[.pointer none, .int .i64 2]) ∧ w.grownBy w' none := by
  refine (new_any size blocks w).mono ?_
  rintro e w' ⟨g1, ⟨_, he⟩ | ⟨m, hm, he, _⟩⟩
  · exact ⟨he, g1⟩
  · exact absurd (he ▸ hm) hno
theorem CN.clone {w0 w : World} {g h cap : Nat} {size : Int} {n : Nat} {N : List Int} (c : CN w0 w g h cap size n N) :
    Calls Try.prog 12 #[.pointer (some ⟨g, 0, none⟩)] w fun e w' => ∃ g2 h2 cap2, e = .returned (.pointer (some ⟨g2, 0, none⟩)) ∧ CN w0 w' g2 h2 cap2 size n N ∧ w.grownBy w' none ∧ w.heap.size ≤ g2 ∧ w.heap.size ≤ h2 :=
  (clone_any g h cap size N w c.cc).mono fun _ _ ⟨hg, g2, h2, cap2, he, hcc, hl1, hl2⟩ => ⟨g2, h2, cap2, he, ⟨hcc, c.ok, Nat.le_trans c.gr.size hl2, Nat.le_trans c.gr.size hl1, grown_then c.gr hg⟩, hg, hl1, hl2⟩
theorem CN.all {w0 w : World} {g h cap : Nat} {size : Int} {n : Nat} {N : List Int} (c : CN w0 w g h cap size n N) :
    Calls Try.prog 28 #[.pointer (some ⟨g, 0, none⟩)] w fun e w' => ∃ a, e = .returned (.slice (some ⟨a, 0, none⟩) n n) ∧ JR w' a N ∧ w.heap.size ≤ a ∧ w.grownBy w' none := by
  have e := c.ok.len
  subst e
  exact (all_any g h cap size N w c.cc c.ok.cnt).mono fun _ _ ⟨h1, a, h2, h3, h4⟩ => ⟨a, h2, h3, h4, h1⟩

def LightS (size blocks : Int) : Bool := decide (size < 128 ∨ 4096 < size ∨ blocks < 8 ∨ 4096 < blocks ∨ (size ≤ 512 ∧ blocks ≤ 40))

set_option maxHeartbeats 1000000 in
theorem lightgeo_any (size blocks : Int) (w : World) :
    Calls Try.prog 20 #[.agg #[.int .i64 size, .int .i64 blocks]] w fun e w' => e = .returned (.bool (LightS size blocks)) ∧ w.grownBy w' none := by
  have HT := Lib.hid (grown_alloc w (.cells #[.int .i64 size, .int .i64 blocks] 28))
  obtain ⟨r, hr⟩ : ∃ r, r = LightS size blocks := ⟨_, rfl⟩
  have HR := Lib.hid hr
  rw [← hr]
  clear hr
  by_cases h1 : size < 128
  · have HE := Lib.hid (show r = true by rw [HR.out]; exact decide_eq_true (by omega))
    go_enter Try.func20, Try.ntmps20
    go_wp2
    go_ret
    exact ⟨ret_bool HE.out.symm, HT.out⟩
  · by_cases h2 : 4096 < size
    · have HE := Lib.hid (show r = true by rw [HR.out]; exact decide_eq_true (by omega))
      go_enter Try.func20, Try.ntmps20
      go_wp2
      go_ret
      exact ⟨ret_bool HE.out.symm, HT.out⟩
    · by_cases h3 : blocks < 8
      · have HE := Lib.hid (show r = true by rw [HR.out]; exact decide_eq_true (by omega))
        go_enter Try.func20, Try.ntmps20
        go_wp2
        go_ret
        exact ⟨ret_bool HE.out.symm, HT.out⟩
      · by_cases h4 : 4096 < blocks
        · have HE := Lib.hid (show r = true by rw [HR.out]; exact decide_eq_true (by omega))
          go_enter Try.func20, Try.ntmps20
          go_wp2
          go_ret
          exact ⟨ret_bool HE.out.symm, HT.out⟩
        · by_cases h5 : size ≤ 512
          · by_cases h6 : blocks ≤ 40
            · have HE := Lib.hid (show r = true by rw [HR.out]; exact decide_eq_true (by omega))
              go_enter Try.func20, Try.ntmps20
              go_wp2
              go_ret
              exact ⟨ret_bool HE.out.symm, HT.out⟩
            · have HE := Lib.hid (show r = false by rw [HR.out]; exact decide_eq_false (by omega))
              go_enter Try.func20, Try.ntmps20
              go_wp2
              go_ret
              exact ⟨ret_bool HE.out.symm, HT.out⟩
          · have HE := Lib.hid (show r = false by rw [HR.out]; exact decide_eq_false (by omega))
            go_enter Try.func20, Try.ntmps20
            go_wp2
            go_ret
            exact ⟨ret_bool HE.out.symm, HT.out⟩


theorem small_any (w : World) : Calls Try.prog 11 #[] w fun e w' => e = .returned (.agg #[.int .i64 128, .int .i64 8]) ∧ w.grownBy w' none := by
  have HT := Lib.hid (grown_alloc w (.cells #[.int .i64 128, .int .i64 8] 28))
  go_enter Try.func11, Try.ntmps11
  go_wp2
  refine bodyPost_ret (v := .agg #[.int .i64 128, .int .i64 8]) (by simp [results, Try.results11, go_sem]) rfl ?_
  exact ⟨rfl, HT.out⟩
theorem geo_small : GeoOk 128 8 := by unfold GeoOk; omega

/-- The chapter's example. -/
theorem lives_any (w : World) : Calls Try.prog 9 #[] w fun e w' => e = .returned (.bool true) ∧ w.grownBy w' none := by
  have HS := Lib.hid (small_any w)
  have HN := Lib.hid (fun W (k : w.grownBy W none) => new_yes 128 8 w W k geo_small)
  have HR1 : Hid (TakeR [] (newC 8) (some 2)) := Lib.hid (ones_take 8 2 (by decide) (by decide)).1
  have HR2 : Hid (TakeR [] ((newC 8).set 2 1) (some 3)) := Lib.hid (by rw [new_ones, (ones_take 8 2 (by decide) (by decide)).2]; exact (ones_take 8 3 (by decide) (by decide)).1)
  have HR3 : Hid (TakeR [] (subN (((newC 8).set 2 1).set 3 1) 2) (some 2)) := Lib.hid (.one 2 (by decide) (by decide))
  have HE : Hid (subE (((newC 8).set 2 1).set 3 1) 2 = 0 ∧ subV (((newC 8).set 2 1).set 3 1) 2 = 0) := Lib.hid (by decide)
  go_enter Try.func9, Try.ntmps9
  go_wp2_with fail
  refine HS.out.mono ?_
  rintro e w1 ⟨rfl, hg⟩
  have HN1 := Lib.hid (HN.out _ hg)
  clear hg
  dsimp only
  go_wp2_with fail
  refine HN1.out.mono ?_
  rintro e w2 ⟨g, h, cap, rfl, hc, -, -, -⟩
  have HC2 := Lib.hid hc
  clear hc HN1
  dsimp only
  go_wp2_with fail
  refine HC2.out.take.mono ?_
  intro e w3 hx
  obtain ⟨rfl, hc, -⟩ := HC2.out.took HR1.out hx
  have HC3 := Lib.hid hc
  clear hc hx HC2 HR1
  dsimp only
  go_wp2_with fail
  refine HC3.out.take.mono ?_
  intro e w4 hx
  obtain ⟨rfl, hc, -⟩ := HC3.out.took HR2.out hx
  have HC4 := Lib.hid hc
  clear hc hx HC3 HR2
  dsimp only
  go_wp2_with fail
  refine (HC4.out.sub 2 (by decide)).mono ?_
  rw [HE.out.1, HE.out.2]
  rintro e w5 ⟨rfl, hc, -⟩
  have HC5 := Lib.hid hc
  clear hc HC4
  dsimp only
  go_wp2_with fail
  refine HC5.out.take.mono ?_
  intro e w6 hx
  obtain ⟨rfl, hc, -⟩ := HC5.out.took HR3.out hx
  have HC6 := Lib.hid hc.gr
  clear hc hx HC5 HR3
  dsimp only
  go_wp2
  go_ret
  exact ⟨rfl, HC6.out⟩
end Go.Proofs.Ytkinmcnmdfpjbaa.Cn
