/-
  Counts as plain data: their bytes, their pages; what is taken; what is loaded.
-/
import Derived.Test.YtkinmcnmdfpjbaaSuNum
namespace Go.Proofs.Ytkinmcnmdfpjbaa.Cn
open Oct (putB ofB)
open Su (GeoOk pagesF)
open Fr (room)

/-- the bytes of counts -/
def bytesC : List Int → List Int
  | [] => []
  | x :: l => putB 2 x ++ bytesC l
theorem bytes_len : ∀ l : List Int, (bytesC l).length = 2 * l.length
  | [] => rfl
  | x :: l => by rw [bytesC, List.length_append, Oct.putB_length, bytes_len l, List.length_cons]; omega
theorem bytes_app : ∀ a b : List Int, bytesC (a ++ b) = bytesC a ++ bytesC b
  | [], b => rfl
  | x :: a, b => by rw [List.cons_append, bytesC, bytesC, bytes_app a b, List.append_assoc]
/-- a count -/
def IsC (l : List Int) : Prop := ∀ x ∈ l, 0 ≤ x ∧ x < 65536
/-- counts out of bytes -/
def cntsB : Nat → List Int → List Int
  | 0, _ => []
  | f + 1, l => if l.length < 2 then [] else ofB (l.take 2) :: cntsB f (l.drop 2)
theorem cnts_bytes : ∀ (f : Nat) (l : List Int), IsC l → l.length ≤ f → cntsB f (bytesC l) = l
  | 0, l, _, h => by
    obtain rfl : l = [] := List.length_eq_zero_iff.1 (by omega)
    rfl
  | f + 1, [], _, _ => rfl
  | f + 1, x :: l, hc, h => by
    have h2 : (putB 2 x).length = 2 := Oct.putB_length 2 x
    have hx := hc x (List.mem_cons_self ..)
    rw [bytesC, cntsB, if_neg (by rw [List.length_append, h2]; omega), Fr.take_app _ _ 2 h2, Fr.drop_app _ _ 2 h2, Oct.ofB_putB 2 x hx.1 (by show x < 256 ^ 2; rw [show (256 : Int) ^ 2 = 65536 from by decide]; exact hx.2), cnts_bytes f l (fun y hy => hc y (List.mem_cons_of_mem _ hy)) (by rw [List.length_cons] at h; omega)]
theorem cnts_len : ∀ (f : Nat) (b : List Int), b.length ≤ 2 * f + 1 → (cntsB f b).length = b.length / 2
  | 0, b, h => by rw [cntsB, List.length_nil]; omega
  | f + 1, b, h => by
    rw [cntsB]
    by_cases h2 : b.length < 2
    · rw [if_pos h2, List.length_nil]; omega
    · rw [if_neg h2, List.length_cons, cnts_len f (b.drop 2) (by rw [List.length_drop]; omega), List.length_drop]; omega
theorem cnts_isC : ∀ (f : Nat) (b : List Int), Bs.IsB b → IsC (cntsB f b)
  | 0, b, _ => fun x hx => by cases hx
  | f + 1, b, hb => fun x hx => by
    rw [cntsB] at hx
    by_cases h2 : b.length < 2
    · rw [if_pos h2] at hx; cases hx
    · rw [if_neg h2] at hx
      rcases List.mem_cons.1 hx with rfl | hx
      · have h1 := Oct.ofB_bound (b.take 2) (fun x hx => hb x (List.mem_of_mem_take hx))
        have h3 : (b.take 2).length = 2 := by rw [List.length_take]; omega
        rw [h3, show (256 : Int) ^ 2 = 65536 from by decide] at h1
        exact h1
      · exact cnts_isC f _ (fun x hx => hb x (List.mem_of_mem_drop hx)) x hx
theorem bytes_cnts : ∀ (f : Nat) (b : List Int), Bs.IsB b → b.length % 2 = 0 → b.length ≤ 2 * f → bytesC (cntsB f b) = b
  | 0, b, _, _, h => by
    obtain rfl : b = [] := List.length_eq_zero_iff.1 (by omega)
    rfl
  | f + 1, b, hb, h2, h => by
    rw [cntsB]
    by_cases hl : b.length < 2
    · rw [if_pos hl]
      obtain rfl : b = [] := List.length_eq_zero_iff.1 (by omega)
      rfl
    · have h3 : (b.take 2).length = 2 := by rw [List.length_take]; omega
      have h4 := Fr.putB_ofB (b.take 2) (fun x hx => hb x (List.mem_of_mem_take hx))
      rw [h3] at h4
      rw [if_neg hl, bytesC, h4, bytes_cnts f (b.drop 2) (fun x hx => hb x (List.mem_of_mem_drop hx)) (by rw [List.length_drop]; omega) (by rw [List.length_drop]; omega), List.take_append_drop]

/-- their pages, of so many counts each -/
def pagesL (each : Nat) : Nat → List Int → List (List Int)
  | 0, _ => []
  | f + 1, l => if l.length = 0 then [] else bytesC (l.take each) :: pagesL each f (l.drop each)
theorem pages_flat (each : Nat) (he : 0 < each) : ∀ (f : Nat) (l : List Int), l.length ≤ f → (pagesL each f l).flatten = bytesC l
  | 0, l, h => by
    obtain rfl : l = [] := List.length_eq_zero_iff.1 (by omega)
    rfl
  | f + 1, l, h => by
    rw [pagesL]
    by_cases h0 : l.length = 0
    · rw [if_pos h0]
      obtain rfl : l = [] := List.length_eq_zero_iff.1 h0
      rfl
    · rw [if_neg h0, List.flatten_cons, pages_flat each he f (l.drop each) (by rw [List.length_drop]; omega), ← bytes_app, List.take_append_drop]
theorem pages_count (each : Nat) (he : 0 < each) : ∀ (f : Nat) (l : List Int), l.length ≤ f → (pagesL each f l).length = (l.length + each - 1) / each
  | 0, l, h => by
    rw [pagesL, List.length_nil, show l.length = 0 by omega, Nat.zero_add, Nat.div_eq_of_lt (by omega)]
  | f + 1, l, h => by
    rw [pagesL]
    by_cases h0 : l.length = 0
    · rw [if_pos h0, List.length_nil, h0, Nat.zero_add, Nat.div_eq_of_lt (by omega)]
    · rw [if_neg h0, List.length_cons, pages_count each he f (l.drop each) (by rw [List.length_drop]; omega), List.length_drop]
      by_cases h1 : l.length ≤ each
      · rw [show l.length - each + each - 1 = each - 1 by omega, Nat.div_eq_of_lt (by omega), show l.length + each - 1 = (l.length - 1) + each by omega, Nat.add_div_right _ he, Nat.div_eq_of_lt (by omega)]
      · rw [show l.length + each - 1 = (l.length - each + each - 1) + each by omega, Nat.add_div_right _ he]
theorem pages_get (each : Nat) (he : 0 < each) : ∀ (f k : Nat) (l : List Int), l.length ≤ f → k * each < l.length → (pagesL each f l)[k]? = some (bytesC ((l.drop (k * each)).take each))
  | 0, k, l, h, hk => by omega
  | f + 1, k, l, h, hk => by
    rw [pagesL, if_neg (by omega)]
    cases k with
    | zero => rw [Nat.zero_mul, List.drop_zero]; rfl
    | succ k =>
      have e : (k + 1) * each = each + k * each := by rw [Nat.add_mul]; omega
      rw [List.getElem?_cons_succ, pages_get each he f k (l.drop each) (by rw [List.length_drop]; omega) (by rw [List.length_drop]; omega), List.drop_drop, e]
/-- pages of the right lengths are those of the counts in them -/
theorem pages_of (each : Nat) (he : 0 < each) : ∀ (f : Nat) (l : List Int) (ps : List (List Int)), l.length ≤ f → (∀ p ∈ ps, Bs.IsB p) → ps.map List.length = (pagesL each f l).map List.length → ∀ m : List Int, m.length = l.length → bytesC m = ps.flatten → pagesL each f m = ps
  | 0, l, ps, h, _, hp, m, hm, _ => by
    rw [pagesL, List.map_nil, List.map_eq_nil_iff] at hp
    rw [hp]; rfl
  | f + 1, l, ps, h, hb, hp, m, hm, hf => by
    rw [pagesL] at hp ⊢
    by_cases h0 : l.length = 0
    · rw [if_pos h0, List.map_nil, List.map_eq_nil_iff] at hp
      rw [if_pos (by omega), hp]
    · rw [if_neg h0, List.map_cons] at hp
      cases ps with
      | nil => cases hp
      | cons p ps =>
        rw [List.map_cons] at hp
        have hp1 := (List.cons.inj hp).1
        have hp2 := (List.cons.inj hp).2
        rw [bytes_len, List.length_take] at hp1
        rw [List.flatten_cons] at hf
        have hs : bytesC (m.take each) ++ bytesC (m.drop each) = p ++ ps.flatten := by rw [← bytes_app, List.take_append_drop, hf]
        have hl : (bytesC (m.take each)).length = p.length := by rw [bytes_len, List.length_take, hp1, hm]
        obtain ⟨e1, e2⟩ := List.append_inj hs hl
        rw [if_neg (by omega), e1, pages_of each he f (l.drop each) ps (by rw [List.length_drop]; omega) (fun q hq => hb q (List.mem_cons_of_mem _ hq)) hp2 (m.drop each) (by rw [List.length_drop, List.length_drop, hm]) e2]

/-- counts in a page -/
def eachC (size : Int) : Nat := (room size / 2).toNat
theorem each_pos {size blocks : Int} (h : GeoOk size blocks) : 56 ≤ eachC size ∧ (2 * (eachC size : Int)) = room size := by
  have hr := Su.geo_room h
  unfold GeoOk at h
  unfold eachC
  rw [hr]
  omega
/-- as many pages as the geometry needs -/
theorem pages_geo {size : Int} {n : Nat} (h : GeoOk size n) (l : List Int) (hl : l.length = n) : ((pagesL (eachC size) n l).length : Int) = pagesF size n := by
  obtain ⟨h1, h2⟩ := each_pos h
  rw [pages_count _ (by omega) _ _ (by omega), hl]
  unfold pagesF
  rw [if_pos h, ← h2]
  obtain ⟨e, he⟩ : ∃ e, eachC size = e := ⟨_, rfl⟩
  rw [he] at h1 h2 ⊢
  have h3 : (2 * n + 2 * e - 1) / (2 * e) = (n + e - 1) / e := by
    obtain ⟨q, hq⟩ : ∃ q, (n + e - 1) / e = q := ⟨_, rfl⟩
    have q1 : q * e ≤ n + e - 1 := by rw [← hq]; exact Nat.div_mul_le_self _ _
    have q2 : n + e - 1 < (q + 1) * e := by rw [← hq]; exact Nat.lt_mul_of_div_lt (Nat.lt_succ_self _) (by omega)
    rw [hq]
    have q3 : q * (2 * e) = 2 * (q * e) := by rw [← Nat.mul_assoc, Nat.mul_comm q 2, Nat.mul_assoc]
    have q4 : (q + 1) * (2 * e) = 2 * ((q + 1) * e) := by rw [← Nat.mul_assoc, Nat.mul_comm (q + 1) 2, Nat.mul_assoc]
    exact Nat.div_eq_of_lt_le (by rw [q3]; omega) (by rw [q4]; omega)
  have h4 : (2 * (n : Int) + 2 * (e : Int) - 1) = ((2 * n + 2 * e - 1 : Nat) : Int) := by omega
  have h5 : 2 * (e : Int) = ((2 * e : Nat) : Int) := by omega
  rw [h4, h5, ← h3]
  norm_cast
theorem pages_lens (each : Nat) : ∀ (f : Nat) (l m : List Int), l.length = m.length → (pagesL each f l).map List.length = (pagesL each f m).map List.length
  | 0, _, _, _ => rfl
  | f + 1, l, m, h => by
    rw [pagesL, pagesL]
    by_cases h0 : l.length = 0
    · rw [if_pos h0, if_pos (by omega)]
    · rw [if_neg h0, if_neg (by omega), List.map_cons, List.map_cons, bytes_len, bytes_len, List.length_take, List.length_take, h, pages_lens each f (l.drop each) (m.drop each) (by rw [List.length_drop, List.length_drop, h])]

/-- Load's answer -/
def loadC (size : Int) (n : Nat) (ps : List (List Int)) : List Int × Int :=
  if ¬ GeoOk size n then ([], 2)
  else if (ps.length : Int) ≠ pagesF size n then ([], 4)
  else if ps.map List.length ≠ (pagesL (eachC size) n (List.replicate n 0)).map List.length then ([], 4)
  else if (cntsB n ps.flatten).getD 0 0 ≠ 1 ∨ (cntsB n ps.flatten).getD 1 0 ≠ 1 then ([], 4)
  else (cntsB n ps.flatten, 0)
/-- The stage's theorem: what is loaded of the pages are the counts. -/
theorem load_pages {size : Int} {n : Nat} (h : GeoOk size n) (N : List Int) (hN : N.length = n) (hc : IsC N) (h0 : N.getD 0 0 = 1) (h1 : N.getD 1 0 = 1) : loadC size n (pagesL (eachC size) n N) = (N, 0) := by
  have he := (each_pos h).1
  have e : cntsB n (pagesL (eachC size) n N).flatten = N := by rw [pages_flat _ (by omega) _ _ (by omega), cnts_bytes n N hc (by omega)]
  unfold loadC
  rw [if_neg (fun k => k h), if_neg (fun k => k (pages_geo h N hN)), if_neg (fun k => k (pages_lens _ _ _ _ (by rw [List.length_replicate, hN]))), e, if_neg (by rw [h0, h1]; rintro (k | k) <;> exact k rfl)]
theorem flat_isB {ps : List (List Int)} (hb : ∀ p ∈ ps, Bs.IsB p) : Bs.IsB ps.flatten := fun x hx => by
  obtain ⟨p, hp, hxp⟩ := List.mem_flatten.1 hx
  exact hb p hp x hxp
theorem flat_len : ∀ ps : List (List Int), ps.flatten.length = (ps.map List.length).sum
  | [] => rfl
  | p :: ps => by rw [List.flatten_cons, List.length_append, flat_len ps, List.map_cons, List.sum_cons]
/-- What is loaded has these pages. -/
theorem load_ok {size : Int} {n : Nat} {ps : List (List Int)} (hb : ∀ p ∈ ps, Bs.IsB p) (h : (loadC size n ps).2 = 0) :
    GeoOk size n ∧ (ps.length : Int) = pagesF size n ∧ loadC size n ps = (cntsB n ps.flatten, 0) ∧ (cntsB n ps.flatten).length = n ∧ IsC (cntsB n ps.flatten) ∧ pagesL (eachC size) n (cntsB n ps.flatten) = ps ∧ (cntsB n ps.flatten).getD 0 0 = 1 ∧ (cntsB n ps.flatten).getD 1 0 = 1 := by
  unfold loadC at h ⊢
  by_cases h1 : GeoOk size n
  · rw [if_neg (fun k => k h1)] at h ⊢
    by_cases h2 : (ps.length : Int) = pagesF size n
    · rw [if_neg (fun k => k h2)] at h ⊢
      by_cases h3 : ps.map List.length = (pagesL (eachC size) n (List.replicate n 0)).map List.length
      · rw [if_neg (fun k => k h3)] at h ⊢
        by_cases h4 : (cntsB n ps.flatten).getD 0 0 ≠ 1 ∨ (cntsB n ps.flatten).getD 1 0 ≠ 1
        · rw [if_pos h4] at h; cases h
        · rw [if_neg h4]
          have he := (each_pos h1).1
          have hl : ps.flatten.length = 2 * n := by
            rw [flat_len, h3, ← flat_len, pages_flat _ (by omega) _ _ (by rw [List.length_replicate]; exact Nat.le_refl _), bytes_len, List.length_replicate]
          have hn : (cntsB n ps.flatten).length = n := by rw [cnts_len n _ (by omega), hl]; omega
          refine ⟨h1, h2, rfl, hn, cnts_isC _ _ (flat_isB hb), ?_, ?_, ?_⟩
          · exact pages_of (eachC size) (by omega) n (List.replicate n 0) ps (by rw [List.length_replicate]; exact Nat.le_refl _) hb h3 _ (by rw [hn, List.length_replicate]) (bytes_cnts n _ (flat_isB hb) (by rw [hl]; omega) (by omega))
          · exact Classical.byContradiction fun k => h4 (.inl k)
          · exact Classical.byContradiction fun k => h4 (.inr k)
      · rw [if_pos h3] at h; cases h
    · rw [if_pos h2] at h; cases h
  · rw [if_pos h1] at h; cases h

/-- counts as they are: one for each block, blocks 0 and 1 in use -/
structure CnOk (size : Int) (n : Nat) (N : List Int) : Prop where
  geo : GeoOk size n
  len : N.length = n
  cnt : IsC N
  at0 : N.getD 0 0 = 1
  at1 : N.getD 1 0 = 1
/-- New's -/
def newC (n : Nat) : List Int := 1 :: 1 :: List.replicate (n - 2) 0
theorem new_ok {size : Int} {n : Nat} (h : GeoOk size n) : CnOk size n (newC n) := by
  refine ⟨h, ?_, fun x hx => ?_, rfl, rfl⟩
  · unfold newC GeoOk at *
    simp only [List.length_cons, List.length_replicate]
    omega
  · unfold newC at hx
    rcases List.mem_cons.1 hx with rfl | hx
    · omega
    · rcases List.mem_cons.1 hx with rfl | hx
      · omega
      · rw [(List.mem_replicate.1 hx).2]; omega
/-- one count is set -/
theorem CnOk.set {size : Int} {n : Nat} {N : List Int} (h : CnOk size n N) (k : Nat) (hk : 2 ≤ k) (x : Int) (hx : 0 ≤ x ∧ x < 65536) : CnOk size n (N.set k x) := by
  refine ⟨h.geo, by rw [List.length_set]; exact h.len, fun y hy => ?_, ?_, ?_⟩
  · rcases List.mem_or_eq_of_mem_set hy with hy | rfl
    · exact h.cnt y hy
    · exact hx
  · rw [List.getD_eq_getElem?_getD, List.getElem?_set_ne (by omega), ← List.getD_eq_getElem?_getD]; exact h.at0
  · rw [List.getD_eq_getElem?_getD, List.getElem?_set_ne (by omega), ← List.getD_eq_getElem?_getD]; exact h.at1
theorem CnOk.load {size : Int} {n : Nat} {N : List Int} (h : CnOk size n N) : loadC size n (pagesL (eachC size) n N) = (N, 0) := load_pages h.geo N h.len h.cnt h.at0 h.at1

/-- may block i be taken? -/
def freeC (held N : List Int) (i : Nat) : Prop := 2 ≤ i ∧ i < N.length ∧ N.getD i 0 = 0 ∧ held.getD i 0 = 0
/-- what Take hands back: the least block that may be taken, if there is one (held: [] holds nothing) -/
inductive TakeR (held N : List Int) : Option Nat → Prop
  | one (k : Nat) (h : freeC held N k) (hl : ∀ j, j < k → ¬ freeC held N j) : TakeR held N (some k)
  | full (h : ∀ j, ¬ freeC held N j) : TakeR held N none
theorem take_one {held N : List Int} {r s : Option Nat} (h : TakeR held N r) (k : TakeR held N s) : r = s := by
  cases h with
  | one a ha hla =>
    cases k with
    | one b hb hlb =>
      have h1 : ¬ a < b := fun q => hlb a q ha
      have h2 : ¬ b < a := fun q => hla b q hb
      rw [show a = b by omega]
    | full hb => exact absurd ha (hb a)
  | full ha =>
    cases k with
    | one b hb _ => exact absurd hb (ha b)
    | full _ => rfl
/-- how many are used -/
def usedC (N : List Int) : Nat := N.countP fun x => decide (0 < x)
theorem used_take (N : List Int) (i : Nat) (hi : i < N.length) : usedC (N.take (i + 1)) = usedC (N.take i) + if 0 < N.getD i 0 then 1 else 0 := by
  unfold usedC
  rw [List.take_succ_eq_append_getElem hi, List.countP_append, List.getD_eq_getElem?_getD, List.getElem?_eq_getElem hi]
  simp [List.countP_cons]
theorem used_set (N : List Int) (k : Nat) (hk : k < N.length) (x y : Int) (hy : N.getD k 0 = y) : usedC (N.set k x) + (if 0 < y then 1 else 0) = usedC N + if 0 < x then 1 else 0 := by
  have hs : N.set k x = N.take k ++ x :: N.drop (k + 1) := by rw [List.set_eq_take_append_cons_drop, if_pos hk]
  have hn : N = N.take k ++ N.getD k 0 :: N.drop (k + 1) := by
    rw [List.getD_eq_getElem?_getD, List.getElem?_eq_getElem hk]
    show N = N.take k ++ N[k] :: N.drop (k + 1)
    rw [← List.drop_eq_getElem_cons hk, List.take_append_drop]
  unfold usedC
  rw [hs]
  conv => rhs; rw [hn]
  rw [List.countP_append, List.countP_append, List.countP_cons, List.countP_cons, hy]
  simp only [decide_eq_true_eq]
  omega
end Go.Proofs.Ytkinmcnmdfpjbaa.Cn
