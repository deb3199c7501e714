/-
  Supers, plain mathematics: which may be; their bytes; what was put is got; what is got was put; which one is chosen.
-/
import Derived.Test.YtkinmcnmdfpjbaaFrNum
namespace Go.Proofs.Ytkinmcnmdfpjbaa.Su
open Go.RowKit
open Fr (Fits room putF getF kindF Fm FmOk blk)
open Oct (putB ofB)
open Dv (geoE)

/-- a super: generation, geometry, root, pages -/
structure Sup where
  gen : Int
  size : Int
  blocks : Int
  root : Int
  pages : List Int
theorem Sup.ext' {a b : Sup} (h1 : a.gen = b.gen) (h2 : a.size = b.size) (h3 : a.blocks = b.blocks) (h4 : a.root = b.root) (h5 : a.pages = b.pages) : a = b := by
  cases a; cases b; simp_all
def zeroS : Sup := ⟨0, 0, 0, 0, []⟩
/-- whose fields are what their types hold -/
structure SupOk (s : Sup) : Prop where
  gen : 0 ≤ s.gen ∧ s.gen < 18446744073709551616
  root : 0 ≤ s.root ∧ s.root < 4294967296
  pages : ∀ p ∈ s.pages, 0 ≤ p ∧ p < 4294967296
def GeoOk (size blocks : Int) : Prop := 128 ≤ size ∧ size ≤ 4096 ∧ size % 64 = 0 ∧ 8 ≤ blocks ∧ blocks ≤ 4096
instance (a b : Int) : Decidable (GeoOk a b) := by unfold GeoOk; exact inferInstance
theorem geo_iff (size blocks : Int) : geoE size blocks = 0 ↔ GeoOk size blocks := by
  by_cases h : GeoOk size blocks
  · exact ⟨fun _ => h, fun _ => Dv.geoE_yes h⟩
  · constructor
    · intro e; rw [Dv.geoE_no h] at e; cases e
    · intro e; exact absurd e h
theorem geo_fits {size blocks : Int} (h : GeoOk size blocks) : Fits size := ⟨h.1, h.2.1, h.2.2.1⟩
theorem geo_room {size blocks : Int} (h : GeoOk size blocks) : room size = size - 16 := if_pos (geo_fits h)
/-- how many pages a geometry needs -/
def pagesF (size blocks : Int) : Int := if GeoOk size blocks then (2 * blocks + room size - 1) / room size else 0
def pageP (blocks n : Int) : Prop := 2 ≤ n ∧ n < blocks
instance (a b : Int) : Decidable (pageP a b) := by unfold pageP; exact inferInstance
/-- pages from k on: each may be, is not the root, and is none of those ahead -/
def pagesOk (blocks root : Int) (l : List Int) : Prop := (∀ p ∈ l, pageP blocks p ∧ p ≠ root) ∧ l.Nodup
instance (a b : Int) (l : List Int) : Decidable (pagesOk a b l) := by unfold pagesOk; exact inferInstance
def Valid (s : Sup) : Prop := GeoOk s.size s.blocks ∧ s.gen ≠ 0 ∧ (s.root = 0 ∨ pageP s.blocks s.root) ∧ (s.pages.length : Int) = pagesF s.size s.blocks ∧ pagesOk s.blocks s.root s.pages
instance (s : Sup) : Decidable (Valid s) := by unfold Valid; exact inferInstance
def supE (s : Sup) : Int := if Valid s then (if room s.size < 14 + 4 * (s.pages.length : Int) then 3 else 0) else 2
def fours : List Int → List Int
  | [] => []
  | p :: l => putB 4 p ++ fours l
theorem fours_len : ∀ l : List Int, (fours l).length = 4 * l.length
  | [] => rfl
  | p :: l => by rw [fours, List.length_append, Oct.putB_length, fours_len l, List.length_cons]; omega
theorem fours_app : ∀ a b : List Int, fours (a ++ b) = fours a ++ fours b
  | [], _ => rfl
  | p :: a, b => by rw [List.cons_append, fours, fours, fours_app a b, List.append_assoc]
/-- the data of a super's block -/
def dataS (s : Sup) : List Int := putB 4 s.size ++ (putB 4 s.blocks ++ (putB 4 s.root ++ (putB 2 (s.pages.length : Int) ++ fours s.pages)))
theorem data_len (s : Sup) : (dataS s).length = 14 + 4 * s.pages.length := by
  unfold dataS
  rw [List.length_append, List.length_append, List.length_append, List.length_append, Oct.putB_length, Oct.putB_length, Oct.putB_length, Oct.putB_length, fours_len]
  omega
theorem fours_isB : ∀ l : List Int, Bs.IsB (fours l)
  | [], _, h => by cases h
  | p :: l, x, h => by
    rw [fours] at h
    rcases List.mem_append.1 h with h | h
    · exact Oct.putB_isB 4 p x h
    · exact fours_isB l x h
theorem data_isB (s : Sup) : Bs.IsB (dataS s) := by
  intro x hx
  unfold dataS at hx
  rcases List.mem_append.1 hx with h | hx
  · exact Oct.putB_isB 4 _ x h
  · rcases List.mem_append.1 hx with h | hx
    · exact Oct.putB_isB 4 _ x h
    · rcases List.mem_append.1 hx with h | hx
      · exact Oct.putB_isB 4 _ x h
      · rcases List.mem_append.1 hx with h | hx
        · exact Oct.putB_isB 2 _ x h
        · exact fours_isB _ x hx
/-- Put's answer: the block, the error -/
def putS (s : Sup) : List Int × Int := if supE s ≠ 0 then ([], supE s) else putF s.size (1, s.gen, dataS s)
def chunks : Nat → List Int → List Int
  | 0, _ => []
  | f + 1, l => if l.length < 4 then [] else ofB (l.take 4) :: chunks f (l.drop 4)
/-- a super as bytes tell it -/
def readS (g : Int) (d : List Int) : Sup := ⟨g, ofB (d.take 4), ofB ((d.drop 4).take 4), ofB ((d.drop 8).take 4), chunks d.length (d.drop 14)⟩
/-- Get's answer -/
def getS (b : List Int) : Sup × Int :=
  if (kindF b 1).2 ≠ 0 then (zeroS, (kindF b 1).2)
  else if (kindF b 1).1.2.2.length < 14 then (zeroS, 4)
  else if putS (readS (kindF b 1).1.2.1 (kindF b 1).1.2.2) = (b, 0) then (readS (kindF b 1).1.2.1 (kindF b 1).1.2.2, 0) else (zeroS, 4)
/-- Choose's answer -/
def chooseS (a b : List Int) : Int × Sup × Int :=
  if (getS a).2 ≠ 0 ∧ (getS b).2 ≠ 0 then (-1, zeroS, 10)
  else if (getS a).2 ≠ 0 ∨ ((getS b).2 = 0 ∧ (getS a).1.gen < (getS b).1.gen) then (1, (getS b).1, 0)
  else (0, (getS a).1, 0)

theorem room_pos {size blocks : Int} (h : GeoOk size blocks) : 112 ≤ room size := by rw [geo_room h]; have := h.1; omega
theorem sup_ok {s : Sup} (h : supE s = 0) : Valid s ∧ 14 + 4 * (s.pages.length : Int) ≤ room s.size := by
  unfold supE at h
  by_cases hv : Valid s
  · rw [if_pos hv] at h
    by_cases hr : room s.size < 14 + 4 * (s.pages.length : Int)
    · rw [if_pos hr] at h; cases h
    · exact ⟨hv, by omega⟩
  · rw [if_neg hv] at h; cases h
theorem sup_cases (s : Sup) : supE s = 0 ∨ supE s = 2 ∨ supE s = 3 := by
  unfold supE
  split
  · split
    · exact .inr (.inr rfl)
    · exact .inl rfl
  · exact .inr (.inl rfl)
theorem put_yes {s : Sup} (h : supE s = 0) : putS s = (blk s.size.toNat 1 s.gen (dataS s), 0) := by
  obtain ⟨hv, hr⟩ := sup_ok h
  have hg := geo_room hv.1
  have hl := data_len s
  unfold putS
  rw [if_neg (by simp [h])]
  unfold putF
  rw [if_neg (fun h => h (geo_fits hv.1))]
  rw [if_neg (by show ¬ s.size - 16 < ((dataS s).length : Int); omega)]
theorem put_e (s : Sup) : (putS s).2 = supE s := by
  by_cases h : supE s = 0
  · rw [put_yes h, h]
  · unfold putS; rw [if_pos h]
theorem put_no {s : Sup} (h : supE s ≠ 0) : putS s = ([], supE s) := if_pos h
theorem chunks_fours : ∀ (l : List Int) (f : Nat), (∀ p ∈ l, 0 ≤ p ∧ p < 4294967296) → 4 * l.length ≤ f → chunks f (fours l) = l
  | [], 0, _, _ => rfl
  | [], f + 1, _, _ => by rw [chunks, if_pos (by show (0 : Nat) < 4; omega)]
  | p :: l, 0, _, h => by rw [List.length_cons] at h; omega
  | p :: l, f + 1, hp, h => by
    have h4 : (putB 4 p).length = 4 := Oct.putB_length 4 p
    have hl := fours_len l
    rw [List.length_cons] at h
    rw [chunks, fours, if_neg (by rw [List.length_append]; omega), Fr.take_app _ _ 4 h4, Fr.drop_app _ _ 4 h4, chunks_fours l f (fun q hq => hp q (List.mem_cons_of_mem _ hq)) (by omega)]
    have := hp p (List.mem_cons_self ..)
    rw [Oct.ofB_putB 4 p (by omega) (by show p < 256 ^ 4; omega)]
theorem read_data {s : Sup} (h : supE s = 0) (ho : SupOk s) : readS s.gen (dataS s) = s := by
  obtain ⟨hv, hr⟩ := sup_ok h
  have g := hv.1
  unfold GeoOk at g
  have l4 : ∀ v, (putB 4 v).length = 4 := fun v => Oct.putB_length 4 v
  have hr0 := ho.root
  have hl := data_len s
  have e1 : (dataS s).take 4 = putB 4 s.size := Fr.take_app _ _ 4 (l4 _)
  have e2 : (dataS s).drop 4 = putB 4 s.blocks ++ (putB 4 s.root ++ (putB 2 (s.pages.length : Int) ++ fours s.pages)) := Fr.drop_app _ _ 4 (l4 _)
  have e3 : (dataS s).drop 8 = putB 4 s.root ++ (putB 2 (s.pages.length : Int) ++ fours s.pages) := by
    rw [show (8 : Nat) = 4 + 4 from rfl, ← List.drop_drop, e2, Fr.drop_app _ _ 4 (l4 _)]
  have e4 : (dataS s).drop 14 = fours s.pages := by
    rw [show (14 : Nat) = 8 + 4 + 2 from rfl, ← List.drop_drop, ← List.drop_drop, e3, Fr.drop_app _ _ 4 (l4 _), Fr.drop_app _ _ 2 (Oct.putB_length 2 _)]
  unfold readS
  rw [e1, e2, e3, e4, Fr.take_app _ _ 4 (l4 _), Fr.take_app _ _ 4 (l4 _), chunks_fours _ _ ho.pages (by omega)]
  rw [Oct.ofB_putB 4 _ (by omega) (by show s.size < 256 ^ 4; omega), Oct.ofB_putB 4 _ (by omega) (by show s.blocks < 256 ^ 4; omega), Oct.ofB_putB 4 _ (by omega) (by show s.root < 256 ^ 4; omega)]
/-- What was put is got. -/
theorem get_put {s : Sup} (h : supE s = 0) (ho : SupOk s) : getS (putS s).1 = (s, 0) := by
  obtain ⟨hv, hr⟩ := sup_ok h
  have hg := geo_room hv.1
  have hl := data_len s
  have hf : FmOk (1, s.gen, dataS s) := ⟨⟨(by show (0 : Int) ≤ 1; decide), (by show (1 : Int) < 256; decide)⟩, ho.gen, data_isB s⟩
  have hpf : putF s.size (1, s.gen, dataS s) = ((putS s).1, 0) := by
    have h1 : putS s = putF s.size (1, s.gen, dataS s) := if_neg (by simp [h])
    have h2 := put_yes h
    rw [← h1, h2]
  obtain ⟨k1, -⟩ := Fr.get_put s.size (1, s.gen, dataS s) hf (by rw [hpf])
  rw [hpf] at k1
  have hk : kindF (putS s).1 1 = ((1, s.gen, dataS s), 0) := by
    unfold kindF
    rw [k1]
    simp
  have h3 : putS (readS s.gen (dataS s)) = ((putS s).1, 0) := by rw [read_data h ho]; exact Prod.ext rfl ((put_e s).trans h)
  unfold getS
  rw [hk]
  rw [if_neg (by simp), if_neg (by show ¬ (dataS s).length < 14; omega), if_pos h3, read_data h ho]
/-- What is got was put. -/
theorem get_some {b : List Int} (h : (getS b).2 = 0) : putS (getS b).1 = (b, 0) := by
  unfold getS at h ⊢
  by_cases h1 : (kindF b 1).2 ≠ 0
  · rw [if_pos h1] at h; exact absurd h h1
  · rw [if_neg h1] at h ⊢
    by_cases h2 : (kindF b 1).1.2.2.length < 14
    · rw [if_pos h2] at h; cases h
    · rw [if_neg h2] at h ⊢
      by_cases h3 : putS (readS (kindF b 1).1.2.1 (kindF b 1).1.2.2) = (b, 0)
      · rw [if_pos h3]; exact h3
      · rw [if_neg h3] at h; cases h
theorem get_none {b : List Int} (h : (getS b).2 ≠ 0) : (getS b).1 = zeroS := by
  unfold getS at h ⊢
  by_cases h1 : (kindF b 1).2 ≠ 0
  · rw [if_pos h1]
  · rw [if_neg h1] at h ⊢
    by_cases h2 : (kindF b 1).1.2.2.length < 14
    · rw [if_pos h2]
    · rw [if_neg h2] at h ⊢
      by_cases h3 : putS (readS (kindF b 1).1.2.1 (kindF b 1).1.2.2) = (b, 0)
      · rw [if_pos h3] at h; exact absurd rfl h
      · rw [if_neg h3]
/-! ### which one is chosen -/
theorem choose_none {a b : List Int} (ha : (getS a).2 ≠ 0) (hb : (getS b).2 ≠ 0) : chooseS a b = (-1, zeroS, 10) := if_pos ⟨ha, hb⟩
theorem choose_second {a b : List Int} {t : Sup} (hb : getS b = (t, 0)) (h : (getS a).2 ≠ 0 ∨ (getS a).1.gen < t.gen) : chooseS a b = (1, t, 0) := by
  unfold chooseS
  rw [hb]
  rw [if_neg (by rintro ⟨_, h⟩; exact h rfl), if_pos (by rcases h with h | h; exact .inl h; exact .inr ⟨rfl, h⟩)]
theorem choose_first {a b : List Int} {s : Sup} (ha : getS a = (s, 0)) (h : (getS b).2 = 0 → ¬ s.gen < (getS b).1.gen) : chooseS a b = (0, s, 0) := by
  unfold chooseS
  rw [ha]
  rw [if_neg (by rintro ⟨h, _⟩; exact h rfl), if_neg (by rintro (h1 | ⟨h1, h2⟩); exact h1 rfl; exact h h1 h2)]
theorem choose_ok {a b : List Int} {s : Sup} (ha : getS a = (s, 0)) : (chooseS a b).2.2 = 0 := by
  unfold chooseS
  rw [ha]
  rw [if_neg (by rintro ⟨h, _⟩; exact h rfl)]
  split <;> rfl
/-! ### as many pages as a geometry needs -/
theorem pages_bounds {size blocks : Int} (h : GeoOk size blocks) : 1 ≤ pagesF size blocks ∧ pagesF size blocks ≤ 74 ∧ 2 * blocks ≤ pagesF size blocks * room size ∧ (pagesF size blocks - 1) * room size < 2 * blocks := by
  have hr := room_pos h
  have hb : 8 ≤ blocks ∧ blocks ≤ 4096 := ⟨h.2.2.2.1, h.2.2.2.2⟩
  unfold pagesF
  rw [if_pos h]
  generalize room size = r at *
  have e := Int.mul_ediv_add_emod (2 * blocks + r - 1) r
  have m0 := Int.emod_nonneg (2 * blocks + r - 1) (by omega : r ≠ 0)
  have m1 := Int.emod_lt_of_pos (2 * blocks + r - 1) (by omega : 0 < r)
  generalize (2 * blocks + r - 1) / r = q at *
  generalize (2 * blocks + r - 1) % r = m at *
  have hq : 1 ≤ q := by
    rcases Int.lt_or_le q 1 with h | h
    · have : r * q ≤ r * 0 := Int.mul_le_mul_of_nonneg_left (by omega) (by omega)
      omega
    · exact h
  have hq2 : q ≤ 74 := by
    rcases Int.lt_or_le 74 q with h | h
    · have : r * 75 ≤ r * q := Int.mul_le_mul_of_nonneg_left (by omega) (by omega)
      omega
    · exact h
  refine ⟨hq, hq2, ?_, ?_⟩
  · rw [Int.mul_comm q r]; omega
  · rw [Int.sub_mul, Int.mul_comm q r, Int.one_mul]; omega
end Go.Proofs.Ytkinmcnmdfpjbaa.Su
