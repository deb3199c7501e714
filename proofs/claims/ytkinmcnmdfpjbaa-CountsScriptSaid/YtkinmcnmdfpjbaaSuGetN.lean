/-
  The program's Get and Choose as plain data: what it looks at is what the document asks.
-/
import Derived.Test.YtkinmcnmdfpjbaaSuNum
namespace Go.Proofs.Ytkinmcnmdfpjbaa.Su
open Go.RowKit
open Fr (Fits room putF getF kindF Fm FmOk blk)
open Oct (putB ofB)

/-- data that read puts -/
def OkD (g : Int) (d : List Int) : Prop := 14 ≤ d.length ∧ (d.length - 14) % 4 = 0 ∧ ((readS g d).pages.length : Int) = ofB ((d.drop 12).take 2)
instance (g : Int) (d : List Int) : Decidable (OkD g d) := by unfold OkD; exact inferInstance
/-- the program's answer -/
def getP (b : List Int) : Sup × Int :=
  if (kindF b 1).2 ≠ 0 then (zeroS, (kindF b 1).2)
  else if ¬ OkD (kindF b 1).1.2.1 (kindF b 1).1.2.2 then (zeroS, 4)
  else if (readS (kindF b 1).1.2.1 (kindF b 1).1.2.2).size ≠ (b.length : Int) then (zeroS, 4)
  else if supE (readS (kindF b 1).1.2.1 (kindF b 1).1.2.2) ≠ 0 then (zeroS, 4)
  else (readS (kindF b 1).1.2.1 (kindF b 1).1.2.2, 0)

theorem chunks_len : ∀ (f : Nat) (l : List Int), l.length ≤ 4 * f → (chunks f l).length = l.length / 4
  | 0, l, h => by have : l.length = 0 := by omega
                  rw [chunks, this]; rfl
  | f + 1, l, h => by
    rw [chunks]
    by_cases h4 : l.length < 4
    · rw [if_pos h4, List.length_nil]; omega
    · rw [if_neg h4, List.length_cons, chunks_len f (l.drop 4) (by rw [List.length_drop]; omega), List.length_drop]; omega
theorem chunks_back : ∀ (f : Nat) (l : List Int), Bs.IsB l → l.length % 4 = 0 → l.length ≤ 4 * f → fours (chunks f l) = l
  | 0, l, _, _, h => by
    have : l = [] := List.length_eq_zero_iff.1 (by omega)
    rw [this]; rfl
  | f + 1, l, hb, h4, h => by
    rw [chunks]
    by_cases hl : l.length < 4
    · rw [if_pos hl]
      have : l = [] := List.length_eq_zero_iff.1 (by omega)
      rw [this]; rfl
    · rw [if_neg hl, fours, chunks_back f (l.drop 4) (fun x hx => hb x (List.mem_of_mem_drop hx)) (by rw [List.length_drop]; omega) (by rw [List.length_drop]; omega)]
      have h1 : (l.take 4).length = 4 := by rw [List.length_take]; omega
      have h2 := Fr.putB_ofB (l.take 4) (fun x hx => hb x (List.mem_of_mem_take hx))
      rw [h1] at h2
      rw [h2, List.take_append_drop]
theorem chunks_isW : ∀ (f : Nat) (l : List Int), Bs.IsB l → ∀ p ∈ chunks f l, 0 ≤ p ∧ p < 4294967296
  | 0, l, _, p, hp => by cases hp
  | f + 1, l, hb, p, hp => by
    rw [chunks] at hp
    by_cases hl : l.length < 4
    · rw [if_pos hl] at hp; cases hp
    · rw [if_neg hl] at hp
      rcases List.mem_cons.1 hp with rfl | hp
      · have h1 := Oct.ofB_bound (l.take 4) (fun x hx => hb x (List.mem_of_mem_take hx))
        have h2 : (l.take 4).length = 4 := by rw [List.length_take]; omega
        rw [h2] at h1
        exact ⟨h1.1, by have := h1.2; rwa [show (256 : Int) ^ 4 = 4294967296 from by decide] at this⟩
      · exact chunks_isW f _ (fun x hx => hb x (List.mem_of_mem_drop hx)) p hp
theorem putB_chunk (d : List Int) (hb : Bs.IsB d) (o k : Nat) (h : o + k ≤ d.length) : putB k (ofB ((d.drop o).take k)) = (d.drop o).take k := by
  have h1 : ((d.drop o).take k).length = k := by rw [List.length_take, List.length_drop]; omega
  have h2 := Fr.putB_ofB ((d.drop o).take k) (fun x hx => hb x (List.mem_of_mem_drop (List.mem_of_mem_take hx)))
  rwa [h1] at h2
theorem cut_next (d : List Int) (o k : Nat) : (d.drop o).take k ++ d.drop (o + k) = d.drop o := by
  rw [← List.drop_drop, List.take_append_drop]
/-- Data that read puts are the bytes of what is read. -/
theorem ok_data {g : Int} {d : List Int} (hb : Bs.IsB d) (h : OkD g d) : dataS (readS g d) = d := by
  obtain ⟨h1, h2, h3⟩ := h
  unfold dataS
  rw [h3]
  have q1 := putB_chunk d hb 0 4 (by omega)
  have q2 := putB_chunk d hb 4 4 (by omega)
  have q3 := putB_chunk d hb 8 4 (by omega)
  have q4 := putB_chunk d hb 12 2 (by omega)
  have q5 := chunks_back d.length (d.drop 14) (fun x hx => hb x (List.mem_of_mem_drop hx)) (by rw [List.length_drop]; exact h2) (by rw [List.length_drop]; omega)
  show putB 4 (ofB (d.take 4)) ++ (putB 4 (ofB ((d.drop 4).take 4)) ++ (putB 4 (ofB ((d.drop 8).take 4)) ++ (putB 2 (ofB ((d.drop 12).take 2)) ++ fours (chunks d.length (d.drop 14))))) = d
  rw [List.drop_zero] at q1
  rw [q1, q2, q3, q4, q5, cut_next d 12 2, cut_next d 8 4, cut_next d 4 4, List.take_append_drop]
theorem data_ok {g : Int} {d : List Int} (h : dataS (readS g d) = d) (hl : d.length < 65536) : OkD g d := by
  have hlen := data_len (readS g d)
  rw [h] at hlen
  refine ⟨by omega, by omega, ?_⟩
  have e : d.drop 12 = putB 2 ((readS g d).pages.length : Int) ++ fours (readS g d).pages := by
    have l4 : ∀ v, (putB 4 v).length = 4 := fun v => Oct.putB_length 4 v
    have e0 := congrArg (List.drop 12) h
    rw [← e0]
    unfold dataS
    rw [show (12 : Nat) = 4 + 4 + 4 from rfl, ← List.drop_drop, ← List.drop_drop, Fr.drop_app _ _ 4 (l4 _), Fr.drop_app _ _ 4 (l4 _), Fr.drop_app _ _ 4 (l4 _)]
  rw [e, Fr.take_app _ _ 2 (Oct.putB_length 2 _), Oct.ofB_putB 2 _ (by omega) (by show ((readS g d).pages.length : Int) < 256 ^ 2; rw [show (256 : Int) ^ 2 = 65536 from by decide]; omega)]

theorem kind_some {b : List Int} (h : (kindF b 1).2 = 0) : getF b = ((1, (kindF b 1).1.2.1, (kindF b 1).1.2.2), 0) := by
  unfold kindF at h ⊢
  by_cases h1 : (getF b).2 ≠ 0
  · rw [if_pos h1] at h; exact absurd h h1
  · rw [if_neg h1] at h ⊢
    by_cases h2 : (getF b).1.1 ≠ 1
    · rw [if_pos h2] at h; cases h
    · rw [if_neg h2]
      have h3 : (getF b).1.1 = 1 := by omega
      have h4 : (getF b).2 = 0 := by omega
      refine Prod.ext ?_ h4
      exact Prod.ext h3 rfl
theorem kind_ok {b : List Int} (hb : Bs.IsB b) (h : (kindF b 1).2 = 0) : FmOk (1, (kindF b 1).1.2.1, (kindF b 1).1.2.2) := by
  have := Fr.get_ok b hb
  rwa [kind_some h] at this
theorem kind_fits {b : List Int} (h : (kindF b 1).2 = 0) : Fits b.length := by
  have h1 := kind_some h
  unfold getF at h1
  by_cases hf : Fits (b.length : Int)
  · exact hf
  · rw [if_pos hf] at h1
    cases h1
theorem kind_blk {b : List Int} (hb : Bs.IsB b) (h : (kindF b 1).2 = 0) : putF b.length (1, (kindF b 1).1.2.1, (kindF b 1).1.2.2) = (b, 0) := by
  have h1 := kind_some h
  have h2 := Fr.put_get b hb (by rw [h1])
  rwa [h1] at h2
theorem kind_len {b : List Int} (hb : Bs.IsB b) (h : (kindF b 1).2 = 0) : (kindF b 1).1.2.2.length + 16 ≤ b.length := by
  have h1 := kind_blk hb h
  have h2 := kind_fits h
  unfold putF at h1
  rw [if_neg (fun h => h h2)] at h1
  by_cases h3 : (b.length : Int) - 16 < ((kindF b 1).1.2.2.length : Int)
  · rw [if_pos h3] at h1; exact absurd (congrArg Prod.snd h1) (show ¬ (3 : Int) = 0 by decide)
  · omega
/-- The program's Get is the document's. -/
theorem get_is {b : List Int} (hb : Bs.IsB b) : getS b = getP b := by
  unfold getS getP
  by_cases h1 : (kindF b 1).2 = 0
  · have h1' : ¬ (kindF b 1).2 ≠ 0 := fun h => h h1
    rw [if_neg h1', if_neg h1']
    have hf := kind_fits h1
    have hok := kind_ok hb h1
    have hbl := kind_blk hb h1
    have hkl := kind_len hb h1
    obtain ⟨g, hg⟩ : ∃ g, g = (kindF b 1).1.2.1 := ⟨_, rfl⟩
    obtain ⟨d, hd⟩ : ∃ d, d = (kindF b 1).1.2.2 := ⟨_, rfl⟩
    rw [← hg, ← hd] at hok hbl ⊢
    rw [← hd] at hkl
    have hfl : b.length ≤ 4096 := by have := hf.2.1; omega
    have hdb : Bs.IsB d := hok.2.2
    by_cases h2 : d.length < 14
    · rw [if_pos h2, if_pos (by rintro ⟨h, _⟩; omega)]
    · rw [if_neg h2]
      by_cases h3 : putS (readS g d) = (b, 0)
      · rw [if_pos h3]
        have he : supE (readS g d) = 0 := by rw [← put_e, h3]
        have hp := put_yes he
        obtain ⟨hv, hr⟩ := sup_ok he
        have hgr := geo_room hv.1
        have hdl := data_len (readS g d)
        have hff := geo_fits hv.1
        have hlen : (b.length : Int) = (readS g d).size := by
          rw [h3] at hp
          have e := congrArg (fun p => (p.1.length : Nat)) hp
          simp only at e
          rw [Fr.blk_length _ _ _ _ (by unfold Fits at hff; omega)] at e
          unfold Fits at hff
          omega
        have hdata : dataS (readS g d) = d := by
          have e1 : putF b.length (1, g, d) = (blk b.length 1 g d, 0) := by
            unfold putF
            rw [if_neg (fun h => h hf), if_neg (by show ¬ (b.length : Int) - 16 < (d.length : Int); omega)]
            simp
          rw [e1] at hbl
          rw [h3, ← hlen, Int.toNat_natCast] at hp
          have e2 : blk b.length 1 g d = blk b.length 1 g (dataS (readS g d)) := by
            have a1 := congrArg Prod.fst hbl
            have a2 := congrArg Prod.fst hp
            exact a1.trans a2
          have := (Fr.blk_inj b.length (1, g, d) (1, g, dataS (readS g d)) hf hok ⟨hok.1, hok.2.1, data_isB _⟩ hkl (by unfold Fits at hff; show (dataS (readS g d)).length + 16 ≤ b.length; omega)).1 e2
          exact (congrArg (fun p => p.2.2) this).symm
        rw [if_neg (fun h => h (data_ok hdata (by omega))), if_neg (fun h => h hlen.symm), if_neg (fun h => h he)]
      · rw [if_neg h3]
        by_cases h4 : OkD g d
        · rw [if_neg (fun h => h h4)]
          by_cases h5 : (readS g d).size = (b.length : Int)
          · rw [if_neg (fun h => h h5)]
            by_cases h6 : supE (readS g d) = 0
            · exfalso
              apply h3
              have : putS (readS g d) = putF (readS g d).size (1, g, dataS (readS g d)) := if_neg (fun h => h h6)
              rw [this, ok_data hdb h4, h5, hbl]
            · rw [if_pos h6]
          · rw [if_pos h5]
        · rw [if_pos h4]
  · rw [if_pos h1, if_pos h1]
theorem zero_ok : SupOk zeroS := ⟨by decide, by decide, fun p hp => by cases hp⟩
theorem read_ok {g : Int} {d : List Int} (hok : FmOk (1, g, d)) : SupOk (readS g d) := by
  refine ⟨hok.2.1, ?_, chunks_isW _ _ (fun x hx => hok.2.2 x (List.mem_of_mem_drop hx))⟩
  have h1 := Oct.ofB_bound ((d.drop 8).take 4) (fun x hx => hok.2.2 x (List.mem_of_mem_drop (List.mem_of_mem_take hx)))
  have h2 : ((d.drop 8).take 4).length ≤ 4 := by rw [List.length_take]; omega
  refine ⟨h1.1, Int.lt_of_lt_of_le h1.2 ?_⟩
  generalize ((d.drop 8).take 4).length = k at h2
  have : k = 0 ∨ k = 1 ∨ k = 2 ∨ k = 3 ∨ k = 4 := by omega
  rcases this with rfl | rfl | rfl | rfl | rfl <;> (show _ ≤ (4294967296 : Int); decide)
/-- What is got is one that may be. -/
theorem get_sup {b : List Int} (hb : Bs.IsB b) : SupOk (getS b).1 := by
  by_cases h : (getS b).2 = 0
  · rw [get_is hb]
    unfold getP
    by_cases h1 : (kindF b 1).2 = 0
    · have hok := kind_ok hb h1
      rw [if_neg (show ¬ (kindF b 1).2 ≠ 0 from fun h => h h1)]
      have hro := read_ok hok
      split
      · exact zero_ok
      · split
        · exact zero_ok
        · split
          · exact zero_ok
          · exact hro
    · rw [if_pos h1]
      exact zero_ok
  · rw [get_none h]
    exact zero_ok
theorem get_pos {b : List Int} (hb : Bs.IsB b) (h : (getS b).2 = 0) : 0 < (getS b).1.gen := by
  have h1 := get_some h
  have h2 : supE (getS b).1 = 0 := by rw [← put_e, h1]
  have h3 := (sup_ok h2).1.2.1
  have h4 := (get_sup hb).gen
  omega
/-- The loop over the two: behind the first, behind both. -/
def pickS (i : Int) (b : List Int) (z : Int × Sup × Int) : Int × Sup × Int := if (getS b).2 = 0 ∧ z.2.1.gen < (getS b).1.gen then (i, (getS b).1, 0) else z
theorem choose_is {a b : List Int} (ha : Bs.IsB a) (hb : Bs.IsB b) : pickS 1 b (pickS 0 a (-1, zeroS, 10)) = chooseS a b := by
  unfold pickS chooseS
  by_cases h1 : (getS a).2 = 0
  · have p1 := get_pos ha h1
    rw [if_pos (show (getS a).2 = 0 ∧ (-1, zeroS, (10 : Int)).2.1.gen < (getS a).1.gen from ⟨h1, p1⟩)]
    rw [if_neg (fun h : (getS a).2 ≠ 0 ∧ (getS b).2 ≠ 0 => h.1 h1)]
    by_cases h2 : (getS b).2 = 0 ∧ (getS a).1.gen < (getS b).1.gen
    · rw [if_pos h2, if_pos (.inr h2)]
    · rw [if_neg h2, if_neg (by rintro (h | h); exact h h1; exact h2 h)]
  · rw [if_neg (fun h : (getS a).2 = 0 ∧ _ => h1 h.1)]
    by_cases h2 : (getS b).2 = 0
    · have p2 := get_pos hb h2
      rw [if_pos (show (getS b).2 = 0 ∧ (-1, zeroS, (10 : Int)).2.1.gen < (getS b).1.gen from ⟨h2, p2⟩), if_neg (fun h : (getS a).2 ≠ 0 ∧ (getS b).2 ≠ 0 => h.2 h2), if_pos (.inl h1)]
    · rw [if_neg (fun h : (getS b).2 = 0 ∧ _ => h2 h.1), if_pos ⟨h1, h2⟩]
end Go.Proofs.Ytkinmcnmdfpjbaa.Su
