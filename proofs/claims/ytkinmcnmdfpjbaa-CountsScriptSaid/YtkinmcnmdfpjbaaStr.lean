/-
  Strings as lists of bytes; the rule on geometries; no program.
-/
import Derived.Test.YtkinmcnmdfpjbaaBase
namespace Go.Proofs.Ytkinmcnmdfpjbaa.Dv
open Go.RowKit Bs

/-! ### strings as lists of bytes -/
theorem str_append (a b : List Int) : strOfNums a ++ strOfNums b = strOfNums (a ++ b) := by
  apply ByteArray.ext
  simp [strOfNums, ByteArray.data_append]

theorem ofNat_inj {x y : Int} (hx : 0 ≤ x ∧ x < 256) (hy : 0 ≤ y ∧ y < 256) (h : UInt8.ofNat x.toNat = UInt8.ofNat y.toNat) : x = y := by
  have h2 := congrArg UInt8.toNat h
  simp only [UInt8.toNat_ofNat'] at h2
  omega

theorem map_inj (a : List Int) : ∀ b : List Int, IsB a → IsB b → a.map (fun n => UInt8.ofNat n.toNat) = b.map (fun n => UInt8.ofNat n.toNat) → a = b := by
  induction a with
  | nil => intro b _ _ h; cases b with
    | nil => rfl
    | cons y b => simp at h
  | cons x a ih => intro b ha hb h; cases b with
    | nil => simp at h
    | cons y b =>
      simp only [List.map_cons, List.cons.injEq] at h
      rw [ofNat_inj (ha x (by simp)) (hb y (by simp)) h.1, ih b (fun z hz => ha z (by simp [hz])) (fun z hz => hb z (by simp [hz])) h.2]

theorem str_inj {a b : List Int} (ha : IsB a) (hb : IsB b) (h : strOfNums a = strOfNums b) : a = b := by
  apply map_inj a b ha hb
  have := congrArg (fun s : ByteArray => s.data.toList) h
  simpa [strOfNums] using this

/-- are the strings the same? -/
def strB (a b : List Int) : Bool := decide (a = b)
theorem str_eq {a b : List Int} (h : strB a b = true) : a = b := of_decide_eq_true h

/-- Every string is one of bytes. -/
theorem str_of (s : ByteArray) : ∃ l, IsB l ∧ s = strOfNums l := by
  refine ⟨s.data.toList.map fun b => (b.toNat : Int), ?_, ?_⟩
  · intro x hx
    obtain ⟨b, _, rfl⟩ := List.mem_map.1 hx
    have := b.toNat_lt
    omega
  · apply ByteArray.ext
    apply Array.ext'
    simp only [strOfNums, List.map_map]
    have e : ((fun n : Int => UInt8.ofNat n.toNat) ∘ fun b : UInt8 => (b.toNat : Int)) = id := by
      funext b
      simp
    rw [e, List.map_id]

theorem str_data (l : List Int) (h : IsB l) : (strOfNums l).data.toList.map (fun b => Value.int .u8 (b.toNat : Int)) = l.map (Value.int .u8) := by
  rw [strOfNums_data, List.map_map]
  apply List.map_congr_left
  intro x hx
  have := h x hx
  simp only [Function.comp, UInt8.toNat_ofNat']
  congr 1
  omega

theorem str_extract (l : List Int) (a b : Nat) : (strOfNums l).extract a b = strOfNums ((l.drop a).take (b - a)) := by
  apply ByteArray.ext
  apply Array.ext'
  simp [strOfNums, ByteArray.data_extract, List.map_drop, List.map_take]

theorem isB_append {a b : List Int} (ha : IsB a) (hb : IsB b) : IsB (a ++ b) := fun x hx => (List.mem_append.1 hx).elim (ha x) (hb x)
theorem isB_take {l : List Int} (h : IsB l) (n : Nat) : IsB (l.take n) := fun x hx => h x (List.mem_of_mem_take hx)
theorem isB_drop {l : List Int} (h : IsB l) (n : Nat) : IsB (l.drop n) := fun x hx => h x (List.mem_of_mem_drop hx)
theorem isB_rep (n : Nat) (x : Int) (h : 0 ≤ x ∧ x < 256) : IsB (List.replicate n x) := fun y hy => by rw [List.eq_of_mem_replicate hy]; exact h
theorem isB_nil : IsB [] := fun _ h => by cases h


/-- may a geometry be? -/
def geoB (size blocks : Int) : Bool := decide (128 ≤ size ∧ size ≤ 4096 ∧ size % 64 = 0 ∧ 8 ≤ blocks ∧ blocks ≤ 4096)
def geoE (size blocks : Int) : Int := if geoB size blocks = true then 0 else 2
theorem geoE_yes {size blocks : Int} (h : 128 ≤ size ∧ size ≤ 4096 ∧ size % 64 = 0 ∧ 8 ≤ blocks ∧ blocks ≤ 4096) : geoE size blocks = 0 := if_pos (decide_eq_true h)
theorem geoE_no {size blocks : Int} (h : ¬ (128 ≤ size ∧ size ≤ 4096 ∧ size % 64 = 0 ∧ 8 ≤ blocks ∧ blocks ≤ 4096)) : geoE size blocks = 2 := if_neg (by unfold geoB; rw [decide_eq_false h]; decide)
end Go.Proofs.Ytkinmcnmdfpjbaa.Dv
