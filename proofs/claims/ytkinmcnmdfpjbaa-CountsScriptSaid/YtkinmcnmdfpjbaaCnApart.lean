/-
  Counts as plain data: one count is set: of the pages two bytes at most are others.
-/
import Derived.Test.YtkinmcnmdfpjbaaCnNum
namespace Go.Proofs.Ytkinmcnmdfpjbaa.Cn
open Oct (putB ofB)

/-- at how many places two rows of bytes differ -/
def diffB : List Int → List Int → Nat
  | x :: a, y :: b => (if x = y then 0 else 1) + diffB a b
  | _, _ => 0
theorem diff_app : ∀ (a b c d : List Int), a.length = b.length → diffB (a ++ c) (b ++ d) = diffB a b + diffB c d
  | [], [], c, d, _ => by show diffB c d = 0 + diffB c d; rw [Nat.zero_add]
  | [], _ :: _, _, _, h => by simp at h
  | _ :: _, [], _, _, h => by simp at h
  | x :: a, y :: b, c, d, h => by
    show (if x = y then 0 else 1) + diffB (a ++ c) (b ++ d) = (if x = y then 0 else 1) + diffB a b + diffB c d
    rw [diff_app a b c d (by simpa using h), Nat.add_assoc]
theorem diff_refl : ∀ a : List Int, diffB a a = 0
  | [] => rfl
  | x :: a => by show (if x = x then 0 else 1) + diffB a a = 0; rw [if_pos rfl, diff_refl a]
theorem diff_le : ∀ a b : List Int, diffB a b ≤ a.length
  | [], _ => Nat.zero_le _
  | _ :: _, [] => Nat.zero_le _
  | x :: a, y :: b => by
    show (if x = y then 0 else 1) + diffB a b ≤ a.length + 1
    have := diff_le a b
    split <;> omega
theorem diff_zero : ∀ a b : List Int, a.length = b.length → diffB a b = 0 → a = b
  | [], [], _, _ => rfl
  | [], _ :: _, h, _ => by simp at h
  | _ :: _, [], h, _ => by simp at h
  | x :: a, y :: b, h, h0 => by
    have h0 : (if x = y then 0 else 1) + diffB a b = 0 := h0
    by_cases hx : x = y
    · rw [if_pos hx, Nat.zero_add] at h0
      rw [hx, diff_zero a b (by simpa using h) h0]
    · rw [if_neg hx] at h0; omega
/-- one place further -/
theorem diff_take (a b : List Int) (i : Nat) (ha : i < a.length) (hl : a.length = b.length) : diffB (a.take (i + 1)) (b.take (i + 1)) = diffB (a.take i) (b.take i) + if a.getD i 0 = b.getD i 0 then 0 else 1 := by
  rw [List.take_succ_eq_append_getElem ha, List.take_succ_eq_append_getElem (show i < b.length by omega), diff_app _ _ _ _ (by rw [List.length_take, List.length_take, hl]), List.getD_eq_getElem?_getD, List.getD_eq_getElem?_getD, List.getElem?_eq_getElem ha, List.getElem?_eq_getElem (show i < b.length by omega)]
  rfl
theorem bytes_set (N : List Int) (k : Nat) (hk : k < N.length) (y : Int) : diffB (bytesC (N.set k y)) (bytesC N) = diffB (putB 2 y) (putB 2 (N.getD k 0)) := by
  have hs : N.set k y = N.take k ++ y :: N.drop (k + 1) := by rw [List.set_eq_take_append_cons_drop, if_pos hk]
  have hn : N = N.take k ++ N.getD k 0 :: N.drop (k + 1) := by
    rw [List.getD_eq_getElem?_getD, List.getElem?_eq_getElem hk]
    show N = N.take k ++ N[k] :: N.drop (k + 1)
    rw [← List.drop_eq_getElem_cons hk, List.take_append_drop]
  obtain ⟨z, hz⟩ : ∃ z, N.getD k 0 = z := ⟨_, rfl⟩
  rw [hz] at hn ⊢
  rw [hs]
  conv => lhs; arg 2; rw [hn]
  rw [bytes_app, bytes_app, bytesC, bytesC, diff_app _ _ _ _ rfl, diff_refl, Nat.zero_add, diff_app _ _ _ _ (by rw [Oct.putB_length, Oct.putB_length]), diff_refl, Nat.add_zero]
/-- two bytes at most; none only where the count is the same -/
theorem bytes_apart (N : List Int) (hc : IsC N) (k : Nat) (hk : k < N.length) (y : Int) (hy : 0 ≤ y ∧ y < 65536) : diffB (bytesC (N.set k y)) (bytesC N) ≤ 2 ∧ (diffB (bytesC (N.set k y)) (bytesC N) = 0 ↔ y = N.getD k 0) := by
  rw [bytes_set N k hk y]
  have hz : 0 ≤ N.getD k 0 ∧ N.getD k 0 < 65536 := by
    rw [List.getD_eq_getElem?_getD, List.getElem?_eq_getElem hk]
    exact hc _ (List.getElem_mem hk)
  refine ⟨?_, fun h => ?_, fun h => by rw [h]; exact diff_refl _⟩
  · have := diff_le (putB 2 y) (putB 2 (N.getD k 0))
    rwa [Oct.putB_length] at this
  · have h1 := diff_zero _ _ (by rw [Oct.putB_length, Oct.putB_length]) h
    have h2 := congrArg ofB h1
    rw [Oct.ofB_putB 2 y hy.1 (by rw [show (256 : Int) ^ 2 = 65536 from by decide]; exact hy.2), Oct.ofB_putB 2 _ hz.1 (by rw [show (256 : Int) ^ 2 = 65536 from by decide]; exact hz.2)] at h2
    exact h2
/-- at how many places pages differ -/
def diffP : List (List Int) → List (List Int) → Nat
  | p :: ps, q :: qs => diffB p q + diffP ps qs
  | _, _ => 0
theorem diff_pages : ∀ ps qs : List (List Int), ps.map List.length = qs.map List.length → diffP ps qs = diffB ps.flatten qs.flatten
  | [], [], _ => rfl
  | [], _ :: _, h => by cases h
  | _ :: _, [], h => by cases h
  | p :: ps, q :: qs, h => by
    have h1 : p.length = q.length := (List.cons.inj h).1
    have h2 : ps.map List.length = qs.map List.length := (List.cons.inj h).2
    show diffB p q + diffP ps qs = diffB (p :: ps).flatten (q :: qs).flatten
    rw [List.flatten_cons, List.flatten_cons, diff_app _ _ _ _ h1, diff_pages ps qs h2]
/-- The law's own: of the pages two bytes at most. -/
theorem pages_apart {size : Int} {n : Nat} {N : List Int} (h : CnOk size n N) (k : Nat) (hk : k < n) (y : Int) (hy : 0 ≤ y ∧ y < 65536) :
    diffP (pagesL (eachC size) n (N.set k y)) (pagesL (eachC size) n N) ≤ 2 ∧ (diffP (pagesL (eachC size) n (N.set k y)) (pagesL (eachC size) n N) = 0 ↔ y = N.getD k 0) := by
  have he := (each_pos h.geo).1
  have hl := h.len
  rw [diff_pages _ _ (pages_lens _ _ _ _ (by rw [List.length_set])), pages_flat _ (by omega) _ _ (by rw [List.length_set]; omega), pages_flat _ (by omega) _ _ (by omega)]
  exact bytes_apart N h.cnt k (by omega) y hy
end Go.Proofs.Ytkinmcnmdfpjbaa.Cn
