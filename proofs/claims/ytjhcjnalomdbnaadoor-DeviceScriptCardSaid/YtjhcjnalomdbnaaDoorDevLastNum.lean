/-
  What is read last; a crash of all that is pending is a flush. No program.
-/
import Derived.Test.YtjhcjnalomdbnaaDoorDevFuses
import Derived.Test.YtjhcjnalomdbnaaDoorDevTwo
namespace Go.Proofs.YtjhcjnalomdbnaaDoor.Dv
open Go.RowKit Bs

def lastOf (d : List (List Int)) (p : List (Nat × List Int)) (b : Nat) : List Int := match p.reverse.find? (fun q => q.1 == b) with
  | some q => q.2
  | none => d.getD b []
theorem last_is (s : St) (b : Nat) : s.last b = lastOf s.dur s.pend b := rfl
theorem lastOf_nil (d : List (List Int)) (b : Nat) : lastOf d [] b = d.getD b [] := rfl
theorem lastOf_snoc (d : List (List Int)) (p : List (Nat × List Int)) (q : Nat × List Int) (b : Nat) : lastOf d (p ++ [q]) b = if q.1 = b then q.2 else lastOf d p b := by
  unfold lastOf
  rw [List.reverse_append, List.reverse_singleton, List.singleton_append, List.find?_cons]
  by_cases h : q.1 = b
  · simp [h]
  · have : (q.1 == b) = false := beq_eq_false_iff_ne.2 h
    simp [h, this]
theorem laid_len (p : List (Nat × List Int)) : ∀ d : List (List Int), (laid d p).length = d.length := by
  induction p with
  | nil => intro d; rfl
  | cons q p ih => intro d; exact (ih _).trans (List.length_set)

theorem laid_last (d : List (List Int)) (b : Nat) (hb : b < d.length) : ∀ n (p : List (Nat × List Int)), p.length = n → (laid d p).getD b [] = lastOf d p b := by
  intro n
  induction n with
  | zero => intro p hp; rw [List.eq_nil_of_length_eq_zero hp]; rfl
  | succ n ih =>
    intro p hp
    obtain ⟨r, q, rfl⟩ : ∃ r q, p = r ++ [q] := ⟨p.dropLast, p.getLast (by intro e; rw [e] at hp; simp at hp), (List.dropLast_concat_getLast _).symm⟩
    have hr : r.length = n := by simpa using hp
    rw [laid_snoc, lastOf_snoc, List.getD_eq_getElem?_getD]
    by_cases h : q.1 = b
    · rw [if_pos h, h, List.getElem?_set_self (by rw [laid_len]; exact hb)]; rfl
    · rw [if_neg h, List.getElem?_set_ne h, ← List.getD_eq_getElem?_getD]
      exact ih r hr

/-- Behind a flush each block is read as before. -/
theorem flush_last (s : St) (h : s.Ok) (hf : s.fuse ≠ 0) (b : Nat) (hb : b < s.blocks) : s.flush.2.last b = s.last b := by
  unfold St.flush
  rw [if_neg hf]
  show lastOf (laid s.dur s.pend) [] b = lastOf s.dur s.pend b
  rw [lastOf_nil]
  exact laid_last s.dur b (by rw [h.dlen]; exact hb) _ s.pend rfl

/-- All that is pending, in order and whole. -/
def allPicks (s : St) (k : Nat) : List (Int × Nat) := (List.range k).map fun i : Nat => ((i : Int), 2 ^ (s.size / 64) - 1)
theorem all_len (s : St) (k : Nat) : (allPicks s k).length = k := by simp [allPicks]
theorem all_get (s : St) (k i : Nat) (hi : i < k) : (allPicks s k).getD i (0, 0) = ((i : Int), 2 ^ (s.size / 64) - 1) := by simp [allPicks, List.getD, hi]
theorem all_take (s : St) (n k : Nat) (hk : k ≤ n) : (allPicks s n).take k = allPicks s k := by
  unfold allPicks
  rw [← List.map_take, List.take_range, Nat.min_eq_left hk]

theorem all_ok (s : St) : picksOk s (allPicks s s.pend.length) := by
  intro i hi
  rw [all_len] at hi
  have hp : 0 < 2 ^ (s.size / 64) := Nat.pow_pos (by decide)
  refine ⟨?_, ?_, ?_, fun k hk => ?_⟩
  · rw [all_get s _ i hi]; show (0 : Int) ≤ (i : Int); omega
  · rw [all_get s _ i hi]; show (i : Int) < _; omega
  · rw [all_get s _ i hi]; show 2 ^ (s.size / 64) - 1 < _; omega
  · rw [all_get s _ i hi, all_get s _ k (by omega)]; show (k : Int) ≠ (i : Int); omega

theorem mix_full (n : Nat) (old new : List Int) (hl : new.length = old.length) (h64 : old.length = n * 64) : mix (2 ^ n - 1) old new = new := by
  apply List.ext_getElem?
  intro j
  rw [mix_get? _ _ _ hl, Nat.testBit_two_pow_sub_one]
  by_cases hj : j < old.length
  · have : j / 64 < n := by omega
    rw [if_pos (decide_eq_true this)]
  · rw [List.getElem?_eq_none (by omega), List.getElem?_eq_none (by omega)]
    simp

theorem puts_all (s : St) (h : s.Ok) : ∀ k, k ≤ s.pend.length → puts s (allPicks s k) = laid s.dur (s.pend.take k) := by
  intro k
  induction k with
  | zero => intro _; rfl
  | succ k ih =>
    intro hk
    have h1 := puts_take (s := s) (allPicks s (k + 1)) k (by rw [all_len]; omega)
    rw [all_take s (k + 1) (k + 1) (Nat.le_refl _), all_take s (k + 1) k (by omega), ih (by omega), all_get s _ k (by omega)] at h1
    rw [h1]
    have hks : k < s.pend.length := by omega
    have e : s.pend.getD k (0, []) = s.pend[k] := by simp [List.getD, hks]
    unfold put
    have hpb := h.pblk _ (List.getElem_mem hks)
    have hd := isD_laid (s.pend.take k) s.dur h.dblk (fun q hq => (h.pblk q (List.mem_of_mem_take hq)).2)
    have hg := getD_mem hd.1 (b := s.pend[k].1) (by rw [hd.2, h.dlen]; exact hpb.1)
    rw [show ((k : Int), 2 ^ (s.size / 64) - 1).1.toNat = k from Int.toNat_natCast k, e, List.take_succ_eq_append_getElem hks, laid_snoc,
      mix_full _ _ _ (by rw [hg.1, hpb.2.1]) (by rw [hg.1]; have := h.by64; omega)]

theorem crash_all (s : St) (h : s.Ok) : s.crash (allPicks s s.pend.length) = St.fresh s.size s.blocks (laid s.dur s.pend) := by
  unfold St.crash
  rw [puts_all s h _ (Nat.le_refl _), List.take_length]
theorem crash_last (s : St) (h : s.Ok) (b : Nat) (hb : b < s.blocks) : (s.crash (allPicks s s.pend.length)).last b = s.last b := by
  rw [crash_all s h]
  show lastOf (laid s.dur s.pend) [] b = lastOf s.dur s.pend b
  rw [lastOf_nil]
  exact laid_last s.dur b (by rw [h.dlen]; exact hb) _ s.pend rfl
theorem crash_image (s : St) (h : s.Ok) (hf : s.fuse ≠ 0) : (s.crash (allPicks s s.pend.length)).dur = s.flush.2.dur := by
  rw [crash_all s h]
  unfold St.flush
  rw [if_neg hf]
  rfl

/-- What was written last, block by block ('[]': nothing yet). -/
structure LInv (S K k : Nat) (s : St) (L : Nat → List Int) : Prop where
  size : s.size = S
  blocks : s.blocks = K
  fuse : s.fuse = -1
  ops : s.ops ≤ 2 * k
  pend : s.pend.length ≤ k
  last : ∀ b, b < K → s.last b = if L b = [] then rep S 0 else L b
  len : ∀ b, L b = [] ∨ (L b).length = S
  isB : ∀ b, IsB (L b)

theorem linv_start (S K : Nat) : LInv S K 0 (St.fresh S K (zeros S K)) (fun _ => []) :=
  ⟨rfl, rfl, rfl, Nat.le_refl _, Nat.le_refl _, fun b hb => by
    rw [if_pos rfl]
    show (zeros S K).getD b [] = _
    simp [zeros, List.getD, hb], fun _ => .inl rfl, fun _ => isB_nil⟩

theorem linv_write {S K k : Nat} {s : St} {L : Nat → List Int} (i : LInv S K k s L) (b : Nat) (l : List Int) (hl : l.length = S) (hB : IsB l) (hS : 0 < S) :
    LInv S K (k + 1) { s.burn with pend := s.pend ++ [(b, l)] } (fun j => if j = b then l else L j) ∧ s.ops + 1 ≤ 2 * k + 1 := by
  have hne : l ≠ [] := by intro e; rw [e] at hl; simp at hl; omega
  refine ⟨⟨i.size, i.blocks, by show (if s.fuse = -1 then -1 else s.fuse - 1) = -1; rw [if_pos i.fuse], by show s.ops + 1 ≤ _; have := i.ops; omega, by show (s.pend ++ [(b, l)]).length ≤ _; have := i.pend; simp; omega, fun j hj => ?_, fun j => ?_, fun j => ?_⟩, by have := i.ops; omega⟩
  · show lastOf s.dur (s.pend ++ [(b, l)]) j = _
    rw [lastOf_snoc]
    by_cases e : b = j
    · subst e
      simp [hne]
    · have e' : ¬ j = b := fun h => e h.symm
      rw [if_neg e, if_neg e']
      exact i.last j hj
  · show (if j = b then l else L j) = [] ∨ (if j = b then l else L j).length = S
    by_cases e : j = b
    · rw [if_pos e]; exact .inr hl
    · rw [if_neg e]; exact i.len j
  · show IsB (if j = b then l else L j)
    by_cases e : j = b
    · rw [if_pos e]; exact hB
    · rw [if_neg e]; exact i.isB j

theorem linv_flush {S K k : Nat} {s : St} {L : Nat → List Int} (i : LInv S K k s L) (h : s.Ok) (ho : s.ops ≤ 2 * k - 1) (hk : 1 ≤ k) : LInv S K k s.flush.2 L := by
  have hf : s.fuse ≠ 0 := by rw [i.fuse]; omega
  have e : s.flush.2 = { s.burn with dur := laid s.dur s.pend, pend := [] } := by unfold St.flush; rw [if_neg hf]
  refine ⟨by rw [e]; exact i.size, by rw [e]; exact i.blocks, ?_, ?_, by rw [e]; exact Nat.zero_le _, fun b hb => ?_, i.len, i.isB⟩
  · rw [e]; show (if s.fuse = -1 then -1 else s.fuse - 1) = -1; rw [if_pos i.fuse]
  · rw [e]; show s.ops + 1 ≤ _; omega
  · rw [flush_last s h hf b (by rw [i.blocks]; exact hb)]
    exact i.last b hb
end Go.Proofs.YtjhcjnalomdbnaaDoor.Dv
