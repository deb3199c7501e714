/-
  What the program's and the document's functions do, in memory and as plain functions: SgNum, SgBack, SgNullsN.
-/

import Derived.Test.YtljanfnhmhimiaaGreatSnA
import Derived.Test.YtljanfnhmhimiaaGreatSnD
import Derived.Test.YtljanfnhmhimiaaGreatSnH

namespace Go.Proofs.YtljanfnhmhimiaaGreat.Sg
open Go.RowKit
open Zn (Cel Zon zeroC zeroZ ofZ joinZ oneZ cmpC cellE checkE Le Holds holds_of)
open Nu (cnt encN)
open In (num8 u bestB)
open Tx (strB bestT)
open Pk (putR Fit)
open Is (IsI)

/-! ### texts as numbers -/
def nm (s : ByteArray) : List Int := s.data.toList.map fun b => (b.toNat : Int)
theorem nm_isB (s : ByteArray) : Bs.IsB (nm s) := fun x hx => by
  obtain ⟨b, _, rfl⟩ := List.mem_map.1 hx
  have := b.toNat_lt
  omega
theorem nm_str (l : List Int) (h : Bs.IsB l) : nm (strOfNums l) = l := by
  unfold nm strOfNums
  simp only [List.map_map]
  conv => rhs; rw [← List.map_id l]
  refine List.map_congr_left fun x hx => ?_
  have := h x hx
  show ((UInt8.ofNat x.toNat).toNat : Int) = x
  rw [UInt8.toNat_ofNat']
  omega
theorem str_nm (s : ByteArray) : strOfNums (nm s) = s := by
  obtain ⟨l, hl, rfl⟩ := Dv.str_of s
  rw [nm_str l hl]
theorem nm_len (s : ByteArray) : (nm s).length = s.size := by unfold nm; rw [List.length_map, Array.length_toList]; rfl
/-! ### what the bytes of cells are -/
def nullsL (l : List Cel) : List Bool := l.map fun c => decide (c.k = 0)
def someL (l : List Cel) : List Cel := l.filter fun c => decide (c.k ≠ 0)
def cellB (c : Cel) : List Int := if c.k = 1 then num8 c.n else if c.k = 2 then [c.n] else strB (nm c.s)
def bodyS (kind : Int) (l : List Cel) : List Int := if kind = 1 then bestB (l.map (·.n)) else if kind = 2 then (putR (l.map (·.n)) 1).2 else bestT (l.map fun c => nm c.s)
def tailS (kind : Int) (l : List Cel) : List Int := if someL l = [] then [] else cellB (ofZ l).min ++ (cellB (ofZ l).max ++ bodyS kind (someL l))
def encS (kind : Int) (l : List Cel) : List Int := kind :: (encN (nullsL l) ++ tailS kind l)
/-- the first error of cells -/
def firstE (kind : Int) : List Cel → Int
  | [] => 0
  | c :: l => if cellE c ≠ 0 then cellE c else if c.k ≠ kind ∧ c.k ≠ 0 then 11 else firstE kind l
def checkS (kind : Int) (l : List Cel) : Int := if kind < 1 ∨ 3 < kind then 2 else if 4096 < l.length then 3 else firstE kind l
def putS (kind : Int) (l : List Cel) : Int × List Int := if checkS kind l ≠ 0 then (checkS kind l, []) else (0, encS kind l)

theorem nulls_len (l : List Cel) : (nullsL l).length = l.length := by simp [nullsL]
theorem some_mem {l : List Cel} {c : Cel} : c ∈ someL l ↔ c ∈ l ∧ c.k ≠ 0 := by simp [someL]
theorem some_app (l m : List Cel) : someL (l ++ m) = someL l ++ someL m := by simp [someL]
theorem nulls_app (l m : List Cel) : nullsL (l ++ m) = nullsL l ++ nullsL m := by simp [nullsL]
theorem some_cons (c : Cel) (l : List Cel) : someL (c :: l) = if c.k = 0 then someL l else c :: someL l := by
  unfold someL
  rw [List.filter_cons]
  by_cases h : c.k = 0 <;> simp [h]
theorem cnt_nulls : ∀ l : List Cel, cnt (nullsL l) + (someL l).length = l.length
  | [] => rfl
  | c :: l => by
    have ih := cnt_nulls l
    rw [some_cons, show nullsL (c :: l) = [decide (c.k = 0)] ++ nullsL l from rfl, Nu.cnt_app]
    by_cases h : c.k = 0
    · rw [if_pos h, decide_eq_true h, show cnt [true] = 1 from rfl, List.length_cons]; omega
    · rw [if_neg h, decide_eq_false h, show cnt [false] = 0 from rfl, List.length_cons, List.length_cons]; omega
theorem of_nul : ∀ l : List Cel, (ofZ l).nul = (cnt (nullsL l) : Nat)
  | [] => rfl
  | c :: l => by
    rw [Zn.of_cons, Zn.join_nul, Zn.one_nul, of_nul l, show nullsL (c :: l) = [decide (c.k = 0)] ++ nullsL l from rfl, Nu.cnt_app]
    by_cases h : c.k = 0
    · rw [if_pos h, decide_eq_true h, show cnt [true] = 1 from rfl]; omega
    · rw [if_neg h, decide_eq_false h, show cnt [false] = 0 from rfl]; omega
/-- The zone's ends are those of what is not null. -/
theorem of_some : ∀ l : List Cel, (ofZ l).min = (ofZ (someL l)).min ∧ (ofZ l).max = (ofZ (someL l)).max ∧ (ofZ (someL l)).cnt = (someL l).length ∧ (ofZ (someL l)).nul = 0
  | [] => ⟨rfl, rfl, rfl, rfl⟩
  | c :: l => by
    obtain ⟨i1, i2, i3, i4⟩ := of_some l
    rw [some_cons]
    by_cases h : c.k = 0
    · rw [if_pos h, Zn.of_cons]
      have e1 : oneZ c = ⟨1, 1, zeroC, zeroC⟩ := by unfold oneZ; rw [if_pos h]
      rw [e1, Zn.join_none rfl]
      exact ⟨i1, i2, i3, i4⟩
    · rw [if_neg h, Zn.of_cons, Zn.of_cons]
      have e1 : oneZ c = ⟨1, 0, c, c⟩ := by unfold oneZ; rw [if_neg h]
      have hne : (oneZ c).cnt ≠ (oneZ c).nul := by rw [e1]; simp
      have hn2 : (joinZ (oneZ c) (ofZ (someL l))).nul = 0 := by rw [Zn.join_nul, i4, e1]; rfl
      have hc2 : (joinZ (oneZ c) (ofZ (someL l))).cnt = ((c :: someL l).length : Nat) := by rw [Zn.join_cnt, i3, e1, List.length_cons]; simp only; omega
      have hcn := cnt_nulls l
      have hof := Zn.of_cnt l
      have hon := of_nul l
      by_cases hs : someL l = []
      · rw [hs] at i1 i2 i3 i4 hcn hn2 hc2
        have k1 : (ofZ l).cnt = (ofZ l).nul := by rw [hof, hon]; simp at hcn; omega
        have k2 : (ofZ ([] : List Cel)).cnt = (ofZ ([] : List Cel)).nul := rfl
        rw [hs]
        refine ⟨?_, ?_, hc2, hn2⟩
        · rw [Zn.join_left hne k1, Zn.join_left hne k2]
        · rw [Zn.join_left hne k1, Zn.join_left hne k2]
      · have hl : 0 < (someL l).length := List.length_pos_iff.2 hs
        have k1 : (ofZ l).cnt ≠ (ofZ l).nul := by rw [hof, hon]; omega
        have k2 : (ofZ (someL l)).cnt ≠ (ofZ (someL l)).nul := by rw [i3, i4]; omega
        refine ⟨?_, ?_, hc2, hn2⟩
        · rw [Zn.join_both hne k1, Zn.join_both hne k2, i1]
        · rw [Zn.join_both hne k1, Zn.join_both hne k2, i2]
/-! ### which cells may be -/
theorem first_ok {kind : Int} : ∀ {l : List Cel}, firstE kind l = 0 ↔ ∀ c ∈ l, cellE c = 0 ∧ (c.k = kind ∨ c.k = 0)
  | [] => by simp [firstE]
  | c :: l => by
    rw [firstE]
    by_cases h1 : cellE c = 0
    · rw [if_neg (by simp [h1])]
      by_cases h2 : c.k ≠ kind ∧ c.k ≠ 0
      · rw [if_pos h2]
        constructor
        · intro h; cases h
        · intro h
          have := (h c (List.mem_cons_self ..)).2
          omega
      · rw [if_neg h2, first_ok]
        constructor
        · intro h x hx
          rcases List.mem_cons.1 hx with rfl | hx
          · exact ⟨h1, by omega⟩
          · exact h x hx
        · intro h x hx
          exact h x (List.mem_cons_of_mem _ hx)
    · rw [if_pos h1]
      constructor
      · intro h; exact absurd h h1
      · intro h; exact absurd (h c (List.mem_cons_self ..)).1 h1
/-- a column that may be -/
structure Col (kind : Int) (l : List Cel) : Prop where
  k1 : 1 ≤ kind
  k3 : kind ≤ 3
  few : l.length ≤ 4096
  ok : ∀ c ∈ l, cellE c = 0 ∧ (c.k = kind ∨ c.k = 0)
theorem check_iff {kind : Int} {l : List Cel} : checkS kind l = 0 ↔ Col kind l := by
  unfold checkS
  by_cases h1 : kind < 1 ∨ 3 < kind
  · rw [if_pos h1]
    exact ⟨(fun h => by cases h), fun h => by have := h.k1; have := h.k3; omega⟩
  · rw [if_neg h1]
    by_cases h2 : 4096 < l.length
    · rw [if_pos h2]
      exact ⟨(fun h => by cases h), fun h => by have := h.few; omega⟩
    · rw [if_neg h2, first_ok]
      exact ⟨fun h => ⟨by omega, by omega, by omega, h⟩, fun h => h.ok⟩
theorem put_of {kind : Int} {l : List Cel} (h : Col kind l) : putS kind l = (0, encS kind l) := by
  unfold putS
  rw [if_neg (by rw [check_iff.2 h]; simp)]
/-- a cell of a kind that may be -/
structure CelOk (kind : Int) (c : Cel) : Prop where
  k : c.k = kind
  ok : cellE c = 0
theorem cell_len {c : Cel} (h : cellE c = 0) : c.s.size ≤ 65536 := by
  unfold cellE at h
  by_cases h1 : 65536 < c.s.size
  · rw [if_pos h1] at h; cases h
  · omega
theorem cell_form {c : Cel} (h : cellE c = 0) : (c.k = 0 ∧ c.n = 0 ∧ c.s = ⟨#[]⟩) ∨ (c.k = 1 ∧ c.s = ⟨#[]⟩) ∨ (c.k = 2 ∧ (c.n = 0 ∨ c.n = 1) ∧ c.s = ⟨#[]⟩) ∨ (c.k = 3 ∧ c.n = 0) := by
  unfold cellE at h
  by_cases h1 : 65536 < c.s.size
  · rw [if_pos h1] at h; cases h
  · rw [if_neg h1] at h
    by_cases h2 : (c.k = 0 ∧ c.n = 0 ∧ c.s = ⟨#[]⟩) ∨ (c.k = 1 ∧ c.s = ⟨#[]⟩) ∨ (c.k = 2 ∧ (c.n = 0 ∨ c.n = 1) ∧ c.s = ⟨#[]⟩) ∨ (c.k = 3 ∧ c.n = 0)
    · exact h2
    · rw [if_neg h2] at h; cases h
theorem cellE_of {c : Cel} (h : c.s.size ≤ 65536) (h2 : (c.k = 0 ∧ c.n = 0 ∧ c.s = ⟨#[]⟩) ∨ (c.k = 1 ∧ c.s = ⟨#[]⟩) ∨ (c.k = 2 ∧ (c.n = 0 ∨ c.n = 1) ∧ c.s = ⟨#[]⟩) ∨ (c.k = 3 ∧ c.n = 0)) : cellE c = 0 := by
  unfold cellE
  rw [if_neg (by omega), if_pos h2]

/-! ### a cell read -/
/-- whose numbers are 64 bits -/
def IntOk (l : List Cel) : Prop := ∀ c ∈ l, -9223372036854775808 ≤ c.n ∧ c.n ≤ 9223372036854775807
theorem min_of {kind : Int} {l : List Cel} (h : Col kind l) (hs : someL l ≠ []) : CelOk kind (ofZ l).min ∧ CelOk kind (ofZ l).max ∧ (ofZ l).min ∈ l ∧ (ofZ l).max ∈ l ∧ ¬ 0 < cmpC (ofZ l).min (ofZ l).max := by
  have hh := holds_of l
  have hl : 0 < (someL l).length := List.length_pos_iff.2 hs
  have hc := cnt_nulls l
  have hne : (ofZ l).cnt ≠ (ofZ l).nul := by rw [Zn.of_cnt, of_nul]; omega
  obtain ⟨m1, m2⟩ := hh.mins hne
  obtain ⟨x1, x2⟩ := hh.maxs hne
  have hle := (hh.has _ m1 m2).2.2
  unfold Le at hle
  exact ⟨⟨(h.ok _ m1).2.resolve_right m2, (h.ok _ m1).1⟩, ⟨(h.ok _ x1).2.resolve_right x2, (h.ok _ x1).1⟩, m1, x1, by omega⟩
end Go.Proofs.YtljanfnhmhimiaaGreat.Sg

namespace Go.Proofs.YtljanfnhmhimiaaGreat.Sg
open Go.RowKit
open Zn (Cel Zon zeroC zeroZ ofZ joinZ oneZ cmpC cellE checkE Le Holds holds_of)
open Nu (cnt encN)
open In (num8 u bestB)
open Tx (strB bestT)
open Pk (putR Fit)
open Is (IsI)

theorem fit_of {l : List Cel} (h : ∀ c ∈ l, CelOk 2 c) : Fit 1 (l.map (·.n)) := fun x hx => by
  obtain ⟨c, hc, rfl⟩ := List.mem_map.1 hx
  have hk := (h c hc).k
  rcases cell_form (h c hc).ok with e | e | e | e
  · omega
  · omega
  · have := e.2.1; omega
  · omega
theorem Col.some {kind : Int} {l : List Cel} (h : Col kind l) : ∀ c ∈ someL l, CelOk kind c := fun c hc => by
  obtain ⟨h1, h2⟩ := some_mem.1 hc
  exact ⟨(h.ok c h1).2.resolve_right h2, (h.ok c h1).1⟩
theorem tail_same {kind : Int} {l m : List Cel} (h : someL l = someL m) : tailS kind l = tailS kind m := by
  have e1 := of_some l
  have e2 := of_some m
  unfold tailS
  rw [h, e1.1, e1.2.1, h, e2.1, e2.2.1]
theorem some_some (l : List Cel) : someL (someL l) = someL l := by
  unfold someL
  rw [List.filter_filter]
  simp
theorem none_col {kind : Int} (h1 : 1 ≤ kind) (h3 : kind ≤ 3) (n : Nat) (hn : n ≤ 4096) : Col kind (List.replicate n zeroC) := ⟨h1, h3, by rw [List.length_replicate]; exact hn, fun c hc => by
  rw [List.eq_of_mem_replicate hc]
  exact ⟨cellE_of (by show (0 : Nat) ≤ 65536; omega) (.inl ⟨rfl, rfl, rfl⟩), .inr rfl⟩⟩
theorem enc_shape (kind : Int) (l : List Cel) : (encS kind l).length = 1 + (encN (nullsL l)).length + (tailS kind l).length ∧ (encS kind l).drop (1 + (encN (nullsL l)).length) = tailS kind l ∧ ((encS kind l).drop 1).take (encN (nullsL l)).length = encN (nullsL l) := by
  unfold encS
  refine ⟨by rw [List.length_cons, List.length_append]; omega, ?_, ?_⟩
  · rw [Nat.add_comm 1, List.drop_succ_cons, List.drop_left]
  · rw [List.drop_succ_cons, List.drop_zero, List.take_left]
end Go.Proofs.YtljanfnhmhimiaaGreat.Sg

namespace Go.Proofs.YtljanfnhmhimiaaGreat.Sg
open Go.RowKit
open Zn (Cel zeroC cellE)
open Nu (cnt encN formN restB)
open Oct (varB)

theorem var_two (n : Nat) (h : n ≤ 4096) : (varB 9 (n : Int)).length ≤ 2 := by
  rw [varB]
  by_cases h1 : (n : Int) < 128
  · rw [if_pos h1]; simp
  · rw [if_neg h1, varB, if_pos (by omega)]; simp
theorem nulls_rep (n : Nat) : nullsL (List.replicate n zeroC) = List.replicate n true := by
  unfold nullsL
  rw [List.map_replicate]
  rfl
theorem some_rep (n : Nat) : someL (List.replicate n zeroC) = [] := by
  unfold someL
  rw [List.filter_eq_nil_iff]
  intro c hc
  rw [List.eq_of_mem_replicate hc]
  decide
/-- nulls alone: few bytes -/
theorem enc_none (kind : Int) (n : Nat) (h1 : 1 ≤ n) (hn : n ≤ 4096) : (encS kind (List.replicate n zeroC)).length ≤ 4 := by
  have hc : cnt (List.replicate n true) = n := by rw [Nu.cnt_rep, if_pos rfl]
  have hf : formN (List.replicate n true) = 1 := by
    unfold formN
    rw [hc, List.length_replicate, if_neg (by omega), if_pos rfl]
  unfold encS tailS encN restB
  rw [some_rep, nulls_rep, hf, if_pos rfl, if_neg (by decide), List.length_replicate, List.append_nil, List.length_cons, List.length_append, List.length_singleton]
  have := var_two n hn
  omega

/-- a null put behind each cell -/
def moreL : List Cel → List Cel
  | [] => []
  | c :: r => c :: zeroC :: moreL r
/-- the flags of that -/
def wideL : Nat → List Bool
  | 0 => []
  | k + 1 => false :: true :: wideL k
theorem more_app : ∀ l m : List Cel, moreL (l ++ m) = moreL l ++ moreL m
  | [], m => rfl
  | c :: l, m => by
    show c :: zeroC :: moreL (l ++ m) = c :: zeroC :: (moreL l ++ moreL m)
    rw [more_app l m]
theorem more_len : ∀ l : List Cel, (moreL l).length = 2 * l.length
  | [] => rfl
  | c :: l => by
    show (moreL l).length + 1 + 1 = 2 * (l.length + 1)
    rw [more_len l]
    omega
theorem more_mem : ∀ {l : List Cel} {c : Cel}, c ∈ moreL l → c ∈ l ∨ c = zeroC
  | [], c, h => by cases h
  | x :: l, c, h => by
    rcases List.mem_cons.1 h with rfl | h
    · exact .inl List.mem_cons_self
    · rcases List.mem_cons.1 h with rfl | h
      · exact .inr rfl
      · exact (more_mem h).imp (List.mem_cons_of_mem _) id
theorem more_some : ∀ {l : List Cel}, (∀ c ∈ l, c.k ≠ 0) → someL (moreL l) = l
  | [], _ => rfl
  | x :: l, h => by
    show someL (x :: zeroC :: moreL l) = x :: l
    rw [some_cons, if_neg (h x List.mem_cons_self), some_cons, if_pos (show zeroC.k = 0 from rfl), more_some fun c hc => h c (List.mem_cons_of_mem _ hc)]
theorem more_nulls : ∀ {l : List Cel}, (∀ c ∈ l, c.k ≠ 0) → nullsL (moreL l) = wideL l.length
  | [], _ => rfl
  | x :: l, h => by
    have ih := more_nulls fun c hc => h c (List.mem_cons_of_mem x hc)
    show decide (x.k = 0) :: true :: nullsL (moreL l) = false :: true :: wideL l.length
    rw [ih, decide_eq_false (h x List.mem_cons_self)]
theorem wide_len : ∀ k, (wideL k).length = 2 * k
  | 0 => rfl
  | k + 1 => by
    show (wideL k).length + 1 + 1 = 2 * (k + 1)
    rw [wide_len k]
    omega
theorem wide_snoc : ∀ k, wideL (k + 1) = wideL k ++ [false, true]
  | 0 => rfl
  | k + 1 => by
    show false :: true :: wideL (k + 1) = false :: true :: (wideL k ++ [false, true])
    rw [wide_snoc k]
/-- one more flag set -/
theorem wide_set (k m : Nat) (h : k < m) : (wideL k ++ List.replicate (2 * (m - k)) false).set (2 * k + 1) true = wideL (k + 1) ++ List.replicate (2 * (m - (k + 1))) false := by
  obtain ⟨d, rfl⟩ : ∃ d, m = k + 1 + d := ⟨m - (k + 1), by omega⟩
  rw [show 2 * (k + 1 + d - k) = 2 * d + 1 + 1 from by omega, show 2 * (k + 1 + d - (k + 1)) = 2 * d from by omega, wide_snoc, List.append_assoc, List.replicate_succ, List.replicate_succ,
    List.set_append_right _ _ (by rw [wide_len]; omega), wide_len, show 2 * k + 1 - 2 * k = 1 from by omega]
  rfl
theorem some_not {l : List Cel} : ∀ c ∈ someL l, c.k ≠ 0 := fun _ hc => (some_mem.1 hc).2
theorem some_few (l : List Cel) : (someL l).length ≤ l.length := List.length_filter_le _ _
theorem some_nulls (l : List Cel) : nullsL (someL l) = List.replicate (someL l).length false := by
  apply List.eq_replicate_iff.2
  refine ⟨nulls_len _, fun b hb => ?_⟩
  obtain ⟨c, hc, rfl⟩ := List.mem_map.1 hb
  exact decide_eq_false (some_not c hc)
theorem Col.some_col {kind : Int} {l : List Cel} (h : Col kind l) : Col kind (someL l) := ⟨h.k1, h.k3, Nat.le_trans (some_few l) h.few, fun c hc => h.ok c (some_mem.1 hc).1⟩
theorem Col.more_col {kind : Int} {l : List Cel} (h : Col kind l) (hl : l.length ≤ 2048) : Col kind (moreL (someL l)) := ⟨h.k1, h.k3, by
  have := some_few l
  rw [more_len]
  omega, fun c hc => by
    rcases more_mem hc with h1 | rfl
    · exact h.ok c (some_mem.1 h1).1
    · exact ⟨cellE_of (by show (0 : Nat) ≤ 65536; omega) (.inl ⟨rfl, rfl, rfl⟩), .inr rfl⟩⟩
/-- nulls between the cells change the flags alone -/
theorem nulls_between (kind : Int) (l : List Cel) :
    1 + (encN (List.replicate (someL l).length false)).length ≤ (encS kind (someL l)).length ∧
    1 + (encN (wideL (someL l).length)).length ≤ (encS kind (moreL (someL l))).length ∧
    (encS kind (someL l)).drop (1 + (encN (List.replicate (someL l).length false)).length) = (encS kind (moreL (someL l))).drop (1 + (encN (wideL (someL l).length)).length) ∧
    ((encS kind (moreL (someL l))).drop 1).take (encN (wideL (someL l).length)).length = encN (wideL (someL l).length) := by
  obtain ⟨a1, a2, _⟩ := enc_shape kind (someL l)
  obtain ⟨b1, b2, b3⟩ := enc_shape kind (moreL (someL l))
  rw [some_nulls] at a1 a2
  rw [more_nulls some_not] at b1 b2 b3
  refine ⟨by omega, by omega, ?_, b3⟩
  rw [a2, b2]
  exact tail_same (by rw [some_some, more_some some_not])
end Go.Proofs.YtljanfnhmhimiaaGreat.Sg
