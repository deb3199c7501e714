/-
  Three zones of slices, made in a region that draws its order, and put into boxes: what holds at any time of it.
-/
import Derived.Test.YtpincfofnlfjiaaZnSeg
import Derived.Test.YtpincfofnlfjiaaDrawn
namespace Go.Proofs.Ytpincfofnlfjiaa.Zn
open Go.RowKit Bs Dv Dr

theorem CSeg.sliced {w : World} {a : Option Addr} {n c p q : Nat} {l : List Cel} (h : CSeg w a n c l) (hp : p ≤ q) (hq : q ≤ n) : CSeg w (if c = p then a else a.map (·.add (p * 3))) (q - p) (c - p) ((l.take q).drop p) := by
  have h1 := h.take hq
  by_cases e : c = p
  · rw [if_pos e]
    have hc := h.le
    obtain rfl : p = q := by omega
    rw [Nat.sub_self, e, Nat.sub_self, List.drop_of_length_le (by rw [List.length_take]; omega)]
    cases a with
    | none => exact CSeg.nil w
    | some x => exact CSeg.empty w x 0 (Nat.zero_le _)
  · rw [if_neg e]
    cases a with
    | none =>
      have := (h.nil_ rfl)
      exact absurd (by omega : c = p) e
    | some x => exact h1.dropAd hp

def zv (z : Zon) : Value := .agg #[.int .i64 z.cnt, .int .i64 z.nul, .int .i64 z.min.k, .int .i64 z.min.n, .string z.min.s, .int .i64 z.max.k, .int .i64 z.max.n, .string z.max.s]
def ptr (g : Nat) : Value := .pointer (some ⟨g, 0, none⟩)
/-- Ten values (slots 48 ..) and three boxes (slots 12 ..), and what is done of them. -/
structure PI (a0 : Act) (w0 : World) (zn : Nat → Zon) (val : Nat → Value) (L : Nat → Bool) (a : Act) (w : World) : Prop where
  agr : Agr [12, 13, 14, 48, 49, 50, 51, 52, 53, 54, 55, 56, 57] a0 a
  big : 58 ≤ a0.tmps.size
  grown : w0.grownBy w none
  vals : ∀ i, i < 10 → L i = true → At a (48 + i) = val i
  ord : ∀ k, k < 3 → L (13 + k) = true → L (10 + k) = true
  box : ∃ g : Nat → Nat, (∀ k, k < 3 → L (10 + k) = true → At a (12 + k) = ptr (g k) ∧ w0.heap.size ≤ g k ∧ ZB w (g k) (if L (13 + k) then zn k else zeroZ)) ∧
    ∀ i j, i < 3 → j < 3 → i ≠ j → L (10 + i) = true → L (10 + j) = true → g i ≠ g j

theorem PI.start {a0 : Act} {w0 : World} {zn : Nat → Zon} {val : Nat → Value} (h : 58 ≤ a0.tmps.size) : PI a0 w0 zn val (fun _ => false) a0 w0 :=
  ⟨Agr.refl _ _, h, grown_refl _, (fun _ _ h => by cases h), (fun _ _ h => by cases h), (fun _ => 0), (fun _ _ h => by cases h), (fun _ _ _ _ _ h => by cases h)⟩
theorem slot_in {i : Nat} (hi : i < 10) : 48 + i ∈ [12, 13, 14, 48, 49, 50, 51, 52, 53, 54, 55, 56, 57] := by
  simp only [List.mem_cons, List.not_mem_nil, or_false]
  omega
theorem box_in {k : Nat} (hk : k < 3) : 12 + k ∈ [12, 13, 14, 48, 49, 50, 51, 52, 53, 54, 55, 56, 57] := by
  simp only [List.mem_cons, List.not_mem_nil, or_false]
  omega
/-- A value comes up. -/
theorem PI.value {a0 : Act} {w0 : World} {zn : Nat → Zon} {val : Nat → Value} {L : Nat → Bool} {a : Act} {w w' : World} (h : PI a0 w0 zn val L a w) (hg : w.grownBy w' none) (i : Nat) (hi : i < 10) {v : Value} (hv : v = val i) :
    PI a0 w0 zn val (upd L i) (a.put (some (48 + i)) v) w' := by
  refine ⟨h.agr.put (slot_in hi) v, h.big, grown_then h.grown hg, fun j hj hl => ?_, fun k hk hl => ?_, ?_⟩
  · by_cases e : j = i
    · subst e
      rw [At.put_same (by rw [h.agr.size]; have := h.big; omega), hv]
    · rw [At.put_ne (by omega)]
      exact h.vals j hj (upd_not hl e)
  · exact upd_old (h.ord k hk (upd_not hl (by omega)))
  · obtain ⟨g, h1, h2⟩ := h.box
    refine ⟨g, fun k hk hl => ?_, fun p q hp hq hne hl1 hl2 => h2 p q hp hq hne (upd_not hl1 (by omega)) (upd_not hl2 (by omega))⟩
    obtain ⟨k1, k2, k3⟩ := h1 k hk (upd_not hl (by omega))
    refine ⟨by rw [At.put_ne (by omega)]; exact k1, k2, ?_⟩
    have hu : upd L i (13 + k) = L (13 + k) := by simp [upd, show ¬ 13 + k = i by omega]
    rw [hu]
    exact k3.old hg
/-- A box is made. -/
theorem PI.made {a0 : Act} {w0 : World} {zn : Nat → Zon} {val : Nat → Value} {L : Nat → Bool} {a : Act} {w : World} (h : PI a0 w0 zn val L a w) (i : Nat) (hi : i < 3) (hn : L (10 + i) = false) {o : Obj}
    (ho : o = .cells #[.int .i64 0, .int .i64 0, .int .i64 0, .int .i64 0, .string ⟨#[]⟩, .int .i64 0, .int .i64 0, .string ⟨#[]⟩] 26) :
    PI a0 w0 zn val (upd L (10 + i)) (a.put (some (12 + i)) (ptr w.heap.size)) (w.alloc o) := by
  have hno : L (13 + i) = false := by
    cases e : L (13 + i) with
    | false => rfl
    | true => rw [h.ord i hi e] at hn; cases hn
  have hgr := grown_alloc w o
  refine ⟨h.agr.put (box_in hi) _, h.big, grown_then h.grown hgr, fun j hj hl => ?_, fun k hk hl => ?_, ?_⟩
  · rw [At.put_ne (by omega)]
    exact h.vals j hj (upd_not hl (by omega))
  · exact upd_old (h.ord k hk (upd_not hl (by omega)))
  · obtain ⟨g, h1, h2⟩ := h.box
    refine ⟨fun k => if k = i then w.heap.size else g k, fun k hk hl => ?_, fun p q hp hq hne hl1 hl2 => ?_⟩
    · have hu : upd L (10 + i) (13 + k) = L (13 + k) := by simp [upd, show ¬ 13 + k = 10 + i by omega]
      dsimp only
      by_cases e : k = i
      · subst e
        refine ⟨by rw [At.put_same (by rw [h.agr.size]; have := h.big; omega), if_pos rfl], by rw [if_pos rfl]; exact h.grown.size, ?_⟩
        rw [hu, hno, if_pos rfl, ho]
        exact ZB.new w zeroZ
      · obtain ⟨k1, k2, k3⟩ := h1 k hk (upd_not hl (by omega))
        refine ⟨by rw [At.put_ne (by omega), if_neg e]; exact k1, by rw [if_neg e]; exact k2, ?_⟩
        rw [hu, if_neg e]
        exact k3.old hgr
    · dsimp only
      by_cases e1 : p = i
      · have e2 : ¬ q = i := by omega
        rw [if_pos e1, if_neg e2]
        have := (h1 q hq (upd_not hl2 (by omega))).2.2.lt
        omega
      · by_cases e2 : q = i
        · rw [if_neg e1, if_pos e2]
          have := (h1 p hp (upd_not hl1 (by omega))).2.2.lt
          omega
        · rw [if_neg e1, if_neg e2]
          exact h2 p q hp hq hne (upd_not hl1 (by omega)) (upd_not hl2 (by omega))
/-- A box is filled. -/
theorem PI.fill {a0 : Act} {w0 : World} {zn : Nat → Zon} {val : Nat → Value} {L : Nat → Bool} {a : Act} {w : World} (h : PI a0 w0 zn val L a w) (i : Nat) (hi : i < 3) (hn : L (10 + i) = true) :
    ∃ g q, At a (12 + i) = ptr g ∧ ZB w g q ∧ ∀ w', ZB w' g (zn i) → Turn w w' (· = g) → PI a0 w0 zn val (upd L (13 + i)) a w' := by
  obtain ⟨g, h1, h2⟩ := h.box
  obtain ⟨k1, k2, k3⟩ := h1 i hi hn
  refine ⟨g i, _, k1, k3, fun w' hz ht => ⟨h.agr, h.big, grown_put h.grown ht k2, fun j hj hl => h.vals j hj (upd_not hl (by omega)), fun k hk hl => ?_, g, fun k hk hl => ?_, fun p q hp hq hne hl1 hl2 => h2 p q hp hq hne (upd_not hl1 (by omega)) (upd_not hl2 (by omega))⟩⟩
  · by_cases e : k = i
    · subst e; exact upd_old hn
    · exact upd_old (h.ord k hk (upd_not hl (by omega)))
  · have hl' := upd_not hl (show 10 + k ≠ 13 + i by omega)
    obtain ⟨m1, m2, m3⟩ := h1 k hk hl'
    refine ⟨m1, m2, ?_⟩
    by_cases e : k = i
    · subst e
      rw [upd_self, if_pos rfl]
      exact hz
    · have hu : upd L (13 + i) (13 + k) = L (13 + k) := by simp [upd, e]
      rw [hu]
      exact m3.not ht (h2 k i hk hi e hl' hn)
end Go.Proofs.Ytpincfofnlfjiaa.Zn
