/-
  Two rows of the call's own, each in a box of its own (numbers, truth values): what abides where one of them grows.
-/
import Derived.Test.YtpcilohiokpmnaaNuRunsF
import Derived.Test.YtpcilohiokpmnaaRound
import Derived.Maps.AppendAt
namespace Go.Proofs.Ytpcilohiokpmnaa.Nu
open Go.RowKit Go.Shelf Go
open Dv (Turn nowhere)

theorem rows_apart {W : World} {b1 b2 e1 e2 s1 s2 n1 n2 : Nat} {V U : Value} {xs ys : List Value} (h : W.ownsRow b1 e1 s1 V n1 xs) (k : W.ownsRow b2 e2 s2 U n2 ys) (he : e1 ≠ e2) : V.ownBlock = none ∨ V.ownBlock ≠ U.ownBlock := by
  rcases h.2 with ⟨rfl, _⟩ | ⟨g, cap, cur, rfl, _, hg, _⟩
  · exact .inl rfl
  · refine .inr fun e => ?_
    rcases k.2 with ⟨rfl, _⟩ | ⟨g', cap', cur', rfl, _, hg', _⟩
    · cases e
    · have : g = g' := by simpa [Value.ownBlock] using e
      subst this
      rw [hg] at hg'
      have := Option.some.inj hg'
      simp at this
      exact he this.2

/-- two rows V', U' since the world W0; their boxes hold V, U -/
structure Two (B : Nat) (w5 W0 : World) (V U V' U' : Value) (m j : Nat) (L : List Int) (F : List Bool) (W : World) : Prop where
  b6 : Boxed W B 34 V
  b7 : Boxed W (B + 1) 27 U
  row : W.ownsRow B 3 1 V' m (L.map (Value.int .i64))
  rou : W.ownsRow B 4 1 U' j (F.map Value.bool)
  below : Below B w5 W
  keeps : KeepsOthers W0 W
  big : B ≤ W.heap.size

variable {B : Nat} {w5 W0 W : World} {V U V' U' : Value} {m j : Nat} {L : List Int} {F : List Bool}
theorem two_drew (h : Two B w5 W0 V U V' U' m j L F W) : Two B w5 W0 V U V' U' m j L F W.drew :=
  ⟨h.b6, h.b7, h.row, h.rou, h.below.drew, h.keeps.trans (KeepsOthers.drew W), h.big⟩
theorem two_alloc (h : Two B w5 W0 V U V' U' m j L F W) (o : Obj) : Two B w5 W0 V U V' U' m j L F (W.alloc o) :=
  ⟨h.b6.alloc o, h.b7.alloc o, h.row.alloc o, h.rou.alloc o, h.below.alloc h.big o, h.keeps.trans (KeepsOthers.alloc W o), by simp; have := h.big; omega⟩
theorem own_below {base e size n : Nat} {v : Value} {xs : List Value} {w : World} (h : w.ownsRow base e size v n xs) : ∀ i, v.ownBlock = some i → base ≤ i ∧ ∃ o : Obj, w.heap[i]? = some o ∧ o.isCells = true := by
  intro i hi
  rcases h.2 with ⟨rfl, _⟩ | ⟨g, cap, cur, rfl, hb, hg, _⟩
  · cases hi
  · have : g = i := by simpa [Value.ownBlock] using hi
    subst this
    exact ⟨hb, _, hg, rfl⟩
theorem own_lt {base e size n : Nat} {v : Value} {xs : List Value} {w : World} (h : w.ownsRow base e size v n xs) {i : Nat} (hi : v.ownBlock = some i) : i < w.heap.size := by
  obtain ⟨_, o, ho, _⟩ := own_below h i hi
  exact (Array.getElem?_eq_some_iff.1 ho).1
theorem own_drew {base e size n : Nat} {v : Value} {xs : List Value} {w : World} (h : w.ownsRow base e size v n xs) : w.drew.ownsRow base e size v n xs := h
theorem cell_drew {w : World} {a : Addr} {v : Value} (h : w.cell? a = some v) : w.drew.cell? a = some v := h
theorem keeps_own {base e size n : Nat} {v : Value} {xs : List Value} {w w1 : World} (h : w.ownsRow base e size v n xs) (hg : w.grownBy w1 v.ownBlock) : KeepsOthers w w1 :=
  KeepsOthers.of_grownBy hg fun i o ei hi => by
    obtain ⟨_, o', ho, hc⟩ := own_below h i ei
    rw [hi] at ho; cases ho; exact hc
theorem two_app1 {V2 : Value} {q : Int} {w1 : World} (h : Two B w5 W0 V U V' U' m j L F W) (ho : w1.ownsRow B 3 1 V2 (m + 1) (L.map (Value.int .i64) ++ [Value.int .i64 q])) (hg : W.grownBy w1 V'.ownBlock) : Two B w5 W0 V U V2 U' (m + 1) j (L ++ [q]) F w1 :=
  ⟨h.b6.kept hg (h.b6.not_row (by decide) h.row), h.b7.kept hg (h.b7.not_row (by decide) h.row), by rw [List.map_append]; exact ho, h.rou.kept hg (rows_apart h.rou h.row (by decide)),
    h.below.grown hg h.big (fun i e => (own_below h.row i e).1), h.keeps.trans (keeps_own h.row hg), Nat.le_trans h.big hg.size⟩
theorem two_app2 {U2 : Value} {b : Bool} {w1 : World} (h : Two B w5 W0 V U V' U' m j L F W) (ho : w1.ownsRow B 4 1 U2 (j + 1) (F.map Value.bool ++ [Value.bool b])) (hg : W.grownBy w1 U'.ownBlock) : Two B w5 W0 V U V' U2 m (j + 1) L (F ++ [b]) w1 :=
  ⟨h.b6.kept hg (h.b6.not_row (by decide) h.rou), h.b7.kept hg (h.b7.not_row (by decide) h.rou), h.row.kept hg (rows_apart h.row h.rou (by decide)), by rw [List.map_append]; exact ho,
    h.below.grown hg h.big (fun i e => (own_below h.rou i e).1), h.keeps.trans (keeps_own h.rou hg), Nat.le_trans h.big hg.size⟩
theorem two_set (h : Two B w5 W0 V U V' U' m j L F W) : Two B w5 W0 V' U' V' U' m j L F ((W.setCell ⟨B, 0, none⟩ V').setCell ⟨B + 1, 0, none⟩ U') := by
  have n1 := (h.b6.not_row (by decide) h.row).symm
  have n2 := (h.b6.not_row (by decide) h.rou).symm
  have n3 := (h.b7.not_row (by decide) h.row).symm
  have n4 := (h.b7.not_row (by decide) h.rou).symm
  exact ⟨(h.b6.set V').other (by omega) U', (h.b7.other (by omega) V').set U', (h.row.kept (grownBy_setCell' W B V') (.inr n1)).kept (grownBy_setCell' _ (B + 1) U') (.inr n3), (h.rou.kept (grownBy_setCell' W B V') (.inr n2)).kept (grownBy_setCell' _ (B + 1) U') (.inr n4),
    (h.below.setCell (p := ⟨B, 0, none⟩) (Nat.le_refl _) V').setCell (p := ⟨B + 1, 0, none⟩) (Nat.le_succ _) U', (h.keeps.trans (KeepsOthers.setCell _ _ _)).trans (KeepsOthers.setCell _ _ _), by simpa using h.big⟩

theorem step_append_own {P : Program} {w : World} {ops : Array Oper} {o : Oper} {a : Act} {K : Act → World → Prop} {Q : Exit → Act → World → Prop} {E : Prop} (hgd : o.guard = none) (s x : Operand) (t : TypeId)
    (ho : o.op = .call { callee := .builtin .append, args := #[s, x], argTypes := #[t, t] }) (base : Nat) (e : TypeId) (i : TypeInfo) (z : Value) (bytes : Nat) (ht : P.underlying t = some (.slice e)) (hi : P.info? e = some i) (hz : i.zero = some z) (hsize : i.size = 1) (hby : i.bytes = bytes) (hzs : z.cells.size = 1)
    (v : Value) (k : Nat) (xs : List Value) (hs : a.eval s = v) (hown : w.ownsRow base e 1 v k xs) (ad : Addr) (u : Value) (hx : a.eval x = .slice (some ad) 1 1) (hc : w.cell? ad = some u) (h1 : u.oneCell' = true)
    (b1 : k + 1 ≤ maxLen) (b2 : (k + 1) * bytes ≤ 140737488355328) (b3 : base ≤ w.heap.size)
    (h : ∀ v' w', w'.ownsRow base e 1 v' (k + 1) (xs ++ [u]) → w.grownBy w' v.ownBlock → K (a.put o.dst v') w') :
    if Region.wanted o (yielded ops a.tmps) = true then Oper.wp P o a w K Q else E := by
  have hw : Region.wanted o (yielded ops a.tmps) = true := by simp [Region.wanted, hgd]
  rw [if_pos hw]
  obtain ⟨v', w', hrun, r1, r2, -⟩ := run_append_own (P := P) w base t o.type e i z 1 bytes ht hi hz hsize hby hzs (by decide) v k xs hown ad 1 1 [u] rfl
    (by intro j y hj; match j, hj with | 0, hj => simp at hj; subst hj; rw [show ad.add 0 = ad from by obtain ⟨b, o, s⟩ := ad; cases s <;> rfl]; exact hc) (by intro y hy; simp at hy; subst hy; exact h1) b1 b2 b3
  unfold Oper.wp execOp
  simp only [ho, resolve, invoke, builtin, Sem.run_bind, Sem.run_pure, Result.andThen_ok, List.map_toArray, List.map_cons, List.map_nil, hs, hx, hrun]
  exact h v' w' r1 r2
end Go.Proofs.Ytpcilohiokpmnaa.Nu
