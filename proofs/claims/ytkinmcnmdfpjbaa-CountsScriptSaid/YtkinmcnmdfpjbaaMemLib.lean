/-
  Copies of a string into a region; freezing.
-/
import Derived.Test.YtkinmcnmdfpjbaaMem
import Derived.Laws.CopyOwn
import Derived.Lib.LazyBuf
import Derived.Deep.RegionLaw
import Derived.Deep.RegionHeld3
import Derived.StillTailTactics
namespace Go.Proofs.Ytkinmcnmdfpjbaa.Dv
open Go.RowKit Bs

/-! ### copy(dst, string) into a region -/
theorem size_u8 (w : World) : (Go.sizeOf 5).run Try.prog w = .ok 1 w := by
  obtain ⟨i0, hi, _, hz1, _⟩ := info_parts info_u8
  simp [Go.sizeOf, typeInfo, hi, hz1]

theorem run_copy_reg (w : World) (ty : TypeId) (b o dLen dCap : Nat) (l v : List Int) (h : Reg w b o l) (hv : IsB v) (hlen : v.length ≤ dLen) (hl : v.length ≤ l.length) :
    (Builtin.copy_ #[85, 9] ty #[.slice (some ⟨b, o, none⟩) dLen dCap, .string (strOfNums v)]).run Try.prog w = .ok (goInt v.length) (w.setCells b o (v.map (Value.int .u8))) := by
  have h1 := run_copy_string (P := Try.prog) w 85 9 ty 5 b o dLen dCap (strOfNums v) Try.underlying85 size_u8 (by rw [strOfNums_size]; exact hlen)
    (fun j hj => by rw [strOfNums_size] at hj; rw [(h.at_ j (by omega)).1]; rfl) (fun j hj => by rw [strOfNums_size] at hj; exact (h.at_ j (by omega)).2)
  rw [str_data v hv, strOfNums_size] at h1
  exact h1

theorem wp_copy_reg {w : World} {o : Oper} {a : Act} {K : Act → World → Prop} {Q : Exit → Act → World → Prop} (d s : Operand)
    (ho : o.op = .call { callee := .builtin .copy, args := #[d, s], argTypes := #[85, 9] }) (b off dLen dCap : Nat) (hd : a.eval d = .slice (some ⟨b, off, none⟩) dLen dCap) (l v : List Int) (hs : a.eval s = .string (strOfNums v))
    (h : Reg w b off l) (hv : IsB v) (hlen : v.length ≤ dLen) (hl : v.length ≤ l.length)
    (hK : ∀ w', Reg w' b off (spl l 0 v) → Out w w' b off v.length → K (a.put o.dst (goInt v.length)) w') : o.wp Try.prog a w K Q := by
  have hrun := run_copy_reg w o.type b off dLen dCap l v h hv hlen hl
  unfold Oper.wp
  simp [execOp, ho, resolve, invoke, builtin, hd, hs, hrun, Result.andThen]
  exact hK _ (h.setCells 0 v (by omega)) (Out.setCells w b off v.length off _ (Nat.le_refl _) (by simp))

theorem wpList_copy_reg {w : World} {ops : Array Oper} {rest : List Oper} {o : Oper} {a : Act} {Q : Exit → Act → World → Prop} (hgd : o.guard = none) (d s : Operand)
    (ho : o.op = .call { callee := .builtin .copy, args := #[d, s], argTypes := #[85, 9] }) (b off dLen dCap : Nat) (hd : a.eval d = .slice (some ⟨b, off, none⟩) dLen dCap) (l v : List Int) (hs : a.eval s = .string (strOfNums v))
    (h : Reg w b off l) (hv : IsB v) (hlen : v.length ≤ dLen) (hl : v.length ≤ l.length)
    (hK : ∀ w', Reg w' b off (spl l 0 v) → Out w w' b off v.length → wpList Try.prog ops Q rest (a.put o.dst (goInt v.length)) w') : wpList Try.prog ops Q (o :: rest) a w :=
  wpList_plain hgd fun _ hk => wp_copy_reg d s ho b off dLen dCap hd l v hs h hv hlen hl fun w' h1 h2 => hk _ _ (hK w' h1 h2)

theorem step_copy_reg {w : World} {ops : Array Oper} {o : Oper} {a : Act} {K : Act → World → Prop} {Q : Exit → Act → World → Prop} {E : Prop} (hgd : o.guard = none) (d s : Operand)
    (ho : o.op = .call { callee := .builtin .copy, args := #[d, s], argTypes := #[85, 9] }) (b off dLen dCap : Nat) (hd : a.eval d = .slice (some ⟨b, off, none⟩) dLen dCap) (l v : List Int) (hs : a.eval s = .string (strOfNums v))
    (h : Reg w b off l) (hv : IsB v) (hlen : v.length ≤ dLen) (hl : v.length ≤ l.length)
    (hK : ∀ w', Reg w' b off (spl l 0 v) → Out w w' b off v.length → K (a.put o.dst (goInt v.length)) w') : if Region.wanted o (yielded ops a.tmps) = true then Oper.wp Try.prog o a w K Q else E := by
  have hw : Region.wanted o (yielded ops a.tmps) = true := by simp [Region.wanted, hgd]
  rw [if_pos hw]
  exact wp_copy_reg d s ho b off dLen dCap hd l v hs h hv hlen hl hK

/-! ### strings.Clone -/
theorem own_heap {w : World} {base e g n c : Nat} {xs : List Value} (h : w.ownsRow base e 1 (.slice (some ⟨g, 0, none⟩) n c) n xs) : ∃ cur : Array Value, w.heap[g]? = some (.cells cur e (0, 0)) ∧ cur.size = c := by
  rcases h.2 with ⟨e, _⟩ | ⟨g', cap, cur, e, _, hg, _, _, hs, _⟩
  · cases e
  · cases e
    exact ⟨cur, hg, by omega⟩

theorem freeze_turn (w : World) (p : Addr) (n : Nat) {S : Nat → Prop} (hS : S p.block) : Turn w (w.freeze p n) S := by
  unfold World.freeze
  split
  · exact Turn.refl _ _
  · exact ⟨rfl, rfl, rfl, by simp, fun k _ hk => by
      have hne : k ≠ p.block := fun e => hk (by rw [e]; exact hS)
      simp [Array.getElem?_modify, Ne.symm hne]⟩

end Go.Proofs.Ytkinmcnmdfpjbaa.Dv
