/-
  copy(dst, s), the string s longer than dst; a bit of a mask.
-/
import Derived.Test.YtfojkglindpjjaaDoorMemMore
import Derived.Deep.RegionLaw
namespace Go.Proofs.YtfojkglindpjjaaDoor.Cp
open Go.RowKit Bs Dv

theorem mask_rem (mask k : Nat) : ((mask : Int) / 2 ^ k).tmod 2 = ((mask / 2 ^ k % 2 : Nat) : Int) := by
  have e : (mask : Int) / 2 ^ k = ((mask / 2 ^ k : Nat) : Int) := by rw [Int.natCast_ediv, Int.natCast_pow]; rfl
  rw [e, Int.tmod_eq_emod_of_nonneg (Int.natCast_nonneg _)]
  rfl
theorem run_copy_long (w : World) (ty : TypeId) (b o dLen dCap : Nat) (l v : List Int) (h : Reg w b o l) (hv : IsB v) (hlen : dLen ≤ v.length) (hl : dLen ≤ l.length) :
    (Builtin.copy_ #[48, 9] ty #[.slice (some ⟨b, o, none⟩) dLen dCap, .string (strOfNums v)]).run Tryd.prog w = .ok (goInt dLen) (w.setCells b o ((v.take dLen).map (Value.int .u8))) := by
  have hmin : Nat.min (strOfNums v).size dLen = dLen := Nat.min_eq_right (by rw [strOfNums_size]; exact hlen)
  have hlt : (v.take dLen).length = dLen := by rw [List.length_take]; omega
  have hst := run_storeCells_cells (P := Tryd.prog) b o ((v.take dLen).map (Value.int .u8)) 0 w
    (by rw [List.length_map, hlt]; intro j hj; rw [Nat.add_zero, (h.at_ j (by omega)).1]; rfl)
    (by rw [List.length_map, hlt]; intro j hj; rw [Nat.add_zero]; exact (h.at_ j (by omega)).2) (by
    intro v hv
    obtain ⟨x, _, rfl⟩ := List.mem_map.1 hv
    rfl)
  have hd : List.take dLen ((strOfNums v).data.toList.map fun x => Value.int .u8 (x.toNat : Int)) = (v.take dLen).map (Value.int .u8) := by
    rw [str_data v hv, List.map_take]
  simp [Builtin.copy_, run_underlying Tryd.underlying48, Builtin.lenOf, Builtin.firstCells, hmin]
  rw [hd, hst, ← List.map_take]
  rfl
theorem step_copy_long {w : World} {ops : Array Oper} {o : Oper} {a : Act} {K : Act → World → Prop} {Q : Exit → Act → World → Prop} {E : Prop} (hgd : o.guard = none) (d s : Operand)
    (ho : o.op = .call { callee := .builtin .copy, args := #[d, s], argTypes := #[48, 9] }) (b off dLen dCap : Nat) (hd : a.eval d = .slice (some ⟨b, off, none⟩) dLen dCap) (l v : List Int) (hs : a.eval s = .string (strOfNums v))
    (h : Reg w b off l) (hv : IsB v) (hlen : dLen ≤ v.length) (hl : dLen ≤ l.length)
    (hK : ∀ w', Reg w' b off (spl l 0 (v.take dLen)) → Out w w' b off dLen → K (a.put o.dst (goInt dLen)) w') : if Region.wanted o (yielded ops a.tmps) = true then Oper.wp Tryd.prog o a w K Q else E := by
  have hw : Region.wanted o (yielded ops a.tmps) = true := by simp [Region.wanted, hgd]
  rw [if_pos hw]
  have hrun := run_copy_long w o.type b off dLen dCap l v h hv hlen hl
  have hlt : (v.take dLen).length = dLen := by rw [List.length_take]; omega
  unfold Oper.wp
  simp [execOp, ho, resolve, invoke, builtin, hd, hs, hrun, Result.andThen]
  have h5 := h.setCells 0 (v.take dLen) (by omega)
  have h6 := Out.setCells w b off dLen off ((v.take dLen).map (Value.int .u8)) (Nat.le_refl _) (by rw [List.length_map, hlt]; omega)
  rw [Nat.add_zero] at h5
  rw [List.map_take] at h5 h6
  exact hK _ h5 h6
end Go.Proofs.YtfojkglindpjjaaDoor.Cp
