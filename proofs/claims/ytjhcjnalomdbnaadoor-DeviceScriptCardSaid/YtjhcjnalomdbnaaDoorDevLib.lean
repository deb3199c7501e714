/-
  What the device calls of the library, and the statements' helpers on strings: strings.Clone, bytes.Clone, slices.Clone, Times, full, small, LightGeo, bytes of an act; copies of a string into a region.
-/
import Derived.Test.YtjhcjnalomdbnaaDoorDevBase
import Derived.Test.YtjhcjnalomdbnaaDoorKitPick
import Derived.Laws.CopyOwn
import Derived.Deep.RegionLaw
import Derived.Deep.RegionHeld3
import Derived.StillTailTactics
namespace Go.Proofs.YtjhcjnalomdbnaaDoor.Dv
open Go.RowKit Bs

/-! ### copy(dst, string) into a region -/
theorem size_u8 (w : World) : (Go.sizeOf 5).run Tryd.prog w = .ok 1 w := by
  obtain ⟨i0, hi, _, hz1, _⟩ := info_parts info_u8
  simp [Go.sizeOf, typeInfo, hi, hz1]

theorem run_copy_reg (w : World) (ty : TypeId) (b o dLen dCap : Nat) (l v : List Int) (h : Reg w b o l) (hv : IsB v) (hlen : v.length ≤ dLen) (hl : v.length ≤ l.length) :
    (Builtin.copy_ #[68, 9] ty #[.slice (some ⟨b, o, none⟩) dLen dCap, .string (strOfNums v)]).run Tryd.prog w = .ok (goInt v.length) (w.setCells b o (v.map (Value.int .u8))) := by
  have h1 := run_copy_string (P := Tryd.prog) w 68 9 ty 5 b o dLen dCap (strOfNums v) Tryd.underlying68 size_u8 (by rw [strOfNums_size]; exact hlen)
    (fun j hj => by rw [strOfNums_size] at hj; rw [(h.at_ j (by omega)).1]; rfl) (fun j hj => by rw [strOfNums_size] at hj; exact (h.at_ j (by omega)).2)
  rw [str_data v hv, strOfNums_size] at h1
  exact h1

theorem wp_copy_reg {w : World} {o : Oper} {a : Act} {K : Act → World → Prop} {Q : Exit → Act → World → Prop} (d s : Operand)
    (ho : o.op = .call { callee := .builtin .copy, args := #[d, s], argTypes := #[68, 9] }) (b off dLen dCap : Nat) (hd : a.eval d = .slice (some ⟨b, off, none⟩) dLen dCap) (l v : List Int) (hs : a.eval s = .string (strOfNums v))
    (h : Reg w b off l) (hv : IsB v) (hlen : v.length ≤ dLen) (hl : v.length ≤ l.length)
    (hK : ∀ w', Reg w' b off (spl l 0 v) → Out w w' b off v.length → K (a.put o.dst (goInt v.length)) w') : o.wp Tryd.prog a w K Q := by
  have hrun := run_copy_reg w o.type b off dLen dCap l v h hv hlen hl
  unfold Oper.wp
  simp [execOp, ho, resolve, invoke, builtin, hd, hs, hrun, Result.andThen]
  exact hK _ (h.setCells 0 v (by omega)) (Out.setCells w b off v.length off _ (Nat.le_refl _) (by simp))

theorem wpList_copy_reg {w : World} {ops : Array Oper} {rest : List Oper} {o : Oper} {a : Act} {Q : Exit → Act → World → Prop} (hgd : o.guard = none) (d s : Operand)
    (ho : o.op = .call { callee := .builtin .copy, args := #[d, s], argTypes := #[68, 9] }) (b off dLen dCap : Nat) (hd : a.eval d = .slice (some ⟨b, off, none⟩) dLen dCap) (l v : List Int) (hs : a.eval s = .string (strOfNums v))
    (h : Reg w b off l) (hv : IsB v) (hlen : v.length ≤ dLen) (hl : v.length ≤ l.length)
    (hK : ∀ w', Reg w' b off (spl l 0 v) → Out w w' b off v.length → wpList Tryd.prog ops Q rest (a.put o.dst (goInt v.length)) w') : wpList Tryd.prog ops Q (o :: rest) a w :=
  wpList_plain hgd fun _ hk => wp_copy_reg d s ho b off dLen dCap hd l v hs h hv hlen hl fun w' h1 h2 => hk _ _ (hK w' h1 h2)

theorem step_copy_reg {w : World} {ops : Array Oper} {o : Oper} {a : Act} {K : Act → World → Prop} {Q : Exit → Act → World → Prop} {E : Prop} (hgd : o.guard = none) (d s : Operand)
    (ho : o.op = .call { callee := .builtin .copy, args := #[d, s], argTypes := #[68, 9] }) (b off dLen dCap : Nat) (hd : a.eval d = .slice (some ⟨b, off, none⟩) dLen dCap) (l v : List Int) (hs : a.eval s = .string (strOfNums v))
    (h : Reg w b off l) (hv : IsB v) (hlen : v.length ≤ dLen) (hl : v.length ≤ l.length)
    (hK : ∀ w', Reg w' b off (spl l 0 v) → Out w w' b off v.length → K (a.put o.dst (goInt v.length)) w') : if Region.wanted o (yielded ops a.tmps) = true then Oper.wp Tryd.prog o a w K Q else E := by
  have hw : Region.wanted o (yielded ops a.tmps) = true := by simp [Region.wanted, hgd]
  rw [if_pos hw]
  exact wp_copy_reg d s ho b off dLen dCap hd l v hs h hv hlen hl hK

/-! ### strings.Clone -/
theorem own_heap {w : World} {base e g n c : Nat} {xs : List Value} (h : w.ownsRow base e 1 (.slice (some ⟨g, 0, none⟩) n c) n xs) : ∃ cur : Array Value, w.heap[g]? = some (.cells cur e (0, 0)) ∧ cur.size = c := by
  rcases h.2 with ⟨e, _⟩ | ⟨g', cap, cur, e, _, hg, _, _, hs, _⟩
  · cases e
  · cases e
    exact ⟨cur, hg, by omega⟩

theorem freeze_turn (w : World) (p : Addr) (n : Nat) {S : Nat → Prop} (hS : S p.block) : Turn w (w.freeze p n) S := by
  unfold World.freeze
  split
  · exact Turn.refl _ _
  · exact ⟨rfl, rfl, rfl, by simp, fun k _ hk => by
      have hne : k ≠ p.block := fun e => hk (by rw [e]; exact hS)
      simp [Array.getElem?_modify, Ne.symm hne]⟩

set_option maxRecDepth 100000 in
set_option maxHeartbeats 1000000 in
theorem sclone_any (s : ByteArray) (w : World) (hs : s.size ≤ 140737488355328) :
    Calls Tryd.prog 54 #[.string s] w fun e w' => e = .returned (.string s) ∧ Turn w w' nowhere := by
  by_cases h0 : s.size = 0
  · have e : s = ⟨#[]⟩ := ByteArray.ext (Array.eq_empty_of_size_eq_zero h0)
    subst e
    clear h0
    go_enter Tryd.func54, Tryd.ntmps54
    go_wp2
    go_ret
    exact ⟨rfl, Turn.refl _ _⟩
  · obtain ⟨i0, hi, hz0, hz1, hz2⟩ := info_parts info_u8
    have hinfo : (Tryd.prog.info? 5).map (·.size) = some 1 := by rw [hi]; simp [hz1]
    have hco : Tryd.prog.cellsOf 5 = 1 := by kernel_rfl
    have hne : s.data.toList ≠ [] := fun e => h0 (by rw [Lib.size_eq, e]; rfl)
    have hsz := Lib.size_eq s
    have e1 : ((s.size : Int) == 0) = false := beq_eq_false_iff_ne.2 (by omega)
    have e2 : 0 < s.size := by omega
    have HEQ : Hid ((⟨s.data.toList.toArray⟩ : ByteArray) = s) := Lib.hid (by apply ByteArray.ext; simp)
    have HSZ := Lib.hid hsz
    have HNE := Lib.hid hne
    clear hsz hne h0
    go_enter Tryd.func54, Tryd.ntmps54
    go_wp2_with (first
      | (refine wpList_make_full _ rfl _ _ 68 rfl w.heap.size 5 i0 (.int .u8 0) 1 Tryd.underlying68 hi hz0 hz1 _ _ _ _ s.size rfl rfl rfl rfl (by rw [hz2]; omega) (by unfold maxLen; omega) (Nat.le_refl _) ?_
         intro w0 hown0 hgrow0
         obtain ⟨cur, hg, hcs⟩ := own_heap hown0
         have hcp := Lib.run_copy_row_string (P := Tryd.prog) w0 68 9 3 5 w.heap.size 0 s.size s.size s cur 5 Tryd.underlying68 hinfo hg (Nat.le_refl _) (by omega)
         obtain ⟨Y, hY⟩ : ∃ Y, Y = (cur.toList.take 0 ++ Lib.byteCells s.data.toList ++ cur.toList.drop (0 + s.size)).toArray := ⟨_, rfl⟩
         rw [← hY] at hcp
         have hYl : Y.toList = Lib.byteCells s.data.toList := by
           rw [hY, List.toList_toArray, List.take_zero, List.nil_append, List.drop_of_length_le (by rw [Array.length_toList]; omega), List.append_nil]
         have hYs : Y.size = s.size := by rw [← Array.length_toList, hYl, Lib.byteCells_length, ← HSZ.out]
         have hgY := setRow_heap w0 w.heap.size cur Y 5 (0, 0) hg
         have hUS := Lib.run_unsafeString_row (P := Tryd.prog) (w0.setRow w.heap.size Y) 91 3 9 5 Tryd.underlying91 hco w.heap.size Y.size (by unfold World.shape?; rw [hgY]) s.data.toList HNE.out (by rw [← HSZ.out]; omega) (by rw [← HSZ.out]; omega)
           (fun j x hx => by
             rw [Addr.add_lit, cell_of_row _ _ _ _ _ _ hgY, ← Array.getElem?_toList, hYl]
             simp [Lib.byteCells, hx])
         rw [← HSZ.out, HEQ.out] at hUS
         have HT : Hid (Turn w ((w0.setRow w.heap.size Y).freeze ⟨w.heap.size, 0, none⟩ s.size) nowhere) := Lib.hid (by
           have t1 : Turn w w0 (fun k => w.heap.size ≤ k) := Turn.of_grown hgrow0 (fun i e => by cases e)
           have t2 : Turn w0 (w0.setRow w.heap.size Y) (fun k => w.heap.size ≤ k) := ⟨rfl, rfl, rfl, by simp, fun k _ hk => setRow_other _ _ _ _ (fun e => hk (by rw [e]; exact Nat.le_refl _))⟩
           have t3 := freeze_turn (w0.setRow w.heap.size Y) ⟨w.heap.size, 0, none⟩ s.size (S := fun k => w.heap.size ≤ k) (Nat.le_refl _)
           exact ((t1.trans t2 (fun _ _ h => h)).trans t3 (fun _ _ h => h)).mono (fun i hi h => by omega))
         clear hY hYl hg hgY hown0 hgrow0)
      | fail)
    go_ret
    exact ⟨rfl, HT.out⟩

set_option maxHeartbeats 400000 in
theorem clone_any (s : ByteArray) (w : World) (hs : s.size ≤ 140737488355328) :
    Calls Tryd.prog 42 #[.string s] w fun e w' => e = .returned (.string s) ∧ Turn w w' nowhere := by
  go_enter Tryd.func42, Tryd.ntmps42
  go_wp2_with fail
  refine (sclone_any s _ hs).mono ?_
  rintro e w1 ⟨rfl, ht⟩
  have HT := Lib.hid ht
  clear ht
  go_wp2
  go_ret
  exact ⟨rfl, HT.out⟩
end Go.Proofs.YtjhcjnalomdbnaaDoor.Dv
