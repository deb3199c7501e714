/-
  The document's device: Write.
-/
import Derived.Test.YtjhcjnalomdbnaaDoorDevRef2
import Derived.Test.YtjhcjnalomdbnaaDoorDevLast
namespace Go.Proofs.YtjhcjnalomdbnaaDoor.Dv
open Go.RowKit Bs

def RWrote (g : Nat) (D P : Value) (r : Int × St) (w : World) (e : Ending) (w' : World) : Prop :=
  ∃ P', e = .returned (.int .i64 r.1) ∧ Ref w' g D P' r.2 ∧ Turn w w' (fpR g D P) ∧ ∀ k, fpR g D P' k → fpR g D P k ∨ w.heap.size ≤ k
theorem RWrote.same {g : Nat} {D P : Value} {s : St} {w : World} {x : Int} (h : Ref w g D P s) : RWrote g D P (x, s) w (.returned (.int .i64 x)) w := ⟨P, rfl, h, Turn.refl _ _, fun _ h => .inl h⟩

theorem rwrote_more {w w1 w3 : World} {g : Nat} {D P v' : Value} {s : St} {q : Nat × List Int} {O : Obj} (h0 : Ref w g D P s) (h : Ref w1 g D P s.burn) (t1 : Turn w w1 (· = g)) (hown : w3.ownsRow 0 66 2 v' (s.pend.length + 1) (wrow s.pend ++ wcells q))
    (hgrow : (w1.alloc O).grownBy w3 P.ownBlock) (hat : v'.ownBlock = P.ownBlock ∨ v'.ownBlock = some (w1.alloc O).heap.size) (ok : ({ s.burn with pend := s.pend ++ [q] } : St).Ok) :
    RWrote g D P (0, { s.burn with pend := s.pend ++ [q] }) w (.returned (.int .i64 0)) (w3.setCell ⟨g, 3, none⟩ v') := by
  have hlt := h.lt
  have hlt0 := h0.lt
  have hgl := hlt g (.inl rfl)
  have ta : Turn w1 (w1.alloc O) nowhere := Turn.alloc _ _ _
  have tg : Turn (w1.alloc O) w3 (fun i => P.ownBlock = some i) := Turn.of_grown hgrow (fun i hi _ => hi)
  have ts : Turn w3 (w3.setCell ⟨g, 3, none⟩ v') (· = g) := Turn.setCell _ _ _ rfl
  have tall : Turn w1 (w3.setCell ⟨g, 3, none⟩ v') (fun i => i = g ∨ P.ownBlock = some i) := ((ta.mono (S' := fun i => i = g ∨ P.ownBlock = some i) (fun _ _ e => e.elim)).trans tg (fun i _ e => .inr e)).trans ts (fun i _ e => .inl e)
  have hsz : (w1.alloc O).heap.size = w1.heap.size + 1 := by simp
  have hbox : w3.heap[g]? = w1.heap[g]? := (tg.block g (by omega) h.pg).trans (ta.block g hgl id)
  have hvg : v'.ownBlock ≠ some g := fun e => by
    rcases hat with h1 | h1
    · exact h.pg (by rw [← h1, e])
    · rw [e] at h1; injection h1 with h1; omega
  refine ⟨v', rfl, ⟨ok, ?_, ?_, ?_, h.dg, hvg, fun i hi e => ?_⟩, ?_, fun k hk => ?_⟩
  · rw [heap_set (hbox.trans h.box)]
    rfl
  · exact own_turn h.dur tall (fun i hi e => by
      rcases e with e | e
      · exact h.dg (by rw [hi, e])
      · exact h.dp i hi e)
  · have := own_turn hown ts (fun i hi e => hvg (by rw [hi, e]))
    show (w3.setCell ⟨g, 3, none⟩ v').ownsRow 0 66 2 v' (s.pend ++ [q]).length (wrow (s.pend ++ [q]))
    rw [wrow_snoc, List.length_append, List.length_singleton]
    exact this
  · rcases hat with h1 | h1
    · exact h.dp i hi (by rw [← h1, e])
    · rw [e] at h1; injection h1 with h1
      have := hlt i (.inr (.inl hi))
      omega
  · exact (t1.mono (S' := fpR g D P) (fun i _ e => .inl e)).trans tall (fun i _ e => e.elim .inl (fun h => .inr (.inr h)))
  · rcases hk with rfl | hk | hk
    · exact .inl (.inl rfl)
    · exact .inl (.inr (.inl hk))
    · rcases hat with h1 | h1
      · exact .inl (.inr (.inr (by rw [← h1, hk])))
      · rw [hk] at h1; injection h1 with h1
        have := t1.size
        exact .inr (by omega)

set_option maxRecDepth 100000 in
set_option maxHeartbeats 2000000 in
theorem rwrite_any (g : Nat) (D P : Value) (s : St) (block : Int) (l : List Int) (w : World) (h : Ref w g D P s) (hl : IsB l) (hp : s.pend.length < 1000000) (ho : s.ops < 1000000) :
    Calls Tryd.prog 28 #[.pointer (some ⟨g, 0, none⟩), .int .i64 block, .string (strOfNums l)] w (RWrote g D P (s.write block l) w) := by
  obtain ⟨q0, q1, q2, q3, q4, q5⟩ := h.cells
  obtain ⟨T, hT⟩ : ∃ T, T = strOfNums l := ⟨_, rfl⟩
  have hsz : T.size = l.length := by rw [hT, strOfNums_size]
  rw [← hT]
  by_cases h1 : block < 0
  · have HS := Lib.hid (RWrote.same (x := 2) h)
    have HE : Hid (s.write block l = (2, s)) := Lib.hid (by unfold St.write; rw [if_pos (by simp [St.hasB]; omega)])
    rw [HE.out]
    clear h hT hsz
    go_enter Tryd.func28, Tryd.ntmps28
    go_wp2
    go_ret
    exact HS.out
  · by_cases h2 : (s.blocks : Int) ≤ block
    · have HS := Lib.hid (RWrote.same (x := 2) h)
      have HE : Hid (s.write block l = (2, s)) := Lib.hid (by unfold St.write; rw [if_pos (by simp [St.hasB]; omega)])
      rw [HE.out]
      clear h hT hsz
      go_enter Tryd.func28, Tryd.ntmps28
      go_wp2
      go_ret
      exact HS.out
    · by_cases h3 : l.length = s.size
      · have hb : s.hasB block := by unfold St.hasB; omega
        have e3 : ((T.size : Int) != (s.size : Int)) = false := by rw [hsz, h3]; simp
        by_cases h4 : s.fuse = 0
        · have HS := Lib.hid (RWrote.same (x := 8) h)
          have HE : Hid (s.write block l = (8, s)) := Lib.hid (by unfold St.write; rw [if_neg (by simp [hb, h3]), if_pos h4])
          have HN := Lib.hid (rburn_no g D P s w h h4)
          rw [HE.out]
          clear h hT hsz h3 h4 hb
          go_enter Tryd.func28, Tryd.ntmps28
          go_wp2_with fail
          refine HN.out.mono ?_
          rintro e w' ⟨rfl, rfl⟩
          go_wp2
          go_ret
          exact HS.out
        · have hwr : s.write block l = (0, { s.burn with pend := s.pend ++ [(block.toNat, l)] }) := by unfold St.write; rw [if_neg (by simp [hb, h3]), if_neg h4]
          have HE := Lib.hid hwr
          have HY := Lib.hid (rburn_yes g D P s w h h4 ho)
          have HOK : Hid ({ s.burn with pend := s.pend ++ [(block.toNat, l)] } : St).Ok := Lib.hid (by have := h.ok.write block l hl hp ho; rw [hwr] at this; exact this)
          rw [HE.out]
          have HH := Lib.hid h
          have HW : Hid (wcells (block.toNat, l) = [.int .i64 block, .string T]) := Lib.hid (by unfold wcells; rw [hT]; simp only [show ((block.toNat : Nat) : Int) = block from by omega])
          obtain ⟨i0, hi, hz0, hz1, hz2⟩ := info_parts info_write
          clear h hT hsz hwr h3 h4 hb
          go_enter Tryd.func28, Tryd.ntmps28
          go_wp2_with fail
          refine HY.out.mono ?_
          rintro e w1 ⟨rfl, hd1, ht1⟩
          have p3 : w1.cell? ⟨g, 3, none⟩ = some P := hd1.cells.2.2.2.1
          have f3 := hd1.free 3
          have hgl := hd1.lt g (.inl rfl)
          have HD1 := Lib.hid hd1
          have HT1 := Lib.hid ht1
          clear hd1 ht1
          go_wp2_with (first
            | (at_builtin
               refine wpList_append_own_at _ rfl (.tmp 35) (.tmp 39) 45 rfl 0 66 i0 (.agg #[.int .i64 0, .string ⟨#[]⟩]) 2 24 Tryd.underlying45 hi hz0 hz1 hz2 rfl (by omega) P s.pend.length (wrow s.pend) (by rfl) (own_turnB HD1.out.row (Turn.alloc w1 (.cells #[.int .i64 block, .string T] 66) nowhere) (fun _ _ => id)) ⟨w1.heap.size, 0, none⟩ 1 1 [.int .i64 block, .string T] (by rfl) rfl (by intro j u hu; rw [Addr.add_lit, cell_of_row _ _ _ _ _ _ (heap_alloc_new _ _), Nat.zero_add]; simpa using hu) (by simp [Value.oneCell']) (by unfold maxLen; omega) (by omega) (Nat.zero_le _) ?_
               intro v' w3 hown hgrow hnil hat
               obtain ⟨va, vc, rfl, _, _, _, _⟩ := own_form hown
               have hgp : some g ≠ P.ownBlock := fun e => HD1.out.pg e.symm
               have p3c : w3.cell? ⟨g, 3, none⟩ = some P := hgrow.cell ((Turn.alloc w1 _ nowhere).cell p3 id) hgp
               have f3c : w3.frozen? ⟨g, 3, none⟩ = false := by
                 rw [World.frozen?_of_block (hgrow.block g (by rw [World.size_alloc]; omega) hgp), (Turn.alloc w1 _ nowhere).frozen (p := ⟨g, 3, none⟩) hgl id]
                 exact f3
               rw [← HW.out] at hown
               have HF := Lib.hid (rwrote_more HH.out HD1.out HT1.out hown hgrow hat HOK.out)
               clear hown hgrow hnil hat hgp)
            | fail)
          go_wp2
          go_ret
          exact HF.out
      · have HS := Lib.hid (RWrote.same (x := 2) h)
        have HE : Hid (s.write block l = (2, s)) := Lib.hid (by unfold St.write; rw [if_pos (by simp [h3])])
        have e3 : ((T.size : Int) != (s.size : Int)) = true := bne_iff_ne.2 (by omega)
        rw [HE.out]
        clear h hT hsz h3
        go_enter Tryd.func28, Tryd.ntmps28
        go_wp2
        go_ret
        exact HS.out
end Go.Proofs.YtjhcjnalomdbnaaDoor.Dv
