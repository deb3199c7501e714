/-
  The document's device: Flush.
-/
import Derived.Test.YtjhcjnalomdbnaaDoorDevRef4
import Derived.BigRegion
namespace Go.Proofs.YtjhcjnalomdbnaaDoor.Dv
open Go.RowKit Bs

/-- One durable block is stored anew. -/
theorem Ref.relay {w : World} {g d dc : Nat} {P : Value} {s : St} (h : Ref w g (.slice (some ⟨d, 0, none⟩) s.blocks dc) P s) (k : Nat) (l : List Int) (hl : l.length = s.size) (hB : IsB l) :
    Ref (w.setCell ⟨d, k, none⟩ (.string (strOfNums l))) g (.slice (some ⟨d, 0, none⟩) s.blocks dc) P { s with dur := s.dur.set k l } ∧ Turn w (w.setCell ⟨d, k, none⟩ (.string (strOfNums l))) (· = d) := by
  have t : Turn w (w.setCell ⟨d, k, none⟩ (.string (strOfNums l))) (· = d) := Turn.setCell _ _ _ rfl
  have hdg : d ≠ g := fun e => h.dg (by rw [← e]; rfl)
  refine ⟨⟨⟨h.ok.lo, h.ok.hi, h.ok.by64, h.ok.blo, h.ok.bhi, by show (s.dur.set k l).length = s.blocks; rw [List.length_set]; exact h.ok.dlen, isD_set h.ok.dblk k hl hB, h.ok.pblk, h.ok.flo, h.ok.fhi, h.ok.few, h.ok.olo⟩, ?_, ?_, ?_, h.dg, h.pg, h.dp⟩, t⟩
  · rw [t.block g (Array.getElem?_eq_some_iff.1 h.box).1 (fun e => hdg e.symm)]
    exact h.box
  · have := (h.dur.stored k (.string (strOfNums l))).1
    have e : (srow s.dur).set k (.string (strOfNums l)) = srow (s.dur.set k l) := by simp [srow, List.map_set]
    rw [e] at this
    exact this
  · exact own_turn h.row t (fun i hi e => h.dp d rfl (by rw [hi, e]))

/-- The pending row is let go. -/
theorem rflush_end {g : Nat} {D P : Value} {s : St} {w w1 w2 : World} (h1 : Ref w2 g D P (s.burn.mid s.pend.length)) (h0 : ¬ s.fuse = 0) (ho : s.ops < 1000000) (hok : s.Ok) (t1 : Turn w w1 (· = g)) (t2 : Turn w1 w2 (fpR g D P)) :
    RWrote g D P s.flush w (.returned (.int .i64 0)) (w2.setCell ⟨g, 3, none⟩ (.slice none 0 0)) := by
  have hfl : s.flush = (0, { s.burn with dur := laid s.dur s.pend, pend := [] }) := by unfold St.flush; rw [if_neg h0]
  have ok := hok.flush ho
  rw [hfl] at ok ⊢
  have t3 : Turn w2 (w2.setCell ⟨g, 3, none⟩ (.slice none 0 0)) (· = g) := Turn.setCell _ _ _ rfl
  have hd : (s.burn.mid s.pend.length).dur = laid s.dur s.pend := by
    show laid s.dur (s.pend.take s.pend.length) = _
    rw [List.take_length]
  refine ⟨.slice none 0 0, rfl, ⟨ok, ?_, ?_, World.ownsRow_nil _ _ _ _, h1.dg, by simp [Value.ownBlock], fun _ _ => by simp [Value.ownBlock]⟩, ((t1.mono (fun _ _ e => .inl e)).trans t2 (fun _ _ e => e)).trans t3 (fun _ _ e => .inl e), ?_⟩
  · rw [heap_set h1.box]
    rfl
  · have := own_turn h1.dur t3 (fun i hi e => h1.dg (by rw [hi, e]))
    rw [hd] at this
    exact this
  · rintro k (e | e | e)
    · exact .inl (.inl e)
    · exact .inl (.inr (.inl e))
    · simp [Value.ownBlock] at e

set_option maxRecDepth 100000 in
set_option maxHeartbeats 2000000 in
theorem rflush_any (g : Nat) (D P : Value) (s : St) (w : World) (h : Ref w g D P s) (ho : s.ops < 1000000) :
    Calls Tryd.prog 30 #[.pointer (some ⟨g, 0, none⟩)] w (RWrote g D P s.flush w) := by
  by_cases h0 : s.fuse = 0
  · have HN := Lib.hid (rburn_no g D P s w h h0)
    have HS : Hid (RWrote g D P s.flush w (.returned (.int .i64 8)) w) := Lib.hid (by unfold St.flush; rw [if_pos h0]; exact RWrote.same h)
    clear h h0
    go_enter Tryd.func30, Tryd.ntmps30
    go_wp2_with fail
    refine HN.out.mono ?_
    rintro e w' ⟨rfl, rfl⟩
    go_wp2
    go_ret
    exact HS.out
  · have HY := Lib.hid (rburn_yes g D P s w h h0 ho)
    have HO := Lib.hid h.ok
    have hfew := h.ok.few
    have HFE := Lib.hid (fun w1 w2 h1 t1 t2 => rflush_end (g := g) (D := D) (P := P) (w := w) (w1 := w1) (w2 := w2) h1 h0 ho h.ok t1 t2)
    have hblo := h.ok.blo
    obtain ⟨pa, pc, rfl, _, _, _, _⟩ := own_form h.row
    obtain ⟨da, dc, rfl, _, _, _, _⟩ := own_form h.dur
    obtain ⟨db, rfl⟩ := own_some h.dur (by omega)
    obtain ⟨n, hn⟩ : ∃ n, n = s.pend.length := ⟨_, rfl⟩
    have HN := Lib.hid hn
    rw [← hn] at hfew HY HFE
    clear h h0
    go_enter Tryd.func30, Tryd.ntmps30
    go_wp2_with fail
    rw [← hn]
    refine HY.out.mono ?_
    rintro e w1 ⟨rfl, hd1, ht1⟩
    have HD1 := Lib.hid hd1
    have HT1 := Lib.hid ht1
    clear hd1 ht1 hn
    go_wp2
    go_loopw [3] (fun si wr => ∃ k : Nat, k ≤ n ∧ si = .int .i64 (k : Int) ∧ Hid (Ref wr g (.slice (some ⟨db, 0, none⟩) s.blocks dc) (.slice pa n pc) (s.burn.mid k)) ∧ Hid (Turn w1 wr (fpR g (.slice (some ⟨db, 0, none⟩) s.blocks dc) (.slice pa n pc)))) (fun si _ => n - (intOf si).toNat)
    case atStart => exact ⟨0, Nat.zero_le _, rfl, by rw [St.mid_zero]; exact HD1.out, Turn.refl _ _⟩
    case round =>
      obtain ⟨k, hk, rfl, HR, HQ⟩ := hrel
      have c1 : wr.cell? ⟨g, 1, none⟩ = some (.int .i64 (s.blocks : Int)) := HR.out.cells.2.1
      have c2 : wr.cell? ⟨g, 2, none⟩ = some (.slice (some ⟨db, 0, none⟩) s.blocks dc) := HR.out.cells.2.2.1
      have c3 : wr.cell? ⟨g, 3, none⟩ = some (.slice pa n pc) := HR.out.cells.2.2.2.1
      have f3 := HR.out.free 3
      by_cases hlt : k < n
      · have hks : k < s.pend.length := by have := HN.out; omega
        have hrow : wr.ownsRow 0 66 2 (.slice pa n pc) n (wrow s.pend) := by have := HR.out.row; rw [show (s.burn.mid k).pend = s.pend from rfl, ← HN.out] at this; exact this
        obtain ⟨p, rfl⟩ := own_some hrow (by omega)
        have hq : s.pend.getD k (0, []) = s.pend[k] := by simp [List.getD, hks]
        obtain ⟨⟨x1, x2⟩, hqq⟩ : ∃ q : Nat × List Int, s.pend.getD k (0, []) = q := ⟨_, rfl⟩
        have hpb := HO.out.pblk _ (List.getElem_mem hks)
        rw [← hq, hqq] at hpb
        obtain ⟨b1, b2, b3⟩ := hpb
        have hat := wrow_at s.pend k hks
        rw [hqq, Nat.mul_comm] at hat
        have r0 : wr.cell? ⟨p, k * 2, none⟩ = some (.int .i64 (x1 : Int)) := by
          have := hrow.cells (g := p) rfl (k * 2) _ hat.1
          rwa [Addr.add_lit, Nat.zero_add] at this
        have r1 : wr.cell? ⟨p, k * 2 + 1, none⟩ = some (.string (strOfNums x2)) := by
          have := hrow.cells (g := p) rfl (k * 2 + 1) _ hat.2
          rwa [Addr.add_lit, Nat.zero_add] at this
        have hms := St.mid_succ s.burn k hks
        rw [show s.burn.pend.getD k (0, []) = (x1, x2) from hqq] at hms
        have HMS := Lib.hid hms
        have hdur : wr.ownsRow 0 9 1 (.slice (some ⟨db, 0, none⟩) s.blocks dc) s.blocks (srow (s.burn.mid k).dur) := HR.out.dur
        have o0 : wr.cell? ⟨db, x1, none⟩ = some (.string (strOfNums ((s.burn.mid k).dur.getD x1 []))) := by
          have := hdur.cells (g := db) rfl x1 _ (srow_at _ x1 (by rw [HR.out.ok.dlen]; exact b1))
          rwa [Addr.add_lit, Nat.zero_add] at this
        have fo := hdur.frozenAt x1
        have HRL := Lib.hid (fun m => Ref.relay (s := s.burn.mid k) (HR.out.turn (Turn.drewN wr m nowhere) (fun _ _ => id)) x1 x2 b2 b3)
        obtain ⟨T, hT⟩ : ∃ T, T = strOfNums x2 := ⟨_, rfl⟩
        rw [← hT] at r1 HRL
        obtain ⟨T0, hT0⟩ : ∃ T0, T0 = strOfNums ((s.burn.mid k).dur.getD x1 []) := ⟨_, rfl⟩
        rw [← hT0] at o0
        have p0 : (0 : Int) ≤ (k : Int) := by omega
        have p1 : (k : Int) < (n : Int) := by omega
        have p2 : (0 : Int) ≤ (x1 : Int) := by omega
        have p3 : (x1 : Int) < (s.blocks : Int) := by omega
        clear hks hrow hq hqq b1 b2 b3 hat hms hdur hT hT0
        go_wp2
        go_region
        all_goals
          go_wp2
          refine ⟨⟨k + 1, by omega, by go_num, Lib.hid ?_, Lib.hid ?_⟩, by simp [intOf]; omega⟩
          · rw [HMS.out]
            exact (HRL.out 1).1
          · exact (HQ.out.trans (Turn.drewN wr 1 nowhere) (fun _ _ e => e.elim)).trans (HRL.out 1).2 (fun i _ e => .inr (.inl (by rw [e]; rfl)))
      · obtain rfl : k = n := by omega
        have hd := HR.out
        have HF := Lib.hid (HFE.out w1 wr hd HT1.out HQ.out)
        clear hd
        go_wp2
        go_ret
        rw [← HN.out]
        exact HF.out
end Go.Proofs.YtjhcjnalomdbnaaDoor.Dv
