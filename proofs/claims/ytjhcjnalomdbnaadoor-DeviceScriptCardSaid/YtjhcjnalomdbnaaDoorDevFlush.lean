/-
  The device: Flush; Read, told once.
-/
import Derived.Test.YtjhcjnalomdbnaaDoorDevRead
namespace Go.Proofs.YtjhcjnalomdbnaaDoor.Dv
open Go.RowKit Bs

theorem str_nil : strOfNums [] = ⟨#[]⟩ := rfl

theorem read_any (g b : Nat) (P : Value) (s : St) (block : Int) (w : World) (h : Dev w g b P s) :
    Calls Tryd.prog 16 #[.pointer (some ⟨g, 0, none⟩), .int .i64 block] w fun e w' => e = .returned (.tuple #[.string (strOfNums (s.read block).1), .int .i64 (s.read block).2]) ∧ Turn w w' nowhere := by
  by_cases hb : s.hasB block
  · have hb' := hb
    unfold St.hasB at hb'
    obtain ⟨k, rfl⟩ := Int.eq_ofNat_of_zero_le hb'.1
    unfold St.read
    rw [if_pos hb]
    have := read_yes g b P s k w h (by omega)
    rw [Int.toNat_natCast]
    exact this
  · unfold St.read
    rw [if_neg hb]
    exact read_no g b P s block w h hb

theorem St.Ok.read {s : St} (h : s.Ok) (block : Int) : IsB (s.read block).1 := by
  unfold St.read
  split
  · rename_i hb
    unfold St.hasB at hb
    exact (h.last (by omega)).2
  · exact isB_nil

theorem spl_full (l v : List Int) (h : v.length = l.length) : spl l 0 v = v := by
  unfold spl
  rw [List.take_zero, List.nil_append, Nat.zero_add, List.drop_eq_nil_of_le (by omega), List.append_nil]

/-- One block's bytes are written anew. -/
theorem Dev.relay {w w' : World} {g b : Nat} {P : Value} {s : St} (h : Dev w g b P s) (k : Nat) (hk : k < s.blocks) (l : List Int) (hl : l.length = s.size) (hB : IsB l) (h1 : Reg w' b (k * s.size) l) (ho : Out w w' b (k * s.size) s.size) :
    Dev w' g b P { s with dur := s.dur.set k l } := by
  obtain ⟨c, hc, hm, hg⟩ := h.box
  have hlt := h.lt
  have lo := h.ok.lo
  refine ⟨⟨h.ok.lo, h.ok.hi, h.ok.by64, h.ok.blo, h.ok.bhi, by show (s.dur.set k l).length = s.blocks; rw [List.length_set]; exact h.ok.dlen, isD_set h.ok.dblk k hl hB, h.ok.pblk, h.ok.flo, h.ok.fhi, h.ok.few, h.ok.olo⟩, ⟨c, hc, hm, ?_⟩, ?_, ?_, h.gb, h.pg, h.pb⟩
  · rw [ho.turn.block g (hlt g (.inl rfl)) h.gb]
    exact hg
  · exact h.reg.reblock (n := s.size) (by omega) h.ok.dblk k (by rw [h.ok.dlen]; exact hk) l hl hB h1 ho
  · exact own_turn h.row ho.turn (fun i hi e => h.pb (by rw [hi, e]))

/-- The state when k of the pending writes are durable. -/
def St.mid (s : St) (k : Nat) : St := { s with dur := laid s.dur (s.pend.take k) }
theorem St.mid_zero (s : St) : s.mid 0 = s := by simp [St.mid, laid]
theorem St.mid_succ (s : St) (k : Nat) (hk : k < s.pend.length) : s.mid (k + 1) = { s.mid k with dur := (s.mid k).dur.set (s.pend.getD k (0, [])).1 (s.pend.getD k (0, [])).2 } := by
  have e : s.pend.getD k (0, []) = s.pend[k] := by simp [List.getD, hk]
  unfold St.mid
  rw [List.take_succ_eq_append_getElem hk, laid_snoc, e]

theorem flush_nil (w : World) : Calls Tryd.prog 17 #[.pointer none] w fun e w' => e = .returned (.int .i64 1) ∧ w = w' := by
  go_enter Tryd.func17, Tryd.ntmps17
  go_wp2_with (go_at_call 44; refine (valid_nil _).mono ?_; rintro e w' ⟨rfl, rfl⟩)
  go_ret
  exact ⟨rfl, rfl⟩

/-- The pending row is let go. -/
theorem flush_end {g b : Nat} {P : Value} {s : St} {w w1 w2 : World} (h1 : Dev w2 g b P (s.burn.mid s.pend.length)) (h0 : ¬ s.fuse = 0) (ho : s.ops < 1000000) (hok : s.Ok) (t1 : Turn w w1 (· = g)) (t2 : Turn w1 w2 (fp g b P)) :
    Wrote g b P s.flush w (.returned (.int .i64 0)) (w2.setCell ⟨g, 3, none⟩ (.slice none 0 0)) := by
  have hfl : s.flush = (0, { s.burn with dur := laid s.dur s.pend, pend := [] }) := by unfold St.flush; rw [if_neg h0]
  have ok := hok.flush ho
  rw [hfl] at ok ⊢
  have t3 : Turn w2 (w2.setCell ⟨g, 3, none⟩ (.slice none 0 0)) (· = g) := Turn.setCell _ _ _ rfl
  obtain ⟨c, hc, hm, hg⟩ := h1.box
  have hd : (s.burn.mid s.pend.length).dur = laid s.dur s.pend := by
    show laid s.dur (s.pend.take s.pend.length) = _
    rw [List.take_length]
  refine ⟨.slice none 0 0, rfl, ?_, ((t1.mono (fun _ _ e => .inl e)).trans t2 (fun _ _ e => e)).trans t3 (fun _ _ e => .inl e), ?_⟩
  · refine h1.rebox t3 hc hm ?_ ok rfl rfl hd.symm (World.ownsRow_nil _ _ _ _) (by simp [Value.ownBlock]) (by simp [Value.ownBlock])
    rw [heap_set hg]
    rfl
  · rintro k (e | e | e)
    · exact .inl (.inl e)
    · exact .inl (.inr (.inl e))
    · simp [Value.ownBlock] at e

set_option maxRecDepth 100000 in
set_option maxHeartbeats 2000000 in
theorem flush_any (g b : Nat) (P : Value) (s : St) (w : World) (h : Dev w g b P s) (ho : s.ops < 1000000) :
    Calls Tryd.prog 17 #[.pointer (some ⟨g, 0, none⟩)] w (Wrote g b P s.flush w) := by
  obtain ⟨c, hc, hm, q0, q1, q2, q3, q4, q5, q6⟩ := h.cells
  have HV := Lib.hid (valid_yes g w q6)
  by_cases h0 : s.fuse = 0
  · have HN := Lib.hid (burn_no g b P s w h h0)
    have HS : Hid (Wrote g b P s.flush w (.returned (.int .i64 8)) w) := Lib.hid (by unfold St.flush; rw [if_pos h0]; exact Wrote.same h)
    clear h h0
    go_enter Tryd.func17, Tryd.ntmps17
    go_wp2_with fail
    refine HV.out.mono ?_
    rintro e w' ⟨rfl, rfl⟩
    go_wp2_with fail
    refine HN.out.mono ?_
    rintro e w' ⟨rfl, rfl⟩
    go_wp2
    go_ret
    exact HS.out
  · have HY := Lib.hid (burn_yes g b P s w h h0 ho)
    have HO := Lib.hid h.ok
    have hfew := h.ok.few
    have HFE := Lib.hid (fun w1 w2 h1 t1 t2 => flush_end (g := g) (b := b) (P := P) (w := w) (w1 := w1) (w2 := w2) h1 h0 ho h.ok t1 t2)
    have HPL := Lib.hid h.row
    rcases h.row.2 with ⟨rfl, hn0⟩ | ⟨p, pc, cur, rfl, _, _, hle, hcm, _⟩
    · have HN0 := Lib.hid hn0
      clear h h0 hn0
      go_enter Tryd.func17, Tryd.ntmps17
      go_wp2_with fail
      refine HV.out.mono ?_
      rintro e w' ⟨rfl, rfl⟩
      go_wp2_with fail
      refine HY.out.mono ?_
      rintro e w1 ⟨rfl, hd1, ht1⟩
      have p3 : w1.cell? ⟨g, 3, none⟩ = some (.slice none 0 0) := by obtain ⟨_, _, _, _, _, _, p3, _⟩ := hd1.cells; exact p3
      have f3 := hd1.free 3
      have HF : Hid (Wrote g b (.slice none 0 0) s.flush w (.returned (.int .i64 0)) (w1.setCell ⟨g, 3, none⟩ (.slice none 0 0))) := Lib.hid (HFE.out w1 w1 (by rw [HN0.out, St.mid_zero]; exact hd1) ht1 (Turn.refl _ _))
      clear hd1 ht1
      go_wp2
      refine wp_loop_rounds 1 ?_
      rw [rounds_succ]
      go_wp2
      go_ret
      exact HF.out
    · obtain ⟨n, hn⟩ : ∃ n, n = s.pend.length := ⟨_, rfl⟩
      have HN := Lib.hid hn
      rw [← hn] at hle hfew
      clear h h0
      go_enter Tryd.func17, Tryd.ntmps17
      go_wp2_with fail
      refine HV.out.mono ?_
      rintro e w' ⟨rfl, rfl⟩
      go_wp2_with fail
      refine HY.out.mono ?_
      rintro e w1 ⟨rfl, hd1, ht1⟩
      rw [← hn] at hd1
      have p3 : w1.cell? ⟨g, 3, none⟩ = some (.slice (some ⟨p, 0, none⟩) n pc) := by obtain ⟨_, _, _, _, _, _, p3, _⟩ := hd1.cells; exact p3
      have HD1 := Lib.hid hd1
      have HT1 := Lib.hid ht1
      clear hd1 ht1 hn
      go_wp2
      go_loopw [16] (fun si wr => ∃ k : Nat, k ≤ n ∧ si = .int .i64 (k : Int) ∧ Hid (Dev wr g b (.slice (some ⟨p, 0, none⟩) n pc) (s.burn.mid k)) ∧ Hid (Turn w1 wr (fp g b (.slice (some ⟨p, 0, none⟩) n pc)))) (fun si _ => n - (intOf si).toNat)
      case atStart => exact ⟨0, Nat.zero_le _, rfl, by rw [St.mid_zero]; exact HD1.out, Turn.refl _ _⟩
      case round =>
        obtain ⟨k, hk, rfl, HR, HQ⟩ := hrel
        by_cases hlt : k < n
        · have hks : k < s.pend.length := by have := HN.out; omega
          have hq : s.pend.getD k (0, []) = s.pend[k] := by simp [List.getD, hks]
          obtain ⟨⟨x1, x2⟩, hqq⟩ : ∃ q : Nat × List Int, s.pend.getD k (0, []) = q := ⟨_, rfl⟩
          have hpb := HO.out.pblk _ (List.getElem_mem hks)
          rw [← hq, hqq] at hpb
          obtain ⟨b1, b2, b3⟩ := hpb
          have hat := wrow_at s.pend k hks
          rw [hqq, Nat.mul_comm] at hat
          have c0 : wr.cell? ⟨p, k * 2, none⟩ = some (.int .i64 (x1 : Int)) := by
            have := HR.out.row.cells (g := p) rfl (k * 2) _ hat.1
            rwa [Addr.add_lit, Nat.zero_add] at this
          have c1 : wr.cell? ⟨p, k * 2 + 1, none⟩ = some (.string (strOfNums x2)) := by
            have := HR.out.row.cells (g := p) rfl (k * 2 + 1) _ hat.2
            rwa [Addr.add_lit, Nat.zero_add] at this
          have hms := St.mid_succ s.burn k hks
          rw [show s.burn.pend.getD k (0, []) = (x1, x2) from hqq] at hms
          have HMS := Lib.hid hms
          clear hms
          have HQQ := Lib.hid hqq
          have hltb := HR.out.lt b (.inr (.inl rfl))
          have hbk : (s.burn.mid k).blocks = s.blocks := rfl
          have hsz : (s.burn.mid k).size = s.size := rfl
          have hcur := getD_mem HR.out.ok.dblk (b := x1) (by rw [HR.out.ok.dlen]; exact b1)
          have hreg := HR.out.reg.block (n := s.size) (by have := HO.out.lo; omega) HR.out.ok.dblk x1 (by rw [HR.out.ok.dlen]; exact b1)
          have HRA : Hid (∀ O, Reg (wr.alloc O) b (x1 * s.size) ((s.burn.mid k).dur.getD x1 [])) := Lib.hid (fun O => hreg.turn (Turn.alloc wr O nowhere) id)
          have HDA : Hid (∀ O m, Dev ((wr.alloc O).drewN m) g b (.slice (some ⟨p, 0, none⟩) n pc) (s.burn.mid k)) := Lib.hid (fun O m => HR.out.turn (Turn.trans (Turn.alloc wr O nowhere) (Turn.drewN _ m nowhere) (fun _ _ h => h)) (fun _ _ => id))
          have HC1 := Lib.hid hcur.1
          obtain ⟨cur, hcc⟩ : ∃ cur, cur = (s.burn.mid k).dur.getD x1 [] := ⟨_, rfl⟩
          rw [← hcc] at HRA HC1
          have HB2 := Lib.hid b2
          have HB3 := Lib.hid b3
          have HB1 := Lib.hid b1
          obtain ⟨T, hT⟩ : ∃ T, T = strOfNums x2 := ⟨_, rfl⟩
          rw [← hT] at c1
          have HT := Lib.hid hT
          have p0 : (0 : Int) ≤ (k : Int) := by omega
          have p1 : (k : Int) < (n : Int) := by omega
          have hne : wr.heap.size ≠ b := by omega
          clear hks hq hqq b1 b2 b3 hat hbk hsz hcur hreg hcc hT
          go_wp2
          go_region_held3 (fun w' => w'.cell? ⟨wr.heap.size, 0, none⟩ = some (.int .i64 (x1 : Int)) ∧ w'.cell? ⟨wr.heap.size, 1, none⟩ = some (.string T)) (go_keep)
            (first
              | (go_at_call 48
                 (with_reducible refine (at_any g b (.slice (some ⟨p, 0, none⟩) n pc) (s.burn.mid k) x1 _ ?hd ?hb).mono ?_)
                 case hd => exact HDA.out _ 1
                 case hb => exact HB1.out
                 rintro e w2 ⟨c', m, rfl, hc1, hc2, rfl⟩)
              | (refine step_copy_reg (by rfl) (.tmp 23) (.tmp 25) (by rfl) b (x1 * s.size) s.size c' (by rfl) cur x2 (by rw [HT.out]; rfl) (by exact HRA.out _) HB3.out (by rw [HB2.out]; exact Nat.le_refl _) (by rw [HB2.out, HC1.out]; exact Nat.le_refl _) ?_
                 intro w3 hr3 ho3
                 have k0 := ho3.turn.cell (p := ⟨wr.heap.size, 0, none⟩) (v := .int .i64 (x1 : Int)) (by simp [go_sem]) hne
                 have k1 := ho3.turn.cell (p := ⟨wr.heap.size, 1, none⟩) (v := .string T) (by simp [go_sem]) hne
                 have HD3 : Hid (Dev w3 g b (.slice (some ⟨p, 0, none⟩) n pc) (s.burn.mid (k + 1))) := Lib.hid (by
                   have h1 := (HDA.out (.cells #[.int .i64 (x1 : Int), .string T] 66) (1 + m)).relay x1 HB1.out x2 HB2.out HB3.out (by rw [spl_full cur x2 (HB2.out.trans HC1.out.symm)] at hr3; exact hr3) (by rw [HB2.out] at ho3; exact ho3)
                   rw [HMS.out]
                   exact h1)
                 have HT3 : Hid (Turn w1 w3 (fp g b (.slice (some ⟨p, 0, none⟩) n pc))) := Lib.hid (((HQ.out.trans (Turn.alloc wr _ nowhere) (fun _ _ e => e.elim)).trans (Turn.drewN _ (1 + m) nowhere) (fun _ _ e => e.elim)).trans ho3.turn (fun _ _ e => .inr (.inl e)))
                 clear hr3 ho3)
              | fail)
          go_wp2
          go_roundw
          case rel => exact ⟨k + 1, by omega, by go_num, HD3.out, HT3.out⟩
          case measure => simp [intOf]; omega
        · obtain rfl : k = n := by omega
          have hd := HR.out
          have p3 : wr.cell? ⟨g, 3, none⟩ = some (.slice (some ⟨p, 0, none⟩) k pc) := by obtain ⟨_, _, _, _, _, _, p3, _⟩ := hd.cells; exact p3
          have f3 := hd.free 3
          have HF := Lib.hid (HFE.out w1 wr (by rw [← HN.out]; exact hd) HT1.out (by rw [← HN.out]; exact HQ.out))
          clear hd
          go_wp2
          go_ret
          rw [← HN.out] at HF
          exact HF.out
end Go.Proofs.YtjhcjnalomdbnaaDoor.Dv
