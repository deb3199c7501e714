/-
  The document's counts in memory: Take, when nothing is held.
-/
import Derived.Test.YtkinmcnmdfpjbaaCnRefB
import Derived.Test.YtkinmcnmdfpjbaaGrow
import Derived.Deep.Cut
namespace Go.Proofs.Ytkinmcnmdfpjbaa.Cn
open Go.RowKit Bs Dv Gr

theorem RC.turn {w w' : World} {g h cap : Nat} {size : Int} {N : List Int} {S : Nat → Prop} (hc : RC w g h cap size N) (t : Turn w w' S) (hg : ¬ S g) (hh : ¬ S h) : RC w' g h cap size N := by
  refine ⟨?_, fun j hj => ?_, hc.ne, hc.le, hc.small⟩
  · rw [t.block g (Array.getElem?_eq_some_iff.1 hc.box).1 hg]; exact hc.box
  · obtain ⟨h1, h2⟩ := hc.row j hj
    exact ⟨t.cell h1 hh, (t.frozen (p := ⟨h, j, none⟩) (World.block_lt_of_cell? w _ h1) hh).trans h2⟩

/-- what Take leaves -/
def TookX (held N : List Int) (g h cap : Nat) (size : Int) (w : World) (e : Ending) (w' : World) : Prop :=
  Turn w w' (· = h) ∧ ((∃ k, TakeR held N (some k) ∧ e = .returned (.tuple #[.int .u32 (k : Int), .int .i64 0]) ∧ RC w' g h cap size (N.set k 1)) ∨ (TakeR held N none ∧ e = .returned (.tuple #[.int .u32 0, .int .i64 9]) ∧ RC w' g h cap size N))

set_option maxHeartbeats 1000000 in
theorem rtake_nil (g h cap : Nat) (size : Int) (N : List Int) (w : World) (hc : RC w g h cap size N) :
    Calls Try.prog 23 #[.pointer (some ⟨g, 0, none⟩), .pointer none] w (TookX [] N g h cap size w) := by
  have HC := Lib.hid hc
  have hle := hc.le
  have hs := hc.small
  have HSE := Lib.hid (fun w (hc : RC w g h cap size N) k x (hk : k < N.length) => hc.set k x hk)
  have HF : Hid (∀ j, freeC [] N j ↔ 2 ≤ j ∧ j < N.length ∧ N.getD j 0 = 0) := Lib.hid (fun j => by unfold freeC; exact ⟨fun q => ⟨q.1, q.2.1, q.2.2.1⟩, fun q => ⟨q.1, q.2.1, q.2.2, rfl⟩⟩)
  obtain ⟨L, hL⟩ : ∃ L, N.length = L := ⟨_, rfl⟩
  have HL := Lib.hid hL
  rw [hL] at hle hs HSE HF
  clear hc hL
  go_enter Try.func23, Try.ntmps23
  go_upto_region 1 with (fail)
  refine wp_region_grow (by kernel_rfl) ?_
  repeat (go_big_quiet_step (fail))
  refine wpQuiet_nil ?_
  rintro _ ⟨pw, rfl⟩
  have HT1 : Hid (Turn w pw.at_ nowhere) := Lib.hid (grown_turn pw.grown)
  obtain ⟨W1, hW1⟩ : ∃ X, X = pw.at_ := ⟨_, rfl⟩
  rw [← hW1] at HT1 ⊢
  have HC1 := Lib.hid (HC.out.turn HT1.out id id)
  clear hW1 pw HC
  have c2 : W1.cell? ⟨g, 1 + 1, none⟩ = some (.slice (some ⟨h, 0, none⟩) L cap) := by rw [cell_of_row _ _ _ _ _ _ HC1.out.box, ← HL.out]; rfl
  go_wp2
  clear c2
  go_loopw [6] (fun s6 wr => ∃ i : Nat, i ≤ max L 2 ∧ 2 ≤ i ∧ s6 = .int .i64 i ∧ Hid (∀ j, j < i → ¬ freeC [] N j) ∧ Hid (Turn W1 wr nowhere)) (fun s6 _ => L - (intOf s6).toNat)
  case atStart => exact ⟨2, by omega, by omega, rfl, Lib.hid (fun j hj hf => by have := hf.1; omega), Lib.hid (Turn.refl _ _)⟩
  case round =>
    obtain ⟨i, hi, hi2, rfl, HNF, HTW⟩ := hrel
    have HCW := Lib.hid (HC1.out.turn HTW.out id id)
    have c2 : wr.cell? ⟨g, 2, none⟩ = some (.slice (some ⟨h, 0, none⟩) L cap) := by rw [cell_of_row _ _ _ _ _ _ HCW.out.box, ← HL.out]; rfl
    by_cases hlt : i < L
    · have hq : decide (i < L) = true := decide_eq_true hlt
      obtain ⟨hcell, hfr⟩ := HCW.out.row i (by rw [HL.out]; exact hlt)
      have HS2 := Lib.hid (HSE.out wr HCW.out i 1 hlt)
      have HFI := Lib.hid (HF.out i)
      obtain ⟨x, hx⟩ : ∃ x, N.getD i 0 = x := ⟨_, rfl⟩
      rw [hx] at hcell HFI
      clear hx
      have e1 : IntKind.u32.wrap (i : Int) = (i : Int) := by rw [IntKind.wrap_u32]; omega
      by_cases h0 : x = 0
      · have q0 : (x == 0) = true := beq_iff_eq.2 h0
        have HX : Hid (TookX [] N g h cap size w (.returned (.tuple #[.int .u32 (i : Int), .int .i64 0])) (wr.setCell ⟨h, i, none⟩ (.int .i64 1))) := Lib.hid ⟨(((HT1.out.trans HTW.out (fun _ _ e => e)).mono (fun _ _ e => e.elim) : Turn w wr (· = h)).trans HS2.out.2 (fun _ _ e => e)), .inl ⟨i, .one i (HFI.out.2 ⟨hi2, hlt, h0⟩) HNF.out, rfl, HS2.out.1⟩⟩
        clear h0 HS2 HFI
        go_wp2
        go_ret2
        exact HX.out
      · have q0 : (x == 0) = false := beq_eq_false_iff_ne.2 h0
        have HN2 : Hid (∀ j, j < i + 1 → ¬ freeC [] N j) := Lib.hid (fun j hj => by
          by_cases e : j = i
          · rw [e]; exact fun hf => h0 (HFI.out.1 hf).2.2
          · exact HNF.out j (by omega))
        clear h0 HS2 HFI HNF
        go_wp2
        go_roundw
        case rel => exact ⟨i + 1, by omega, by omega, by go_num, HN2, HTW⟩
        case measure => simp [intOf]; omega
    · have hq : decide (i < L) = false := decide_eq_false hlt
      have HX : Hid (TookX [] N g h cap size w (.returned (.tuple #[.int .u32 0, .int .i64 9])) wr) := Lib.hid ⟨(HT1.out.trans HTW.out (fun _ _ e => e)).mono (fun _ _ e => e.elim), .inr ⟨.full fun j hf => HNF.out j (by have := ((HF.out j).1 hf).2.1; omega) hf, rfl, HCW.out⟩⟩
      clear HNF
      go_wp2
      go_ret2
      exact HX.out
end Go.Proofs.Ytkinmcnmdfpjbaa.Cn
