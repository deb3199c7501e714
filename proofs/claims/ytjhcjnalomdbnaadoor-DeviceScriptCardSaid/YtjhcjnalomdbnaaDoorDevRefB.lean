/-
  The program's device and the document's, side by side.
-/
import Derived.Test.YtjhcjnalomdbnaaDoorDevRef7
import Derived.Test.YtjhcjnalomdbnaaDoorDevRef8
import Derived.Test.YtjhcjnalomdbnaaDoorDevRef9
import Derived.Test.YtjhcjnalomdbnaaDoorDevTwo
import Derived.Test.YtjhcjnalomdbnaaDoorDevActs
namespace Go.Proofs.YtjhcjnalomdbnaaDoor.Dv
open Go.RowKit Bs

structure Both (w0 w : World) (g b : Nat) (P : Value) (s : St) (o : Nat) (D R : Value) (t : St) : Prop where
  d : Held w0 w g b P s
  r : Ref w o D R t
  rn : ∀ k, fpR o D R k → w0.heap.size ≤ k
  dis : ∀ k, fp g b P k → ¬ fpR o D R k

theorem Both.go {w0 w w' : World} {g b o : Nat} {P D R : Value} {s t : St} (h : Both w0 w g b P s o D R t) (k : Turn w w' nowhere) : Both w0 w' g b P s o D R t :=
  ⟨h.d.go k, h.r.turn k (fun _ _ => id), h.rn, h.dis⟩

theorem Both.fresh {w0 w1 w2 : World} {g b o : Nat} {P D R : Value} {s t : St} (hd : Held w0 w1 g b P s) (hr : Ref w2 o D R t) (hn : ∀ k, fpR o D R k → w1.heap.size ≤ k) (ht : Turn w1 w2 nowhere) : Both w0 w2 g b P s o D R t :=
  ⟨hd.go ht, hr, fun k hk => Nat.le_trans hd.turn.size (hn k hk), fun k hk hk2 => by have := hd.dev.lt k hk; have := hn k hk2; omega⟩

theorem Both.wrote {w0 w w' : World} {g b o : Nat} {P D R : Value} {s t : St} {r : Int × St} {e : Ending} (h : Both w0 w g b P s o D R t) (k : Wrote g b P r w e w') :
    ∃ P2, e = .returned (.int .i64 r.1) ∧ Both w0 w' g b P2 r.2 o D R t ∧ Turn w w' (fp g b P) := by
  obtain ⟨P2, he, hd, ht, hg⟩ := h.d.wrote k
  refine ⟨P2, he, ⟨hd, h.r.turn ht (fun i hi hf => h.dis i hf hi), h.rn, fun i hi hc => ?_⟩, ht⟩
  rcases hg i hi with h1 | h1
  · exact h.dis i h1 hc
  · have := h.r.lt i hc
    omega

theorem Both.rwrote {w0 w w' : World} {g b o : Nat} {P D R : Value} {s t : St} {r : Int × St} {e : Ending} (h : Both w0 w g b P s o D R t) (k : RWrote o D R r w e w') :
    ∃ R2, e = .returned (.int .i64 r.1) ∧ Both w0 w' g b P s o D R2 r.2 ∧ Turn w w' (fpR o D R) := by
  obtain ⟨R2, he, hd, ht, hg⟩ := k
  have htt : Turn w0 w' nowhere := h.d.turn.trans ht (fun i hi hf => by have := h.rn i hf; show False; omega)
  refine ⟨R2, he, ⟨⟨h.d.dev.turn ht (fun i hi hf => h.dis i hi hf), h.d.new, htt⟩, hd, fun i hi => ?_, fun i hi hc => ?_⟩, ht⟩
  · rcases hg i hi with h1 | h1
    · exact h.rn i h1
    · exact Nat.le_trans h.d.turn.size h1
  · rcases hg i hc with h1 | h1
    · exact h.dis i hi h1
    · have := h.d.dev.lt i hi
      omega

theorem Both.fused {w0 w w' : World} {g b o : Nat} {P D R : Value} {s t : St} {n : Int} {e : Ending} (h : Both w0 w g b P s o D R t) (k : Fused g b P s w n e w') :
    e = .returned (.tuple #[]) ∧ Both w0 w' g b P (s.setFuse n) o D R t ∧ Turn w w' (fp g b P) := by
  obtain ⟨he, hd, ht⟩ := h.d.fused k
  exact ⟨he, ⟨hd, h.r.turn ht (fun i hi hf => h.dis i (.inl hf) hi), h.rn, h.dis⟩, ht.mono (fun _ _ e => .inl e)⟩

theorem Both.rfused {w0 w w' : World} {g b o : Nat} {P D R : Value} {s t : St} {n : Int} {e : Ending} (h : Both w0 w g b P s o D R t) (k : RFused o D R t w n e w') :
    e = .returned (.tuple #[]) ∧ Both w0 w' g b P s o D R (t.setFuse n) := by
  obtain ⟨he, hd, ht⟩ := k
  have htt : Turn w0 w' nowhere := h.d.turn.trans ht (fun i hi hf => by have := h.rn i (.inl hf); show False; omega)
  exact ⟨he, ⟨h.d.dev.turn ht (fun i hi hf => h.dis i hi (.inl hf)), h.d.new, htt⟩, hd, h.rn, h.dis⟩

theorem Both.rot {w0 w w' : World} {g b o : Nat} {P D R : Value} {s s2 t : St} {e : Ending} (h : Both w0 w g b P s o D R t) (k : RotYes g b P s2 w e w') :
    e = .returned (.int .i64 0) ∧ Both w0 w' g b P s2 o D R t ∧ Turn w w' (fp g b P) := by
  obtain ⟨he, hd, ht⟩ := h.d.rot k
  exact ⟨he, ⟨hd, h.r.turn ht (fun i hi hf => h.dis i (.inr (.inl hf)) hi), h.rn, h.dis⟩, ht.mono (fun _ _ e => .inr (.inl e))⟩

theorem Both.rrot {w0 w w' : World} {g b o : Nat} {P D R : Value} {s t t2 : St} (h : Both w0 w g b P s o D R t) (hr : Ref w' o D R t2) (ht : Turn w w' (fpR o D R)) : Both w0 w' g b P s o D R t2 := by
  have htt : Turn w0 w' nowhere := h.d.turn.trans ht (fun i hi hf => by have := h.rn i hf; show False; omega)
  exact ⟨⟨h.d.dev.turn ht (fun i hi hf => h.dis i hi hf), h.d.new, htt⟩, hr, h.rn, h.dis⟩

/-- What the calls keep. -/
structure SInv (S K k : Nat) (s : St) : Prop where
  size : s.size = S
  blocks : s.blocks = K
  ops : s.ops ≤ k
  pend : s.pend.length ≤ k

theorem SInv.more {S K k : Nat} {s : St} (h : SInv S K k s) : SInv S K (k + 1) s := ⟨h.size, h.blocks, Nat.le_succ_of_le h.ops, Nat.le_succ_of_le h.pend⟩
theorem SInv.write {S K k : Nat} {s : St} (h : SInv S K k s) (block : Int) (l : List Int) : SInv S K (k + 1) (s.write block l).2 := by
  unfold St.write
  split
  · exact h.more
  · split
    · exact h.more
    · refine ⟨h.size, h.blocks, ?_, ?_⟩
      · show s.ops + 1 ≤ k + 1
        have := h.ops
        omega
      · show (s.pend ++ [(block.toNat, l)]).length ≤ k + 1
        have := h.pend
        simp
        omega
theorem SInv.flush {S K k : Nat} {s : St} (h : SInv S K k s) : SInv S K (k + 1) s.flush.2 := by
  unfold St.flush
  split
  · exact h.more
  · refine ⟨h.size, h.blocks, ?_, Nat.zero_le _⟩
    show s.ops + 1 ≤ k + 1
    have := h.ops
    omega
theorem SInv.fuse {S K k : Nat} {s : St} (h : SInv S K k s) (n : Int) : SInv S K (k + 1) (s.setFuse n) := ⟨h.size, h.blocks, Nat.le_succ_of_le h.ops, Nat.le_succ_of_le h.pend⟩
theorem SInv.rot {S K k : Nat} {s : St} (h : SInv S K k s) (block bit : Int) (mask : Nat) : SInv S K (k + 1) (s.rot block bit mask) := ⟨h.size, h.blocks, Nat.le_succ_of_le h.ops, Nat.le_succ_of_le h.pend⟩
theorem SInv.crash {S K k : Nat} {s : St} (h : SInv S K k s) (l : List (Int × Nat)) : SInv S K (k + 1) (s.crash l) := ⟨h.size, h.blocks, Nat.zero_le _, Nat.zero_le _⟩
theorem SInv.start (S K : Nat) (d : List (List Int)) : SInv S K 0 (St.fresh S K d) := ⟨rfl, rfl, Nat.le_refl _, Nat.le_refl _⟩

/-- An act of the law's own, in its cells; what else may turn is elsewhere. -/
def ActNew (w : World) (ab : Nat) (x : AAct) : Prop := ActAt w ab 0 x
theorem ActNew.turn {w w' : World} {ab : Nat} {x : AAct} {S : Nat → Prop} (h : ActNew w ab x) (k : Turn w w' S) (hS : ¬ S ab) : ActNew w' ab x :=
  ⟨k.cell h.c0 hS, k.cell h.c1 hS, k.cell h.c2 hS, k.cell h.c3 hS, k.cell h.c4 hS, k.cell h.c5 hS⟩
theorem ActNew.lt {w : World} {ab : Nat} {x : AAct} (h : ActNew w ab x) : ab < w.heap.size := World.block_lt_of_cell? _ _ h.c0
end Go.Proofs.YtjhcjnalomdbnaaDoor.Dv
