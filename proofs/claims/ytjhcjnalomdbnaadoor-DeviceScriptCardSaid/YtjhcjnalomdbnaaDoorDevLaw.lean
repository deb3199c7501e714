/-
  The device's laws: what they share.
-/
import Derived.Test.YtjhcjnalomdbnaaDoorDevCrash
namespace Go.Proofs.YtjhcjnalomdbnaaDoor.Dv
open Go.RowKit Bs

/-! ### a device of the call's own -/
structure Held (w0 w : World) (g b : Nat) (P : Value) (s : St) : Prop where
  dev : Dev w g b P s
  new : ∀ k, fp g b P k → w0.heap.size ≤ k
  turn : Turn w0 w nowhere

theorem Held.go {w0 w w' : World} {g b : Nat} {P : Value} {s : St} (h : Held w0 w g b P s) (k : Turn w w' nowhere) : Held w0 w' g b P s :=
  ⟨h.dev.turn k (fun _ _ => id), h.new, h.turn.trans k (fun _ _ h => h)⟩

theorem Held.wrote {w0 w w' : World} {g b : Nat} {P : Value} {s : St} {r : Int × St} {e : Ending} (h : Held w0 w g b P s) (k : Wrote g b P r w e w') :
    ∃ P', e = .returned (.int .i64 r.1) ∧ Held w0 w' g b P' r.2 ∧ Turn w w' (fp g b P) ∧ ∀ k, fp g b P' k → fp g b P k ∨ w.heap.size ≤ k := by
  obtain ⟨P', he, hd, ht, hg⟩ := k
  refine ⟨P', he, ⟨hd, fun k hk => ?_, h.turn.trans ht (fun i hi hf => ?_)⟩, ht, hg⟩
  · rcases hg k hk with h1 | h1
    · exact h.new k h1
    · exact Nat.le_trans h.turn.size h1
  · have := h.new i hf
    omega

theorem Held.fused {w0 w w' : World} {g b : Nat} {P : Value} {s : St} {n : Int} {e : Ending} (h : Held w0 w g b P s) (k : Fused g b P s w n e w') :
    e = .returned (.tuple #[]) ∧ Held w0 w' g b P (s.setFuse n) ∧ Turn w w' (· = g) := by
  obtain ⟨he, hd, ht⟩ := k
  exact ⟨he, ⟨hd, h.new, h.turn.trans ht (fun i hi hf => by have := h.new g (.inl rfl); omega)⟩, ht⟩

theorem held_new {w0 w w' : World} {size blocks : Nat} {e : Ending} (k0 : Turn w0 w nowhere) (k : NewX w size blocks e w') :
    ∃ g b, e = .returned (.tuple #[.pointer (some ⟨g, 0, none⟩), .int .i64 0]) ∧ Held w0 w' g b (.slice none 0 0) (St.fresh size blocks (zeros size blocks)) ∧ Turn w w' nowhere := by
  obtain ⟨g, b, he, hd, h1, h2, ht⟩ := k
  have := k0.size
  exact ⟨g, b, he, ⟨hd, fun k hk => by
    rcases hk with rfl | rfl | hk
    · omega
    · omega
    · simp [Value.ownBlock] at hk, k0.trans ht (fun _ _ h => h)⟩, ht⟩

theorem held_crash {w0 w w' : World} {s : St} {l : List (Int × Nat)} {e : Ending} (k0 : Turn w0 w nowhere) (k : CrashYes s l w e w') :
    ∃ g b, e = .returned (.tuple #[.pointer (some ⟨g, 0, none⟩), .int .i64 0]) ∧ Held w w' g b (.slice none 0 0) (s.crash l) ∧ Held w0 w' g b (.slice none 0 0) (s.crash l) ∧ Turn w w' nowhere := by
  obtain ⟨g, b, he, hd, h1, h2, ht⟩ := k
  have := k0.size
  have hn : ∀ k, fp g b (.slice none 0 0) k → w.heap.size ≤ k := fun k hk => by
    rcases hk with rfl | rfl | hk
    · omega
    · omega
    · simp [Value.ownBlock] at hk
  exact ⟨g, b, he, ⟨hd, hn, ht⟩, ⟨hd, fun k hk => Nat.le_trans this (hn k hk), k0.trans ht (fun _ _ h => h)⟩, ht⟩

/-! ### small, bytes of an act -/
theorem small_any (w : World) : Calls Tryd.prog 11 #[] w fun e w' => e = .returned (.agg #[.int .i64 128, .int .i64 8]) ∧ Turn w w' nowhere := by
  have HT := Lib.hid (fun o => Turn.alloc w o nowhere)
  go_enter Tryd.func11, Tryd.ntmps11
  go_wp2
  refine bodyPost_ret (v := .agg #[.int .i64 128, .int .i64 8]) (by simp [results, Tryd.results11, go_sem]) rfl ?_
  exact ⟨rfl, HT.out _⟩

/-- The act's bytes. -/
theorem string_one (x : Int) : strOfNums [x] = strep 1 x := rfl

set_option maxHeartbeats 1000000 in
theorem bytes_any (v0 v1 b n v4 v5 : Value) (x N : Int) (size : Nat) (w : World) (hb : b = .int .u8 x) (hn : n = .int .i64 N) (hs : size ≤ 100000) :
    Calls Tryd.prog 27 #[.agg #[v0, v1, b, n, v4, v5], .int .i64 (size : Int)] w fun e w' => e = .returned (.string (strOfNums (actL (actN N size) size x))) ∧ Turn w w' nowhere := by
  subst hb
  subst hn
  have HP := Lib.hid (fun w => pick_any N ((size : Int) + 1) w (by omega) (by omega))
  have hle := actN_le N size
  have hpn : pick N ((size : Int) + 1) = ((actN N size : Nat) : Int) := by
    have := pick_range N ((size : Int) + 1) (by omega)
    unfold actN
    omega
  rw [hpn] at HP
  generalize actN N size = k at *
  have HF1 := Lib.hid (fun w => full_any 0 k w (by omega))
  have HF2 := Lib.hid (fun w => full_any x (size - k) w (by omega))
  have e1 : ((size - k : Nat) : Int) = (size : Int) - (k : Int) := by omega
  rw [e1] at HF2
  have hw1 : IntKind.i64.wrap ((size : Int) - (k : Int)) = (size : Int) - (k : Int) := by rw [IntKind.wrap_i64]; omega
  have hbb : ¬ 9223372036854775807 < (strep k 0).size + (strep (size - k) x).size := by rw [strep_size, strep_size]; omega
  have HS := Lib.hid (show strep k 0 ++ strep (size - k) x = strOfNums (actL k size x) by unfold strep actL; rw [str_append])
  have hcv : ∀ m, (convert 68 9 (.slice (some ⟨w.heap.size + 1, 0, none⟩) 1 1)).run Tryd.prog (((w.alloc (.cells #[v0, v1, .int .u8 x, .int .i64 N, v4, v5] 54)).alloc (.cells #[.int .u8 x] 5)).drewN m) = .ok (.string (strep 1 x)) (((w.alloc (.cells #[v0, v1, .int .u8 x, .int .i64 N, v4, v5] 54)).alloc (.cells #[.int .u8 x] 5)).drewN m) := fun m => by
    rw [← string_one]
    exact conv_any (w.heap.size + 1) 0 1 1 [x] _ (fun j y hy => by
      have hg := heap_alloc_new (w.alloc (.cells #[v0, v1, .int .u8 x, .int .i64 N, v4, v5] 54)) (.cells #[.int .u8 x] 5)
      rw [World.size_alloc] at hg
      have hg : ((((w.alloc (.cells #[v0, v1, .int .u8 x, .int .i64 N, v4, v5] 54)).alloc (.cells #[.int .u8 x] 5)).drewN m)).heap[w.heap.size + 1]? = _ := hg
      refine ⟨?_, by unfold World.frozen?; rw [hg]; simp⟩
      rw [cell_of_row _ _ _ _ _ _ hg]
      cases j with
      | zero => simpa using hy
      | succ j => simp at hy) rfl
  have hcv0 : (convert 68 9 (.slice (some ⟨w.heap.size + 1, 0, none⟩) 1 1)).run Tryd.prog ((w.alloc (.cells #[v0, v1, .int .u8 x, .int .i64 N, v4, v5] 54)).alloc (.cells #[.int .u8 x] 5)).drew = .ok (.string (strep 1 x)) ((w.alloc (.cells #[v0, v1, .int .u8 x, .int .i64 N, v4, v5] 54)).alloc (.cells #[.int .u8 x] 5)).drew := hcv 1
  clear hcv
  have HT := Lib.hid (fun (m : Nat) => (((Turn.alloc w (.cells #[v0, v1, .int .u8 x, .int .i64 N, v4, v5] 54) nowhere).trans (Turn.alloc _ (.cells #[.int .u8 x] 5) nowhere) (fun _ _ h => h)).trans (Turn.drewN _ m nowhere) (fun _ _ h => h)))
  go_enter Tryd.func27, Tryd.ntmps27
  go_wp2_with fail
  refine (HP.out _).mono ?_
  rintro e w1 ⟨rfl, rfl⟩
  go_wp2_with fail
  go_region_with (first
      | (go_at_call 14
         refine (HF1.out _).mono ?_
         rintro e w2 ⟨rfl, rfl⟩)
      | (go_at_call 14
         refine (HF2.out _).mono ?_
         rintro e w2 ⟨rfl, rfl⟩))
  all_goals
    go_wp2
    go_ret
    exact ⟨ret_str HS.out, HT.out 1⟩
end Go.Proofs.YtjhcjnalomdbnaaDoor.Dv
