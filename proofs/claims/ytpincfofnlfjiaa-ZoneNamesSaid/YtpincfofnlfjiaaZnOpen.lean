/-
  The statements' inputs, opened: a cell, a slice of cells.
-/
import Derived.Test.YtpincfofnlfjiaaZnSeg
import Derived.Test.YtpincfofnlfjiaaRows
import Derived.ProofKit
import Derived.OpenShut
import Derived.ChangeSame
import Derived.ChangeSlices
import Derived.SizedLaws
import Derived.Lib.SmallJoins
import Derived.Deep.Slices
namespace Go.Proofs.Ytpincfofnlfjiaa.Zn
open Go.ChangeShapes Go.WideShapes Go.ChangeAt Go.RowKit Bs Dv

section
variable {H : Type} {enc : TypeId × Value → H} {w : World} {base : Nat} {spare : Nat → Bool} {held : Bool}

theorem open_cell {r : Reach} {b0 : Nat} {v : Value} {d : DataW H} {p : List MemPlace} (hv : Value.okWide Try.prog w r b0 24 v) (h : DataW.Trod enc Try.prog w base spare held 24 v d p) :
    ∃ c : Cel, v = .agg #[.int .i64 c.k, .int .i64 c.n, .string c.s] := by
  obtain ⟨c0, c1, c2, y0, y1, y2, m, rfl, _, _, hy0, hy1, hy2⟩ := Go.Joins.open_agg3 Try.underlying24 (by kernel_rfl) (by kernel_rfl) hv h
  obtain ⟨x0, h0, _, _⟩ := DataW.trod_int Try.underlying3 hy0
  obtain ⟨x1, h1, _, _⟩ := DataW.trod_int Try.underlying2 hy1
  obtain ⟨s, h2, _, _⟩ := DataW.trod_string Try.underlying9 hy2
  refine ⟨⟨x0, x1, s⟩, ?_⟩
  rw [show c0 = .int .i64 x0 by simpa using h0, show c1 = .int .i64 x1 by simpa using h1, show c2 = .string s by simpa using h2]

theorem cells_take {cs : List Value} {j k : Nat} (hl : j + 1 ≤ cs.length) (hk : k = 1) : (cs.drop j).take k = [cs[j]'(by omega)] := by
  subst hk
  rw [List.drop_eq_getElem_cons (by omega)]
  rfl
theorem int_at {n : Nat} {t : TypeId} {kd : IntKind} {cs : List Value} {j o k : Nat} {y : Option (DataW H × List MemPlace)} (ht : Try.prog.underlying t = some (.int kd)) (hk : k = 1) (ho : o = j) (hl : j < cs.length) (hy : y.isSome = true)
    (h : DataW.trod enc Try.prog w base spare held n t ((cs.drop o).take k) = y) : ∃ x, cs[j]? = some (.int kd x) := by
  obtain ⟨z, rfl⟩ := Option.isSome_iff_exists.1 hy
  subst ho
  rw [cells_take (by omega) hk] at h
  obtain ⟨x, h1, _, _⟩ := DataW.trod_int ht h
  refine ⟨x, ?_⟩
  rw [List.getElem?_eq_getElem hl]
  have : cs[o] = .int kd x := by simpa using h1
  rw [this]
theorem str_at {n : Nat} {cs : List Value} {j o k : Nat} {y : DataW H × List MemPlace} (hk : k = 1) (ho : o = j) (hl : j < cs.length)
    (h : DataW.trod enc Try.prog w base spare held n 9 ((cs.drop o).take k) = some y) : ∃ s : ByteArray, cs[j]? = some (.string s) ∧ y.1 = .lit (.string s.data.toList) := by
  subst ho
  rw [cells_take (by omega) hk] at h
  obtain ⟨s, h1, h2, _⟩ := DataW.trod_string Try.underlying9 h
  refine ⟨s, ?_, by rw [h2]⟩
  rw [List.getElem?_eq_getElem hl]
  have : cs[o] = .string s := by simpa using h1
  rw [this]

theorem list3 {α : Type} {l : List α} (h : l.length = 3) : ∃ x y z, l = [x, y, z] := by
  rcases l with _ | ⟨x, _ | ⟨y, _ | ⟨z, _ | ⟨u, r⟩⟩⟩⟩
  · cases h
  · simp at h
  · simp at h
  · exact ⟨x, y, z, rfl⟩
  · simp at h
theorem weight_all {P : Program} {e : TypeId} {n : Nat} : ∀ (L : List (DataW H)) (d : DataW H), d ∈ L → n ∈ d.weights P e → n ∈ DataW.weightsAll P e L
  | x :: L, d, h, hn => by
    simp only [DataW.weightsAll, List.mem_append]
    rcases List.mem_cons.1 h with rfl | h
    · exact .inl hn
    · exact .inr (weight_all L d h hn)

set_option maxRecDepth 100000 in
set_option maxHeartbeats 1000000 in
theorem open_cells {r : Reach} {b0 : Nat} {v : Value} {d : DataW H} {p : List MemPlace} (hv : Value.okWide Try.prog w r b0 29 v) (h : DataW.Trod enc Try.prog w base spare held 29 v d p) (hz : ∀ n ∈ d.weights Try.prog 29, n ≤ reachBytes) :
    ∃ a n c l, v = .slice a n c ∧ CSeg w a n c l ∧ StrsOk l := by
  obtain ⟨a', n', c', rfl⟩ := okWide_slice Try.underlying29 hv
  obtain ⟨fuel, h⟩ := h
  rcases Go.Deep.open_slice Try.underlying29 h with ⟨h0, _⟩ | ⟨ad, len, cap, m, n0, D, Pl, hcs, hb, hl, hm, hmm, hx, hi⟩
  · simp [Value.cells] at h0
    obtain ⟨rfl, rfl, rfl⟩ := h0
    exact ⟨none, 0, 0, [], rfl, CSeg.nil w, fun s hs => by cases hs⟩
  · simp [Value.cells] at hcs
    obtain ⟨rfl, rfl, rfl⟩ := hcs
    have hd : d = _ := (Prod.mk.inj hx).1
    have c3 : Try.prog.cellsOf 24 = 3 := by kernel_rfl
    have hlm : n' ≤ m := by rw [hmm]; split <;> omega
    have hel : ∀ k, k < n' → ∃ x : Cel, (w.cell? (ad.add (k * 3)) = some (.int .i64 x.k) ∧ w.cell? (ad.add (k * 3 + 1)) = some (.int .i64 x.n) ∧ w.cell? (ad.add (k * 3 + 2)) = some (.string x.s)) ∧ x.s.size ≤ 140737488355328 := by
      intro k hk
      obtain ⟨cs', hc, ht⟩ := hi k (by omega)
      rw [c3] at hc
      obtain ⟨_, hcl, hat⟩ := World.cells?_some hc
      obtain ⟨xs, n1, _, hy, _, hxl, hf⟩ := DataW.trod_struct Try.underlying24 ht
      obtain ⟨y0, y1, y2, rfl⟩ := list3 (show xs.length = 3 from hxl)
      obtain ⟨x0, e0⟩ := int_at (j := 0) Try.underlying3 (by kernel_rfl) rfl (by omega) rfl (hf 0 _ rfl)
      obtain ⟨x1, e1⟩ := int_at (j := 1) Try.underlying2 (by kernel_rfl) rfl (by omega) rfl (hf 1 _ rfl)
      obtain ⟨s, e2, hs⟩ := str_at (j := 2) (y := y2) (by kernel_rfl) rfl (by omega) (hf 2 _ rfl)
      refine ⟨⟨x0, x1, s⟩, ⟨?_, ?_, ?_⟩, ?_⟩
      · have := hat 0 (by omega)
        rw [e0, Addr.add_add, Nat.add_zero] at this
        exact this
      · have := hat 1 (by omega)
        rw [e1, Addr.add_add] at this
        exact this
      · have := hat 2 (by omega)
        rw [e2, Addr.add_add] at this
        exact this
      · have hDk : D k = .agg ([y0, y1, y2].map (·.1)) := (Prod.mk.inj hy).1
        have h6 : s.data.toList.length ∈ (D k).weights Try.prog 24 := by
          rw [hDk]
          unfold DataW.weights
          rw [Try.underlying24]
          simp [DataW.weightsEach, DataW.weights, hs]
        have h7 : s.data.toList.length ∈ d.weights Try.prog 29 := by
          rw [hd]
          unfold DataW.weights
          rw [Try.underlying29]
          simp only [List.mem_cons, List.mem_append]
          exact .inr (.inl (weight_all _ _ (List.mem_map.2 ⟨k, List.mem_range.2 hk, rfl⟩) h6))
        have h8 := hz _ h7
        have : reachBytes < 2 ^ 47 := reachBytes_lt
        rw [Array.length_toList] at h8
        show s.data.size ≤ _
        omega
    have hf : ∃ f : Nat → Cel, ∀ k, k < n' → (w.cell? (ad.add (k * 3)) = some (.int .i64 (f k).k) ∧ w.cell? (ad.add (k * 3 + 1)) = some (.int .i64 (f k).n) ∧ w.cell? (ad.add (k * 3 + 2)) = some (.string (f k).s)) ∧ (f k).s.size ≤ 140737488355328 := by
      refine ⟨fun k => if hk : k < n' then (hel k hk).choose else zeroC, fun k hk => ?_⟩
      simp only [dif_pos hk]
      exact (hel k hk).choose_spec
    obtain ⟨f, hf⟩ := hf
    refine ⟨some ad, n', c', (List.range n').map f, rfl, ⟨by simp, hl, hm, (fun e => by cases e), fun ad' had j u hu => ?_⟩, fun x hx => ?_⟩
    · cases had
      have hj : j < n' * 3 := by
        have := (List.getElem?_eq_some_iff.1 hu).1
        rw [flatC_len] at this
        simpa using this
      have hk : j / 3 < n' := by omega
      have hlen : j / 3 < ((List.range n').map f).length := by simpa using hk
      have hg : ((List.range n').map f).getD (j / 3) zeroC = f (j / 3) := by simp [List.getD, hk]
      obtain ⟨a1, a2, a3⟩ := flatC_at ((List.range n').map f) (j / 3) hlen
      rw [hg] at a1 a2 a3
      obtain ⟨⟨b1, b2, b3⟩, _⟩ := hf _ hk
      have hm3 : j = j / 3 * 3 ∨ j = j / 3 * 3 + 1 ∨ j = j / 3 * 3 + 2 := by omega
      rcases hm3 with e | e | e
      · rw [e, a1] at hu; rw [e, b1]; exact hu
      · rw [e, a2] at hu; rw [e, b2]; exact hu
      · rw [e, a3] at hu; rw [e, b3]; exact hu
    · obtain ⟨k, hk, rfl⟩ := List.mem_map.1 hx
      exact (hf k (List.mem_range.1 hk)).2
end
end Go.Proofs.Ytpincfofnlfjiaa.Zn
