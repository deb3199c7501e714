/-
  A region that draws its order: a super is chosen by a call, and put into a box that is made in it.
-/
import Derived.Test.YtfojkglindpjjaaDoorSuLaw
namespace Go.Proofs.YtfojkglindpjjaaDoor.Su
open Go.RowKit Bs Dv Gr Dr

/-- what holds at any time: values in slots; the call is number 6, the box's making 11, its filling 13; 7 and 9 bear what the call handed back -/
structure CI (D S : List Nat) (V : Option Addr → Nat → Nat → List Value) (dB : Nat) (t : Sup) (w0 : World) (a0 : Act) (L : Nat → Bool) (x : Act) (W : World) (p : Option Addr) (m q : Nat) : Prop where
  vi : VI D S (V p m q) (fun _ W => w0.grownBy W none) a0 L x W
  seg : L 6 = true → Ws.Seg W p m q t.pages
  o7 : L 7 = true → L 6 = true
  o9 : L 9 = true → L 7 = true
  o13 : L 13 = true → L 9 = true
  o11 : L 13 = true → L 11 = true
  box : L 11 = true → ∃ g, At x dB = .pointer (some ⟨g, 0, none⟩) ∧ w0.heap.size ≤ g ∧ (L 6 = true → ∀ ad, p = some ad → ad.block ≠ g) ∧ ∃ s' a' n' c', SB W g s' a' n' c' ∧ (L 13 = true → s' = t ∧ a' = p ∧ n' = m ∧ c' = q)
variable {D S : List Nat} {V : Option Addr → Nat → Nat → List Value} {dB : Nat} {t : Sup} {w0 : World} {a0 : Act} {L : Nat → Bool} {x : Act} {W : World} {p : Option Addr} {m q : Nat}

theorem CI.start (n : Nat) (hn : n ≤ a0.tmps.size) (h : ∀ d ∈ D, d < n) (hg : w0.grownBy W none) : CI D S V dB t w0 a0 (fun _ => false) a0 W p m q :=
  ⟨VI.start n hn h hg, (fun h => by cases h), (fun h => by cases h), (fun h => by cases h), (fun h => by cases h), (fun h => by cases h), (fun h => by cases h)⟩
/-- A value comes up; memory stays. -/
theorem CI.value (h : CI D S V dB t w0 a0 L x W p m q) (hS : S.Nodup) (i : Nat) (hi : i < S.length) (hD : S.getD i 0 ∈ D) (hne : S.getD i 0 ≠ dB) (h6 : i ≠ 6) (h11 : i ≠ 11) (h13 : i ≠ 13) (h7 : i = 7 → L 6 = true) (h9 : i = 9 → L 7 = true) {v : Value} (hv : v = (V p m q).getD i undef) :
    CI D S V dB t w0 a0 (upd L i) (x.put (some (S.getD i 0)) v) W p m q := by
  refine ⟨h.vi.value hS i hi hD hv h.vi.mem, fun k => h.seg (upd_not k h6.symm), fun k => upd_old ?_, fun k => upd_old ?_, fun k => upd_old (h.o13 (upd_not k h13.symm)), fun k => upd_old (h.o11 (upd_not k h13.symm)), fun k => ?_⟩
  · by_cases e : i = 7
    · exact h7 e
    · exact h.o7 (upd_not k (fun z => e z.symm))
  · by_cases e : i = 9
    · exact h9 e
    · exact h.o9 (upd_not k (fun z => e z.symm))
  · obtain ⟨g, k1, k2, k5, s', a', n', c', k3, k4⟩ := h.box (upd_not k h11.symm)
    exact ⟨g, by rw [At.put_ne hne.symm]; exact k1, k2, fun z => k5 (upd_not z h6.symm), s', a', n', c', k3, fun z => k4 (upd_not z h13.symm)⟩
/-- The call has come back. -/
theorem CI.call {w' : World} {p' : Option Addr} {m' q' : Nat} (h : CI D S V dB t w0 a0 L x W p m q) (hS : S.Nodup) (hi : 6 < S.length) (hD : S.getD 6 0 ∈ D) (hne : S.getD 6 0 ≠ dB) (h0 : L 6 = false) (hg : W.grownBy w' none) (hseg : Ws.Seg w' p' m' q' t.pages) (hnew : ∀ ad, p' = some ad → W.heap.size ≤ ad.block)
    (hV : ∀ j, j ≠ 6 → j ≠ 7 → j ≠ 9 → (V p' m' q').getD j undef = (V p m q).getD j undef) {v : Value} (hv : v = (V p' m' q').getD 6 undef) :
    CI D S V dB t w0 a0 (upd L 6) (x.put (some (S.getD 6 0)) v) w' p' m' q' := by
  have n7 : L 7 = false := by cases e : L 7 with
    | false => rfl
    | true => rw [h.o7 e] at h0; cases h0
  have n9 : L 9 = false := by cases e : L 9 with
    | false => rfl
    | true => rw [h.o9 e] at n7; cases n7
  have n13 : L 13 = false := by cases e : L 13 with
    | false => rfl
    | true => rw [h.o13 e] at n9; cases n9
  have hv2 : VI D S (V p' m' q') (fun _ W => w0.grownBy W none) a0 L x W := ⟨h.vi.agr, h.vi.big, fun i hi hd hl => by
    rw [hV i (fun e => by rw [e, h0] at hl; cases hl) (fun e => by rw [e, n7] at hl; cases hl) (fun e => by rw [e, n9] at hl; cases hl)]
    exact h.vi.vals i hi hd hl, h.vi.mem⟩
  refine ⟨hv2.value hS 6 hi hD hv (grown_then h.vi.mem hg), fun _ => hseg, fun k => ?_, fun k => ?_, fun k => ?_, fun k => upd_old (h.o11 (upd_not k (by decide))), fun k => ?_⟩
  · rw [upd_not k (by decide)] at n7; cases n7
  · rw [upd_not k (by decide)] at n9; cases n9
  · rw [upd_not k (by decide)] at n13; cases n13
  obtain ⟨g, k1, k2, _, s', a', n', c', k3, _⟩ := h.box (upd_not k (by decide))
  refine ⟨g, by rw [At.put_ne hne.symm]; exact k1, k2, fun _ ad had e => ?_, s', a', n', c', k3.old hg, fun z => ?_⟩
  · have h1 := hnew ad had
    have h2 := k3.lt
    omega
  · rw [upd_not z (by decide)] at n13; cases n13
/-- The box is made. -/
theorem CI.made (h : CI D S V dB t w0 a0 L x W p m q) (hB : dB ∈ D) (hs : S.getD 11 0 ∉ D) (hno : ∀ i, i < S.length → S.getD i 0 ≠ dB) (h0 : L 11 = false) (hpg : 0 < t.pages.length) {o : Obj}
    (ho : o = .cells #[.int .u64 0, .int .i64 0, .int .i64 0, .int .u32 0, .slice none 0 0] 29) :
    CI D S V dB t w0 a0 (upd L 11) (x.put (some dB) (.pointer (some ⟨W.heap.size, 0, none⟩))) (W.alloc o) p m q := by
  have h13 : L 13 = false := by cases e : L 13 with
    | false => rfl
    | true => rw [h.o11 e] at h0; cases h0
  have hgr := grown_alloc W o
  have hv : VI D S (V p m q) (fun _ W => w0.grownBy W none) a0 (upd L 11) (x.put (some dB) (.pointer (some ⟨W.heap.size, 0, none⟩))) (W.alloc o) := ⟨h.vi.agr.put hB _, h.vi.big, fun i hi hd hl => by
    rw [At.put_ne (hno i hi)]
    exact h.vi.vals i hi hd (upd_not hl (fun e => hs (by rw [← e]; exact hd))), grown_then h.vi.mem hgr⟩
  refine ⟨hv, fun k => (h.seg (upd_not k (by decide))).grown hgr, fun k => upd_old (h.o7 (upd_not k (by decide))), fun k => upd_old (h.o9 (upd_not k (by decide))), fun k => upd_old (h.o13 (upd_not k (by decide))), fun _ => upd_self L 11, fun _ => ?_⟩
  refine ⟨W.heap.size, by rw [At.put_same (by rw [h.vi.agr.size]; exact h.vi.big _ hB)], h.vi.mem.size, fun z ad had e => ?_, zeroS, none, 0, 0, by rw [ho]; exact SB.new W zeroS none 0 0, fun z => ?_⟩
  · have hsg := h.seg (upd_not z (by decide))
    obtain ⟨g0, o0, e0, hc⟩ := hsg.addr (by rw [← hsg.len]; exact hpg)
    have h1 := World.block_lt_of_cell? W _ (hc 0 (by rw [← hsg.len]; exact hpg))
    rw [had] at e0
    have h2 := Option.some.inj e0
    rw [h2] at e
    have h3 : g0 = W.heap.size := e
    have h4 : g0 < W.heap.size := h1
    omega
  · rw [upd_not z (by decide)] at h13; cases h13
/-- The box is filled. -/
theorem CI.fill (h : CI D S V dB t w0 a0 L x W p m q) (hs : S.getD 13 0 ∉ D) (h11 : L 11 = true) (h9 : L 9 = true) :
    ∃ g s' a' n' c', At x dB = .pointer (some ⟨g, 0, none⟩) ∧ SB W g s' a' n' c' ∧ ∀ w', SB w' g t p m q → Turn W w' (· = g) → CI D S V dB t w0 a0 (upd L 13) x w' p m q := by
  obtain ⟨g, k1, k2, k5, s', a', n', c', k3, _⟩ := h.box h11
  have hn := k5 (h.o7 (h.o9 h9))
  refine ⟨g, s', a', n', c', k1, k3, fun w' hsb ht => ⟨h.vi.other 13 hs (grown_put h.vi.mem ht k2), fun k => (h.seg (upd_not k (by decide))).kept (grown_some ht) (fun ad had e => ?_), fun k => upd_old (h.o7 (upd_not k (by decide))), fun k => upd_old (h.o9 (upd_not k (by decide))), fun _ => upd_old h9, fun _ => upd_old h11, fun _ => ⟨g, k1, k2, fun _ => hn, t, p, m, q, hsb, fun _ => ⟨rfl, rfl, rfl, rfl⟩⟩⟩⟩
  exact hn ad had (Option.some.inj e).symm
end Go.Proofs.YtfojkglindpjjaaDoor.Su
