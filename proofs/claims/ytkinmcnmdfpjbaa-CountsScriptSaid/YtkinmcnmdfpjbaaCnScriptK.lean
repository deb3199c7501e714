/-
  CountsScript: the acts, both sides' counts, what is held.
-/
import Derived.Test.YtkinmcnmdfpjbaaCnScriptR
import Derived.Test.YtkinmcnmdfpjbaaCnKit
namespace Go.Proofs.Ytkinmcnmdfpjbaa.Cn
open Go.RowKit Bs Dv Gr

structure CAct where
  kind : Int
  n : Nat
  held : Bool
instance : Inhabited CAct := ⟨⟨0, 0, false⟩⟩
def cact (x : CAct) : List Value := [.int .i64 x.kind, .int .u32 (x.n : Int), .bool x.held]
structure CAct.Ok (x : CAct) : Prop where
  kind : -9223372036854775808 ≤ x.kind ∧ x.kind ≤ 9223372036854775807
  n : x.n < 4294967296
/-- A slice of acts that reads as l. -/
structure ActSeg (w : World) (a : Option Addr) (n c : Nat) (l : List CAct) : Prop where
  len : l.length = n
  le : n ≤ c
  cap : c ≤ maxLen
  nil_ : a = none → n = 0 ∧ c = 0
  at_ : ∀ ad, a = some ad → ∀ k, k < n → ∀ j v, (cact (l.getD k default))[j]? = some v → w.cell? (ad.add (k * 3 + j)) = some v
theorem ActSeg.old {w w' : World} {a : Option Addr} {n c : Nat} {l : List CAct} (h : ActSeg w a n c l) (k : w.grownBy w' none) : ActSeg w' a n c l :=
  ⟨h.len, h.le, h.cap, h.nil_, fun ad had i hi j v hv => (grown_turn k).cell (h.at_ ad had i hi j v hv) id⟩
theorem spot_none' {w : World} {a : Addr} {v : Value} (h : w.cell? a = some v) : a.spot = none := by
  unfold World.cell? at h
  split at h
  · split at h
    · cases h
    · rename_i h2
      simpa using h2
  · cases h
theorem ActSeg.form {w : World} {a : Option Addr} {n c : Nat} {l : List CAct} (h : ActSeg w a n c l) (hn : n ≠ 0) : ∃ B O, a = some ⟨B, O, none⟩ ∧ ∀ k, k < n → w.cell? ⟨B, O + k * 3, none⟩ = some (.int .i64 (l.getD k default).kind) ∧ w.cell? ⟨B, O + k * 3 + 1, none⟩ = some (.int .u32 ((l.getD k default).n : Int)) ∧ w.cell? ⟨B, O + k * 3 + 2, none⟩ = some (.bool (l.getD k default).held) := by
  cases a with
  | none => exact absurd (h.nil_ rfl).1 hn
  | some ad =>
    have h0 := spot_none' (h.at_ ad rfl 0 (by omega) 0 _ rfl)
    obtain ⟨B, O, sp⟩ := ad
    have : sp = none := h0
    subst this
    refine ⟨B, O, rfl, fun k hk => ?_⟩
    have h1 := fun j v hv => h.at_ _ rfl k hk j v hv
    refine ⟨?_, ?_, ?_⟩
    · have := h1 0 _ rfl; rwa [Addr.add_lit] at this
    · have := h1 1 _ rfl; rwa [Addr.add_lit, ← Nat.add_assoc] at this
    · have := h1 2 _ rfl; rwa [Addr.add_lit, ← Nat.add_assoc] at this

/-- Take's answer: the block, the error, the counts -/
def TakeA (K N : List Int) (r z : Int) (N' : List Int) : Prop :=
  (∃ k : Nat, TakeR K N (some k) ∧ r = k ∧ z = 0 ∧ N' = N.set k 1) ∨ (TakeR K N none ∧ r = 0 ∧ z = 9 ∧ N' = N)
theorem TakeA.one {K N : List Int} {r z r2 z2 : Int} {M M2 : List Int} (h : TakeA K N r z M) (k : TakeA K N r2 z2 M2) : r2 = r ∧ z2 = z ∧ M2 = M := by
  rcases h with ⟨a, ha, rfl, rfl, rfl⟩ | ⟨ha, rfl, rfl, rfl⟩
  · rcases k with ⟨b, hb, rfl, rfl, rfl⟩ | ⟨hb, rfl, rfl, rfl⟩
    · obtain rfl : a = b := Option.some.inj (take_one ha hb)
      exact ⟨rfl, rfl, rfl⟩
    · cases take_one ha hb
  · rcases k with ⟨b, hb, rfl, rfl, rfl⟩ | ⟨hb, rfl, rfl, rfl⟩
    · cases take_one ha hb
    · exact ⟨rfl, rfl, rfl⟩
theorem TakeA.ok {size : Int} {n : Nat} {K N M : List Int} {r z : Int} (h : TakeA K N r z M) (ho : CnOk size n N) : CnOk size n M := by
  rcases h with ⟨a, ha, rfl, rfl, rfl⟩ | ⟨ha, rfl, rfl, rfl⟩
  · cases ha with
    | one _ hf _ => exact ho.set a hf.1 1 (by decide)
  · exact ho
theorem RC.lt {w : World} {g h cap : Nat} {size : Int} {N : List Int} (hc : RC w g h cap size N) (h0 : 0 < N.length) : h < w.heap.size := World.block_lt_of_cell? w _ (hc.row 0 h0).1
theorem RC.glt {w : World} {g h cap : Nat} {size : Int} {N : List Int} (hc : RC w g h cap size N) : g < w.heap.size := (Array.getElem?_eq_some_iff.1 hc.box).1

/-- the program's counts, and the document's -/
structure Two (w0 w : World) (g h cap o p q : Nat) (size : Int) (n : Nat) (N M : List Int) : Prop where
  c : CN w0 w g h cap size n N
  r : RC w o p q size M
  ok : CnOk size n M
  qm : q ≤ maxLen
  new : w0.heap.size ≤ p
  hp : h ≠ p
  gp : g ≠ p
  oh : o ≠ h
section
variable {w0 w w' : World} {g h cap o p q : Nat} {size : Int} {n : Nat} {N M N' M' : List Int}
theorem Two.len (t : Two w0 w g h cap o p q size n N M) : N.length = n ∧ M.length = n ∧ 8 ≤ n ∧ n ≤ 4096 := by
  have h1 := t.ok.geo
  unfold Su.GeoOk at h1
  exact ⟨t.c.ok.len, t.ok.len, by omega, by omega⟩
theorem Two.plt (t : Two w0 w g h cap o p q size n N M) : p < w.heap.size := t.r.lt (by have := t.len; omega)
theorem Two.go (t : Two w0 w g h cap o p q size n N M) (k : w.grownBy w' none) : Two w0 w' g h cap o p q size n N M := ⟨t.c.old k, t.r.turn (grown_turn k) id id, t.ok, t.qm, t.new, t.hp, t.gp, t.oh⟩
theorem Two.putc (t : Two w0 w g h cap o p q size n N M) (c : CN w0 w' g h cap size n N') (k : Turn w w' (· = h)) : Two w0 w' g h cap o p q size n N' M := ⟨c, t.r.turn k t.oh (fun e => t.hp e.symm), t.ok, t.qm, t.new, t.hp, t.gp, t.oh⟩
theorem Two.putr (t : Two w0 w g h cap o p q size n N M) (r : RC w' o p q size M') (ok : CnOk size n M') (k : Turn w w' (· = p)) : Two w0 w' g h cap o p q size n N M' := ⟨t.c.beside k t.gp t.hp t.new, r, ok, t.qm, t.new, t.hp, t.gp, t.oh⟩
/-- another one's row has turned -/
theorem Two.beside {x : Nat} (t : Two w0 w g h cap o p q size n N M) (k : Turn w w' (· = x)) (h0 : w0.heap.size ≤ x) (d : g ≠ x ∧ h ≠ x ∧ o ≠ x ∧ p ≠ x) : Two w0 w' g h cap o p q size n N M := ⟨t.c.beside k d.1 d.2.1 h0, t.r.turn k d.2.2.1 d.2.2.2, t.ok, t.qm, t.new, t.hp, t.gp, t.oh⟩
end

/-- what is held: nothing, or a copy on both sides -/
inductive Pair (w0 w : World) (size : Int) (n h p : Nat) : Option Addr → Option Addr → List Int → Prop
  | nil : Pair w0 w size n h p none none []
  | both {g2 h2 c2 o2 p2 q2 : Nat} {K : List Int} (t : Two w0 w g2 h2 c2 o2 p2 q2 size n K K) (d : g2 ≠ h ∧ h2 ≠ h ∧ o2 ≠ h ∧ p2 ≠ h) (e : g2 ≠ p ∧ h2 ≠ p ∧ o2 ≠ p ∧ p2 ≠ p) : Pair w0 w size n h p (some ⟨g2, 0, none⟩) (some ⟨o2, 0, none⟩) K
section
variable {w0 w w' w1 w2 : World} {g h cap o p q : Nat} {size : Int} {n : Nat} {N M N' M' K : List Int} {x y : Option Addr}
theorem Pair.go (t : Pair w0 w size n h p x y K) (k : w.grownBy w' none) : Pair w0 w' size n h p x y K := by
  cases t with
  | nil => exact .nil
  | both t d e => exact .both (t.go k) d e
theorem Pair.putc (t : Pair w0 w size n h p x y K) (k : Turn w w' (· = h)) (h0 : w0.heap.size ≤ h) : Pair w0 w' size n h p x y K := by
  cases t with
  | nil => exact .nil
  | both t d e => exact .both (t.beside k h0 d) d e
theorem Pair.putr (t : Pair w0 w size n h p x y K) (k : Turn w w' (· = p)) (h0 : w0.heap.size ≤ p) : Pair w0 w' size n h p x y K := by
  cases t with
  | nil => exact .nil
  | both t d e => exact .both (t.beside k h0 e) d e
/-- the copies -/
theorem Two.cloned {g2 h2 c2 o2 p2 q2 : Nat} (t : Two w0 w g h cap o p q size n N N) (c : CN w0 w1 g2 h2 c2 size n N) (k1 : w.grownBy w1 none) (l1 : w.heap.size ≤ g2) (l2 : w.heap.size ≤ h2)
    (r : RC w2 o2 p2 q2 size N) (qm : q2 ≤ maxLen) (k2 : w1.grownBy w2 none) (l3 : w1.heap.size ≤ o2) (l4 : w1.heap.size ≤ p2) : Pair w0 w2 size n h p (some ⟨g2, 0, none⟩) (some ⟨o2, 0, none⟩) N ∧ Two w0 w2 g2 h2 c2 o2 p2 q2 size n N N := by
  have a1 := t.c.cc.lt
  have a2 := t.plt
  have a3 := c.cc.lt
  have a4 := c.cc.glt
  have a5 := k1.size
  have a6 := t.c.gr.size
  have h2 : Two w0 w2 g2 h2 c2 o2 p2 q2 size n N N := ⟨c.old k2, r, t.ok, qm, by omega, by omega, by omega, by omega⟩
  exact ⟨.both h2 ⟨by omega, by omega, by omega, by omega⟩ ⟨by omega, by omega, by omega, by omega⟩, h2⟩

/-! ### what the calls hand back -/
theorem Two.take (t : Two w0 w g h cap o p q size n N M) (k : Pair w0 w size n h p x y K) :
    Calls Try.prog 13 #[.pointer (some ⟨g, 0, none⟩), .pointer x] w fun e w' => ∃ r z N', e = .returned (.tuple #[.int .u32 r, .int .i64 z]) ∧ TakeA K N r z N' ∧ Two w0 w' g h cap o p q size n N' M ∧ Turn w w' (· = h) := by
  have hT : Calls Try.prog 13 #[.pointer (some ⟨g, 0, none⟩), .pointer x] w (TookC K N g h cap size w) := by
    cases k with
    | nil => exact t.c.take
    | both t2 _ _ => exact t.c.takeh t2.c
  refine hT.mono ?_
  rintro e w' ⟨tu, ⟨a, ha, rfl, hcc⟩ | ⟨ha, rfl, hcc⟩⟩
  · have hA : TakeA K N (a : Int) 0 (N.set a 1) := .inl ⟨a, ha, rfl, rfl, rfl⟩
    exact ⟨_, _, _, rfl, hA, t.putc ⟨hcc, hA.ok t.c.ok, t.c.new, t.c.newg, grown_put t.c.gr tu t.c.new⟩ tu, tu⟩
  · exact ⟨_, _, _, rfl, .inr ⟨ha, rfl, rfl, rfl⟩, t.putc ⟨hcc, t.c.ok, t.c.new, t.c.newg, grown_put t.c.gr tu t.c.new⟩ tu, tu⟩
theorem Two.rtake (t : Two w0 w g h cap o p q size n N M) (k : Pair w0 w size n h p x y K) :
    Calls Try.prog 23 #[.pointer (some ⟨o, 0, none⟩), .pointer y] w fun e w' => ∃ r z M', e = .returned (.tuple #[.int .u32 r, .int .i64 z]) ∧ TakeA K M r z M' ∧ Two w0 w' g h cap o p q size n N M' ∧ Turn w w' (· = p) := by
  have hT : Calls Try.prog 23 #[.pointer (some ⟨o, 0, none⟩), .pointer y] w (TookX K M o p q size w) := by
    cases k with
    | nil => exact rtake_nil _ _ _ _ _ _ t.r
    | both t2 _ _ => exact rtake_held _ _ _ _ _ _ _ _ _ _ t.r t2.r (by rw [t2.ok.len, t.ok.len])
  refine hT.mono ?_
  rintro e w' ⟨tu, ⟨a, ha, rfl, hcc⟩ | ⟨ha, rfl, hcc⟩⟩
  · have hA : TakeA K M (a : Int) 0 (M.set a 1) := .inl ⟨a, ha, rfl, rfl, rfl⟩
    exact ⟨_, _, _, rfl, hA, t.putr hcc (hA.ok t.ok) tu, tu⟩
  · exact ⟨_, _, _, rfl, .inr ⟨ha, rfl, rfl, rfl⟩, t.putr hcc t.ok tu, tu⟩
theorem Two.add (t : Two w0 w g h cap o p q size n N M) (k : Nat) (hk : k < 4294967296) :
    Calls Try.prog 14 #[.pointer (some ⟨g, 0, none⟩), .int .u32 (k : Int)] w fun e w' => e = .returned (.int .i64 (addE N k)) ∧ Two w0 w' g h cap o p q size n (addN N k) M ∧ Turn w w' (· = h) :=
  (t.c.add k hk).mono fun _ _ h => ⟨h.1, t.putc h.2.1 h.2.2, h.2.2⟩
theorem Two.radd (t : Two w0 w g h cap o p q size n N M) (k : Nat) (hk : k < 4294967296) :
    Calls Try.prog 24 #[.pointer (some ⟨o, 0, none⟩), .int .u32 (k : Int)] w fun e w' => e = .returned (.int .i64 (addE M k)) ∧ Two w0 w' g h cap o p q size n N (addN M k) ∧ Turn w w' (· = p) :=
  (radd_any _ _ _ _ _ k w t.r hk t.ok.cnt).mono fun _ _ h => ⟨h.1, t.putr h.2.1 (t.ok.add k) h.2.2, h.2.2⟩
theorem Two.sub (t : Two w0 w g h cap o p q size n N M) (k : Nat) (hk : k < 4294967296) :
    Calls Try.prog 15 #[.pointer (some ⟨g, 0, none⟩), .int .u32 (k : Int)] w fun e w' => e = .returned (.tuple #[.int .i64 (subV N k), .int .i64 (subE N k)]) ∧ Two w0 w' g h cap o p q size n (subN N k) M ∧ Turn w w' (· = h) :=
  (t.c.sub k hk).mono fun _ _ h => ⟨h.1, t.putc h.2.1 h.2.2, h.2.2⟩
theorem Two.rsub (t : Two w0 w g h cap o p q size n N M) (k : Nat) (hk : k < 4294967296) :
    Calls Try.prog 25 #[.pointer (some ⟨o, 0, none⟩), .int .u32 (k : Int)] w fun e w' => e = .returned (.tuple #[.int .i64 (subV M k), .int .i64 (subE M k)]) ∧ Two w0 w' g h cap o p q size n N (subN M k) ∧ Turn w w' (· = p) :=
  (rsub_any _ _ _ _ _ k w t.r hk t.ok.cnt).mono fun _ _ h => ⟨h.1, t.putr h.2.1 (t.ok.sub k) h.2.2, h.2.2⟩
theorem Two.rget (t : Two w0 w g h cap o p q size n N M) (k : Nat) (hk : k < 4294967296) :
    Calls Try.prog 29 #[.pointer (some ⟨o, 0, none⟩), .int .u32 (k : Int)] w fun e w' => e = .returned (.int .i64 (M.getD k 0)) ∧ w = w' :=
  (rget_any _ _ _ _ _ k w t.r hk).mono fun _ _ h => ⟨h.1, h.2.symm⟩
theorem Two.rused (t : Two w0 w g h cap o p q size n N M) :
    Calls Try.prog 30 #[.pointer (some ⟨o, 0, none⟩)] w fun e w' => e = .returned (.int .i64 (usedC M : Int)) ∧ w = w' :=
  (rused_any _ _ _ _ _ w t.r).mono fun _ _ h => ⟨h.1, h.2.symm⟩
end
end Go.Proofs.Ytkinmcnmdfpjbaa.Cn
