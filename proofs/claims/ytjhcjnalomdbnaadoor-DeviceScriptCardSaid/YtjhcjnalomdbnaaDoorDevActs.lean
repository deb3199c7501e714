/-
  The device's laws: the calls that are given.
-/
import Derived.Test.YtjhcjnalomdbnaaDoorDevLives
namespace Go.Proofs.YtjhcjnalomdbnaaDoor.Dv
open Go.RowKit Bs

structure AAct where
  kind : Int
  block : Int
  b : Int
  n : Int
  mask : Nat
  pa : Option Addr
  pn : Nat
  pc : Nat
  picks : List (Int × Nat)

instance : Inhabited AAct := ⟨⟨0, 0, 0, 0, 0, none, 0, 0, []⟩⟩

def acells (x : AAct) : List Value := [.int .i64 x.kind, .int .i64 x.block, .int .u8 x.b, .int .i64 x.n, .int .u32 (x.mask : Int), .slice x.pa x.pn x.pc]

structure AAct.Ok (w : World) (x : AAct) : Prop where
  kind : -9223372036854775808 ≤ x.kind ∧ x.kind ≤ 9223372036854775807
  block : -9223372036854775808 ≤ x.block ∧ x.block ≤ 9223372036854775807
  b : 0 ≤ x.b ∧ x.b < 256
  n : -9223372036854775808 ≤ x.n ∧ x.n ≤ 9223372036854775807
  mask : x.mask < 4294967296
  picks : PSeg w x.pa x.pn x.pc x.picks

/-- A slice of acts that reads as l. -/
structure ASeg (w : World) (a : Option Addr) (n c : Nat) (l : List AAct) : Prop where
  len : l.length = n
  le : n ≤ c
  cap : c ≤ maxLen
  nil_ : a = none → n = 0 ∧ c = 0
  at_ : ∀ ad, a = some ad → ∀ k, k < n → ∀ j v, (acells (l.getD k default))[j]? = some v → w.cell? (ad.add (k * 6 + j)) = some v
  ok : ∀ x ∈ l, x.Ok w

theorem PSeg.old {w w' : World} {a : Option Addr} {n c : Nat} {l : List (Int × Nat)} (h : PSeg w a n c l) (k : Turn w w' nowhere) : PSeg w' a n c l := h.turn k (fun _ _ => id)
theorem AAct.Ok.old {w w' : World} {x : AAct} (h : x.Ok w) (k : Turn w w' nowhere) : x.Ok w' := ⟨h.kind, h.block, h.b, h.n, h.mask, h.picks.old k⟩
theorem ASeg.old {w w' : World} {a : Option Addr} {n c : Nat} {l : List AAct} (h : ASeg w a n c l) (k : Turn w w' nowhere) : ASeg w' a n c l :=
  ⟨h.len, h.le, h.cap, h.nil_, fun ad had i hi j v hv => k.cell (h.at_ ad had i hi j v hv) id, fun x hx => (h.ok x hx).old k⟩

/-- One act, in its cells. -/
structure ActAt (w : World) (B o : Nat) (x : AAct) : Prop where
  c0 : w.cell? ⟨B, o, none⟩ = some (.int .i64 x.kind)
  c1 : w.cell? ⟨B, o + 1, none⟩ = some (.int .i64 x.block)
  c2 : w.cell? ⟨B, o + 2, none⟩ = some (.int .u8 x.b)
  c3 : w.cell? ⟨B, o + 3, none⟩ = some (.int .i64 x.n)
  c4 : w.cell? ⟨B, o + 4, none⟩ = some (.int .u32 (x.mask : Int))
  c5 : w.cell? ⟨B, o + 5, none⟩ = some (.slice x.pa x.pn x.pc)

theorem ASeg.form {w : World} {a : Option Addr} {n c : Nat} {l : List AAct} (h : ASeg w a n c l) (hn : n ≠ 0) : ∃ B O, a = some ⟨B, O, none⟩ ∧ ∀ k, k < n → ActAt w B (O + k * 6) (l.getD k default) ∧ (l.getD k default).Ok w := by
  cases a with
  | none => exact absurd (h.nil_ rfl).1 hn
  | some ad =>
    have h0 := spot_none (h.at_ ad rfl 0 (by omega) 0 _ rfl)
    obtain ⟨B, O, sp⟩ := ad
    have : sp = none := h0
    subst this
    refine ⟨B, O, rfl, fun k hk => ⟨?_, h.ok _ ?_⟩⟩
    · have h1 := fun j v hv => h.at_ _ rfl k hk j v hv
      constructor
      · have := h1 0 _ rfl; rwa [Addr.add_lit] at this
      · have := h1 1 _ rfl; rwa [Addr.add_lit, ← Nat.add_assoc] at this
      · have := h1 2 _ rfl; rwa [Addr.add_lit, ← Nat.add_assoc] at this
      · have := h1 3 _ rfl; rwa [Addr.add_lit, ← Nat.add_assoc] at this
      · have := h1 4 _ rfl; rwa [Addr.add_lit, ← Nat.add_assoc] at this
      · have := h1 5 _ rfl; rwa [Addr.add_lit, ← Nat.add_assoc] at this
    · have hk' : k < l.length := by rw [h.len]; exact hk
      simp [List.getD, hk']
theorem ActAt.old {w w' : World} {B o : Nat} {x : AAct} (h : ActAt w B o x) (k : Turn w w' nowhere) : ActAt w' B o x := ⟨k.cell h.c0 id, k.cell h.c1 id, k.cell h.c2 id, k.cell h.c3 id, k.cell h.c4 id, k.cell h.c5 id⟩

/-- What an act writes. -/
def AAct.bytes (x : AAct) (size : Nat) : List Int := actL (actN x.n size) size x.b
theorem AAct.bytes_len (x : AAct) (size : Nat) : (x.bytes size).length = size := actL_len _ _ _ (actN_le _ _)
theorem AAct.bytes_isB {w : World} {x : AAct} (h : x.Ok w) (size : Nat) : IsB (x.bytes size) := actL_isB _ _ _ h.b
theorem abytes_any (x : AAct) (size : Nat) (w : World) (hs : size ≤ 100000) :
    Calls Tryd.prog 27 #[.agg #[.int .i64 x.kind, .int .i64 x.block, .int .u8 x.b, .int .i64 x.n, .int .u32 (x.mask : Int), .slice x.pa x.pn x.pc], .int .i64 (size : Int)] w fun e w' => e = .returned (.string (strOfNums (x.bytes size))) ∧ Turn w w' nowhere :=
  bytes_any _ _ _ _ _ _ x.b x.n size w rfl rfl hs
/-- A block that Pick picks. -/
def AAct.at (x : AAct) (blocks : Nat) : Nat := (pick x.block (blocks : Int)).toNat
theorem AAct.at_lt (x : AAct) (blocks : Nat) (h : 1 ≤ blocks) : x.at blocks < blocks := by have := pick_range x.block (blocks : Int) (by omega); unfold AAct.at; omega
theorem at_pick (x : AAct) (blocks : Nat) (w : World) (h : 1 ≤ blocks) (h2 : blocks ≤ 100000) :
    Calls Tryd.prog 26 #[.int .i64 x.block, .int .i64 (blocks : Int)] w fun e w' => e = .returned (.int .i64 ((x.at blocks : Nat) : Int)) ∧ w = w' := by
  have := pick_any x.block (blocks : Int) w (by omega) (by omega)
  have e : pick x.block (blocks : Int) = ((x.at blocks : Nat) : Int) := by have := pick_range x.block (blocks : Int) (by omega); unfold AAct.at; omega
  rwa [e] at this
end Go.Proofs.YtjhcjnalomdbnaaDoor.Dv
