/-
  What the statements of layer 9 begin with: 'lives'.
-/
import Derived.Test.YtpincfofnlfjiaaZnMay
import Derived.Test.YtpincfofnlfjiaaZnSeg
namespace Go.Proofs.Ytpincfofnlfjiaa.Zn
open Go.RowKit Bs Dv

def n3 : Cel := ⟨1, 3, ⟨#[]⟩⟩
def n5 : Cel := ⟨1, 5, ⟨#[]⟩⟩
def l3 : List Cel := [n3, zeroC, n5]
def z3 : Zon := ⟨3, 1, n3, n5⟩
theorem of_l3 : ofZ l3 = z3 := eqZ_iff.1 (by kernel_rfl)
theorem may5 : mayB z3 5 ⟨1, 5, ⟨#[]⟩⟩ = false := by kernel_rfl
theorem may6 : mayB z3 6 ⟨1, 5, ⟨#[]⟩⟩ = true := by kernel_rfl

set_option maxRecDepth 100000 in
set_option maxHeartbeats 4000000 in
theorem lives_any (w : World) :
    Calls Try.prog 8 #[] w fun e w' => e = .returned (.bool true) ∧ w.grownBy w' none := by
  obtain ⟨z, hz⟩ : ∃ z, z = ofZ l3 := ⟨_, rfl⟩
  have hz3 : z = z3 := by rw [hz, of_l3]
  have N3 := Lib.hid (fun W => num_any 3 W)
  have N5 := Lib.hid (fun W => num_any 5 W)
  have HO := Lib.hid (fun W g (h : CSeg W (some ⟨g, 0, none⟩) 3 3 l3) => Of_any _ 3 3 l3 W h (by decide))
  rw [← hz] at HO
  have HM5 := Lib.hid (fun W => (May_any z 5 ⟨1, 5, ⟨#[]⟩⟩ W).mono fun e w' (h : _ ∧ _) => (show e = .returned (.bool false) ∧ W.grownBy w' none from ⟨by rw [h.1, hz3, may5], h.2⟩))
  have HM6 := Lib.hid (fun W => (May_any z 6 ⟨1, 5, ⟨#[]⟩⟩ W).mono fun e w' (h : _ ∧ _) => (show e = .returned (.bool true) ∧ W.grownBy w' none from ⟨by rw [h.1, hz3, may6], h.2⟩))
  have HEQ : Hid (∀ W, (binOp .eql 26 (.agg #[.int .i64 z.cnt, .int .i64 z.nul, .int .i64 z.min.k, .int .i64 z.min.n, .string z.min.s, .int .i64 z.max.k, .int .i64 z.max.n, .string z.max.s]) (.agg #[.int .i64 3, .int .i64 1, .int .i64 1, .int .i64 3, .string ⟨#[]⟩, .int .i64 1, .int .i64 5, .string ⟨#[]⟩])).run Try.prog W = .ok (.bool true) W) := Lib.hid (fun W => by
    have h := eql_zone z z3 W
    rw [show eqZ z z3 = true from by rw [hz3]; exact eqZ_self z3] at h
    exact h)
  clear hz hz3
  go_enter Try.func8, Try.ntmps8
  go_wp2_with fail
  refine (N3.out _).mono ?_
  rintro e w1 ⟨rfl, hg⟩
  have G1 := Lib.hid hg
  clear hg
  dsimp only
  go_wp2_with fail
  refine (N5.out _).mono ?_
  rintro e w2 ⟨rfl, hg⟩
  have G2 := Lib.hid (grown_then G1.out hg)
  clear hg
  dsimp only
  go_wp2_with fail
  have hl : CSeg (w2.alloc (.cells #[.int .i64 1, .int .i64 3, .string ⟨#[]⟩, .int .i64 0, .int .i64 0, .string ⟨#[]⟩, .int .i64 1, .int .i64 5, .string ⟨#[]⟩] 24)) (some ⟨w2.heap.size, 0, none⟩) 3 3 l3 := CSeg.lit w2 l3 (by decide)
  refine (HO.out _ _ hl).mono ?_
  rintro e w3 ⟨rfl, hg⟩
  have G3 := Lib.hid (grown_then (grown_then G2.out (grown_alloc _ _)) hg)
  clear hg hl
  dsimp only
  go_wp2_with fail
  obtain ⟨W4, hW4⟩ : ∃ W4, w3.alloc (.cells #[.int .i64 z.cnt, .int .i64 z.nul, .int .i64 z.min.k, .int .i64 z.min.n, .string z.min.s, .int .i64 z.max.k, .int .i64 z.max.n, .string z.max.s] 26) = W4 := ⟨_, rfl⟩
  have G4 : Hid (w.grownBy W4 none) := Lib.hid (by rw [← hW4]; exact grown_then G3.out (grown_alloc _ _))
  have Z4 : Hid (ZB W4 w3.heap.size z) := Lib.hid (by rw [← hW4]; exact ZB.new w3 z)
  rw [hW4]
  clear hW4
  generalize w3.heap.size = g at *
  obtain ⟨z0, z1, ⟨z2, z3, z4⟩, z5, z6, z7⟩ := Z4.out.cells
  have GC := Lib.hid (grown_drew W4)
  have heq := HEQ.out
  clear HO
  go_region_held3 (fun w' => w'.cell? ⟨g, 0, none⟩ = some (.int .i64 z.cnt) ∧ w'.cell? ⟨g, 1, none⟩ = some (.int .i64 z.nul) ∧ w'.cell? ⟨g, 2, none⟩ = some (.int .i64 z.min.k) ∧ w'.cell? ⟨g, 3, none⟩ = some (.int .i64 z.min.n) ∧ w'.cell? ⟨g, 4, none⟩ = some (.string z.min.s) ∧ w'.cell? ⟨g, 5, none⟩ = some (.int .i64 z.max.k) ∧ w'.cell? ⟨g, 6, none⟩ = some (.int .i64 z.max.n) ∧ w'.cell? ⟨g, 7, none⟩ = some (.string z.max.s)) (go_keep)
    (first
      | (go_at_call 10; (with_reducible refine (N3.out _).mono ?_); rintro e wk ⟨rfl, hg⟩; have GC := Lib.hid (grown_then GC.out hg); obtain ⟨z0, z1, ⟨z2, z3, z4⟩, z5, z6, z7⟩ := (Z4.out.old GC.out).cells; clear hg)
      | (go_at_call 10; (with_reducible refine (N5.out _).mono ?_); rintro e wk ⟨rfl, hg⟩; have GC := Lib.hid (grown_then GC.out hg); obtain ⟨z0, z1, ⟨z2, z3, z4⟩, z5, z6, z7⟩ := (Z4.out.old GC.out).cells; clear hg)
      | (go_at_call 16; (with_reducible refine (HM5.out _).mono ?_); rintro e wk ⟨rfl, hg⟩; have GC := Lib.hid (grown_then GC.out hg); obtain ⟨z0, z1, ⟨z2, z3, z4⟩, z5, z6, z7⟩ := (Z4.out.old GC.out).cells; clear hg)
      | (go_at_call 16; (with_reducible refine (HM6.out _).mono ?_); rintro e wk ⟨rfl, hg⟩; have GC := Lib.hid (grown_then GC.out hg); obtain ⟨z0, z1, ⟨z2, z3, z4⟩, z5, z6, z7⟩ := (Z4.out.old GC.out).cells; clear hg)
      | fail)
  all_goals
    have GE := Lib.hid (grown_then G4.out GC.out)
    go_wp2
    go_ret
    exact ⟨rfl, GE.out⟩
end Go.Proofs.Ytpincfofnlfjiaa.Zn
