/-
  ZoneNames: the chapter's example comes out as it tells.
-/
import Derived.Test.YtpincfofnlfjiaaZnLives
import Derived.Test.YtpincfofnlfjiaaZnGrow
import Derived.Test.YtpincfofnlfjiaaZnCheck
import Derived.Test.YtpincfofnlfjiaaTimes
namespace Go.Proofs.Ytpincfofnlfjiaa.Zn
open Go.RowKit Bs Dv
theorem ofno : ofZ [⟨0, 0, ⟨#[]⟩⟩, ⟨0, 0, ⟨#[]⟩⟩] = ⟨2, 2, zeroC, zeroC⟩ := eqZ_iff.1 (by kernel_rfl)
theorem ofon : ofZ [⟨3, 0, ⟨#[98]⟩⟩] = ⟨1, 0, ⟨3, 0, ⟨#[98]⟩⟩, ⟨3, 0, ⟨#[98]⟩⟩⟩ := eqZ_iff.1 (by kernel_rfl)
theorem nm2 : mayB ⟨2, 2, zeroC, zeroC⟩ 1 ⟨1, 1, ⟨#[]⟩⟩ = false := by kernel_rfl
theorem nm3 : mayB ⟨3, 1, ⟨1, 3, ⟨#[]⟩⟩, ⟨1, 5, ⟨#[]⟩⟩⟩ 1 ⟨0, 0, ⟨#[]⟩⟩ = false := by kernel_rfl
theorem nm4 : mayB ⟨3, 1, ⟨1, 3, ⟨#[]⟩⟩, ⟨1, 5, ⟨#[]⟩⟩⟩ 1 ⟨3, 0, ⟨#[97]⟩⟩ = false := by kernel_rfl
theorem nm5 : mayB ⟨3, 1, ⟨1, 3, ⟨#[]⟩⟩, ⟨1, 5, ⟨#[]⟩⟩⟩ 2 ⟨1, 3, ⟨#[]⟩⟩ = true := by kernel_rfl
theorem nm6 : mayB ⟨1, 0, ⟨3, 0, ⟨#[98]⟩⟩, ⟨3, 0, ⟨#[98]⟩⟩⟩ 2 ⟨3, 0, ⟨#[98]⟩⟩ = false := by kernel_rfl
theorem nm7 : mayB ⟨3, 1, ⟨1, 3, ⟨#[]⟩⟩, ⟨1, 5, ⟨#[]⟩⟩⟩ 1 ⟨1, 4, ⟨#[]⟩⟩ = true := by kernel_rfl
theorem nm8 : mayB ⟨3, 1, ⟨1, 3, ⟨#[]⟩⟩, ⟨1, 5, ⟨#[]⟩⟩⟩ 3 ⟨1, 3, ⟨#[]⟩⟩ = false := by kernel_rfl
theorem nm9 : mayB ⟨3, 1, ⟨1, 3, ⟨#[]⟩⟩, ⟨1, 5, ⟨#[]⟩⟩⟩ 0 ⟨1, 4, ⟨#[]⟩⟩ = false := by kernel_rfl
theorem nm10 : checkE ⟨3, 1, ⟨1, 3, ⟨#[]⟩⟩, ⟨1, 5, ⟨#[]⟩⟩⟩ 1 = 0 := by kernel_rfl
theorem nm11 : checkE ⟨3, 1, ⟨1, 3, ⟨#[]⟩⟩, ⟨1, 5, ⟨#[]⟩⟩⟩ 3 = 2 := by kernel_rfl
theorem nm12 : checkE ⟨3, 1, ⟨1, 6, ⟨#[]⟩⟩, ⟨1, 5, ⟨#[]⟩⟩⟩ 1 = 2 := by kernel_rfl
theorem nm13 : checkE ⟨2, 2, zeroC, zeroC⟩ 2 = 0 := by kernel_rfl
theorem nm14 : checkE ⟨2, 2, zeroC, zeroC⟩ 0 = 2 := by kernel_rfl
theorem jnj1 : joinZ ⟨3, 1, ⟨1, 3, ⟨#[]⟩⟩, ⟨1, 5, ⟨#[]⟩⟩⟩ ⟨2, 2, zeroC, zeroC⟩ = ⟨5, 3, ⟨1, 3, ⟨#[]⟩⟩, ⟨1, 5, ⟨#[]⟩⟩⟩ := eqZ_iff.1 (by kernel_rfl)
theorem jnj2 : joinZ ⟨2, 2, zeroC, zeroC⟩ ⟨1, 0, ⟨3, 0, ⟨#[98]⟩⟩, ⟨3, 0, ⟨#[98]⟩⟩⟩ = ⟨3, 2, ⟨3, 0, ⟨#[98]⟩⟩, ⟨3, 0, ⟨#[98]⟩⟩⟩ := eqZ_iff.1 (by kernel_rfl)
set_option maxRecDepth 100000 in
set_option maxHeartbeats 8000000 in
theorem names_any (w : World) : Calls Try.prog 3 #[] w fun e w' => e = .returned (.bool true) ∧ Below w.heap.size w w' := by
  obtain ⟨z, hz⟩ : ∃ z, z = ofZ l3 := ⟨_, rfl⟩
  have HO := Lib.hid (fun W g (h : CSeg W (some ⟨g, 0, none⟩) 3 3 l3) => Of_any _ 3 3 l3 W h (by decide))
  rw [← hz] at HO
  rw [of_l3] at hz
  replace hz : z = ⟨3, 1, ⟨1, 3, ⟨#[]⟩⟩, ⟨1, 5, ⟨#[]⟩⟩⟩ := hz
  obtain ⟨ba, hba⟩ : ∃ v, v = (⟨z.cnt, z.nul, ⟨1, 6, ⟨#[]⟩⟩, z.max⟩ : Zon) := ⟨_, rfl⟩
  have HBA := Lib.hid hba
  replace hba : ba = ⟨3, 1, ⟨1, 6, ⟨#[]⟩⟩, ⟨1, 5, ⟨#[]⟩⟩⟩ := by rw [hba, hz]
  have HL := Lib.hid (fun W => lives_any W)
  have H1 := Lib.hid (fun W => num_any 3 W)
  have H2 := Lib.hid (fun W => num_any 5 W)
  obtain ⟨no, hno⟩ : ∃ no, no = ofZ [⟨0, 0, ⟨#[]⟩⟩, ⟨0, 0, ⟨#[]⟩⟩] := ⟨_, rfl⟩
  have H3 := Lib.hid (fun W g (h : CSeg W (some ⟨g, 0, none⟩) 2 2 [⟨0, 0, ⟨#[]⟩⟩, ⟨0, 0, ⟨#[]⟩⟩]) => Of_any _ 2 2 [⟨0, 0, ⟨#[]⟩⟩, ⟨0, 0, ⟨#[]⟩⟩] W h (by decide))
  rw [← hno] at H3
  rw [ofno] at hno
  obtain ⟨on, hon⟩ : ∃ on, on = ofZ [⟨3, 0, ⟨#[98]⟩⟩] := ⟨_, rfl⟩
  have H4 := Lib.hid (fun W g (h : CSeg W (some ⟨g, 0, none⟩) 1 1 [⟨3, 0, ⟨#[98]⟩⟩]) => Of_any _ 1 1 [⟨3, 0, ⟨#[98]⟩⟩] W h (by decide))
  rw [← hon] at H4
  rw [ofon] at hon
  have H5 := Lib.hid (fun W => text_any ⟨#[98]⟩ W)
  have H6 := Lib.hid (fun W => num_any 6 W)
  obtain ⟨S, hS⟩ : ∃ S, S = strep 65537 97 := ⟨_, rfl⟩
  have H7 : Hid (∀ W, Calls Try.prog 13 #[.string ⟨#[97]⟩, .int .i64 65537] W fun e w' => e = .returned (.string S) ∧ W.grownBy w' none) := Lib.hid (fun W => by
    have h := times_any 97 65537 W (by decide)
    rw [show strep 1 97 = ⟨#[97]⟩ from by kernel_rfl, ← hS] at h
    exact h.mono fun e w' (k : _ ∧ _) => ⟨k.1, by rw [← k.2]; exact grown_refl _⟩)
  have HTS := Lib.hid (fun W => text_any S W)
  have hsz : 65536 < S.size := by rw [hS, strep_size]; decide
  have HTC : Hid (∀ W, Calls Try.prog 12 #[.agg #[.int .i64 3, .int .i64 0, .string S]] W fun e w' => e = .returned (.int .i64 3) ∧ W.grownBy w' none) := Lib.hid (fun W => (Cell_any ⟨3, 0, S⟩ W).mono fun e w' (h : _ ∧ _) => ⟨by rw [h.1, cellE_exact, if_pos hsz], h.2⟩)
  clear hS hsz
  have H8 : Hid (∀ W, Calls Try.prog 12 #[.agg #[.int .i64 2, .int .i64 2, .string ⟨#[]⟩]] W fun e w' => e = .returned (.int .i64 2) ∧ W.grownBy w' none) := Lib.hid (fun W => (Cell_any ⟨2, 2, ⟨#[]⟩⟩ W).mono fun e w' (h : _ ∧ _) => ⟨h.1.trans (by kernel_rfl), h.2⟩)
  have H9 : Hid (∀ W, Calls Try.prog 12 #[.agg #[.int .i64 4, .int .i64 0, .string ⟨#[]⟩]] W fun e w' => e = .returned (.int .i64 2) ∧ W.grownBy w' none) := Lib.hid (fun W => (Cell_any ⟨4, 0, ⟨#[]⟩⟩ W).mono fun e w' (h : _ ∧ _) => ⟨h.1.trans (by kernel_rfl), h.2⟩)
  have H10 : Hid (∀ W, Calls Try.prog 12 #[.agg #[.int .i64 0, .int .i64 1, .string ⟨#[]⟩]] W fun e w' => e = .returned (.int .i64 2) ∧ W.grownBy w' none) := Lib.hid (fun W => (Cell_any ⟨0, 1, ⟨#[]⟩⟩ W).mono fun e w' (h : _ ∧ _) => ⟨h.1.trans (by kernel_rfl), h.2⟩)
  have H11 : Hid (∀ W, Calls Try.prog 12 #[.agg #[.int .i64 0, .int .i64 0, .string ⟨#[]⟩]] W fun e w' => e = .returned (.int .i64 0) ∧ W.grownBy w' none) := Lib.hid (fun W => (Cell_any ⟨0, 0, ⟨#[]⟩⟩ W).mono fun e w' (h : _ ∧ _) => ⟨h.1.trans (by kernel_rfl), h.2⟩)
  have H12 : Hid (∀ W, Calls Try.prog 12 #[.agg #[.int .i64 2, .int .i64 1, .string ⟨#[]⟩]] W fun e w' => e = .returned (.int .i64 0) ∧ W.grownBy w' none) := Lib.hid (fun W => (Cell_any ⟨2, 1, ⟨#[]⟩⟩ W).mono fun e w' (h : _ ∧ _) => ⟨h.1.trans (by kernel_rfl), h.2⟩)
  have H13 := Lib.hid (fun W => num_any (-5) W)
  have H14 : Hid (∀ W, Calls Try.prog 14 #[.agg #[.int .i64 1, .int .i64 5, .string ⟨#[]⟩], .agg #[.int .i64 1, .int .i64 (-5), .string ⟨#[]⟩]] W fun e w' => e = .returned (.int .i64 1) ∧ W.grownBy w' none) := Lib.hid (fun W => (Compare_any ⟨1, 5, ⟨#[]⟩⟩ ⟨1, -5, ⟨#[]⟩⟩ W).mono fun e w' (h : _ ∧ _) => ⟨h.1.trans (by kernel_rfl), h.2⟩)
  have H15 := Lib.hid (fun W => num_any (-9) W)
  have H16 : Hid (∀ W, Calls Try.prog 14 #[.agg #[.int .i64 0, .int .i64 0, .string ⟨#[]⟩], .agg #[.int .i64 1, .int .i64 (-9), .string ⟨#[]⟩]] W fun e w' => e = .returned (.int .i64 (-1)) ∧ W.grownBy w' none) := Lib.hid (fun W => (Compare_any ⟨0, 0, ⟨#[]⟩⟩ ⟨1, -9, ⟨#[]⟩⟩ W).mono fun e w' (h : _ ∧ _) => ⟨h.1.trans (by kernel_rfl), h.2⟩)
  have H17 := Lib.hid (fun W => text_any ⟨#[97]⟩ W)
  have H18 := Lib.hid (fun W => text_any ⟨#[97, 98]⟩ W)
  have H19 : Hid (∀ W, Calls Try.prog 14 #[.agg #[.int .i64 3, .int .i64 0, .string ⟨#[97]⟩], .agg #[.int .i64 3, .int .i64 0, .string ⟨#[97, 98]⟩]] W fun e w' => e = .returned (.int .i64 (-1)) ∧ W.grownBy w' none) := Lib.hid (fun W => (Compare_any ⟨3, 0, ⟨#[97]⟩⟩ ⟨3, 0, ⟨#[97, 98]⟩⟩ W).mono fun e w' (h : _ ∧ _) => ⟨h.1.trans (by kernel_rfl), h.2⟩)
  have H20 : Hid (∀ W, Calls Try.prog 14 #[.agg #[.int .i64 3, .int .i64 0, .string ⟨#[98]⟩], .agg #[.int .i64 3, .int .i64 0, .string ⟨#[98]⟩]] W fun e w' => e = .returned (.int .i64 0) ∧ W.grownBy w' none) := Lib.hid (fun W => (Compare_any ⟨3, 0, ⟨#[98]⟩⟩ ⟨3, 0, ⟨#[98]⟩⟩ W).mono fun e w' (h : _ ∧ _) => ⟨h.1.trans (by kernel_rfl), h.2⟩)
  have H21 : Hid (∀ W, Calls Try.prog 15 #[.int .i64 4, .agg #[.int .i64 1, .int .i64 5, .string ⟨#[]⟩], .agg #[.int .i64 1, .int .i64 5, .string ⟨#[]⟩]] W fun e w' => e = .returned (.bool true) ∧ W.grownBy w' none) := Lib.hid (fun W => (Is_any 4 ⟨1, 5, ⟨#[]⟩⟩ ⟨1, 5, ⟨#[]⟩⟩ W).mono fun e w' (h : _ ∧ _) => ⟨h.1.trans (by kernel_rfl), h.2⟩)
  have H22 : Hid (∀ W, Calls Try.prog 15 #[.int .i64 2, .agg #[.int .i64 1, .int .i64 5, .string ⟨#[]⟩], .agg #[.int .i64 1, .int .i64 5, .string ⟨#[]⟩]] W fun e w' => e = .returned (.bool false) ∧ W.grownBy w' none) := Lib.hid (fun W => (Is_any 2 ⟨1, 5, ⟨#[]⟩⟩ ⟨1, 5, ⟨#[]⟩⟩ W).mono fun e w' (h : _ ∧ _) => ⟨h.1.trans (by kernel_rfl), h.2⟩)
  have H23 := Lib.hid (fun W => text_any ⟨#[53]⟩ W)
  have H24 : Hid (∀ W, Calls Try.prog 15 #[.int .i64 2, .agg #[.int .i64 1, .int .i64 5, .string ⟨#[]⟩], .agg #[.int .i64 3, .int .i64 0, .string ⟨#[53]⟩]] W fun e w' => e = .returned (.bool false) ∧ W.grownBy w' none) := Lib.hid (fun W => (Is_any 2 ⟨1, 5, ⟨#[]⟩⟩ ⟨3, 0, ⟨#[53]⟩⟩ W).mono fun e w' (h : _ ∧ _) => ⟨h.1.trans (by kernel_rfl), h.2⟩)
  have H25 : Hid (∀ W, Calls Try.prog 15 #[.int .i64 1, .agg #[.int .i64 0, .int .i64 0, .string ⟨#[]⟩], .agg #[.int .i64 0, .int .i64 0, .string ⟨#[]⟩]] W fun e w' => e = .returned (.bool false) ∧ W.grownBy w' none) := Lib.hid (fun W => (Is_any 1 ⟨0, 0, ⟨#[]⟩⟩ ⟨0, 0, ⟨#[]⟩⟩ W).mono fun e w' (h : _ ∧ _) => ⟨h.1.trans (by kernel_rfl), h.2⟩)
  have H26 : Hid (∀ W, Calls Try.prog 15 #[.int .i64 7, .agg #[.int .i64 1, .int .i64 5, .string ⟨#[]⟩], .agg #[.int .i64 1, .int .i64 5, .string ⟨#[]⟩]] W fun e w' => e = .returned (.bool false) ∧ W.grownBy w' none) := Lib.hid (fun W => (Is_any 7 ⟨1, 5, ⟨#[]⟩⟩ ⟨1, 5, ⟨#[]⟩⟩ W).mono fun e w' (h : _ ∧ _) => ⟨h.1.trans (by kernel_rfl), h.2⟩)
  have H27 := Lib.hid (fun W => num_any 1 W)
  have H28 := Lib.hid (fun W => num_any 4 W)
  have H29 : Hid (∀ W, Calls Try.prog 16 #[.agg #[.int .i64 no.cnt, .int .i64 no.nul, .int .i64 no.min.k, .int .i64 no.min.n, .string no.min.s, .int .i64 no.max.k, .int .i64 no.max.n, .string no.max.s], .int .i64 1, .agg #[.int .i64 1, .int .i64 1, .string ⟨#[]⟩]] W fun e w' => e = .returned (.bool false) ∧ W.grownBy w' none) := Lib.hid (fun W => (May_any no 1 ⟨1, 1, ⟨#[]⟩⟩ W).mono fun e w' (h : _ ∧ _) => ⟨by rw [h.1, hno, nm2], h.2⟩)
  have H30 : Hid (∀ W, Calls Try.prog 16 #[.agg #[.int .i64 z.cnt, .int .i64 z.nul, .int .i64 z.min.k, .int .i64 z.min.n, .string z.min.s, .int .i64 z.max.k, .int .i64 z.max.n, .string z.max.s], .int .i64 1, .agg #[.int .i64 0, .int .i64 0, .string ⟨#[]⟩]] W fun e w' => e = .returned (.bool false) ∧ W.grownBy w' none) := Lib.hid (fun W => (May_any z 1 ⟨0, 0, ⟨#[]⟩⟩ W).mono fun e w' (h : _ ∧ _) => ⟨by rw [h.1, hz, nm3], h.2⟩)
  have H31 : Hid (∀ W, Calls Try.prog 16 #[.agg #[.int .i64 z.cnt, .int .i64 z.nul, .int .i64 z.min.k, .int .i64 z.min.n, .string z.min.s, .int .i64 z.max.k, .int .i64 z.max.n, .string z.max.s], .int .i64 1, .agg #[.int .i64 3, .int .i64 0, .string ⟨#[97]⟩]] W fun e w' => e = .returned (.bool false) ∧ W.grownBy w' none) := Lib.hid (fun W => (May_any z 1 ⟨3, 0, ⟨#[97]⟩⟩ W).mono fun e w' (h : _ ∧ _) => ⟨by rw [h.1, hz, nm4], h.2⟩)
  have H32 : Hid (∀ W, Calls Try.prog 16 #[.agg #[.int .i64 z.cnt, .int .i64 z.nul, .int .i64 z.min.k, .int .i64 z.min.n, .string z.min.s, .int .i64 z.max.k, .int .i64 z.max.n, .string z.max.s], .int .i64 2, .agg #[.int .i64 1, .int .i64 3, .string ⟨#[]⟩]] W fun e w' => e = .returned (.bool true) ∧ W.grownBy w' none) := Lib.hid (fun W => (May_any z 2 ⟨1, 3, ⟨#[]⟩⟩ W).mono fun e w' (h : _ ∧ _) => ⟨by rw [h.1, hz, nm5], h.2⟩)
  have H33 : Hid (∀ W, Calls Try.prog 16 #[.agg #[.int .i64 on.cnt, .int .i64 on.nul, .int .i64 on.min.k, .int .i64 on.min.n, .string on.min.s, .int .i64 on.max.k, .int .i64 on.max.n, .string on.max.s], .int .i64 2, .agg #[.int .i64 3, .int .i64 0, .string ⟨#[98]⟩]] W fun e w' => e = .returned (.bool false) ∧ W.grownBy w' none) := Lib.hid (fun W => (May_any on 2 ⟨3, 0, ⟨#[98]⟩⟩ W).mono fun e w' (h : _ ∧ _) => ⟨by rw [h.1, hon, nm6], h.2⟩)
  have H34 : Hid (∀ W, Calls Try.prog 16 #[.agg #[.int .i64 z.cnt, .int .i64 z.nul, .int .i64 z.min.k, .int .i64 z.min.n, .string z.min.s, .int .i64 z.max.k, .int .i64 z.max.n, .string z.max.s], .int .i64 1, .agg #[.int .i64 1, .int .i64 4, .string ⟨#[]⟩]] W fun e w' => e = .returned (.bool true) ∧ W.grownBy w' none) := Lib.hid (fun W => (May_any z 1 ⟨1, 4, ⟨#[]⟩⟩ W).mono fun e w' (h : _ ∧ _) => ⟨by rw [h.1, hz, nm7], h.2⟩)
  have H35 : Hid (∀ W, Calls Try.prog 16 #[.agg #[.int .i64 z.cnt, .int .i64 z.nul, .int .i64 z.min.k, .int .i64 z.min.n, .string z.min.s, .int .i64 z.max.k, .int .i64 z.max.n, .string z.max.s], .int .i64 3, .agg #[.int .i64 1, .int .i64 3, .string ⟨#[]⟩]] W fun e w' => e = .returned (.bool false) ∧ W.grownBy w' none) := Lib.hid (fun W => (May_any z 3 ⟨1, 3, ⟨#[]⟩⟩ W).mono fun e w' (h : _ ∧ _) => ⟨by rw [h.1, hz, nm8], h.2⟩)
  have H36 : Hid (∀ W, Calls Try.prog 16 #[.agg #[.int .i64 z.cnt, .int .i64 z.nul, .int .i64 z.min.k, .int .i64 z.min.n, .string z.min.s, .int .i64 z.max.k, .int .i64 z.max.n, .string z.max.s], .int .i64 0, .agg #[.int .i64 1, .int .i64 4, .string ⟨#[]⟩]] W fun e w' => e = .returned (.bool false) ∧ W.grownBy w' none) := Lib.hid (fun W => (May_any z 0 ⟨1, 4, ⟨#[]⟩⟩ W).mono fun e w' (h : _ ∧ _) => ⟨by rw [h.1, hz, nm9], h.2⟩)
  have H37 : Hid (∀ W, Calls Try.prog 17 #[.agg #[.int .i64 z.cnt, .int .i64 z.nul, .int .i64 z.min.k, .int .i64 z.min.n, .string z.min.s, .int .i64 z.max.k, .int .i64 z.max.n, .string z.max.s], .int .i64 1] W fun e w' => e = .returned (.int .i64 0) ∧ W.grownBy w' none) := Lib.hid (fun W => (Check_any z 1 W).mono fun e w' (h : _ ∧ _) => ⟨by rw [h.1, hz, nm10], h.2⟩)
  have H38 : Hid (∀ W, Calls Try.prog 17 #[.agg #[.int .i64 z.cnt, .int .i64 z.nul, .int .i64 z.min.k, .int .i64 z.min.n, .string z.min.s, .int .i64 z.max.k, .int .i64 z.max.n, .string z.max.s], .int .i64 3] W fun e w' => e = .returned (.int .i64 2) ∧ W.grownBy w' none) := Lib.hid (fun W => (Check_any z 3 W).mono fun e w' (h : _ ∧ _) => ⟨by rw [h.1, hz, nm11], h.2⟩)
  have H39 : Hid (∀ W, Calls Try.prog 17 #[.agg #[.int .i64 ba.cnt, .int .i64 ba.nul, .int .i64 ba.min.k, .int .i64 ba.min.n, .string ba.min.s, .int .i64 ba.max.k, .int .i64 ba.max.n, .string ba.max.s], .int .i64 1] W fun e w' => e = .returned (.int .i64 2) ∧ W.grownBy w' none) := Lib.hid (fun W => (Check_any ba 1 W).mono fun e w' (h : _ ∧ _) => ⟨by rw [h.1, hba, nm12], h.2⟩)
  have H40 : Hid (∀ W, Calls Try.prog 17 #[.agg #[.int .i64 no.cnt, .int .i64 no.nul, .int .i64 no.min.k, .int .i64 no.min.n, .string no.min.s, .int .i64 no.max.k, .int .i64 no.max.n, .string no.max.s], .int .i64 2] W fun e w' => e = .returned (.int .i64 0) ∧ W.grownBy w' none) := Lib.hid (fun W => (Check_any no 2 W).mono fun e w' (h : _ ∧ _) => ⟨by rw [h.1, hno, nm13], h.2⟩)
  have H41 : Hid (∀ W, Calls Try.prog 17 #[.agg #[.int .i64 no.cnt, .int .i64 no.nul, .int .i64 no.min.k, .int .i64 no.min.n, .string no.min.s, .int .i64 no.max.k, .int .i64 no.max.n, .string no.max.s], .int .i64 0] W fun e w' => e = .returned (.int .i64 2) ∧ W.grownBy w' none) := Lib.hid (fun W => (Check_any no 0 W).mono fun e w' (h : _ ∧ _) => ⟨by rw [h.1, hno, nm14], h.2⟩)
  have H42 : Hid (∀ W, Calls Try.prog 17 #[.agg #[.int .i64 1, .int .i64 2, .int .i64 0, .int .i64 0, .string ⟨#[]⟩, .int .i64 0, .int .i64 0, .string ⟨#[]⟩], .int .i64 1] W fun e w' => e = .returned (.int .i64 2) ∧ W.grownBy w' none) := Lib.hid (fun W => (Check_any ⟨1, 2, zeroC, zeroC⟩ 1 W).mono fun e w' (h : _ ∧ _) => ⟨h.1.trans (by kernel_rfl), h.2⟩)
  obtain ⟨j1, hj1⟩ : ∃ v, v = joinZ z no := ⟨_, rfl⟩
  have H43 := Lib.hid (fun W => Join_any z no W (by rw [hz]; unfold Small; decide) (by rw [hno]; unfold Small; decide))
  rw [← hj1] at H43
  have Ej1 : Hid (∀ W, (binOp .eql 26 (.agg #[.int .i64 j1.cnt, .int .i64 j1.nul, .int .i64 j1.min.k, .int .i64 j1.min.n, .string j1.min.s, .int .i64 j1.max.k, .int .i64 j1.max.n, .string j1.max.s]) (.agg #[.int .i64 5, .int .i64 3, .int .i64 1, .int .i64 3, .string ⟨#[]⟩, .int .i64 1, .int .i64 5, .string ⟨#[]⟩])).run Try.prog W = .ok (.bool true) W) := Lib.hid (fun W => by
    have h := eql_zone j1 ⟨5, 3, ⟨1, 3, ⟨#[]⟩⟩, ⟨1, 5, ⟨#[]⟩⟩⟩ W
    rw [show eqZ j1 ⟨5, 3, ⟨1, 3, ⟨#[]⟩⟩, ⟨1, 5, ⟨#[]⟩⟩⟩ = true from by rw [hj1, hz, hno, jnj1]; exact eqZ_self _] at h
    exact h)
  clear hj1
  obtain ⟨j2, hj2⟩ : ∃ v, v = joinZ no on := ⟨_, rfl⟩
  have H44 := Lib.hid (fun W => Join_any no on W (by rw [hno]; unfold Small; decide) (by rw [hon]; unfold Small; decide))
  rw [← hj2] at H44
  have Ej2 : Hid (∀ W, (binOp .eql 26 (.agg #[.int .i64 j2.cnt, .int .i64 j2.nul, .int .i64 j2.min.k, .int .i64 j2.min.n, .string j2.min.s, .int .i64 j2.max.k, .int .i64 j2.max.n, .string j2.max.s]) (.agg #[.int .i64 3, .int .i64 2, .int .i64 3, .int .i64 0, .string ⟨#[98]⟩, .int .i64 3, .int .i64 0, .string ⟨#[98]⟩])).run Try.prog W = .ok (.bool true) W) := Lib.hid (fun W => by
    have h := eql_zone j2 ⟨3, 2, ⟨3, 0, ⟨#[98]⟩⟩, ⟨3, 0, ⟨#[98]⟩⟩⟩ W
    rw [show eqZ j2 ⟨3, 2, ⟨3, 0, ⟨#[98]⟩⟩, ⟨3, 0, ⟨#[98]⟩⟩⟩ = true from by rw [hj2, hno, hon, jnj2]; exact eqZ_self _] at h
    exact h)
  clear hj2
  clear hz hno hon hba
  go_enter Try.func3, Try.ntmps3
  go_wp2_with fail
  refine (HL.out _).mono ?_
  rintro e wk ⟨rfl, hg⟩
  have GC := Lib.hid (hg)
  clear hg
  dsimp only
  go_wp2_with fail
  refine (H1.out _).mono ?_
  rintro e wk ⟨rfl, hg⟩
  have GC := Lib.hid (grown_then GC.out hg)
  clear hg
  dsimp only
  go_wp2_with fail
  refine (H2.out _).mono ?_
  rintro e wk ⟨rfl, hg⟩
  have GC := Lib.hid (grown_then GC.out hg)
  clear hg
  dsimp only
  go_wp2_with fail
  have hl : CSeg (wk.alloc (.cells #[.int .i64 1, .int .i64 3, .string ⟨#[]⟩, .int .i64 0, .int .i64 0, .string ⟨#[]⟩, .int .i64 1, .int .i64 5, .string ⟨#[]⟩] 24)) (some ⟨wk.heap.size, 0, none⟩) 3 3 l3 := CSeg.lit wk l3 (by decide)
  refine (HO.out _ _ hl).mono ?_
  rintro e wk ⟨rfl, hg⟩
  have GC := Lib.hid (grown_then (grown_then GC.out (grown_alloc _ _)) hg)
  clear hg hl
  dsimp only
  go_wp2_with fail
  obtain ⟨W1, hW1⟩ : ∃ V, wk.alloc (.cells #[.int .i64 z.cnt, .int .i64 z.nul, .int .i64 z.min.k, .int .i64 z.min.n, .string z.min.s, .int .i64 z.max.k, .int .i64 z.max.n, .string z.max.s] 26) = V := ⟨_, rfl⟩
  have hgr : wk.grownBy W1 none := by rw [← hW1]; exact grown_alloc _ _
  have GC : Hid (w.grownBy W1 none) := Lib.hid (grown_then GC.out hgr)
  have Bz : Hid (ZB W1 wk.heap.size z) := Lib.hid (by rw [← hW1]; exact ZB.new _ z)
  have hs1 : W1.heap.size = wk.heap.size + 1 := by rw [← hW1, World.size_alloc]
  rw [hW1]
  rw [← hs1]
  clear hW1 hgr hs1
  generalize wk.heap.size = gz at *
  have hl := CSeg.lit W1 [⟨0, 0, ⟨#[]⟩⟩, ⟨0, 0, ⟨#[]⟩⟩] (by decide)
  refine (H3.out _ _ hl).mono ?_
  rintro e wk ⟨rfl, hg⟩
  have hgr := grown_then (grown_alloc _ _) hg
  have GC := Lib.hid (grown_then GC.out hgr)
  have Bz := Lib.hid (Bz.out.old hgr)
  clear hg hl hgr
  dsimp only
  go_wp2_with fail
  obtain ⟨W1, hW1⟩ : ∃ V, wk.alloc (.cells #[.int .i64 no.cnt, .int .i64 no.nul, .int .i64 no.min.k, .int .i64 no.min.n, .string no.min.s, .int .i64 no.max.k, .int .i64 no.max.n, .string no.max.s] 26) = V := ⟨_, rfl⟩
  have hgr : wk.grownBy W1 none := by rw [← hW1]; exact grown_alloc _ _
  have GC : Hid (w.grownBy W1 none) := Lib.hid (grown_then GC.out hgr)
  have Bno : Hid (ZB W1 wk.heap.size no) := Lib.hid (by rw [← hW1]; exact ZB.new _ no)
  have hs1 : W1.heap.size = wk.heap.size + 1 := by rw [← hW1, World.size_alloc]
  have Bz := Lib.hid (Bz.out.old hgr)
  rw [hW1]
  clear hW1 hgr hs1
  generalize wk.heap.size = gn at *
  refine (H5.out _).mono ?_
  rintro e wk ⟨rfl, hg⟩
  have GC := Lib.hid (grown_then GC.out hg)
  have Bz := Lib.hid (Bz.out.old hg)
  have Bno := Lib.hid (Bno.out.old hg)
  clear hg
  dsimp only
  go_wp2_with fail
  have hl := CSeg.lit wk [⟨3, 0, ⟨#[98]⟩⟩] (by decide)
  refine (H4.out _ _ hl).mono ?_
  rintro e wk ⟨rfl, hg⟩
  have hgr := grown_then (grown_alloc _ _) hg
  have GC := Lib.hid (grown_then GC.out hgr)
  have Bz := Lib.hid (Bz.out.old hgr)
  have Bno := Lib.hid (Bno.out.old hgr)
  clear hg hl hgr
  dsimp only
  go_upto_region 6 with (fail)
  obtain ⟨W1, hW1⟩ : ∃ V, wk.alloc (.cells #[.int .i64 on.cnt, .int .i64 on.nul, .int .i64 on.min.k, .int .i64 on.min.n, .string on.min.s, .int .i64 on.max.k, .int .i64 on.max.n, .string on.max.s] 26) = V := ⟨_, rfl⟩
  have hgr : wk.grownBy W1 none := by rw [← hW1]; exact grown_alloc _ _
  have GC : Hid (w.grownBy W1 none) := Lib.hid (grown_then GC.out hgr)
  have Bon : Hid (ZB W1 wk.heap.size on) := Lib.hid (by rw [← hW1]; exact ZB.new _ on)
  have hs1 : W1.heap.size = wk.heap.size + 1 := by rw [← hW1, World.size_alloc]
  have Bz := Lib.hid (Bz.out.old hgr)
  have Bno := Lib.hid (Bno.out.old hgr)
  rw [hW1]
  clear hW1 hgr hs1
  generalize wk.heap.size = go at *
  obtain ⟨z0, z1, ⟨z2, z3, z4⟩, z5, z6, z7⟩ := (Bz.out).cells
  go_wp2_with fail
  clear z0 z1 z2 z3 z4 z5 z6 z7
  have LG := Lib.hid GC.out.size
  have NZ := Lib.hid (Nat.ne_of_lt Bz.out.lt)
  have NN := Lib.hid (Nat.ne_of_lt Bno.out.lt)
  have NO := Lib.hid (Nat.ne_of_lt Bon.out.lt)
  obtain ⟨W2, hW2⟩ : ∃ V, W1.alloc (.cells #[.int .i64 z.cnt, .int .i64 z.nul, .int .i64 z.min.k, .int .i64 z.min.n, .string z.min.s, .int .i64 z.max.k, .int .i64 z.max.n, .string z.max.s] 26) = V := ⟨_, rfl⟩
  have hgr : W1.grownBy W2 none := by rw [← hW2]; exact grown_alloc _ _
  have GC : Hid (w.grownBy W2 none) := Lib.hid (grown_then GC.out hgr)
  have Bba : Hid (ZB W2 W1.heap.size z) := Lib.hid (by rw [← hW2]; exact ZB.new _ z)
  have hs1 : W2.heap.size = W1.heap.size + 1 := by rw [← hW2, World.size_alloc]
  have Bz := Lib.hid (Bz.out.old hgr)
  have Bno := Lib.hid (Bno.out.old hgr)
  have Bon := Lib.hid (Bon.out.old hgr)
  rw [hW2]
  clear hW2 hgr hs1
  generalize W1.heap.size = g4 at *
  refine (H6.out _).mono ?_
  rintro e wk ⟨rfl, hg⟩
  have GC := Lib.hid (grown_then GC.out hg)
  have Bz := Lib.hid (Bz.out.old hg)
  have Bno := Lib.hid (Bno.out.old hg)
  have Bon := Lib.hid (Bon.out.old hg)
  have Bba := Lib.hid (Bba.out.old hg)
  clear hg
  dsimp only
  obtain ⟨b0, b1, ⟨b2, b3, b4⟩, b5, b6, b7⟩ := Bba.out.cells
  have y2 := Bba.out.froz 2
  have y3 := Bba.out.froz 3
  have y4 := Bba.out.froz 4
  go_upto_region 8 with (fail)
  clear b0 b1 b2 b3 b4 b5 b6 b7 y2 y3 y4
  obtain ⟨W3, hW3⟩ : ∃ V, ((wk.setCell ⟨g4, 2, none⟩ (.int .i64 1)).setCell ⟨g4, 3, none⟩ (.int .i64 6)).setCell ⟨g4, 4, none⟩ (.string ⟨#[]⟩) = V := ⟨_, rfl⟩
  have ht : Turn wk W3 (· = g4) := by rw [← hW3]; exact turn_set3 _ _ _ _ _ _ _ _
  have Bba : Hid (ZB W3 g4 ba) := Lib.hid (by rw [← hW3, HBA.out]; exact Bba.out.setMin ⟨1, 6, ⟨#[]⟩⟩)
  have GC := Lib.hid (grown_put GC.out ht LG.out)
  have Bz := Lib.hid (Bz.out.not ht NZ.out)
  have Bno := Lib.hid (Bno.out.not ht NN.out)
  have Bon := Lib.hid (Bon.out.not ht NO.out)
  rw [hW3]
  clear hW3 ht NZ NN NO LG HBA
  have GX := Lib.hid (grown_refl W3)
  go_wp2_with fail
  refine (H8.out _).mono ?_
  rintro e wk ⟨rfl, hg⟩
  have GX := Lib.hid (grown_then GX.out hg)
  clear hg
  dsimp only
  go_wp2_with fail
  refine (H9.out _).mono ?_
  rintro e wk ⟨rfl, hg⟩
  have GX := Lib.hid (grown_then GX.out hg)
  clear hg
  dsimp only
  go_wp2_with fail
  refine (H10.out _).mono ?_
  rintro e wk ⟨rfl, hg⟩
  have GX := Lib.hid (grown_then GX.out hg)
  clear hg
  dsimp only
  go_wp2_with fail
  refine (H7.out _).mono ?_
  rintro e wk ⟨rfl, hg⟩
  have GX := Lib.hid (grown_then GX.out hg)
  clear hg
  dsimp only
  go_wp2_with fail
  refine (HTS.out _).mono ?_
  rintro e wk ⟨rfl, hg⟩
  have GX := Lib.hid (grown_then GX.out hg)
  clear hg
  dsimp only
  go_wp2_with fail
  refine (HTC.out _).mono ?_
  rintro e wk ⟨rfl, hg⟩
  have GX := Lib.hid (grown_then GX.out hg)
  clear hg
  dsimp only
  go_wp2_with fail
  refine (H11.out _).mono ?_
  rintro e wk ⟨rfl, hg⟩
  have GX := Lib.hid (grown_then GX.out hg)
  clear hg
  dsimp only
  go_wp2_with fail
  refine (H12.out _).mono ?_
  rintro e wk ⟨rfl, hg⟩
  have GX := Lib.hid (grown_then GX.out hg)
  clear hg
  dsimp only
  go_wp2_with fail
  refine (H2.out _).mono ?_
  rintro e wk ⟨rfl, hg⟩
  have GX := Lib.hid (grown_then GX.out hg)
  clear hg
  dsimp only
  go_wp2_with fail
  refine (H13.out _).mono ?_
  rintro e wk ⟨rfl, hg⟩
  have GX := Lib.hid (grown_then GX.out hg)
  clear hg
  dsimp only
  go_wp2_with fail
  refine (H14.out _).mono ?_
  rintro e wk ⟨rfl, hg⟩
  have GX := Lib.hid (grown_then GX.out hg)
  clear hg
  dsimp only
  go_wp2_with fail
  refine (H15.out _).mono ?_
  rintro e wk ⟨rfl, hg⟩
  have GX := Lib.hid (grown_then GX.out hg)
  clear hg
  dsimp only
  go_wp2_with fail
  refine (H16.out _).mono ?_
  rintro e wk ⟨rfl, hg⟩
  have GX := Lib.hid (grown_then GX.out hg)
  clear hg
  dsimp only
  go_wp2_with fail
  refine (H17.out _).mono ?_
  rintro e wk ⟨rfl, hg⟩
  have GX := Lib.hid (grown_then GX.out hg)
  clear hg
  dsimp only
  go_wp2_with fail
  refine (H18.out _).mono ?_
  rintro e wk ⟨rfl, hg⟩
  have GX := Lib.hid (grown_then GX.out hg)
  clear hg
  dsimp only
  go_wp2_with fail
  refine (H19.out _).mono ?_
  rintro e wk ⟨rfl, hg⟩
  have GX := Lib.hid (grown_then GX.out hg)
  clear hg
  dsimp only
  go_wp2_with fail
  refine (H5.out _).mono ?_
  rintro e wk ⟨rfl, hg⟩
  have GX := Lib.hid (grown_then GX.out hg)
  clear hg
  dsimp only
  go_wp2_with fail
  refine (H5.out _).mono ?_
  rintro e wk ⟨rfl, hg⟩
  have GX := Lib.hid (grown_then GX.out hg)
  clear hg
  dsimp only
  go_wp2_with fail
  refine (H20.out _).mono ?_
  rintro e wk ⟨rfl, hg⟩
  have GX := Lib.hid (grown_then GX.out hg)
  clear hg
  dsimp only
  go_wp2_with fail
  refine (H2.out _).mono ?_
  rintro e wk ⟨rfl, hg⟩
  have GX := Lib.hid (grown_then GX.out hg)
  clear hg
  dsimp only
  go_wp2_with fail
  refine (H2.out _).mono ?_
  rintro e wk ⟨rfl, hg⟩
  have GX := Lib.hid (grown_then GX.out hg)
  clear hg
  dsimp only
  go_wp2_with fail
  refine (H21.out _).mono ?_
  rintro e wk ⟨rfl, hg⟩
  have GX := Lib.hid (grown_then GX.out hg)
  clear hg
  dsimp only
  go_wp2_with fail
  refine (H2.out _).mono ?_
  rintro e wk ⟨rfl, hg⟩
  have GX := Lib.hid (grown_then GX.out hg)
  clear hg
  dsimp only
  go_wp2_with fail
  refine (H2.out _).mono ?_
  rintro e wk ⟨rfl, hg⟩
  have GX := Lib.hid (grown_then GX.out hg)
  clear hg
  dsimp only
  go_wp2_with fail
  refine (H22.out _).mono ?_
  rintro e wk ⟨rfl, hg⟩
  have GX := Lib.hid (grown_then GX.out hg)
  clear hg
  dsimp only
  go_wp2_with fail
  refine (H2.out _).mono ?_
  rintro e wk ⟨rfl, hg⟩
  have GX := Lib.hid (grown_then GX.out hg)
  clear hg
  dsimp only
  go_wp2_with fail
  refine (H23.out _).mono ?_
  rintro e wk ⟨rfl, hg⟩
  have GX := Lib.hid (grown_then GX.out hg)
  clear hg
  dsimp only
  go_wp2_with fail
  refine (H24.out _).mono ?_
  rintro e wk ⟨rfl, hg⟩
  have GX := Lib.hid (grown_then GX.out hg)
  clear hg
  dsimp only
  go_wp2_with fail
  refine (H25.out _).mono ?_
  rintro e wk ⟨rfl, hg⟩
  have GX := Lib.hid (grown_then GX.out hg)
  clear hg
  dsimp only
  go_wp2_with fail
  refine (H2.out _).mono ?_
  rintro e wk ⟨rfl, hg⟩
  have GX := Lib.hid (grown_then GX.out hg)
  clear hg
  dsimp only
  go_wp2_with fail
  refine (H2.out _).mono ?_
  rintro e wk ⟨rfl, hg⟩
  have GX := Lib.hid (grown_then GX.out hg)
  clear hg
  dsimp only
  go_wp2_with fail
  refine (H26.out _).mono ?_
  rintro e wk ⟨rfl, hg⟩
  have GX := Lib.hid (grown_then GX.out hg)
  clear hg
  dsimp only
  go_upto_region 11 with (fail)
  obtain ⟨a0, a1, ⟨a2, a3, a4⟩, a5, a6, a7⟩ := (Bz.out.old GX.out).gw
  obtain ⟨b0, b1, ⟨b2, b3, b4⟩, b5, b6, b7⟩ := (Bno.out.old GX.out).gw
  obtain ⟨c0, c1, ⟨c2, c3, c4⟩, c5, c6, c7⟩ := (Bon.out.old GX.out).gw
  refine wp_region_grow (by kernel_rfl) ?_
  repeat (go_big_quiet_step (first | (go_at_call 10; with_reducible exact Calls.grow_of (H27.out _)) | (go_at_call 10; with_reducible exact Calls.grow_of (H1.out _)) | (go_at_call 10; with_reducible exact Calls.grow_of (H28.out _)) | (go_at_call 11; with_reducible exact Calls.grow_of (H17.out _)) | (go_at_call 11; with_reducible exact Calls.grow_of (H5.out _)) | (go_at_call 16; with_reducible exact Calls.grow_of (H29.out _)) | (go_at_call 16; with_reducible exact Calls.grow_of (H30.out _)) | (go_at_call 16; with_reducible exact Calls.grow_of (H31.out _)) | (go_at_call 16; with_reducible exact Calls.grow_of (H32.out _)) | (go_at_call 16; with_reducible exact Calls.grow_of (H33.out _)) | (go_at_call 16; with_reducible exact Calls.grow_of (H34.out _)) | (go_at_call 16; with_reducible exact Calls.grow_of (H35.out _)) | (go_at_call 16; with_reducible exact Calls.grow_of (H36.out _)) | fail))
  refine wpQuiet_nil ?_
  rintro _ ⟨p, rfl⟩
  have GX := Lib.hid (grown_then GX.out p.grown)
  clear a0 a1 a2 a3 a4 a5 a6 a7 b0 b1 b2 b3 b4 b5 b6 b7 c0 c1 c2 c3 c4 c5 c6 c7
  generalize p.at_ = wk at *
  clear p
  obtain ⟨a0, a1, ⟨a2, a3, a4⟩, a5, a6, a7⟩ := (Bz.out.old GX.out).cells
  go_wp2_with fail
  refine (H37.out _).mono ?_
  rintro e wk ⟨rfl, hg⟩
  have GX := Lib.hid (grown_then GX.out hg)
  clear hg a0 a1 a2 a3 a4 a5 a6 a7
  dsimp only
  obtain ⟨a0, a1, ⟨a2, a3, a4⟩, a5, a6, a7⟩ := (Bz.out.old GX.out).cells
  go_wp2_with fail
  refine (H38.out _).mono ?_
  rintro e wk ⟨rfl, hg⟩
  have GX := Lib.hid (grown_then GX.out hg)
  clear hg a0 a1 a2 a3 a4 a5 a6 a7
  dsimp only
  obtain ⟨a0, a1, ⟨a2, a3, a4⟩, a5, a6, a7⟩ := (Bba.out.old GX.out).cells
  go_wp2_with fail
  refine (H39.out _).mono ?_
  rintro e wk ⟨rfl, hg⟩
  have GX := Lib.hid (grown_then GX.out hg)
  clear hg a0 a1 a2 a3 a4 a5 a6 a7
  dsimp only
  obtain ⟨a0, a1, ⟨a2, a3, a4⟩, a5, a6, a7⟩ := (Bno.out.old GX.out).cells
  go_wp2_with fail
  refine (H40.out _).mono ?_
  rintro e wk ⟨rfl, hg⟩
  have GX := Lib.hid (grown_then GX.out hg)
  clear hg a0 a1 a2 a3 a4 a5 a6 a7
  dsimp only
  obtain ⟨a0, a1, ⟨a2, a3, a4⟩, a5, a6, a7⟩ := (Bno.out.old GX.out).cells
  go_wp2_with fail
  refine (H41.out _).mono ?_
  rintro e wk ⟨rfl, hg⟩
  have GX := Lib.hid (grown_then GX.out hg)
  clear hg a0 a1 a2 a3 a4 a5 a6 a7
  dsimp only
  go_wp2_with fail
  refine (H42.out _).mono ?_
  rintro e wk ⟨rfl, hg⟩
  have GX := Lib.hid (grown_then GX.out hg)
  clear hg
  dsimp only
  obtain ⟨a0, a1, ⟨a2, a3, a4⟩, a5, a6, a7⟩ := (Bz.out.old GX.out).cells
  obtain ⟨b0, b1, ⟨b2, b3, b4⟩, b5, b6, b7⟩ := (Bno.out.old GX.out).cells
  go_wp2_with fail
  refine (H43.out _).mono ?_
  rintro e wk ⟨rfl, hg⟩
  have GX := Lib.hid (grown_then GX.out hg)
  clear hg a0 a1 a2 a3 a4 a5 a6 a7 b0 b1 b2 b3 b4 b5 b6 b7
  dsimp only
  go_wp2_with fail
  refine (H1.out _).mono ?_
  rintro e wk ⟨rfl, hg⟩
  have GX := Lib.hid (grown_then GX.out hg)
  clear hg
  dsimp only
  go_wp2_with fail
  refine (H2.out _).mono ?_
  rintro e wk ⟨rfl, hg⟩
  have GX := Lib.hid (grown_then GX.out hg)
  clear hg
  dsimp only
  have e1 := Ej1.out
  have e2 := Ej2.out
  obtain ⟨a0, a1, ⟨a2, a3, a4⟩, a5, a6, a7⟩ := (Bno.out.old GX.out).cells
  obtain ⟨b0, b1, ⟨b2, b3, b4⟩, b5, b6, b7⟩ := (Bon.out.old GX.out).cells
  go_wp2_with fail
  refine (H44.out _).mono ?_
  rintro e wk ⟨rfl, hg⟩
  have GX := Lib.hid (grown_then GX.out hg)
  clear hg a0 a1 a2 a3 a4 a5 a6 a7 b0 b1 b2 b3 b4 b5 b6 b7
  dsimp only
  go_wp2_with fail
  refine (H5.out _).mono ?_
  rintro e wk ⟨rfl, hg⟩
  have GX := Lib.hid (grown_then GX.out hg)
  clear hg
  dsimp only
  go_wp2_with fail
  refine (H5.out _).mono ?_
  rintro e wk ⟨rfl, hg⟩
  have GX := Lib.hid (grown_then GX.out hg)
  clear hg
  dsimp only
  go_wp2
  go_ret
  exact ⟨rfl, below_of (grown_then GC.out GX.out)⟩
end Go.Proofs.Ytpincfofnlfjiaa.Zn
