/-
  DERIVED. GIVEN WITH THE SEED: THE CARDS: each row of YtfojkglindpjjaaDoorRows.lean that lists a variable, with what it lists TIED to the program's text (the seventh form; the later family's looks); each row that meets fmt, with fmt's text TOLD by the authors' own Lean function (tested against real Go, not proved from fmt's source: count such statements apart). THE CARD IS WHAT COUNTS. Prove the row's statement (the work); the ties are given (YtfojkglindpjjaaDoorTie.lean); close each card by the builder's one call (the guide's Derived/Test/ToyasCard.lean, 'card_holds'). Laid BY PROGRAM, IN A SANDBOX (cutbox-door.mjs). By AI agents, Wed Nov 11 2026. No macro, syntax, notation, axiom, sorry.
-/
import Derived.Test.YtfojkglindpjjaaDoorRows
import GoSem.ClaimSeven
namespace Go.Proofs.YtfojkglindpjjaaDoor
namespace Rows

/-- THE TIED CARD OF 'shadowbooklaw11.SuperNames'. -/
def superNamesCard : Claim7 := { stood := { row := superNamesRow, standIns := [], harness := (true, "ebf7147030e642b4507631005a8061c939ed1002b3a49ae0bf74b1364a11ce66"), looks := false }, kinds := [], alts := [], laidByText := true, laidKinds := [.data], laidTests := true, laidLooks := .later }
def SuperNamesCardSaid : Prop := Claim7.holds Tryd.pinned (.plain (OpenSpec.ofChange superNamesSpec)) superNamesCard

/-- THE TIED CARD OF 'shadowbooklaw11.SuperCalls'. -/
def superCallsCard : Claim7 := { stood := { row := superCallsRow, standIns := [], harness := (true, "ebf7147030e642b4507631005a8061c939ed1002b3a49ae0bf74b1364a11ce66"), looks := false }, kinds := [], alts := [], laidByText := true, laidKinds := [.data], laidTests := true, laidLooks := .later }
def SuperCallsCardSaid : Prop := Claim7.holds Tryd.pinned (.plain (OpenSpec.ofChange superCallsSpec)) superCallsCard

/-- THE TIED CARD OF 'shadowbooklaw11.SuperTorn'. -/
def superTornCard : Claim7 := { stood := { row := superTornRow, standIns := [], harness := (true, "ebf7147030e642b4507631005a8061c939ed1002b3a49ae0bf74b1364a11ce66"), looks := false }, kinds := [], alts := [], laidByText := true, laidKinds := [.data], laidTests := true, laidLooks := .later }
def SuperTornCardSaid : Prop := Claim7.holds Tryd.pinned (.plain (OpenSpec.ofChange superTornSpec)) superTornCard

/-- THE TIED CARD OF 'shadowbooklaw11.SuperBack'. -/
def superBackCard : Claim7 := { stood := { row := superBackRow, standIns := [], harness := (true, "ebf7147030e642b4507631005a8061c939ed1002b3a49ae0bf74b1364a11ce66"), looks := false }, kinds := [], alts := [], laidByText := true, laidKinds := [.data], laidTests := true, laidLooks := .later }
def SuperBackCardSaid : Prop := Claim7.holds Tryd.pinned (.plain (OpenSpec.ofChange superBackSpec)) superBackCard

/-- THE TIED CARD OF 'shadowbooklaw11.SuperTurns'. -/
def superTurnsCard : Claim7 := { stood := { row := superTurnsRow, standIns := [], harness := (true, "ebf7147030e642b4507631005a8061c939ed1002b3a49ae0bf74b1364a11ce66"), looks := false }, kinds := [], alts := [], laidByText := true, laidKinds := [.data], laidTests := true, laidLooks := .later }
def SuperTurnsCardSaid : Prop := Claim7.holds Tryd.pinned (.plain (OpenSpec.ofChange superTurnsSpec)) superTurnsCard

/-- THE SECOND FORM's CARD OF 'shadowbooklaw11.SuperNames'. -/
def superNamesUptoCard : Claim7 := { stood := { row := superNamesUptoRow, standIns := [], harness := (true, "ebf7147030e642b4507631005a8061c939ed1002b3a49ae0bf74b1364a11ce66"), looks := false }, kinds := [], alts := [], laidByText := true, laidKinds := [.data], laidTests := true, laidLooks := .later }
def SuperNamesUptoCardSaid : Prop := Claim7.holds Tryd.pinned (.plain (OpenSpec.upto superNamesSpec)) superNamesUptoCard

/-- THE SECOND FORM's CARD OF 'shadowbooklaw11.SuperCalls'. -/
def superCallsUptoCard : Claim7 := { stood := { row := superCallsUptoRow, standIns := [], harness := (true, "ebf7147030e642b4507631005a8061c939ed1002b3a49ae0bf74b1364a11ce66"), looks := false }, kinds := [], alts := [], laidByText := true, laidKinds := [.data], laidTests := true, laidLooks := .later }
def SuperCallsUptoCardSaid : Prop := Claim7.holds Tryd.pinned (.plain (OpenSpec.upto superCallsSpec)) superCallsUptoCard

/-- THE SECOND FORM's CARD OF 'shadowbooklaw11.SuperTorn'. -/
def superTornUptoCard : Claim7 := { stood := { row := superTornUptoRow, standIns := [], harness := (true, "ebf7147030e642b4507631005a8061c939ed1002b3a49ae0bf74b1364a11ce66"), looks := false }, kinds := [], alts := [], laidByText := true, laidKinds := [.data], laidTests := true, laidLooks := .later }
def SuperTornUptoCardSaid : Prop := Claim7.holds Tryd.pinned (.plain (OpenSpec.upto superTornSpec)) superTornUptoCard

/-- THE SECOND FORM's CARD OF 'shadowbooklaw11.SuperBack'. -/
def superBackUptoCard : Claim7 := { stood := { row := superBackUptoRow, standIns := [], harness := (true, "ebf7147030e642b4507631005a8061c939ed1002b3a49ae0bf74b1364a11ce66"), looks := false }, kinds := [], alts := [], laidByText := true, laidKinds := [.data], laidTests := true, laidLooks := .later }
def SuperBackUptoCardSaid : Prop := Claim7.holds Tryd.pinned (.plain (OpenSpec.upto superBackSpec)) superBackUptoCard

/-- THE SECOND FORM's CARD OF 'shadowbooklaw11.SuperTurns'. -/
def superTurnsUptoCard : Claim7 := { stood := { row := superTurnsUptoRow, standIns := [], harness := (true, "ebf7147030e642b4507631005a8061c939ed1002b3a49ae0bf74b1364a11ce66"), looks := false }, kinds := [], alts := [], laidByText := true, laidKinds := [.data], laidTests := true, laidLooks := .later }
def SuperTurnsUptoCardSaid : Prop := Claim7.holds Tryd.pinned (.plain (OpenSpec.upto superTurnsSpec)) superTurnsUptoCard
end Rows
end Go.Proofs.YtfojkglindpjjaaDoor
