/-
  DERIVED. GIVEN WITH THE SEED: THE CARDS: each row of YtbbbocoliandcaaGreatDoorRows.lean that lists a variable, with what it lists TIED to the program's text (the seventh form; the later family's looks); each row that meets fmt, with fmt's text TOLD by the authors' own Lean function (tested against real Go, not proved from fmt's source: count such statements apart). THE CARD IS WHAT COUNTS. Prove the row's statement (the work); the ties are given (YtbbbocoliandcaaGreatDoorTie.lean); close each card by the builder's one call (the guide's Derived/Test/ToyasCard.lean, 'card_holds'). Laid BY PROGRAM, IN A SANDBOX (cutbox-door.mjs). By AI agents, Wed Nov 11 2026. No macro, syntax, notation, axiom, sorry.
-/
import Derived.Test.YtbbbocoliandcaaGreatDoorRows
import GoSem.ClaimSeven
namespace Go.Proofs.YtbbbocoliandcaaGreatDoor
namespace Rows

/-- THE TIED CARD OF 'shadowbooklaw13.SpaceNames'. -/
def spaceNamesCard : Claim7 := { stood := { row := spaceNamesRow, standIns := [], harness := (true, "385136f13a5b084f2c921a4cfb194f2a3a1f4ae795cb53e408839b2b6847a99f"), looks := false }, kinds := [], alts := [], laidByText := true, laidKinds := [.data], laidTests := true, laidLooks := .later }
def SpaceNamesCardSaid : Prop := Claim7.holds Tryz.pinned (.plain (OpenSpec.ofChange spaceNamesSpec)) spaceNamesCard

/-- THE TIED CARD OF 'shadowbooklaw13.SpaceScript'. -/
def spaceScriptCard : Claim7 := { stood := { row := spaceScriptRow, standIns := [], harness := (true, "385136f13a5b084f2c921a4cfb194f2a3a1f4ae795cb53e408839b2b6847a99f"), looks := false }, kinds := [], alts := [], laidByText := true, laidKinds := [.data], laidTests := true, laidLooks := .later }
def SpaceScriptCardSaid : Prop := Claim7.holds Tryz.pinned (.plain (OpenSpec.ofChange spaceScriptSpec)) spaceScriptCard

/-- THE TIED CARD OF 'shadowbooklaw13.SpaceRefused'. -/
def spaceRefusedCard : Claim7 := { stood := { row := spaceRefusedRow, standIns := [], harness := (true, "385136f13a5b084f2c921a4cfb194f2a3a1f4ae795cb53e408839b2b6847a99f"), looks := false }, kinds := [], alts := [], laidByText := true, laidKinds := [.data], laidTests := true, laidLooks := .later }
def SpaceRefusedCardSaid : Prop := Claim7.holds Tryz.pinned (.plain (OpenSpec.ofChange spaceRefusedSpec)) spaceRefusedCard

/-- THE TIED CARD OF 'shadowbooklaw13.SpaceAudit'. -/
def spaceAuditCard : Claim7 := { stood := { row := spaceAuditRow, standIns := [], harness := (true, "385136f13a5b084f2c921a4cfb194f2a3a1f4ae795cb53e408839b2b6847a99f"), looks := false }, kinds := [], alts := [], laidByText := true, laidKinds := [.data], laidTests := true, laidLooks := .later }
def SpaceAuditCardSaid : Prop := Claim7.holds Tryz.pinned (.plain (OpenSpec.ofChange spaceAuditSpec)) spaceAuditCard

/-- THE TIED CARD OF 'shadowbooklaw13.SpaceCrash'. -/
def spaceCrashCard : Claim7 := { stood := { row := spaceCrashRow, standIns := [], harness := (true, "385136f13a5b084f2c921a4cfb194f2a3a1f4ae795cb53e408839b2b6847a99f"), looks := false }, kinds := [], alts := [], laidByText := true, laidKinds := [.data, .data], laidTests := true, laidLooks := .later }
def SpaceCrashCardSaid : Prop := Claim7.holds Tryz.pinned (.plain (OpenSpec.ofChange spaceCrashSpec)) spaceCrashCard

/-- THE TIED CARD OF 'shadowbooklaw13.SpaceLooks'. -/
def spaceLooksCard : Claim7 := { stood := { row := spaceLooksRow, standIns := [], harness := (true, "385136f13a5b084f2c921a4cfb194f2a3a1f4ae795cb53e408839b2b6847a99f"), looks := false }, kinds := [], alts := [], laidByText := true, laidKinds := [.data], laidTests := true, laidLooks := .later }
def SpaceLooksCardSaid : Prop := Claim7.holds Tryz.pinned (.plain (OpenSpec.ofChange spaceLooksSpec)) spaceLooksCard

/-- THE TIED CARD OF 'shadowbooklaw13.SpaceKeeps'. -/
def spaceKeepsCard : Claim7 := { stood := { row := spaceKeepsRow, standIns := [], harness := (true, "385136f13a5b084f2c921a4cfb194f2a3a1f4ae795cb53e408839b2b6847a99f"), looks := false }, kinds := [], alts := [], laidByText := true, laidKinds := [.data], laidTests := true, laidLooks := .later }
def SpaceKeepsCardSaid : Prop := Claim7.holds Tryz.pinned (.plain (OpenSpec.ofChange spaceKeepsSpec)) spaceKeepsCard

/-- THE SECOND FORM's CARD OF 'shadowbooklaw13.SpaceNames'. -/
def spaceNamesUptoCard : Claim7 := { stood := { row := spaceNamesUptoRow, standIns := [], harness := (true, "385136f13a5b084f2c921a4cfb194f2a3a1f4ae795cb53e408839b2b6847a99f"), looks := false }, kinds := [], alts := [], laidByText := true, laidKinds := [.data], laidTests := true, laidLooks := .later }
def SpaceNamesUptoCardSaid : Prop := Claim7.holds Tryz.pinned (.plain (OpenSpec.upto spaceNamesSpec)) spaceNamesUptoCard

/-- THE SECOND FORM's CARD OF 'shadowbooklaw13.SpaceScript'. -/
def spaceScriptUptoCard : Claim7 := { stood := { row := spaceScriptUptoRow, standIns := [], harness := (true, "385136f13a5b084f2c921a4cfb194f2a3a1f4ae795cb53e408839b2b6847a99f"), looks := false }, kinds := [], alts := [], laidByText := true, laidKinds := [.data], laidTests := true, laidLooks := .later }
def SpaceScriptUptoCardSaid : Prop := Claim7.holds Tryz.pinned (.plain (OpenSpec.upto spaceScriptSpec)) spaceScriptUptoCard

/-- THE SECOND FORM's CARD OF 'shadowbooklaw13.SpaceRefused'. -/
def spaceRefusedUptoCard : Claim7 := { stood := { row := spaceRefusedUptoRow, standIns := [], harness := (true, "385136f13a5b084f2c921a4cfb194f2a3a1f4ae795cb53e408839b2b6847a99f"), looks := false }, kinds := [], alts := [], laidByText := true, laidKinds := [.data], laidTests := true, laidLooks := .later }
def SpaceRefusedUptoCardSaid : Prop := Claim7.holds Tryz.pinned (.plain (OpenSpec.upto spaceRefusedSpec)) spaceRefusedUptoCard

/-- THE SECOND FORM's CARD OF 'shadowbooklaw13.SpaceAudit'. -/
def spaceAuditUptoCard : Claim7 := { stood := { row := spaceAuditUptoRow, standIns := [], harness := (true, "385136f13a5b084f2c921a4cfb194f2a3a1f4ae795cb53e408839b2b6847a99f"), looks := false }, kinds := [], alts := [], laidByText := true, laidKinds := [.data], laidTests := true, laidLooks := .later }
def SpaceAuditUptoCardSaid : Prop := Claim7.holds Tryz.pinned (.plain (OpenSpec.upto spaceAuditSpec)) spaceAuditUptoCard

/-- THE SECOND FORM's CARD OF 'shadowbooklaw13.SpaceCrash'. -/
def spaceCrashUptoCard : Claim7 := { stood := { row := spaceCrashUptoRow, standIns := [], harness := (true, "385136f13a5b084f2c921a4cfb194f2a3a1f4ae795cb53e408839b2b6847a99f"), looks := false }, kinds := [], alts := [], laidByText := true, laidKinds := [.data, .data], laidTests := true, laidLooks := .later }
def SpaceCrashUptoCardSaid : Prop := Claim7.holds Tryz.pinned (.plain (OpenSpec.upto spaceCrashSpec)) spaceCrashUptoCard

/-- THE SECOND FORM's CARD OF 'shadowbooklaw13.SpaceLooks'. -/
def spaceLooksUptoCard : Claim7 := { stood := { row := spaceLooksUptoRow, standIns := [], harness := (true, "385136f13a5b084f2c921a4cfb194f2a3a1f4ae795cb53e408839b2b6847a99f"), looks := false }, kinds := [], alts := [], laidByText := true, laidKinds := [.data], laidTests := true, laidLooks := .later }
def SpaceLooksUptoCardSaid : Prop := Claim7.holds Tryz.pinned (.plain (OpenSpec.upto spaceLooksSpec)) spaceLooksUptoCard

/-- THE SECOND FORM's CARD OF 'shadowbooklaw13.SpaceKeeps'. -/
def spaceKeepsUptoCard : Claim7 := { stood := { row := spaceKeepsUptoRow, standIns := [], harness := (true, "385136f13a5b084f2c921a4cfb194f2a3a1f4ae795cb53e408839b2b6847a99f"), looks := false }, kinds := [], alts := [], laidByText := true, laidKinds := [.data], laidTests := true, laidLooks := .later }
def SpaceKeepsUptoCardSaid : Prop := Claim7.holds Tryz.pinned (.plain (OpenSpec.upto spaceKeepsSpec)) spaceKeepsUptoCard
end Rows
end Go.Proofs.YtbbbocoliandcaaGreatDoor
