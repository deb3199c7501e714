/-
  DERIVED. GIVEN WITH THE SEED: THE CARDS: each row of YtgffbbdcbkikhaaGreatDoorRows.lean that lists a variable, with what it lists TIED to the program's text (the seventh form; the later family's looks); each row that meets fmt, with fmt's text TOLD by the authors' own Lean function (tested against real Go, not proved from fmt's source: count such statements apart). THE CARD IS WHAT COUNTS. Prove the row's statement (the work); the ties are given (YtgffbbdcbkikhaaGreatDoorTie.lean); close each card by the builder's one call (the guide's Derived/Test/ToyasCard.lean, 'card_holds'). Laid BY PROGRAM, IN A SANDBOX (cutbox-door.mjs). By AI agents, Wed Nov 11 2026. No macro, syntax, notation, axiom, sorry.
-/
import Derived.Test.YtgffbbdcbkikhaaGreatDoorRows
import GoSem.ClaimSeven
namespace Go.Proofs.YtgffbbdcbkikhaaGreatDoor
namespace Rows

/-- THE TIED CARD OF 'shadowbooklaw15.BlobNames'. -/
def blobNamesCard : Claim7 := { stood := { row := blobNamesRow, standIns := [], harness := (true, "2d5a390e027ebf795b38d04c212c4254dc1be51e14d02892b918ac25030782d0"), looks := false }, kinds := [], alts := [], laidByText := true, laidKinds := [.data], laidTests := true, laidLooks := .later }
def BlobNamesCardSaid : Prop := Claim7.holds Tryz.pinned (.plain (OpenSpec.ofChange blobNamesSpec)) blobNamesCard

/-- THE TIED CARD OF 'shadowbooklaw15.BlobBack'. -/
def blobBackCard : Claim7 := { stood := { row := blobBackRow, standIns := [], harness := (true, "2d5a390e027ebf795b38d04c212c4254dc1be51e14d02892b918ac25030782d0"), looks := false }, kinds := [], alts := [], laidByText := true, laidKinds := [.data], laidTests := true, laidLooks := .later }
def BlobBackCardSaid : Prop := Claim7.holds Tryz.pinned (.plain (OpenSpec.ofChange blobBackSpec)) blobBackCard

/-- THE TIED CARD OF 'shadowbooklaw15.BlobApart'. -/
def blobApartCard : Claim7 := { stood := { row := blobApartRow, standIns := [], harness := (true, "2d5a390e027ebf795b38d04c212c4254dc1be51e14d02892b918ac25030782d0"), looks := false }, kinds := [], alts := [], laidByText := true, laidKinds := [.data], laidTests := true, laidLooks := .later }
def BlobApartCardSaid : Prop := Claim7.holds Tryz.pinned (.plain (OpenSpec.ofChange blobApartSpec)) blobApartCard

/-- THE TIED CARD OF 'shadowbooklaw15.BlobParts'. -/
def blobPartsCard : Claim7 := { stood := { row := blobPartsRow, standIns := [], harness := (true, "2d5a390e027ebf795b38d04c212c4254dc1be51e14d02892b918ac25030782d0"), looks := false }, kinds := [], alts := [], laidByText := true, laidKinds := [.data], laidTests := true, laidLooks := .later }
def BlobPartsCardSaid : Prop := Claim7.holds Tryz.pinned (.plain (OpenSpec.ofChange blobPartsSpec)) blobPartsCard

/-- THE TIED CARD OF 'shadowbooklaw15.BlobSizes'. -/
def blobSizesCard : Claim7 := { stood := { row := blobSizesRow, standIns := [], harness := (true, "2d5a390e027ebf795b38d04c212c4254dc1be51e14d02892b918ac25030782d0"), looks := false }, kinds := [], alts := [], laidByText := true, laidKinds := [.data], laidTests := true, laidLooks := .later }
def BlobSizesCardSaid : Prop := Claim7.holds Tryz.pinned (.plain (OpenSpec.ofChange blobSizesSpec)) blobSizesCard

/-- THE SECOND FORM's CARD OF 'shadowbooklaw15.BlobNames'. -/
def blobNamesUptoCard : Claim7 := { stood := { row := blobNamesUptoRow, standIns := [], harness := (true, "2d5a390e027ebf795b38d04c212c4254dc1be51e14d02892b918ac25030782d0"), looks := false }, kinds := [], alts := [], laidByText := true, laidKinds := [.data], laidTests := true, laidLooks := .later }
def BlobNamesUptoCardSaid : Prop := Claim7.holds Tryz.pinned (.plain (OpenSpec.upto blobNamesSpec)) blobNamesUptoCard

/-- THE SECOND FORM's CARD OF 'shadowbooklaw15.BlobBack'. -/
def blobBackUptoCard : Claim7 := { stood := { row := blobBackUptoRow, standIns := [], harness := (true, "2d5a390e027ebf795b38d04c212c4254dc1be51e14d02892b918ac25030782d0"), looks := false }, kinds := [], alts := [], laidByText := true, laidKinds := [.data], laidTests := true, laidLooks := .later }
def BlobBackUptoCardSaid : Prop := Claim7.holds Tryz.pinned (.plain (OpenSpec.upto blobBackSpec)) blobBackUptoCard

/-- THE SECOND FORM's CARD OF 'shadowbooklaw15.BlobApart'. -/
def blobApartUptoCard : Claim7 := { stood := { row := blobApartUptoRow, standIns := [], harness := (true, "2d5a390e027ebf795b38d04c212c4254dc1be51e14d02892b918ac25030782d0"), looks := false }, kinds := [], alts := [], laidByText := true, laidKinds := [.data], laidTests := true, laidLooks := .later }
def BlobApartUptoCardSaid : Prop := Claim7.holds Tryz.pinned (.plain (OpenSpec.upto blobApartSpec)) blobApartUptoCard

/-- THE SECOND FORM's CARD OF 'shadowbooklaw15.BlobParts'. -/
def blobPartsUptoCard : Claim7 := { stood := { row := blobPartsUptoRow, standIns := [], harness := (true, "2d5a390e027ebf795b38d04c212c4254dc1be51e14d02892b918ac25030782d0"), looks := false }, kinds := [], alts := [], laidByText := true, laidKinds := [.data], laidTests := true, laidLooks := .later }
def BlobPartsUptoCardSaid : Prop := Claim7.holds Tryz.pinned (.plain (OpenSpec.upto blobPartsSpec)) blobPartsUptoCard

/-- THE SECOND FORM's CARD OF 'shadowbooklaw15.BlobSizes'. -/
def blobSizesUptoCard : Claim7 := { stood := { row := blobSizesUptoRow, standIns := [], harness := (true, "2d5a390e027ebf795b38d04c212c4254dc1be51e14d02892b918ac25030782d0"), looks := false }, kinds := [], alts := [], laidByText := true, laidKinds := [.data], laidTests := true, laidLooks := .later }
def BlobSizesUptoCardSaid : Prop := Claim7.holds Tryz.pinned (.plain (OpenSpec.upto blobSizesSpec)) blobSizesUptoCard
end Rows
end Go.Proofs.YtgffbbdcbkikhaaGreatDoor
