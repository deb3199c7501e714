/-
  NARROWER THAN 'FOR EVERY INPUT', by the rows' own cells (each row's printed sentence says how): BlobNames: laid · BlobBack: laid · BlobApart: laid · BlobParts: laid · BlobSizes: laid.
  DERIVED. THE GIVEN ROWS OF THIS SEAT. 5 by the template 'for every input the law returns true; each argument reads behind the call as it read before'; 0 by the template 'total and deterministic' (their statements: YtgffbbdcbkikhaaGreatDoorTotals.lean).
  GIVEN WITH THE SEED: the statements are not yours to turn. If you find one false, say at which input.
  Laid BY PROGRAM, IN A SANDBOX (cutbox-rows.mjs): the forced cells as the released guide's own fill.sh prints them over the translation 3c8492acc4838793… (all of the seat's roots in one cut). By AI agents, Wed Nov 11 2026. No macro, syntax, notation, axiom, sorry.
-/
import Derived.Test.YtgffbbdcbkikhaaGreatDoorChecked
import GoSem.Claim
import GoSem.ClaimJoined
import GoSem.ClaimMapViews
import Derived.JoinedTies
import Derived.KernelRfl
namespace Go.Proofs.YtgffbbdcbkikhaaGreatDoor
/- THE CELL 'sum', in the pinned program and in every row, IS THE sha256 OF THE DUMP (.gsa) THAT YtgffbbdcbkikhaaGreatDoorProg.lean LOADS. Nothing in Lean hashes anything: it is a label: what it is worth is what the hold of that sum in a sandbox is worth. -/
noncomputable def Tryz.pinned : Pinned := { name := "ytgffbbdcbkikhaagreatdoor", sum := "3c8492acc4838793330c0e4eafa9bbdf779693a19fdfe47091770ebdf9991ed2", checked := Tryz.checked }
namespace Rows
def none {H : Type} : Left H := { results := [], args := [] }

/- WHAT THE LISTED PACKAGE-LEVEL VARIABLES READ AS WHEN THE CALL BEGINS. Each datum BY PROGRAM (the guide's laid-datum.mjs) off the statement by which the dump's own 'gosem.cut.vars' lays the variable. In a bare row this is a premise. The card (YtgffbbdcbkikhaaGreatDoorCards.lean) ties it to the program's text. -/
def laid_shadowbook_super_headSizes {H : Type} : DataW H := .agg [.lit (.int .i64 4), .lit (.int .i64 4), .lit (.int .i64 4), .lit (.int .i64 2)]

/-- 'shadowbooklaw15.BlobNames': WHATEVER THE INPUT: true; the input reads as it did. -/
def blobNamesSpec : ChangeSpec := { name := "blobNames", fn := fun _ => fun
  | [] => { results := [.lit (.bool true)], args := [] }
  | _ => none }
def blobNamesRow : OpenClaim := { program := "ytgffbbdcbkikhaagreatdoor", sum := "3c8492acc4838793330c0e4eafa9bbdf779693a19fdfe47091770ebdf9991ed2", func := "shadowbook/shadowbooklaw15.BlobNames", spec := "blobNames", inPlace := ["internal/abi.NoEscape", "internal/bytealg.MakeNoZero"], unfollowed := true, recurses := true, named := ["shadowbook/super.headSizes"], apart := false, laid := [("shadowbook/super.headSizes", laid_shadowbook_super_headSizes)] }
def BlobNamesSaid : Prop := blobNamesRow.holds Tryz.pinned (OpenSpec.ofChange blobNamesSpec)

/-- ITS FALSE NEIGHBOUR: 'it returns false'. Refute it at one input. -/
def blobNamesWrong : ChangeSpec := { name := "blobNames", fn := fun _ => fun
  | [] => { results := [.lit (.bool false)], args := [] }
  | _ => none }
def BlobNamesWrongFalsely : Prop := blobNamesRow.holds Tryz.pinned (OpenSpec.ofChange blobNamesWrong)

/-- 'shadowbooklaw15.BlobBack': WHATEVER THE INPUT: true; the input reads as it did. -/
def blobBackSpec : ChangeSpec := { name := "blobBack", fn := fun _ => fun
  | [d1, d2, d3, d4] => { results := [.lit (.bool true)], args := [d1, d2, d3, d4] }
  | _ => none }
def blobBackRow : OpenClaim := { program := "ytgffbbdcbkikhaagreatdoor", sum := "3c8492acc4838793330c0e4eafa9bbdf779693a19fdfe47091770ebdf9991ed2", func := "shadowbook/shadowbooklaw15.BlobBack", spec := "blobBack", inPlace := ["internal/abi.NoEscape", "internal/bytealg.MakeNoZero"], unfollowed := true, recurses := true, named := ["shadowbook/super.headSizes"], apart := false, laid := [("shadowbook/super.headSizes", laid_shadowbook_super_headSizes)] }
def BlobBackSaid : Prop := blobBackRow.holds Tryz.pinned (OpenSpec.ofChange blobBackSpec)

/-- ITS FALSE NEIGHBOUR: 'it returns false'. Refute it at one input. -/
def blobBackWrong : ChangeSpec := { name := "blobBack", fn := fun _ => fun
  | [d1, d2, d3, d4] => { results := [.lit (.bool false)], args := [d1, d2, d3, d4] }
  | _ => none }
def BlobBackWrongFalsely : Prop := blobBackRow.holds Tryz.pinned (OpenSpec.ofChange blobBackWrong)

/-- 'shadowbooklaw15.BlobApart': WHATEVER THE INPUT: true; the input reads as it did. -/
def blobApartSpec : ChangeSpec := { name := "blobApart", fn := fun _ => fun
  | [d1, d2] => { results := [.lit (.bool true)], args := [d1, d2] }
  | _ => none }
def blobApartRow : OpenClaim := { program := "ytgffbbdcbkikhaagreatdoor", sum := "3c8492acc4838793330c0e4eafa9bbdf779693a19fdfe47091770ebdf9991ed2", func := "shadowbook/shadowbooklaw15.BlobApart", spec := "blobApart", inPlace := ["internal/abi.NoEscape", "internal/bytealg.MakeNoZero"], unfollowed := true, recurses := true, named := ["shadowbook/super.headSizes"], apart := false, laid := [("shadowbook/super.headSizes", laid_shadowbook_super_headSizes)] }
def BlobApartSaid : Prop := blobApartRow.holds Tryz.pinned (OpenSpec.ofChange blobApartSpec)

/-- ITS FALSE NEIGHBOUR: 'it returns false'. Refute it at one input. -/
def blobApartWrong : ChangeSpec := { name := "blobApart", fn := fun _ => fun
  | [d1, d2] => { results := [.lit (.bool false)], args := [d1, d2] }
  | _ => none }
def BlobApartWrongFalsely : Prop := blobApartRow.holds Tryz.pinned (OpenSpec.ofChange blobApartWrong)

/-- 'shadowbooklaw15.BlobParts': WHATEVER THE INPUT: true; the input reads as it did. -/
def blobPartsSpec : ChangeSpec := { name := "blobParts", fn := fun _ => fun
  | [d1, d2] => { results := [.lit (.bool true)], args := [d1, d2] }
  | _ => none }
def blobPartsRow : OpenClaim := { program := "ytgffbbdcbkikhaagreatdoor", sum := "3c8492acc4838793330c0e4eafa9bbdf779693a19fdfe47091770ebdf9991ed2", func := "shadowbook/shadowbooklaw15.BlobParts", spec := "blobParts", inPlace := ["internal/abi.NoEscape", "internal/bytealg.MakeNoZero"], unfollowed := true, recurses := true, named := ["shadowbook/super.headSizes"], apart := false, laid := [("shadowbook/super.headSizes", laid_shadowbook_super_headSizes)] }
def BlobPartsSaid : Prop := blobPartsRow.holds Tryz.pinned (OpenSpec.ofChange blobPartsSpec)

/-- ITS FALSE NEIGHBOUR: 'it returns false'. Refute it at one input. -/
def blobPartsWrong : ChangeSpec := { name := "blobParts", fn := fun _ => fun
  | [d1, d2] => { results := [.lit (.bool false)], args := [d1, d2] }
  | _ => none }
def BlobPartsWrongFalsely : Prop := blobPartsRow.holds Tryz.pinned (OpenSpec.ofChange blobPartsWrong)

/-- 'shadowbooklaw15.BlobSizes': WHATEVER THE INPUT: true; the input reads as it did. -/
def blobSizesSpec : ChangeSpec := { name := "blobSizes", fn := fun _ => fun
  | [d1, d2] => { results := [.lit (.bool true)], args := [d1, d2] }
  | _ => none }
def blobSizesRow : OpenClaim := { program := "ytgffbbdcbkikhaagreatdoor", sum := "3c8492acc4838793330c0e4eafa9bbdf779693a19fdfe47091770ebdf9991ed2", func := "shadowbook/shadowbooklaw15.BlobSizes", spec := "blobSizes", inPlace := ["internal/abi.NoEscape", "internal/bytealg.MakeNoZero"], unfollowed := true, recurses := true, named := ["shadowbook/super.headSizes"], apart := false, laid := [("shadowbook/super.headSizes", laid_shadowbook_super_headSizes)] }
def BlobSizesSaid : Prop := blobSizesRow.holds Tryz.pinned (OpenSpec.ofChange blobSizesSpec)

/-- ITS FALSE NEIGHBOUR: 'it returns false'. Refute it at one input. -/
def blobSizesWrong : ChangeSpec := { name := "blobSizes", fn := fun _ => fun
  | [d1, d2] => { results := [.lit (.bool false)], args := [d1, d2] }
  | _ => none }
def BlobSizesWrongFalsely : Prop := blobSizesRow.holds Tryz.pinned (OpenSpec.ofChange blobSizesWrong)

/- THE SECOND FORM. 'bulk': how many values and letters a reading holds, each counted each time it is reached (what is shared counts as often as it is met; a slice's spare places count too). A statement '..UptoSaid' is the law's where the arguments, and the package variables that the reading takes, are together of bulk at most 1048576: NARROWER than '..Said'. Prove '..Said' where nothing that the law and all that it calls make is longer than what came in: it says more and counts as full. Else prove '..UptoSaid'. A law counts once. -/
mutual
def uptoBulk {H : Type} : DataW H → Nat
  | .lit (.string bytes) => bytes.length + 1
  | .lit _ => 1
  | .nil => 1
  | .ptr d => uptoBulk d + 1
  | .slice elems spare => uptoBulkAll elems + uptoBulkAll spare + 1
  | .agg parts => uptoBulkAll parts + 1
  | .iface _ d => uptoBulk d + 1
  | .map entries => uptoBulkEntries entries + 1
  | .held _ => 1
def uptoBulkAll {H : Type} : List (DataW H) → Nat
  | [] => 0
  | d :: r => uptoBulk d + uptoBulkAll r
def uptoBulkEntries {H : Type} : List (Lit × DataW H) → Nat
  | [] => 0
  | x :: r => uptoBulkEntry x + uptoBulkEntries r
def uptoBulkEntry {H : Type} : Lit × DataW H → Nat
  | (.string bytes, d) => bytes.length + uptoBulk d + 1
  | (_, d) => uptoBulk d + 1
 end
def uptoSmall : (H : Type) → List (DataW H) → Bool := fun _ ds => decide (uptoBulkAll ds ≤ 1048576)
def OpenSpec.upto (s : _root_.Go.ChangeSpec) : _root_.Go.OpenSpec := { _root_.Go.OpenSpec.ofChange s with cond := some uptoSmall }

/-- 'shadowbooklaw15.BlobNames', WHERE WHAT IT READS IS OF BULK AT MOST 1048576: true; the input reads as it did. -/
def blobNamesUptoRow : OpenClaim := { program := "ytgffbbdcbkikhaagreatdoor", sum := "3c8492acc4838793330c0e4eafa9bbdf779693a19fdfe47091770ebdf9991ed2", func := "shadowbook/shadowbooklaw15.BlobNames", spec := "blobNames", inPlace := ["internal/abi.NoEscape", "internal/bytealg.MakeNoZero"], unfollowed := true, recurses := true, named := ["shadowbook/super.headSizes"], apart := false, laid := [("shadowbook/super.headSizes", laid_shadowbook_super_headSizes)], narrowed := true }
def BlobNamesUptoSaid : Prop := blobNamesUptoRow.holds Tryz.pinned (OpenSpec.upto blobNamesSpec)

/-- 'shadowbooklaw15.BlobBack', WHERE WHAT IT READS IS OF BULK AT MOST 1048576: true; the input reads as it did. -/
def blobBackUptoRow : OpenClaim := { program := "ytgffbbdcbkikhaagreatdoor", sum := "3c8492acc4838793330c0e4eafa9bbdf779693a19fdfe47091770ebdf9991ed2", func := "shadowbook/shadowbooklaw15.BlobBack", spec := "blobBack", inPlace := ["internal/abi.NoEscape", "internal/bytealg.MakeNoZero"], unfollowed := true, recurses := true, named := ["shadowbook/super.headSizes"], apart := false, laid := [("shadowbook/super.headSizes", laid_shadowbook_super_headSizes)], narrowed := true }
def BlobBackUptoSaid : Prop := blobBackUptoRow.holds Tryz.pinned (OpenSpec.upto blobBackSpec)

/-- 'shadowbooklaw15.BlobApart', WHERE WHAT IT READS IS OF BULK AT MOST 1048576: true; the input reads as it did. -/
def blobApartUptoRow : OpenClaim := { program := "ytgffbbdcbkikhaagreatdoor", sum := "3c8492acc4838793330c0e4eafa9bbdf779693a19fdfe47091770ebdf9991ed2", func := "shadowbook/shadowbooklaw15.BlobApart", spec := "blobApart", inPlace := ["internal/abi.NoEscape", "internal/bytealg.MakeNoZero"], unfollowed := true, recurses := true, named := ["shadowbook/super.headSizes"], apart := false, laid := [("shadowbook/super.headSizes", laid_shadowbook_super_headSizes)], narrowed := true }
def BlobApartUptoSaid : Prop := blobApartUptoRow.holds Tryz.pinned (OpenSpec.upto blobApartSpec)

/-- 'shadowbooklaw15.BlobParts', WHERE WHAT IT READS IS OF BULK AT MOST 1048576: true; the input reads as it did. -/
def blobPartsUptoRow : OpenClaim := { program := "ytgffbbdcbkikhaagreatdoor", sum := "3c8492acc4838793330c0e4eafa9bbdf779693a19fdfe47091770ebdf9991ed2", func := "shadowbook/shadowbooklaw15.BlobParts", spec := "blobParts", inPlace := ["internal/abi.NoEscape", "internal/bytealg.MakeNoZero"], unfollowed := true, recurses := true, named := ["shadowbook/super.headSizes"], apart := false, laid := [("shadowbook/super.headSizes", laid_shadowbook_super_headSizes)], narrowed := true }
def BlobPartsUptoSaid : Prop := blobPartsUptoRow.holds Tryz.pinned (OpenSpec.upto blobPartsSpec)

/-- 'shadowbooklaw15.BlobSizes', WHERE WHAT IT READS IS OF BULK AT MOST 1048576: true; the input reads as it did. -/
def blobSizesUptoRow : OpenClaim := { program := "ytgffbbdcbkikhaagreatdoor", sum := "3c8492acc4838793330c0e4eafa9bbdf779693a19fdfe47091770ebdf9991ed2", func := "shadowbook/shadowbooklaw15.BlobSizes", spec := "blobSizes", inPlace := ["internal/abi.NoEscape", "internal/bytealg.MakeNoZero"], unfollowed := true, recurses := true, named := ["shadowbook/super.headSizes"], apart := false, laid := [("shadowbook/super.headSizes", laid_shadowbook_super_headSizes)], narrowed := true }
def BlobSizesUptoSaid : Prop := blobSizesUptoRow.holds Tryz.pinned (OpenSpec.upto blobSizesSpec)

end Rows
end Go.Proofs.YtgffbbdcbkikhaaGreatDoor
