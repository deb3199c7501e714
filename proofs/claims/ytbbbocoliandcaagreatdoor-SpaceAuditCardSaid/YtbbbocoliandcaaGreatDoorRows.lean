/-
  NARROWER THAN 'FOR EVERY INPUT', by the rows' own cells (each row's printed sentence says how): SpaceNames: laid · SpaceScript: laid · SpaceRefused: laid · SpaceAudit: laid · SpaceCrash: laid · SpaceLooks: laid · SpaceKeeps: laid.
  DERIVED. THE GIVEN ROWS OF THIS SEAT. 7 by the template 'for every input the law returns true; each argument reads behind the call as it read before'; 0 by the template 'total and deterministic' (their statements: YtbbbocoliandcaaGreatDoorTotals.lean).
  GIVEN WITH THE SEED: the statements are not yours to turn. If you find one false, say at which input.
  Laid BY PROGRAM, IN A SANDBOX (cutbox-rows.mjs): the forced cells as the released guide's own fill.sh prints them over the translation 9f24639c704ec5d8… (all of the seat's roots in one cut). By AI agents, Wed Nov 11 2026. No macro, syntax, notation, axiom, sorry.
-/
import Derived.Test.YtbbbocoliandcaaGreatDoorChecked
import GoSem.Claim
import GoSem.ClaimJoined
import GoSem.ClaimMapViews
import Derived.JoinedTies
import Derived.KernelRfl
namespace Go.Proofs.YtbbbocoliandcaaGreatDoor
/- THE CELL 'sum', in the pinned program and in every row, IS THE sha256 OF THE DUMP (.gsa) THAT YtbbbocoliandcaaGreatDoorProg.lean LOADS. Nothing in Lean hashes anything: it is a label: what it is worth is what the hold of that sum in a sandbox is worth. -/
noncomputable def Tryz.pinned : Pinned := { name := "ytbbbocoliandcaagreatdoor", sum := "9f24639c704ec5d88095049b57925339fd4a3e85532df562e244b2c04cde4c05", checked := Tryz.checked }
namespace Rows
def none {H : Type} : Left H := { results := [], args := [] }

/- WHAT THE LISTED PACKAGE-LEVEL VARIABLES READ AS WHEN THE CALL BEGINS. Each datum BY PROGRAM (the guide's laid-datum.mjs) off the statement by which the dump's own 'gosem.cut.vars' lays the variable. In a bare row this is a premise. The card (YtbbbocoliandcaaGreatDoorCards.lean) ties it to the program's text. -/
def laid_shadowbook_super_headSizes {H : Type} : DataW H := .agg [.lit (.int .i64 4), .lit (.int .i64 4), .lit (.int .i64 4), .lit (.int .i64 2)]
def laid_math_bits_deBruijn64tab {H : Type} : DataW H := .agg [.lit (.int .u8 0), .lit (.int .u8 1), .lit (.int .u8 56), .lit (.int .u8 2), .lit (.int .u8 57), .lit (.int .u8 49), .lit (.int .u8 28), .lit (.int .u8 3), .lit (.int .u8 61), .lit (.int .u8 58), .lit (.int .u8 42), .lit (.int .u8 50), .lit (.int .u8 38), .lit (.int .u8 29), .lit (.int .u8 17), .lit (.int .u8 4), .lit (.int .u8 62), .lit (.int .u8 47), .lit (.int .u8 59), .lit (.int .u8 36), .lit (.int .u8 45), .lit (.int .u8 43), .lit (.int .u8 51), .lit (.int .u8 22), .lit (.int .u8 53), .lit (.int .u8 39), .lit (.int .u8 33), .lit (.int .u8 30), .lit (.int .u8 24), .lit (.int .u8 18), .lit (.int .u8 12), .lit (.int .u8 5), .lit (.int .u8 63), .lit (.int .u8 55), .lit (.int .u8 48), .lit (.int .u8 27), .lit (.int .u8 60), .lit (.int .u8 41), .lit (.int .u8 37), .lit (.int .u8 16), .lit (.int .u8 46), .lit (.int .u8 35), .lit (.int .u8 44), .lit (.int .u8 21), .lit (.int .u8 52), .lit (.int .u8 32), .lit (.int .u8 23), .lit (.int .u8 11), .lit (.int .u8 54), .lit (.int .u8 26), .lit (.int .u8 40), .lit (.int .u8 15), .lit (.int .u8 34), .lit (.int .u8 20), .lit (.int .u8 31), .lit (.int .u8 10), .lit (.int .u8 25), .lit (.int .u8 14), .lit (.int .u8 19), .lit (.int .u8 9), .lit (.int .u8 13), .lit (.int .u8 8), .lit (.int .u8 7), .lit (.int .u8 6)]

/-- 'shadowbooklaw13.SpaceNames': WHATEVER THE INPUT: true; the input reads as it did. -/
def spaceNamesSpec : ChangeSpec := { name := "spaceNames", fn := fun _ => fun
  | [] => { results := [.lit (.bool true)], args := [] }
  | _ => none }
def spaceNamesRow : OpenClaim := { program := "ytbbbocoliandcaagreatdoor", sum := "9f24639c704ec5d88095049b57925339fd4a3e85532df562e244b2c04cde4c05", func := "shadowbook/shadowbooklaw13.SpaceNames", spec := "spaceNames", inPlace := ["internal/abi.NoEscape", "internal/bytealg.MakeNoZero"], unfollowed := true, recurses := true, named := ["shadowbook/super.headSizes"], apart := false, laid := [("shadowbook/super.headSizes", laid_shadowbook_super_headSizes)] }
def SpaceNamesSaid : Prop := spaceNamesRow.holds Tryz.pinned (OpenSpec.ofChange spaceNamesSpec)

/-- ITS FALSE NEIGHBOUR: 'it returns false'. Refute it at one input. -/
def spaceNamesWrong : ChangeSpec := { name := "spaceNames", fn := fun _ => fun
  | [] => { results := [.lit (.bool false)], args := [] }
  | _ => none }
def SpaceNamesWrongFalsely : Prop := spaceNamesRow.holds Tryz.pinned (OpenSpec.ofChange spaceNamesWrong)

/-- 'shadowbooklaw13.SpaceScript': WHATEVER THE INPUT: true; the input reads as it did. -/
def spaceScriptSpec : ChangeSpec := { name := "spaceScript", fn := fun _ => fun
  | [d1, d2] => { results := [.lit (.bool true)], args := [d1, d2] }
  | _ => none }
def spaceScriptRow : OpenClaim := { program := "ytbbbocoliandcaagreatdoor", sum := "9f24639c704ec5d88095049b57925339fd4a3e85532df562e244b2c04cde4c05", func := "shadowbook/shadowbooklaw13.SpaceScript", spec := "spaceScript", inPlace := ["internal/abi.NoEscape", "internal/bytealg.MakeNoZero"], unfollowed := true, recurses := true, named := ["shadowbook/super.headSizes"], apart := false, laid := [("shadowbook/super.headSizes", laid_shadowbook_super_headSizes)] }
def SpaceScriptSaid : Prop := spaceScriptRow.holds Tryz.pinned (OpenSpec.ofChange spaceScriptSpec)

/-- ITS FALSE NEIGHBOUR: 'it returns false'. Refute it at one input. -/
def spaceScriptWrong : ChangeSpec := { name := "spaceScript", fn := fun _ => fun
  | [d1, d2] => { results := [.lit (.bool false)], args := [d1, d2] }
  | _ => none }
def SpaceScriptWrongFalsely : Prop := spaceScriptRow.holds Tryz.pinned (OpenSpec.ofChange spaceScriptWrong)

/-- 'shadowbooklaw13.SpaceRefused': WHATEVER THE INPUT: true; the input reads as it did. -/
def spaceRefusedSpec : ChangeSpec := { name := "spaceRefused", fn := fun _ => fun
  | [d1, d2, d3, d4] => { results := [.lit (.bool true)], args := [d1, d2, d3, d4] }
  | _ => none }
def spaceRefusedRow : OpenClaim := { program := "ytbbbocoliandcaagreatdoor", sum := "9f24639c704ec5d88095049b57925339fd4a3e85532df562e244b2c04cde4c05", func := "shadowbook/shadowbooklaw13.SpaceRefused", spec := "spaceRefused", inPlace := ["internal/abi.NoEscape", "internal/bytealg.MakeNoZero"], unfollowed := true, recurses := true, named := ["shadowbook/super.headSizes"], apart := false, laid := [("shadowbook/super.headSizes", laid_shadowbook_super_headSizes)] }
def SpaceRefusedSaid : Prop := spaceRefusedRow.holds Tryz.pinned (OpenSpec.ofChange spaceRefusedSpec)

/-- ITS FALSE NEIGHBOUR: 'it returns false'. Refute it at one input. -/
def spaceRefusedWrong : ChangeSpec := { name := "spaceRefused", fn := fun _ => fun
  | [d1, d2, d3, d4] => { results := [.lit (.bool false)], args := [d1, d2, d3, d4] }
  | _ => none }
def SpaceRefusedWrongFalsely : Prop := spaceRefusedRow.holds Tryz.pinned (OpenSpec.ofChange spaceRefusedWrong)

/-- 'shadowbooklaw13.SpaceAudit': WHATEVER THE INPUT: true; the input reads as it did. -/
def spaceAuditSpec : ChangeSpec := { name := "spaceAudit", fn := fun _ => fun
  | [d1, d2] => { results := [.lit (.bool true)], args := [d1, d2] }
  | _ => none }
def spaceAuditRow : OpenClaim := { program := "ytbbbocoliandcaagreatdoor", sum := "9f24639c704ec5d88095049b57925339fd4a3e85532df562e244b2c04cde4c05", func := "shadowbook/shadowbooklaw13.SpaceAudit", spec := "spaceAudit", inPlace := ["internal/abi.NoEscape", "internal/bytealg.MakeNoZero"], unfollowed := true, recurses := true, named := ["shadowbook/super.headSizes"], apart := false, laid := [("shadowbook/super.headSizes", laid_shadowbook_super_headSizes)] }
def SpaceAuditSaid : Prop := spaceAuditRow.holds Tryz.pinned (OpenSpec.ofChange spaceAuditSpec)

/-- ITS FALSE NEIGHBOUR: 'it returns false'. Refute it at one input. -/
def spaceAuditWrong : ChangeSpec := { name := "spaceAudit", fn := fun _ => fun
  | [d1, d2] => { results := [.lit (.bool false)], args := [d1, d2] }
  | _ => none }
def SpaceAuditWrongFalsely : Prop := spaceAuditRow.holds Tryz.pinned (OpenSpec.ofChange spaceAuditWrong)

/-- 'shadowbooklaw13.SpaceCrash': WHATEVER THE INPUT: true; the input reads as it did. -/
def spaceCrashSpec : ChangeSpec := { name := "spaceCrash", fn := fun _ => fun
  | [d1, d2, d3, d4] => { results := [.lit (.bool true)], args := [d1, d2, d3, d4] }
  | _ => none }
def spaceCrashRow : OpenClaim := { program := "ytbbbocoliandcaagreatdoor", sum := "9f24639c704ec5d88095049b57925339fd4a3e85532df562e244b2c04cde4c05", func := "shadowbook/shadowbooklaw13.SpaceCrash", spec := "spaceCrash", inPlace := ["internal/abi.NoEscape", "internal/bytealg.MakeNoZero"], unfollowed := true, recurses := true, named := ["shadowbook/super.headSizes", "math/bits.deBruijn64tab"], apart := false, laid := [("math/bits.deBruijn64tab", laid_math_bits_deBruijn64tab), ("shadowbook/super.headSizes", laid_shadowbook_super_headSizes)] }
def SpaceCrashSaid : Prop := spaceCrashRow.holds Tryz.pinned (OpenSpec.ofChange spaceCrashSpec)

/-- ITS FALSE NEIGHBOUR: 'it returns false'. Refute it at one input. -/
def spaceCrashWrong : ChangeSpec := { name := "spaceCrash", fn := fun _ => fun
  | [d1, d2, d3, d4] => { results := [.lit (.bool false)], args := [d1, d2, d3, d4] }
  | _ => none }
def SpaceCrashWrongFalsely : Prop := spaceCrashRow.holds Tryz.pinned (OpenSpec.ofChange spaceCrashWrong)

/-- 'shadowbooklaw13.SpaceLooks': WHATEVER THE INPUT: true; the input reads as it did. -/
def spaceLooksSpec : ChangeSpec := { name := "spaceLooks", fn := fun _ => fun
  | [d1, d2, d3] => { results := [.lit (.bool true)], args := [d1, d2, d3] }
  | _ => none }
def spaceLooksRow : OpenClaim := { program := "ytbbbocoliandcaagreatdoor", sum := "9f24639c704ec5d88095049b57925339fd4a3e85532df562e244b2c04cde4c05", func := "shadowbook/shadowbooklaw13.SpaceLooks", spec := "spaceLooks", inPlace := ["internal/abi.NoEscape", "internal/bytealg.MakeNoZero"], unfollowed := true, recurses := true, named := ["shadowbook/super.headSizes"], apart := false, laid := [("shadowbook/super.headSizes", laid_shadowbook_super_headSizes)] }
def SpaceLooksSaid : Prop := spaceLooksRow.holds Tryz.pinned (OpenSpec.ofChange spaceLooksSpec)

/-- ITS FALSE NEIGHBOUR: 'it returns false'. Refute it at one input. -/
def spaceLooksWrong : ChangeSpec := { name := "spaceLooks", fn := fun _ => fun
  | [d1, d2, d3] => { results := [.lit (.bool false)], args := [d1, d2, d3] }
  | _ => none }
def SpaceLooksWrongFalsely : Prop := spaceLooksRow.holds Tryz.pinned (OpenSpec.ofChange spaceLooksWrong)

/-- 'shadowbooklaw13.SpaceKeeps': WHATEVER THE INPUT: true; the input reads as it did. -/
def spaceKeepsSpec : ChangeSpec := { name := "spaceKeeps", fn := fun _ => fun
  | [d1, d2, d3] => { results := [.lit (.bool true)], args := [d1, d2, d3] }
  | _ => none }
def spaceKeepsRow : OpenClaim := { program := "ytbbbocoliandcaagreatdoor", sum := "9f24639c704ec5d88095049b57925339fd4a3e85532df562e244b2c04cde4c05", func := "shadowbook/shadowbooklaw13.SpaceKeeps", spec := "spaceKeeps", inPlace := ["internal/abi.NoEscape", "internal/bytealg.MakeNoZero"], unfollowed := true, recurses := true, named := ["shadowbook/super.headSizes"], apart := false, laid := [("shadowbook/super.headSizes", laid_shadowbook_super_headSizes)] }
def SpaceKeepsSaid : Prop := spaceKeepsRow.holds Tryz.pinned (OpenSpec.ofChange spaceKeepsSpec)

/-- ITS FALSE NEIGHBOUR: 'it returns false'. Refute it at one input. -/
def spaceKeepsWrong : ChangeSpec := { name := "spaceKeeps", fn := fun _ => fun
  | [d1, d2, d3] => { results := [.lit (.bool false)], args := [d1, d2, d3] }
  | _ => none }
def SpaceKeepsWrongFalsely : Prop := spaceKeepsRow.holds Tryz.pinned (OpenSpec.ofChange spaceKeepsWrong)

/- THE SECOND FORM. 'bulk': how many values and letters a reading holds, each counted each time it is reached (what is shared counts as often as it is met; a slice's spare places count too). A statement '..UptoSaid' is the law's where the arguments, and the package variables that the reading takes, are together of bulk at most 1048576: NARROWER than '..Said'. Prove '..Said' where nothing that the law and all that it calls make is longer than what came in: it says more and counts as full. Else prove '..UptoSaid'. A law counts once. -/
mutual
def uptoBulk {H : Type} : DataW H → Nat
  | .lit (.string bytes) => bytes.length + 1
  | .lit _ => 1
  | .nil => 1
  | .ptr d => uptoBulk d + 1
  | .slice elems spare => uptoBulkAll elems + uptoBulkAll spare + 1
  | .agg parts => uptoBulkAll parts + 1
  | .iface _ d => uptoBulk d + 1
  | .map entries => uptoBulkEntries entries + 1
  | .held _ => 1
def uptoBulkAll {H : Type} : List (DataW H) → Nat
  | [] => 0
  | d :: r => uptoBulk d + uptoBulkAll r
def uptoBulkEntries {H : Type} : List (Lit × DataW H) → Nat
  | [] => 0
  | x :: r => uptoBulkEntry x + uptoBulkEntries r
def uptoBulkEntry {H : Type} : Lit × DataW H → Nat
  | (.string bytes, d) => bytes.length + uptoBulk d + 1
  | (_, d) => uptoBulk d + 1
 end
def uptoSmall : (H : Type) → List (DataW H) → Bool := fun _ ds => decide (uptoBulkAll ds ≤ 1048576)
def OpenSpec.upto (s : _root_.Go.ChangeSpec) : _root_.Go.OpenSpec := { _root_.Go.OpenSpec.ofChange s with cond := some uptoSmall }

/-- 'shadowbooklaw13.SpaceNames', WHERE WHAT IT READS IS OF BULK AT MOST 1048576: true; the input reads as it did. -/
def spaceNamesUptoRow : OpenClaim := { program := "ytbbbocoliandcaagreatdoor", sum := "9f24639c704ec5d88095049b57925339fd4a3e85532df562e244b2c04cde4c05", func := "shadowbook/shadowbooklaw13.SpaceNames", spec := "spaceNames", inPlace := ["internal/abi.NoEscape", "internal/bytealg.MakeNoZero"], unfollowed := true, recurses := true, named := ["shadowbook/super.headSizes"], apart := false, laid := [("shadowbook/super.headSizes", laid_shadowbook_super_headSizes)], narrowed := true }
def SpaceNamesUptoSaid : Prop := spaceNamesUptoRow.holds Tryz.pinned (OpenSpec.upto spaceNamesSpec)

/-- 'shadowbooklaw13.SpaceScript', WHERE WHAT IT READS IS OF BULK AT MOST 1048576: true; the input reads as it did. -/
def spaceScriptUptoRow : OpenClaim := { program := "ytbbbocoliandcaagreatdoor", sum := "9f24639c704ec5d88095049b57925339fd4a3e85532df562e244b2c04cde4c05", func := "shadowbook/shadowbooklaw13.SpaceScript", spec := "spaceScript", inPlace := ["internal/abi.NoEscape", "internal/bytealg.MakeNoZero"], unfollowed := true, recurses := true, named := ["shadowbook/super.headSizes"], apart := false, laid := [("shadowbook/super.headSizes", laid_shadowbook_super_headSizes)], narrowed := true }
def SpaceScriptUptoSaid : Prop := spaceScriptUptoRow.holds Tryz.pinned (OpenSpec.upto spaceScriptSpec)

/-- 'shadowbooklaw13.SpaceRefused', WHERE WHAT IT READS IS OF BULK AT MOST 1048576: true; the input reads as it did. -/
def spaceRefusedUptoRow : OpenClaim := { program := "ytbbbocoliandcaagreatdoor", sum := "9f24639c704ec5d88095049b57925339fd4a3e85532df562e244b2c04cde4c05", func := "shadowbook/shadowbooklaw13.SpaceRefused", spec := "spaceRefused", inPlace := ["internal/abi.NoEscape", "internal/bytealg.MakeNoZero"], unfollowed := true, recurses := true, named := ["shadowbook/super.headSizes"], apart := false, laid := [("shadowbook/super.headSizes", laid_shadowbook_super_headSizes)], narrowed := true }
def SpaceRefusedUptoSaid : Prop := spaceRefusedUptoRow.holds Tryz.pinned (OpenSpec.upto spaceRefusedSpec)

/-- 'shadowbooklaw13.SpaceAudit', WHERE WHAT IT READS IS OF BULK AT MOST 1048576: true; the input reads as it did. -/
def spaceAuditUptoRow : OpenClaim := { program := "ytbbbocoliandcaagreatdoor", sum := "9f24639c704ec5d88095049b57925339fd4a3e85532df562e244b2c04cde4c05", func := "shadowbook/shadowbooklaw13.SpaceAudit", spec := "spaceAudit", inPlace := ["internal/abi.NoEscape", "internal/bytealg.MakeNoZero"], unfollowed := true, recurses := true, named := ["shadowbook/super.headSizes"], apart := false, laid := [("shadowbook/super.headSizes", laid_shadowbook_super_headSizes)], narrowed := true }
def SpaceAuditUptoSaid : Prop := spaceAuditUptoRow.holds Tryz.pinned (OpenSpec.upto spaceAuditSpec)

/-- 'shadowbooklaw13.SpaceCrash', WHERE WHAT IT READS IS OF BULK AT MOST 1048576: true; the input reads as it did. -/
def spaceCrashUptoRow : OpenClaim := { program := "ytbbbocoliandcaagreatdoor", sum := "9f24639c704ec5d88095049b57925339fd4a3e85532df562e244b2c04cde4c05", func := "shadowbook/shadowbooklaw13.SpaceCrash", spec := "spaceCrash", inPlace := ["internal/abi.NoEscape", "internal/bytealg.MakeNoZero"], unfollowed := true, recurses := true, named := ["shadowbook/super.headSizes", "math/bits.deBruijn64tab"], apart := false, laid := [("math/bits.deBruijn64tab", laid_math_bits_deBruijn64tab), ("shadowbook/super.headSizes", laid_shadowbook_super_headSizes)], narrowed := true }
def SpaceCrashUptoSaid : Prop := spaceCrashUptoRow.holds Tryz.pinned (OpenSpec.upto spaceCrashSpec)

/-- 'shadowbooklaw13.SpaceLooks', WHERE WHAT IT READS IS OF BULK AT MOST 1048576: true; the input reads as it did. -/
def spaceLooksUptoRow : OpenClaim := { program := "ytbbbocoliandcaagreatdoor", sum := "9f24639c704ec5d88095049b57925339fd4a3e85532df562e244b2c04cde4c05", func := "shadowbook/shadowbooklaw13.SpaceLooks", spec := "spaceLooks", inPlace := ["internal/abi.NoEscape", "internal/bytealg.MakeNoZero"], unfollowed := true, recurses := true, named := ["shadowbook/super.headSizes"], apart := false, laid := [("shadowbook/super.headSizes", laid_shadowbook_super_headSizes)], narrowed := true }
def SpaceLooksUptoSaid : Prop := spaceLooksUptoRow.holds Tryz.pinned (OpenSpec.upto spaceLooksSpec)

/-- 'shadowbooklaw13.SpaceKeeps', WHERE WHAT IT READS IS OF BULK AT MOST 1048576: true; the input reads as it did. -/
def spaceKeepsUptoRow : OpenClaim := { program := "ytbbbocoliandcaagreatdoor", sum := "9f24639c704ec5d88095049b57925339fd4a3e85532df562e244b2c04cde4c05", func := "shadowbook/shadowbooklaw13.SpaceKeeps", spec := "spaceKeeps", inPlace := ["internal/abi.NoEscape", "internal/bytealg.MakeNoZero"], unfollowed := true, recurses := true, named := ["shadowbook/super.headSizes"], apart := false, laid := [("shadowbook/super.headSizes", laid_shadowbook_super_headSizes)], narrowed := true }
def SpaceKeepsUptoSaid : Prop := spaceKeepsUptoRow.holds Tryz.pinned (OpenSpec.upto spaceKeepsSpec)

end Rows
end Go.Proofs.YtbbbocoliandcaaGreatDoor
