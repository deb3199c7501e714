/-
  NARROWER THAN 'FOR EVERY INPUT', by the rows' own cells (each row's printed sentence says how): SuperNames: laid · SuperCalls: laid · SuperTorn: laid · SuperBack: laid · SuperTurns: laid.
  DERIVED. THE GIVEN ROWS OF THIS SEAT. 5 by the template 'for every input the law returns true; each argument reads behind the call as it read before'; 0 by the template 'total and deterministic' (their statements: YtfojkglindpjjaaDoorTotals.lean).
  GIVEN WITH THE SEED: the statements are not yours to turn. If you find one false, say at which input.
  Laid BY PROGRAM, IN A SANDBOX (cutbox-rows.mjs): the forced cells as the released guide's own fill.sh prints them over the translation ba624c2ccfaec0b2… (all of the seat's roots in one cut). By AI agents, Wed Nov 11 2026. No macro, syntax, notation, axiom, sorry.
-/
import Derived.Test.YtfojkglindpjjaaDoorChecked
import GoSem.Claim
import GoSem.ClaimJoined
import GoSem.ClaimMapViews
import Derived.JoinedTies
import Derived.KernelRfl
namespace Go.Proofs.YtfojkglindpjjaaDoor
/- THE CELL 'sum', in the pinned program and in every row, IS THE sha256 OF THE DUMP (.gsa) THAT YtfojkglindpjjaaDoorProg.lean LOADS. Nothing in Lean hashes anything: it is a label: what it is worth is what the hold of that sum in a sandbox is worth. -/
noncomputable def Tryd.pinned : Pinned := { name := "ytfojkglindpjjaadoor", sum := "ba624c2ccfaec0b2ad51a038518b56da0811e694995f72a566049d3a192d4c66", checked := Tryd.checked }
namespace Rows
def none {H : Type} : Left H := { results := [], args := [] }

/- WHAT THE LISTED PACKAGE-LEVEL VARIABLES READ AS WHEN THE CALL BEGINS. Each datum BY PROGRAM (the guide's laid-datum.mjs) off the statement by which the dump's own 'gosem.cut.vars' lays the variable. In a bare row this is a premise. The card (YtfojkglindpjjaaDoorCards.lean) ties it to the program's text. -/
def laid_shadowbook_super_headSizes {H : Type} : DataW H := .agg [.lit (.int .i64 4), .lit (.int .i64 4), .lit (.int .i64 4), .lit (.int .i64 2)]

/-- 'shadowbooklaw11.SuperNames': WHATEVER THE INPUT: true; the input reads as it did. -/
def superNamesSpec : ChangeSpec := { name := "superNames", fn := fun _ => fun
  | [] => { results := [.lit (.bool true)], args := [] }
  | _ => none }
def superNamesRow : OpenClaim := { program := "ytfojkglindpjjaadoor", sum := "ba624c2ccfaec0b2ad51a038518b56da0811e694995f72a566049d3a192d4c66", func := "shadowbook/shadowbooklaw11.SuperNames", spec := "superNames", named := ["shadowbook/super.headSizes"], apart := false, laid := [("shadowbook/super.headSizes", laid_shadowbook_super_headSizes)] }
def SuperNamesSaid : Prop := superNamesRow.holds Tryd.pinned (OpenSpec.ofChange superNamesSpec)

/-- ITS FALSE NEIGHBOUR: 'it returns false'. Refute it at one input. -/
def superNamesWrong : ChangeSpec := { name := "superNames", fn := fun _ => fun
  | [] => { results := [.lit (.bool false)], args := [] }
  | _ => none }
def SuperNamesWrongFalsely : Prop := superNamesRow.holds Tryd.pinned (OpenSpec.ofChange superNamesWrong)

/-- 'shadowbooklaw11.SuperCalls': WHATEVER THE INPUT: true; the input reads as it did. -/
def superCallsSpec : ChangeSpec := { name := "superCalls", fn := fun _ => fun
  | [d1, d2, d3, d4, d5] => { results := [.lit (.bool true)], args := [d1, d2, d3, d4, d5] }
  | _ => none }
def superCallsRow : OpenClaim := { program := "ytfojkglindpjjaadoor", sum := "ba624c2ccfaec0b2ad51a038518b56da0811e694995f72a566049d3a192d4c66", func := "shadowbook/shadowbooklaw11.SuperCalls", spec := "superCalls", named := ["shadowbook/super.headSizes"], apart := false, laid := [("shadowbook/super.headSizes", laid_shadowbook_super_headSizes)] }
def SuperCallsSaid : Prop := superCallsRow.holds Tryd.pinned (OpenSpec.ofChange superCallsSpec)

/-- ITS FALSE NEIGHBOUR: 'it returns false'. Refute it at one input. -/
def superCallsWrong : ChangeSpec := { name := "superCalls", fn := fun _ => fun
  | [d1, d2, d3, d4, d5] => { results := [.lit (.bool false)], args := [d1, d2, d3, d4, d5] }
  | _ => none }
def SuperCallsWrongFalsely : Prop := superCallsRow.holds Tryd.pinned (OpenSpec.ofChange superCallsWrong)

/-- 'shadowbooklaw11.SuperTorn': WHATEVER THE INPUT: true; the input reads as it did. -/
def superTornSpec : ChangeSpec := { name := "superTorn", fn := fun _ => fun
  | [d1, d2, d3, d4] => { results := [.lit (.bool true)], args := [d1, d2, d3, d4] }
  | _ => none }
def superTornRow : OpenClaim := { program := "ytfojkglindpjjaadoor", sum := "ba624c2ccfaec0b2ad51a038518b56da0811e694995f72a566049d3a192d4c66", func := "shadowbook/shadowbooklaw11.SuperTorn", spec := "superTorn", named := ["shadowbook/super.headSizes"], apart := false, laid := [("shadowbook/super.headSizes", laid_shadowbook_super_headSizes)] }
def SuperTornSaid : Prop := superTornRow.holds Tryd.pinned (OpenSpec.ofChange superTornSpec)

/-- ITS FALSE NEIGHBOUR: 'it returns false'. Refute it at one input. -/
def superTornWrong : ChangeSpec := { name := "superTorn", fn := fun _ => fun
  | [d1, d2, d3, d4] => { results := [.lit (.bool false)], args := [d1, d2, d3, d4] }
  | _ => none }
def SuperTornWrongFalsely : Prop := superTornRow.holds Tryd.pinned (OpenSpec.ofChange superTornWrong)

/-- 'shadowbooklaw11.SuperBack': WHATEVER THE INPUT: true; the input reads as it did. -/
def superBackSpec : ChangeSpec := { name := "superBack", fn := fun _ => fun
  | [d1, d2] => { results := [.lit (.bool true)], args := [d1, d2] }
  | _ => none }
def superBackRow : OpenClaim := { program := "ytfojkglindpjjaadoor", sum := "ba624c2ccfaec0b2ad51a038518b56da0811e694995f72a566049d3a192d4c66", func := "shadowbook/shadowbooklaw11.SuperBack", spec := "superBack", named := ["shadowbook/super.headSizes"], apart := false, laid := [("shadowbook/super.headSizes", laid_shadowbook_super_headSizes)] }
def SuperBackSaid : Prop := superBackRow.holds Tryd.pinned (OpenSpec.ofChange superBackSpec)

/-- ITS FALSE NEIGHBOUR: 'it returns false'. Refute it at one input. -/
def superBackWrong : ChangeSpec := { name := "superBack", fn := fun _ => fun
  | [d1, d2] => { results := [.lit (.bool false)], args := [d1, d2] }
  | _ => none }
def SuperBackWrongFalsely : Prop := superBackRow.holds Tryd.pinned (OpenSpec.ofChange superBackWrong)

/-- 'shadowbooklaw11.SuperTurns': WHATEVER THE INPUT: true; the input reads as it did. -/
def superTurnsSpec : ChangeSpec := { name := "superTurns", fn := fun _ => fun
  | [d1, d2] => { results := [.lit (.bool true)], args := [d1, d2] }
  | _ => none }
def superTurnsRow : OpenClaim := { program := "ytfojkglindpjjaadoor", sum := "ba624c2ccfaec0b2ad51a038518b56da0811e694995f72a566049d3a192d4c66", func := "shadowbook/shadowbooklaw11.SuperTurns", spec := "superTurns", named := ["shadowbook/super.headSizes"], apart := false, laid := [("shadowbook/super.headSizes", laid_shadowbook_super_headSizes)] }
def SuperTurnsSaid : Prop := superTurnsRow.holds Tryd.pinned (OpenSpec.ofChange superTurnsSpec)

/-- ITS FALSE NEIGHBOUR: 'it returns false'. Refute it at one input. -/
def superTurnsWrong : ChangeSpec := { name := "superTurns", fn := fun _ => fun
  | [d1, d2] => { results := [.lit (.bool false)], args := [d1, d2] }
  | _ => none }
def SuperTurnsWrongFalsely : Prop := superTurnsRow.holds Tryd.pinned (OpenSpec.ofChange superTurnsWrong)

/- THE SECOND FORM. 'bulk': how many values and letters a reading holds, each counted each time it is reached (what is shared counts as often as it is met; a slice's spare places count too). A statement '..UptoSaid' is the law's where the arguments, and the package variables that the reading takes, are together of bulk at most 1048576: NARROWER than '..Said'. Prove '..Said' where nothing that the law and all that it calls make is longer than what came in: it says more and counts as full. Else prove '..UptoSaid'. A law counts once. -/
mutual
def uptoBulk {H : Type} : DataW H → Nat
  | .lit (.string bytes) => bytes.length + 1
  | .lit _ => 1
  | .nil => 1
  | .ptr d => uptoBulk d + 1
  | .slice elems spare => uptoBulkAll elems + uptoBulkAll spare + 1
  | .agg parts => uptoBulkAll parts + 1
  | .iface _ d => uptoBulk d + 1
  | .map entries => uptoBulkEntries entries + 1
  | .held _ => 1
def uptoBulkAll {H : Type} : List (DataW H) → Nat
  | [] => 0
  | d :: r => uptoBulk d + uptoBulkAll r
def uptoBulkEntries {H : Type} : List (Lit × DataW H) → Nat
  | [] => 0
  | x :: r => uptoBulkEntry x + uptoBulkEntries r
def uptoBulkEntry {H : Type} : Lit × DataW H → Nat
  | (.string bytes, d) => bytes.length + uptoBulk d + 1
  | (_, d) => uptoBulk d + 1
 end
def uptoSmall : (H : Type) → List (DataW H) → Bool := fun _ ds => decide (uptoBulkAll ds ≤ 1048576)
def OpenSpec.upto (s : _root_.Go.ChangeSpec) : _root_.Go.OpenSpec := { _root_.Go.OpenSpec.ofChange s with cond := some uptoSmall }

/-- 'shadowbooklaw11.SuperNames', WHERE WHAT IT READS IS OF BULK AT MOST 1048576: true; the input reads as it did. -/
def superNamesUptoRow : OpenClaim := { program := "ytfojkglindpjjaadoor", sum := "ba624c2ccfaec0b2ad51a038518b56da0811e694995f72a566049d3a192d4c66", func := "shadowbook/shadowbooklaw11.SuperNames", spec := "superNames", named := ["shadowbook/super.headSizes"], apart := false, laid := [("shadowbook/super.headSizes", laid_shadowbook_super_headSizes)], narrowed := true }
def SuperNamesUptoSaid : Prop := superNamesUptoRow.holds Tryd.pinned (OpenSpec.upto superNamesSpec)

/-- 'shadowbooklaw11.SuperCalls', WHERE WHAT IT READS IS OF BULK AT MOST 1048576: true; the input reads as it did. -/
def superCallsUptoRow : OpenClaim := { program := "ytfojkglindpjjaadoor", sum := "ba624c2ccfaec0b2ad51a038518b56da0811e694995f72a566049d3a192d4c66", func := "shadowbook/shadowbooklaw11.SuperCalls", spec := "superCalls", named := ["shadowbook/super.headSizes"], apart := false, laid := [("shadowbook/super.headSizes", laid_shadowbook_super_headSizes)], narrowed := true }
def SuperCallsUptoSaid : Prop := superCallsUptoRow.holds Tryd.pinned (OpenSpec.upto superCallsSpec)

/-- 'shadowbooklaw11.SuperTorn', WHERE WHAT IT READS IS OF BULK AT MOST 1048576: true; the input reads as it did. -/
def superTornUptoRow : OpenClaim := { program := "ytfojkglindpjjaadoor", sum := "ba624c2ccfaec0b2ad51a038518b56da0811e694995f72a566049d3a192d4c66", func := "shadowbook/shadowbooklaw11.SuperTorn", spec := "superTorn", named := ["shadowbook/super.headSizes"], apart := false, laid := [("shadowbook/super.headSizes", laid_shadowbook_super_headSizes)], narrowed := true }
def SuperTornUptoSaid : Prop := superTornUptoRow.holds Tryd.pinned (OpenSpec.upto superTornSpec)

/-- 'shadowbooklaw11.SuperBack', WHERE WHAT IT READS IS OF BULK AT MOST 1048576: true; the input reads as it did. -/
def superBackUptoRow : OpenClaim := { program := "ytfojkglindpjjaadoor", sum := "ba624c2ccfaec0b2ad51a038518b56da0811e694995f72a566049d3a192d4c66", func := "shadowbook/shadowbooklaw11.SuperBack", spec := "superBack", named := ["shadowbook/super.headSizes"], apart := false, laid := [("shadowbook/super.headSizes", laid_shadowbook_super_headSizes)], narrowed := true }
def SuperBackUptoSaid : Prop := superBackUptoRow.holds Tryd.pinned (OpenSpec.upto superBackSpec)

/-- 'shadowbooklaw11.SuperTurns', WHERE WHAT IT READS IS OF BULK AT MOST 1048576: true; the input reads as it did. -/
def superTurnsUptoRow : OpenClaim := { program := "ytfojkglindpjjaadoor", sum := "ba624c2ccfaec0b2ad51a038518b56da0811e694995f72a566049d3a192d4c66", func := "shadowbook/shadowbooklaw11.SuperTurns", spec := "superTurns", named := ["shadowbook/super.headSizes"], apart := false, laid := [("shadowbook/super.headSizes", laid_shadowbook_super_headSizes)], narrowed := true }
def SuperTurnsUptoSaid : Prop := superTurnsUptoRow.holds Tryd.pinned (OpenSpec.upto superTurnsSpec)

end Rows
end Go.Proofs.YtfojkglindpjjaaDoor
