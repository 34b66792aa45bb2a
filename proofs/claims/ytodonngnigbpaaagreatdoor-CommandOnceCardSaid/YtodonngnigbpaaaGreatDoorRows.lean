/-
  NARROWER THAN 'FOR EVERY INPUT', by the rows' own cells (each row's printed sentence says how): CommandText: loops, laid · CommandOnce: loops, laid.
  DERIVED. THE GIVEN ROWS OF THIS SEAT. 2 by the template 'for every input the law returns true; each argument reads behind the call as it read before'; 0 by the template 'total and deterministic' (their statements: YtodonngnigbpaaaGreatDoorTotals.lean).
  GIVEN WITH THE SEED: the statements are not yours to turn. If you find one false, say at which input.
  Laid BY PROGRAM, IN A SANDBOX (cutbox-rows.mjs): the forced cells as the released guide's own fill.sh prints them over the translation 8673462b01a82950… (all of the seat's roots in one cut). By AI agents, Wed Nov 11 2026. No macro, syntax, notation, axiom, sorry.
-/
import Derived.Test.YtodonngnigbpaaaGreatDoorChecked
import GoSem.Claim
import GoSem.ClaimJoined
import GoSem.ClaimMapViews
import Derived.JoinedTies
import Derived.KernelRfl
namespace Go.Proofs.YtodonngnigbpaaaGreatDoor
/- THE CELL 'sum', in the pinned program and in every row, IS THE sha256 OF THE DUMP (.gsa) THAT YtodonngnigbpaaaGreatDoorProg.lean LOADS. Nothing in Lean hashes anything: it is a label: what it is worth is what the hold of that sum in a sandbox is worth. -/
noncomputable def Tryz.pinned : Pinned := { name := "ytodonngnigbpaaagreatdoor", sum := "8673462b01a82950fae7d637f4719791257ea3ca1b646df05505679224a6778f", checked := Tryz.checked }
namespace Rows
def none {H : Type} : Left H := { results := [], args := [] }

/- WHAT THE LISTED PACKAGE-LEVEL VARIABLES READ AS WHEN THE CALL BEGINS. Each datum BY PROGRAM (the guide's laid-datum.mjs) off the statement by which the dump's own 'gosem.cut.vars' lays the variable. In a bare row this is a premise. The card (YtodonngnigbpaaaGreatDoorCards.lean) ties it to the program's text. -/
def laid_gantry_lex_digits {H : Type} : DataW H := .agg [.lit (.int .u64 287948901175001088), .lit (.int .u64 0), .lit (.int .u64 0), .lit (.int .u64 0)]
def laid_gantry_lex_signs {H : Type} : DataW H := .agg [.lit (.int .u64 17582031444648132608), .lit (.int .u64 5188146765496319999), .lit (.int .u64 0), .lit (.int .u64 0)]
def laid_gantry_lex_inBars {H : Type} : DataW H := .agg [.lit (.int .u64 18446744069414594048), .lit (.int .u64 8070450531979493375), .lit (.int .u64 0), .lit (.int .u64 0)]
def laid_gantry_command_heads {H : Type} : DataW H := .agg [.lit (.string [115, 101, 116, 45, 108, 111, 103, 105, 99]), .lit (.string [115, 101, 116, 45, 111, 112, 116, 105, 111, 110]), .lit (.string [100, 101, 99, 108, 97, 114, 101, 45, 115, 111, 114, 116]), .lit (.string [100, 101, 99, 108, 97, 114, 101, 45, 102, 117, 110]), .lit (.string [100, 101, 102, 105, 110, 101, 45, 102, 117, 110]), .lit (.string [97, 115, 115, 101, 114, 116]), .lit (.string [112, 117, 115, 104]), .lit (.string [112, 111, 112]), .lit (.string [99, 104, 101, 99, 107, 45, 115, 97, 116]), .lit (.string [103, 101, 116, 45, 109, 111, 100, 101, 108]), .lit (.string [103, 101, 116, 45, 118, 97, 108, 117, 101]), .lit (.string [103, 101, 116, 45, 112, 114, 111, 111, 102]), .lit (.string [101, 120, 105, 116])]

/-- 'gantrylaw08.CommandText': WHATEVER THE INPUT: true; the input reads as it did. -/
def commandTextSpec : ChangeSpec := { name := "commandText", fn := fun _ => fun
  | [d] => { results := [.lit (.bool true)], args := [d] }
  | _ => none }
def commandTextRow : OpenClaim := { program := "ytodonngnigbpaaagreatdoor", sum := "8673462b01a82950fae7d637f4719791257ea3ca1b646df05505679224a6778f", func := "gantry/gantrylaw08.CommandText", spec := "commandText", unfollowed := true, recurses := true, named := ["gantry/command.heads", "gantry/lex.inBars", "gantry/lex.signs", "gantry/lex.digits"], loops := true, apart := false, laid := [("gantry/lex.digits", laid_gantry_lex_digits), ("gantry/lex.signs", laid_gantry_lex_signs), ("gantry/lex.inBars", laid_gantry_lex_inBars), ("gantry/command.heads", laid_gantry_command_heads)] }
def CommandTextSaid : Prop := commandTextRow.holds Tryz.pinned (OpenSpec.ofChange commandTextSpec)

/-- ITS FALSE NEIGHBOUR: 'it returns false'. Refute it at one input. -/
def commandTextWrong : ChangeSpec := { name := "commandText", fn := fun _ => fun
  | [d] => { results := [.lit (.bool false)], args := [d] }
  | _ => none }
def CommandTextWrongFalsely : Prop := commandTextRow.holds Tryz.pinned (OpenSpec.ofChange commandTextWrong)

/-- 'gantrylaw08.CommandOnce': WHATEVER THE INPUT: true; the input reads as it did. -/
def commandOnceSpec : ChangeSpec := { name := "commandOnce", fn := fun _ => fun
  | [d1, d2] => { results := [.lit (.bool true)], args := [d1, d2] }
  | _ => none }
def commandOnceRow : OpenClaim := { program := "ytodonngnigbpaaagreatdoor", sum := "8673462b01a82950fae7d637f4719791257ea3ca1b646df05505679224a6778f", func := "gantry/gantrylaw08.CommandOnce", spec := "commandOnce", unfollowed := true, recurses := true, named := ["gantry/command.heads", "gantry/lex.inBars", "gantry/lex.signs", "gantry/lex.digits"], loops := true, apart := false, laid := [("gantry/lex.digits", laid_gantry_lex_digits), ("gantry/lex.signs", laid_gantry_lex_signs), ("gantry/lex.inBars", laid_gantry_lex_inBars), ("gantry/command.heads", laid_gantry_command_heads)] }
def CommandOnceSaid : Prop := commandOnceRow.holds Tryz.pinned (OpenSpec.ofChange commandOnceSpec)

/-- ITS FALSE NEIGHBOUR: 'it returns false'. Refute it at one input. -/
def commandOnceWrong : ChangeSpec := { name := "commandOnce", fn := fun _ => fun
  | [d1, d2] => { results := [.lit (.bool false)], args := [d1, d2] }
  | _ => none }
def CommandOnceWrongFalsely : Prop := commandOnceRow.holds Tryz.pinned (OpenSpec.ofChange commandOnceWrong)

/- THE SECOND FORM. 'bulk': how many values and letters a reading holds, each counted each time it is reached (what is shared counts as often as it is met; a slice's spare places count too). A statement '..UptoSaid' is the law's where the arguments, and the package variables that the reading takes, are together of bulk at most 1048576: NARROWER than '..Said'. Prove '..Said' where nothing that the law and all that it calls make is longer than what came in: it says more and counts as full. Else prove '..UptoSaid'. A law counts once. -/
mutual
def uptoBulk {H : Type} : DataW H → Nat
  | .lit (.string bytes) => bytes.length + 1
  | .lit _ => 1
  | .nil => 1
  | .ptr d => uptoBulk d + 1
  | .slice elems spare => uptoBulkAll elems + uptoBulkAll spare + 1
  | .agg parts => uptoBulkAll parts + 1
  | .iface _ d => uptoBulk d + 1
  | .map entries => uptoBulkEntries entries + 1
  | .held _ => 1
def uptoBulkAll {H : Type} : List (DataW H) → Nat
  | [] => 0
  | d :: r => uptoBulk d + uptoBulkAll r
def uptoBulkEntries {H : Type} : List (Lit × DataW H) → Nat
  | [] => 0
  | x :: r => uptoBulkEntry x + uptoBulkEntries r
def uptoBulkEntry {H : Type} : Lit × DataW H → Nat
  | (.string bytes, d) => bytes.length + uptoBulk d + 1
  | (_, d) => uptoBulk d + 1
 end
def uptoSmall : (H : Type) → List (DataW H) → Bool := fun _ ds => decide (uptoBulkAll ds ≤ 1048576)
def OpenSpec.upto (s : _root_.Go.ChangeSpec) : _root_.Go.OpenSpec := { _root_.Go.OpenSpec.ofChange s with cond := some uptoSmall }

/-- 'gantrylaw08.CommandText', WHERE WHAT IT READS IS OF BULK AT MOST 1048576: true; the input reads as it did. -/
def commandTextUptoRow : OpenClaim := { program := "ytodonngnigbpaaagreatdoor", sum := "8673462b01a82950fae7d637f4719791257ea3ca1b646df05505679224a6778f", func := "gantry/gantrylaw08.CommandText", spec := "commandText", unfollowed := true, recurses := true, named := ["gantry/command.heads", "gantry/lex.inBars", "gantry/lex.signs", "gantry/lex.digits"], loops := true, apart := false, laid := [("gantry/lex.digits", laid_gantry_lex_digits), ("gantry/lex.signs", laid_gantry_lex_signs), ("gantry/lex.inBars", laid_gantry_lex_inBars), ("gantry/command.heads", laid_gantry_command_heads)], narrowed := true }
def CommandTextUptoSaid : Prop := commandTextUptoRow.holds Tryz.pinned (OpenSpec.upto commandTextSpec)

/-- 'gantrylaw08.CommandOnce', WHERE WHAT IT READS IS OF BULK AT MOST 1048576: true; the input reads as it did. -/
def commandOnceUptoRow : OpenClaim := { program := "ytodonngnigbpaaagreatdoor", sum := "8673462b01a82950fae7d637f4719791257ea3ca1b646df05505679224a6778f", func := "gantry/gantrylaw08.CommandOnce", spec := "commandOnce", unfollowed := true, recurses := true, named := ["gantry/command.heads", "gantry/lex.inBars", "gantry/lex.signs", "gantry/lex.digits"], loops := true, apart := false, laid := [("gantry/lex.digits", laid_gantry_lex_digits), ("gantry/lex.signs", laid_gantry_lex_signs), ("gantry/lex.inBars", laid_gantry_lex_inBars), ("gantry/command.heads", laid_gantry_command_heads)], narrowed := true }
def CommandOnceUptoSaid : Prop := commandOnceUptoRow.holds Tryz.pinned (OpenSpec.upto commandOnceSpec)

end Rows
end Go.Proofs.YtodonngnigbpaaaGreatDoor
