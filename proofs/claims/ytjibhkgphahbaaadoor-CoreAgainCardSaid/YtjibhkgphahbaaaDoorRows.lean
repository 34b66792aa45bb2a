/-
  NARROWER THAN 'FOR EVERY INPUT', by the rows' own cells (each row's printed sentence says how): CoreAgain: laid · CoreOffsets: laid.
  DERIVED. THE GIVEN ROWS OF THIS SEAT. 2 by the template 'for every input the law returns true; each argument reads behind the call as it read before'; 0 by the template 'total and deterministic' (their statements: YtjibhkgphahbaaaDoorTotals.lean).
  GIVEN WITH THE SEED: the statements are not yours to turn. If you find one false, say at which input.
  Laid BY PROGRAM, IN A SANDBOX (cutbox-rows.mjs): the forced cells as the released guide's own fill.sh prints them over the translation 6750339e712910a5… (all of the seat's roots in one cut). By AI agents, Wed Nov 11 2026. No macro, syntax, notation, axiom, sorry.
-/
import Derived.Test.YtjibhkgphahbaaaDoorChecked
import GoSem.Claim
import GoSem.ClaimJoined
import GoSem.ClaimMapViews
import Derived.JoinedTies
import Derived.KernelRfl
namespace Go.Proofs.YtjibhkgphahbaaaDoor
/- THE CELL 'sum', in the pinned program and in every row, IS THE sha256 OF THE DUMP (.gsa) THAT YtjibhkgphahbaaaDoorProg.lean LOADS. Nothing in Lean hashes anything: it is a label: what it is worth is what the hold of that sum in a sandbox is worth. -/
noncomputable def Tryd.pinned : Pinned := { name := "ytjibhkgphahbaaadoor", sum := "6750339e712910a5a672d97ee4c92776aa5acd607ab88931673b5d2b72035f4e", checked := Tryd.checked }
namespace Rows
def none {H : Type} : Left H := { results := [], args := [] }

/- WHAT THE LISTED PACKAGE-LEVEL VARIABLES READ AS WHEN THE CALL BEGINS. Each datum BY PROGRAM (the guide's laid-datum.mjs) off the statement by which the dump's own 'gosem.cut.vars' lays the variable. In a bare row this is a premise. The card (YtjibhkgphahbaaaDoorCards.lean) ties it to the program's text. -/
def laid_gantry_term_lens {H : Type} : DataW H := .agg [.lit (.int .i8 0), .lit (.int .i8 1), .lit (.int .i8 2), .lit (.int .i8 2), .lit (.int .i8 2), .lit (.int .i8 2), .lit (.int .i8 2), .lit (.int .i8 3), .lit (.int .i8 2), .lit (.int .i8 2), .lit (.int .i8 0), .lit (.int .i8 1), .lit (.int .i8 2), .lit (.int .i8 3)]
def laid_gantry_typing_rules {H : Type} : DataW H := .agg [.agg [.lit (.int .i64 0), .agg [.lit (.int .i64 0), .lit (.int .i64 0), .lit (.int .i64 0)], .lit (.int .i64 0)], .agg [.lit (.int .i64 1), .agg [.lit (.int .i64 0), .lit (.int .i64 0), .lit (.int .i64 0)], .lit (.int .i64 0)], .agg [.lit (.int .i64 2), .agg [.lit (.int .i64 0), .lit (.int .i64 0), .lit (.int .i64 0)], .lit (.int .i64 0)], .agg [.lit (.int .i64 2), .agg [.lit (.int .i64 0), .lit (.int .i64 0), .lit (.int .i64 0)], .lit (.int .i64 0)], .agg [.lit (.int .i64 2), .agg [.lit (.int .i64 0), .lit (.int .i64 0), .lit (.int .i64 0)], .lit (.int .i64 0)], .agg [.lit (.int .i64 2), .agg [.lit (.int .i64 0), .lit (.int .i64 0), .lit (.int .i64 0)], .lit (.int .i64 0)], .agg [.lit (.int .i64 2), .agg [.lit (.int .i64 (-1)), .lit (.int .i64 (-1)), .lit (.int .i64 0)], .lit (.int .i64 0)], .agg [.lit (.int .i64 3), .agg [.lit (.int .i64 0), .lit (.int .i64 (-1)), .lit (.int .i64 (-1))], .lit (.int .i64 (-1))], .agg [.lit (.int .i64 2), .agg [.lit (.int .i64 1), .lit (.int .i64 1), .lit (.int .i64 0)], .lit (.int .i64 0)], .agg [.lit (.int .i64 2), .agg [.lit (.int .i64 1), .lit (.int .i64 1), .lit (.int .i64 0)], .lit (.int .i64 0)], .agg [.lit (.int .i64 0), .agg [.lit (.int .i64 0), .lit (.int .i64 0), .lit (.int .i64 0)], .lit (.int .i64 1)], .agg [.lit (.int .i64 1), .agg [.lit (.int .i64 1), .lit (.int .i64 0), .lit (.int .i64 0)], .lit (.int .i64 1)], .agg [.lit (.int .i64 2), .agg [.lit (.int .i64 1), .lit (.int .i64 1), .lit (.int .i64 0)], .lit (.int .i64 0)]]

/-- 'gantrylaw12.CoreAgain': WHATEVER THE INPUT: true; the input reads as it did. -/
def coreAgainSpec : ChangeSpec := { name := "coreAgain", fn := fun _ => fun
  | [d1, d2] => { results := [.lit (.bool true)], args := [d1, d2] }
  | _ => none }
def coreAgainRow : OpenClaim := { program := "ytjibhkgphahbaaadoor", sum := "6750339e712910a5a672d97ee4c92776aa5acd607ab88931673b5d2b72035f4e", func := "gantry/gantrylaw12.CoreAgain", spec := "coreAgain", unfollowed := true, recurses := true, named := ["gantry/term.lens", "gantry/typing.rules"], plainKeys := false, apart := false, laid := [("gantry/term.lens", laid_gantry_term_lens), ("gantry/typing.rules", laid_gantry_typing_rules)] }
def CoreAgainSaid : Prop := coreAgainRow.holds Tryd.pinned (OpenSpec.ofChange coreAgainSpec)

/-- ITS FALSE NEIGHBOUR: 'it returns false'. Refute it at one input. -/
def coreAgainWrong : ChangeSpec := { name := "coreAgain", fn := fun _ => fun
  | [d1, d2] => { results := [.lit (.bool false)], args := [d1, d2] }
  | _ => none }
def CoreAgainWrongFalsely : Prop := coreAgainRow.holds Tryd.pinned (OpenSpec.ofChange coreAgainWrong)

/-- 'gantrylaw12.CoreOffsets': WHATEVER THE INPUT: true; the input reads as it did. -/
def coreOffsetsSpec : ChangeSpec := { name := "coreOffsets", fn := fun _ => fun
  | [d1, d2] => { results := [.lit (.bool true)], args := [d1, d2] }
  | _ => none }
def coreOffsetsRow : OpenClaim := { program := "ytjibhkgphahbaaadoor", sum := "6750339e712910a5a672d97ee4c92776aa5acd607ab88931673b5d2b72035f4e", func := "gantry/gantrylaw12.CoreOffsets", spec := "coreOffsets", unfollowed := true, recurses := true, named := ["gantry/term.lens", "gantry/typing.rules"], plainKeys := false, apart := false, laid := [("gantry/term.lens", laid_gantry_term_lens), ("gantry/typing.rules", laid_gantry_typing_rules)] }
def CoreOffsetsSaid : Prop := coreOffsetsRow.holds Tryd.pinned (OpenSpec.ofChange coreOffsetsSpec)

/-- ITS FALSE NEIGHBOUR: 'it returns false'. Refute it at one input. -/
def coreOffsetsWrong : ChangeSpec := { name := "coreOffsets", fn := fun _ => fun
  | [d1, d2] => { results := [.lit (.bool false)], args := [d1, d2] }
  | _ => none }
def CoreOffsetsWrongFalsely : Prop := coreOffsetsRow.holds Tryd.pinned (OpenSpec.ofChange coreOffsetsWrong)

/- THE SECOND FORM. 'bulk': how many values and letters a reading holds, each counted each time it is reached (what is shared counts as often as it is met; a slice's spare places count too). A statement '..UptoSaid' is the law's where the arguments, and the package variables that the reading takes, are together of bulk at most 1048576: NARROWER than '..Said'. Prove '..Said' where nothing that the law and all that it calls make is longer than what came in: it says more and counts as full. Else prove '..UptoSaid'. A law counts once. -/
mutual
def uptoBulk {H : Type} : DataW H → Nat
  | .lit (.string bytes) => bytes.length + 1
  | .lit _ => 1
  | .nil => 1
  | .ptr d => uptoBulk d + 1
  | .slice elems spare => uptoBulkAll elems + uptoBulkAll spare + 1
  | .agg parts => uptoBulkAll parts + 1
  | .iface _ d => uptoBulk d + 1
  | .map entries => uptoBulkEntries entries + 1
  | .held _ => 1
def uptoBulkAll {H : Type} : List (DataW H) → Nat
  | [] => 0
  | d :: r => uptoBulk d + uptoBulkAll r
def uptoBulkEntries {H : Type} : List (Lit × DataW H) → Nat
  | [] => 0
  | x :: r => uptoBulkEntry x + uptoBulkEntries r
def uptoBulkEntry {H : Type} : Lit × DataW H → Nat
  | (.string bytes, d) => bytes.length + uptoBulk d + 1
  | (_, d) => uptoBulk d + 1
 end
def uptoSmall : (H : Type) → List (DataW H) → Bool := fun _ ds => decide (uptoBulkAll ds ≤ 1048576)
def OpenSpec.upto (s : _root_.Go.ChangeSpec) : _root_.Go.OpenSpec := { _root_.Go.OpenSpec.ofChange s with cond := some uptoSmall }

/-- 'gantrylaw12.CoreAgain', WHERE WHAT IT READS IS OF BULK AT MOST 1048576: true; the input reads as it did. -/
def coreAgainUptoRow : OpenClaim := { program := "ytjibhkgphahbaaadoor", sum := "6750339e712910a5a672d97ee4c92776aa5acd607ab88931673b5d2b72035f4e", func := "gantry/gantrylaw12.CoreAgain", spec := "coreAgain", unfollowed := true, recurses := true, named := ["gantry/term.lens", "gantry/typing.rules"], plainKeys := false, apart := false, laid := [("gantry/term.lens", laid_gantry_term_lens), ("gantry/typing.rules", laid_gantry_typing_rules)], narrowed := true }
def CoreAgainUptoSaid : Prop := coreAgainUptoRow.holds Tryd.pinned (OpenSpec.upto coreAgainSpec)

/-- 'gantrylaw12.CoreOffsets', WHERE WHAT IT READS IS OF BULK AT MOST 1048576: true; the input reads as it did. -/
def coreOffsetsUptoRow : OpenClaim := { program := "ytjibhkgphahbaaadoor", sum := "6750339e712910a5a672d97ee4c92776aa5acd607ab88931673b5d2b72035f4e", func := "gantry/gantrylaw12.CoreOffsets", spec := "coreOffsets", unfollowed := true, recurses := true, named := ["gantry/term.lens", "gantry/typing.rules"], plainKeys := false, apart := false, laid := [("gantry/term.lens", laid_gantry_term_lens), ("gantry/typing.rules", laid_gantry_typing_rules)], narrowed := true }
def CoreOffsetsUptoSaid : Prop := coreOffsetsUptoRow.holds Tryd.pinned (OpenSpec.upto coreOffsetsSpec)

end Rows
end Go.Proofs.YtjibhkgphahbaaaDoor
