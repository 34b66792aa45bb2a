/-
  NARROWER THAN 'FOR EVERY INPUT', by the rows' own cells (each row's printed sentence says how): OffsetBack: laid · OffsetOnce: laid · OffsetTurns: laid.
  DERIVED. THE GIVEN ROWS OF THIS SEAT. 3 by the template 'for every input the law returns true; each argument reads behind the call as it read before'; 0 by the template 'total and deterministic' (their statements: YtgjidlfemfomcaaDoorTotals.lean).
  GIVEN WITH THE SEED: the statements are not yours to turn. If you find one false, say at which input.
  Laid BY PROGRAM, IN A SANDBOX (cutbox-rows.mjs): the forced cells as the released guide's own fill.sh prints them over the translation 65c9e3f471d9b257… (all of the seat's roots in one cut). By AI agents, Wed Nov 11 2026. No macro, syntax, notation, axiom, sorry.
-/
import Derived.Test.YtgjidlfemfomcaaDoorChecked
import GoSem.Claim
import GoSem.ClaimJoined
import GoSem.ClaimMapViews
import Derived.JoinedTies
import Derived.KernelRfl
namespace Go.Proofs.YtgjidlfemfomcaaDoor
/- THE CELL 'sum', in the pinned program and in every row, IS THE sha256 OF THE DUMP (.gsa) THAT YtgjidlfemfomcaaDoorProg.lean LOADS. Nothing in Lean hashes anything: it is a label: what it is worth is what the hold of that sum in a sandbox is worth. -/
noncomputable def Tryd.pinned : Pinned := { name := "ytgjidlfemfomcaadoor", sum := "65c9e3f471d9b257fe92e2e3edfc01708362c4ff45dce399fb655a6219b24dc6", checked := Tryd.checked }
namespace Rows
def none {H : Type} : Left H := { results := [], args := [] }

/- WHAT THE LISTED PACKAGE-LEVEL VARIABLES READ AS WHEN THE CALL BEGINS. Each datum BY PROGRAM (the guide's laid-datum.mjs) off the statement by which the dump's own 'gosem.cut.vars' lays the variable. In a bare row this is a premise. The card (YtgjidlfemfomcaaDoorCards.lean) ties it to the program's text. -/
def laid_gantry_term_lens {H : Type} : DataW H := .agg [.lit (.int .i8 0), .lit (.int .i8 1), .lit (.int .i8 2), .lit (.int .i8 2), .lit (.int .i8 2), .lit (.int .i8 2), .lit (.int .i8 2), .lit (.int .i8 3), .lit (.int .i8 2), .lit (.int .i8 2), .lit (.int .i8 0), .lit (.int .i8 1), .lit (.int .i8 2), .lit (.int .i8 3)]

/-- 'gantrylaw11.OffsetBack': WHATEVER THE INPUT: true; the input reads as it did. -/
def offsetBackSpec : ChangeSpec := { name := "offsetBack", fn := fun _ => fun
  | [d1, d2, d3, d4, d5] => { results := [.lit (.bool true)], args := [d1, d2, d3, d4, d5] }
  | _ => none }
def offsetBackRow : OpenClaim := { program := "ytgjidlfemfomcaadoor", sum := "65c9e3f471d9b257fe92e2e3edfc01708362c4ff45dce399fb655a6219b24dc6", func := "gantry/gantrylaw11.OffsetBack", spec := "offsetBack", unfollowed := true, recurses := true, named := ["gantry/term.lens"], plainKeys := false, apart := false, laid := [("gantry/term.lens", laid_gantry_term_lens)] }
def OffsetBackSaid : Prop := offsetBackRow.holds Tryd.pinned (OpenSpec.ofChange offsetBackSpec)

/-- ITS FALSE NEIGHBOUR: 'it returns false'. Refute it at one input. -/
def offsetBackWrong : ChangeSpec := { name := "offsetBack", fn := fun _ => fun
  | [d1, d2, d3, d4, d5] => { results := [.lit (.bool false)], args := [d1, d2, d3, d4, d5] }
  | _ => none }
def OffsetBackWrongFalsely : Prop := offsetBackRow.holds Tryd.pinned (OpenSpec.ofChange offsetBackWrong)

/-- 'gantrylaw11.OffsetOnce': WHATEVER THE INPUT: true; the input reads as it did. -/
def offsetOnceSpec : ChangeSpec := { name := "offsetOnce", fn := fun _ => fun
  | [d1, d2, d3] => { results := [.lit (.bool true)], args := [d1, d2, d3] }
  | _ => none }
def offsetOnceRow : OpenClaim := { program := "ytgjidlfemfomcaadoor", sum := "65c9e3f471d9b257fe92e2e3edfc01708362c4ff45dce399fb655a6219b24dc6", func := "gantry/gantrylaw11.OffsetOnce", spec := "offsetOnce", unfollowed := true, recurses := true, named := ["gantry/term.lens"], plainKeys := false, apart := false, laid := [("gantry/term.lens", laid_gantry_term_lens)] }
def OffsetOnceSaid : Prop := offsetOnceRow.holds Tryd.pinned (OpenSpec.ofChange offsetOnceSpec)

/-- ITS FALSE NEIGHBOUR: 'it returns false'. Refute it at one input. -/
def offsetOnceWrong : ChangeSpec := { name := "offsetOnce", fn := fun _ => fun
  | [d1, d2, d3] => { results := [.lit (.bool false)], args := [d1, d2, d3] }
  | _ => none }
def OffsetOnceWrongFalsely : Prop := offsetOnceRow.holds Tryd.pinned (OpenSpec.ofChange offsetOnceWrong)

/-- 'gantrylaw11.OffsetTurns': WHATEVER THE INPUT: true; the input reads as it did. -/
def offsetTurnsSpec : ChangeSpec := { name := "offsetTurns", fn := fun _ => fun
  | [d1, d2, d3, d4] => { results := [.lit (.bool true)], args := [d1, d2, d3, d4] }
  | _ => none }
def offsetTurnsRow : OpenClaim := { program := "ytgjidlfemfomcaadoor", sum := "65c9e3f471d9b257fe92e2e3edfc01708362c4ff45dce399fb655a6219b24dc6", func := "gantry/gantrylaw11.OffsetTurns", spec := "offsetTurns", unfollowed := true, recurses := true, named := ["gantry/term.lens"], plainKeys := false, apart := false, laid := [("gantry/term.lens", laid_gantry_term_lens)] }
def OffsetTurnsSaid : Prop := offsetTurnsRow.holds Tryd.pinned (OpenSpec.ofChange offsetTurnsSpec)

/-- ITS FALSE NEIGHBOUR: 'it returns false'. Refute it at one input. -/
def offsetTurnsWrong : ChangeSpec := { name := "offsetTurns", fn := fun _ => fun
  | [d1, d2, d3, d4] => { results := [.lit (.bool false)], args := [d1, d2, d3, d4] }
  | _ => none }
def OffsetTurnsWrongFalsely : Prop := offsetTurnsRow.holds Tryd.pinned (OpenSpec.ofChange offsetTurnsWrong)

/- THE SECOND FORM. 'bulk': how many values and letters a reading holds, each counted each time it is reached (what is shared counts as often as it is met; a slice's spare places count too). A statement '..UptoSaid' is the law's where the arguments, and the package variables that the reading takes, are together of bulk at most 1048576: NARROWER than '..Said'. Prove '..Said' where nothing that the law and all that it calls make is longer than what came in: it says more and counts as full. Else prove '..UptoSaid'. A law counts once. -/
mutual
def uptoBulk {H : Type} : DataW H → Nat
  | .lit (.string bytes) => bytes.length + 1
  | .lit _ => 1
  | .nil => 1
  | .ptr d => uptoBulk d + 1
  | .slice elems spare => uptoBulkAll elems + uptoBulkAll spare + 1
  | .agg parts => uptoBulkAll parts + 1
  | .iface _ d => uptoBulk d + 1
  | .map entries => uptoBulkEntries entries + 1
  | .held _ => 1
def uptoBulkAll {H : Type} : List (DataW H) → Nat
  | [] => 0
  | d :: r => uptoBulk d + uptoBulkAll r
def uptoBulkEntries {H : Type} : List (Lit × DataW H) → Nat
  | [] => 0
  | x :: r => uptoBulkEntry x + uptoBulkEntries r
def uptoBulkEntry {H : Type} : Lit × DataW H → Nat
  | (.string bytes, d) => bytes.length + uptoBulk d + 1
  | (_, d) => uptoBulk d + 1
 end
def uptoSmall : (H : Type) → List (DataW H) → Bool := fun _ ds => decide (uptoBulkAll ds ≤ 1048576)
def OpenSpec.upto (s : _root_.Go.ChangeSpec) : _root_.Go.OpenSpec := { _root_.Go.OpenSpec.ofChange s with cond := some uptoSmall }

/-- 'gantrylaw11.OffsetBack', WHERE WHAT IT READS IS OF BULK AT MOST 1048576: true; the input reads as it did. -/
def offsetBackUptoRow : OpenClaim := { program := "ytgjidlfemfomcaadoor", sum := "65c9e3f471d9b257fe92e2e3edfc01708362c4ff45dce399fb655a6219b24dc6", func := "gantry/gantrylaw11.OffsetBack", spec := "offsetBack", unfollowed := true, recurses := true, named := ["gantry/term.lens"], plainKeys := false, apart := false, laid := [("gantry/term.lens", laid_gantry_term_lens)], narrowed := true }
def OffsetBackUptoSaid : Prop := offsetBackUptoRow.holds Tryd.pinned (OpenSpec.upto offsetBackSpec)

/-- 'gantrylaw11.OffsetOnce', WHERE WHAT IT READS IS OF BULK AT MOST 1048576: true; the input reads as it did. -/
def offsetOnceUptoRow : OpenClaim := { program := "ytgjidlfemfomcaadoor", sum := "65c9e3f471d9b257fe92e2e3edfc01708362c4ff45dce399fb655a6219b24dc6", func := "gantry/gantrylaw11.OffsetOnce", spec := "offsetOnce", unfollowed := true, recurses := true, named := ["gantry/term.lens"], plainKeys := false, apart := false, laid := [("gantry/term.lens", laid_gantry_term_lens)], narrowed := true }
def OffsetOnceUptoSaid : Prop := offsetOnceUptoRow.holds Tryd.pinned (OpenSpec.upto offsetOnceSpec)

/-- 'gantrylaw11.OffsetTurns', WHERE WHAT IT READS IS OF BULK AT MOST 1048576: true; the input reads as it did. -/
def offsetTurnsUptoRow : OpenClaim := { program := "ytgjidlfemfomcaadoor", sum := "65c9e3f471d9b257fe92e2e3edfc01708362c4ff45dce399fb655a6219b24dc6", func := "gantry/gantrylaw11.OffsetTurns", spec := "offsetTurns", unfollowed := true, recurses := true, named := ["gantry/term.lens"], plainKeys := false, apart := false, laid := [("gantry/term.lens", laid_gantry_term_lens)], narrowed := true }
def OffsetTurnsUptoSaid : Prop := offsetTurnsUptoRow.holds Tryd.pinned (OpenSpec.upto offsetTurnsSpec)

end Rows
end Go.Proofs.YtgjidlfemfomcaaDoor
