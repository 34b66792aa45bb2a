/-
  NARROWER THAN 'FOR EVERY INPUT', by the rows' own cells (each row's printed sentence says how): ClauseMakes: laid · ClauseResolves: laid · ClauseIdle: laid · ClauseTurns: laid.
  DERIVED. THE GIVEN ROWS OF THIS SEAT. 4 by the template 'for every input the law returns true; each argument reads behind the call as it read before'; 0 by the template 'total and deterministic' (their statements: YtbjplhbflbabjaaDoorTotals.lean).
  GIVEN WITH THE SEED: the statements are not yours to turn. If you find one false, say at which input.
  Laid BY PROGRAM, IN A SANDBOX (cutbox-rows.mjs): the forced cells as the released guide's own fill.sh prints them over the translation e6e9854a537cd240… (all of the seat's roots in one cut). By AI agents, Wed Nov 11 2026. No macro, syntax, notation, axiom, sorry.
-/
import Derived.Test.YtbjplhbflbabjaaDoorChecked
import GoSem.Claim
import GoSem.ClaimJoined
import GoSem.ClaimMapViews
import Derived.JoinedTies
import Derived.KernelRfl
namespace Go.Proofs.YtbjplhbflbabjaaDoor
/- THE CELL 'sum', in the pinned program and in every row, IS THE sha256 OF THE DUMP (.gsa) THAT YtbjplhbflbabjaaDoorProg.lean LOADS. Nothing in Lean hashes anything: it is a label: what it is worth is what the hold of that sum in a sandbox is worth. -/
noncomputable def Tryd.pinned : Pinned := { name := "ytbjplhbflbabjaadoor", sum := "e6e9854a537cd240e246ba8e8ed2f366859b7e6dd5f6e3fef9f49af82490279f", checked := Tryd.checked }
namespace Rows
def none {H : Type} : Left H := { results := [], args := [] }

/- WHAT THE LISTED PACKAGE-LEVEL VARIABLES READ AS WHEN THE CALL BEGINS. Each datum BY PROGRAM (the guide's laid-datum.mjs) off the statement by which the dump's own 'gosem.cut.vars' lays the variable. In a bare row this is a premise. The card (YtbjplhbflbabjaaDoorCards.lean) ties it to the program's text. -/
def laid_gantry_clause_turned {H : Type} : DataW H := .agg [.lit (.int .i8 0), .lit (.int .i8 2), .lit (.int .i8 1)]

/-- 'gantrylaw15.ClauseMakes': WHATEVER THE INPUT: true; the input reads as it did. -/
def clauseMakesSpec : ChangeSpec := { name := "clauseMakes", fn := fun _ => fun
  | [d1, d2] => { results := [.lit (.bool true)], args := [d1, d2] }
  | _ => none }
def clauseMakesRow : OpenClaim := { program := "ytbjplhbflbabjaadoor", sum := "e6e9854a537cd240e246ba8e8ed2f366859b7e6dd5f6e3fef9f49af82490279f", func := "gantry/gantrylaw15.ClauseMakes", spec := "clauseMakes", unfollowed := true, recurses := true, named := ["gantry/clause.turned"], apart := false, laid := [("gantry/clause.turned", laid_gantry_clause_turned)] }
def ClauseMakesSaid : Prop := clauseMakesRow.holds Tryd.pinned (OpenSpec.ofChange clauseMakesSpec)

/-- ITS FALSE NEIGHBOUR: 'it returns false'. Refute it at one input. -/
def clauseMakesWrong : ChangeSpec := { name := "clauseMakes", fn := fun _ => fun
  | [d1, d2] => { results := [.lit (.bool false)], args := [d1, d2] }
  | _ => none }
def ClauseMakesWrongFalsely : Prop := clauseMakesRow.holds Tryd.pinned (OpenSpec.ofChange clauseMakesWrong)

/-- 'gantrylaw15.ClauseResolves': WHATEVER THE INPUT: true; the input reads as it did. -/
def clauseResolvesSpec : ChangeSpec := { name := "clauseResolves", fn := fun _ => fun
  | [d1, d2, d3, d4] => { results := [.lit (.bool true)], args := [d1, d2, d3, d4] }
  | _ => none }
def clauseResolvesRow : OpenClaim := { program := "ytbjplhbflbabjaadoor", sum := "e6e9854a537cd240e246ba8e8ed2f366859b7e6dd5f6e3fef9f49af82490279f", func := "gantry/gantrylaw15.ClauseResolves", spec := "clauseResolves", unfollowed := true, recurses := true, named := ["gantry/clause.turned"], apart := false, laid := [("gantry/clause.turned", laid_gantry_clause_turned)] }
def ClauseResolvesSaid : Prop := clauseResolvesRow.holds Tryd.pinned (OpenSpec.ofChange clauseResolvesSpec)

/-- ITS FALSE NEIGHBOUR: 'it returns false'. Refute it at one input. -/
def clauseResolvesWrong : ChangeSpec := { name := "clauseResolves", fn := fun _ => fun
  | [d1, d2, d3, d4] => { results := [.lit (.bool false)], args := [d1, d2, d3, d4] }
  | _ => none }
def ClauseResolvesWrongFalsely : Prop := clauseResolvesRow.holds Tryd.pinned (OpenSpec.ofChange clauseResolvesWrong)

/-- 'gantrylaw15.ClauseIdle': WHATEVER THE INPUT: true; the input reads as it did. -/
def clauseIdleSpec : ChangeSpec := { name := "clauseIdle", fn := fun _ => fun
  | [d1, d2] => { results := [.lit (.bool true)], args := [d1, d2] }
  | _ => none }
def clauseIdleRow : OpenClaim := { program := "ytbjplhbflbabjaadoor", sum := "e6e9854a537cd240e246ba8e8ed2f366859b7e6dd5f6e3fef9f49af82490279f", func := "gantry/gantrylaw15.ClauseIdle", spec := "clauseIdle", unfollowed := true, recurses := true, named := ["gantry/clause.turned"], apart := false, laid := [("gantry/clause.turned", laid_gantry_clause_turned)] }
def ClauseIdleSaid : Prop := clauseIdleRow.holds Tryd.pinned (OpenSpec.ofChange clauseIdleSpec)

/-- ITS FALSE NEIGHBOUR: 'it returns false'. Refute it at one input. -/
def clauseIdleWrong : ChangeSpec := { name := "clauseIdle", fn := fun _ => fun
  | [d1, d2] => { results := [.lit (.bool false)], args := [d1, d2] }
  | _ => none }
def ClauseIdleWrongFalsely : Prop := clauseIdleRow.holds Tryd.pinned (OpenSpec.ofChange clauseIdleWrong)

/-- 'gantrylaw15.ClauseTurns': WHATEVER THE INPUT: true; the input reads as it did. -/
def clauseTurnsSpec : ChangeSpec := { name := "clauseTurns", fn := fun _ => fun
  | [d1, d2, d3] => { results := [.lit (.bool true)], args := [d1, d2, d3] }
  | _ => none }
def clauseTurnsRow : OpenClaim := { program := "ytbjplhbflbabjaadoor", sum := "e6e9854a537cd240e246ba8e8ed2f366859b7e6dd5f6e3fef9f49af82490279f", func := "gantry/gantrylaw15.ClauseTurns", spec := "clauseTurns", unfollowed := true, recurses := true, named := ["gantry/clause.turned"], apart := false, laid := [("gantry/clause.turned", laid_gantry_clause_turned)] }
def ClauseTurnsSaid : Prop := clauseTurnsRow.holds Tryd.pinned (OpenSpec.ofChange clauseTurnsSpec)

/-- ITS FALSE NEIGHBOUR: 'it returns false'. Refute it at one input. -/
def clauseTurnsWrong : ChangeSpec := { name := "clauseTurns", fn := fun _ => fun
  | [d1, d2, d3] => { results := [.lit (.bool false)], args := [d1, d2, d3] }
  | _ => none }
def ClauseTurnsWrongFalsely : Prop := clauseTurnsRow.holds Tryd.pinned (OpenSpec.ofChange clauseTurnsWrong)

/- THE SECOND FORM. 'bulk': how many values and letters a reading holds, each counted each time it is reached (what is shared counts as often as it is met; a slice's spare places count too). A statement '..UptoSaid' is the law's where the arguments, and the package variables that the reading takes, are together of bulk at most 1048576: NARROWER than '..Said'. Prove '..Said' where nothing that the law and all that it calls make is longer than what came in: it says more and counts as full. Else prove '..UptoSaid'. A law counts once. -/
mutual
def uptoBulk {H : Type} : DataW H → Nat
  | .lit (.string bytes) => bytes.length + 1
  | .lit _ => 1
  | .nil => 1
  | .ptr d => uptoBulk d + 1
  | .slice elems spare => uptoBulkAll elems + uptoBulkAll spare + 1
  | .agg parts => uptoBulkAll parts + 1
  | .iface _ d => uptoBulk d + 1
  | .map entries => uptoBulkEntries entries + 1
  | .held _ => 1
def uptoBulkAll {H : Type} : List (DataW H) → Nat
  | [] => 0
  | d :: r => uptoBulk d + uptoBulkAll r
def uptoBulkEntries {H : Type} : List (Lit × DataW H) → Nat
  | [] => 0
  | x :: r => uptoBulkEntry x + uptoBulkEntries r
def uptoBulkEntry {H : Type} : Lit × DataW H → Nat
  | (.string bytes, d) => bytes.length + uptoBulk d + 1
  | (_, d) => uptoBulk d + 1
 end
def uptoSmall : (H : Type) → List (DataW H) → Bool := fun _ ds => decide (uptoBulkAll ds ≤ 1048576)
def OpenSpec.upto (s : _root_.Go.ChangeSpec) : _root_.Go.OpenSpec := { _root_.Go.OpenSpec.ofChange s with cond := some uptoSmall }

/-- 'gantrylaw15.ClauseMakes', WHERE WHAT IT READS IS OF BULK AT MOST 1048576: true; the input reads as it did. -/
def clauseMakesUptoRow : OpenClaim := { program := "ytbjplhbflbabjaadoor", sum := "e6e9854a537cd240e246ba8e8ed2f366859b7e6dd5f6e3fef9f49af82490279f", func := "gantry/gantrylaw15.ClauseMakes", spec := "clauseMakes", unfollowed := true, recurses := true, named := ["gantry/clause.turned"], apart := false, laid := [("gantry/clause.turned", laid_gantry_clause_turned)], narrowed := true }
def ClauseMakesUptoSaid : Prop := clauseMakesUptoRow.holds Tryd.pinned (OpenSpec.upto clauseMakesSpec)

/-- 'gantrylaw15.ClauseResolves', WHERE WHAT IT READS IS OF BULK AT MOST 1048576: true; the input reads as it did. -/
def clauseResolvesUptoRow : OpenClaim := { program := "ytbjplhbflbabjaadoor", sum := "e6e9854a537cd240e246ba8e8ed2f366859b7e6dd5f6e3fef9f49af82490279f", func := "gantry/gantrylaw15.ClauseResolves", spec := "clauseResolves", unfollowed := true, recurses := true, named := ["gantry/clause.turned"], apart := false, laid := [("gantry/clause.turned", laid_gantry_clause_turned)], narrowed := true }
def ClauseResolvesUptoSaid : Prop := clauseResolvesUptoRow.holds Tryd.pinned (OpenSpec.upto clauseResolvesSpec)

/-- 'gantrylaw15.ClauseIdle', WHERE WHAT IT READS IS OF BULK AT MOST 1048576: true; the input reads as it did. -/
def clauseIdleUptoRow : OpenClaim := { program := "ytbjplhbflbabjaadoor", sum := "e6e9854a537cd240e246ba8e8ed2f366859b7e6dd5f6e3fef9f49af82490279f", func := "gantry/gantrylaw15.ClauseIdle", spec := "clauseIdle", unfollowed := true, recurses := true, named := ["gantry/clause.turned"], apart := false, laid := [("gantry/clause.turned", laid_gantry_clause_turned)], narrowed := true }
def ClauseIdleUptoSaid : Prop := clauseIdleUptoRow.holds Tryd.pinned (OpenSpec.upto clauseIdleSpec)

/-- 'gantrylaw15.ClauseTurns', WHERE WHAT IT READS IS OF BULK AT MOST 1048576: true; the input reads as it did. -/
def clauseTurnsUptoRow : OpenClaim := { program := "ytbjplhbflbabjaadoor", sum := "e6e9854a537cd240e246ba8e8ed2f366859b7e6dd5f6e3fef9f49af82490279f", func := "gantry/gantrylaw15.ClauseTurns", spec := "clauseTurns", unfollowed := true, recurses := true, named := ["gantry/clause.turned"], apart := false, laid := [("gantry/clause.turned", laid_gantry_clause_turned)], narrowed := true }
def ClauseTurnsUptoSaid : Prop := clauseTurnsUptoRow.holds Tryd.pinned (OpenSpec.upto clauseTurnsSpec)

end Rows
end Go.Proofs.YtbjplhbflbabjaaDoor
