/-
  NARROWER THAN 'FOR EVERY INPUT', by the rows' own cells (each row's printed sentence says how): UnitsRun: laid · UnitsImply: laid · UnitsMore: laid · RupTells: laid · RupHolds: laid · RupMore: laid · RupParts: laid.
  DERIVED. THE GIVEN ROWS OF THIS SEAT. 7 by the template 'for every input the law returns true; each argument reads behind the call as it read before'; 0 by the template 'total and deterministic' (their statements: YtggighikemhnfaaDoorTotals.lean).
  GIVEN WITH THE SEED: the statements are not yours to turn. If you find one false, say at which input.
  Laid BY PROGRAM, IN A SANDBOX (cutbox-rows.mjs): the forced cells as the released guide's own fill.sh prints them over the translation f35944c296f56140… (all of the seat's roots in one cut). By AI agents, Wed Nov 11 2026. No macro, syntax, notation, axiom, sorry.
-/
import Derived.Test.YtggighikemhnfaaDoorChecked
import GoSem.Claim
import GoSem.ClaimJoined
import GoSem.ClaimMapViews
import Derived.JoinedTies
import Derived.KernelRfl
namespace Go.Proofs.YtggighikemhnfaaDoor
/- THE CELL 'sum', in the pinned program and in every row, IS THE sha256 OF THE DUMP (.gsa) THAT YtggighikemhnfaaDoorProg.lean LOADS. Nothing in Lean hashes anything: it is a label: what it is worth is what the hold of that sum in a sandbox is worth. -/
noncomputable def Tryd.pinned : Pinned := { name := "ytggighikemhnfaadoor", sum := "f35944c296f56140ca0edd9c823553296a0af29df318be75180c3410582b6fbe", checked := Tryd.checked }
namespace Rows
def none {H : Type} : Left H := { results := [], args := [] }

/- WHAT THE LISTED PACKAGE-LEVEL VARIABLES READ AS WHEN THE CALL BEGINS. Each datum BY PROGRAM (the guide's laid-datum.mjs) off the statement by which the dump's own 'gosem.cut.vars' lays the variable. In a bare row this is a premise. The card (YtggighikemhnfaaDoorCards.lean) ties it to the program's text. -/
def laid_gantry_clause_turned {H : Type} : DataW H := .agg [.lit (.int .i8 0), .lit (.int .i8 2), .lit (.int .i8 1)]

/-- 'gantrylaw16.UnitsRun': WHATEVER THE INPUT: true; the input reads as it did. -/
def unitsRunSpec : ChangeSpec := { name := "unitsRun", fn := fun _ => fun
  | [d1, d2] => { results := [.lit (.bool true)], args := [d1, d2] }
  | _ => none }
def unitsRunRow : OpenClaim := { program := "ytggighikemhnfaadoor", sum := "f35944c296f56140ca0edd9c823553296a0af29df318be75180c3410582b6fbe", func := "gantry/gantrylaw16.UnitsRun", spec := "unitsRun", unfollowed := true, recurses := true, named := ["gantry/clause.turned"], apart := false, laid := [("gantry/clause.turned", laid_gantry_clause_turned)] }
def UnitsRunSaid : Prop := unitsRunRow.holds Tryd.pinned (OpenSpec.ofChange unitsRunSpec)

/-- ITS FALSE NEIGHBOUR: 'it returns false'. Refute it at one input. -/
def unitsRunWrong : ChangeSpec := { name := "unitsRun", fn := fun _ => fun
  | [d1, d2] => { results := [.lit (.bool false)], args := [d1, d2] }
  | _ => none }
def UnitsRunWrongFalsely : Prop := unitsRunRow.holds Tryd.pinned (OpenSpec.ofChange unitsRunWrong)

/-- 'gantrylaw16.UnitsImply': WHATEVER THE INPUT: true; the input reads as it did. -/
def unitsImplySpec : ChangeSpec := { name := "unitsImply", fn := fun _ => fun
  | [d1, d2, d3] => { results := [.lit (.bool true)], args := [d1, d2, d3] }
  | _ => none }
def unitsImplyRow : OpenClaim := { program := "ytggighikemhnfaadoor", sum := "f35944c296f56140ca0edd9c823553296a0af29df318be75180c3410582b6fbe", func := "gantry/gantrylaw16.UnitsImply", spec := "unitsImply", unfollowed := true, recurses := true, named := ["gantry/clause.turned"], apart := false, laid := [("gantry/clause.turned", laid_gantry_clause_turned)] }
def UnitsImplySaid : Prop := unitsImplyRow.holds Tryd.pinned (OpenSpec.ofChange unitsImplySpec)

/-- ITS FALSE NEIGHBOUR: 'it returns false'. Refute it at one input. -/
def unitsImplyWrong : ChangeSpec := { name := "unitsImply", fn := fun _ => fun
  | [d1, d2, d3] => { results := [.lit (.bool false)], args := [d1, d2, d3] }
  | _ => none }
def UnitsImplyWrongFalsely : Prop := unitsImplyRow.holds Tryd.pinned (OpenSpec.ofChange unitsImplyWrong)

/-- 'gantrylaw16.UnitsMore': WHATEVER THE INPUT: true; the input reads as it did. -/
def unitsMoreSpec : ChangeSpec := { name := "unitsMore", fn := fun _ => fun
  | [d1, d2, d3, d4] => { results := [.lit (.bool true)], args := [d1, d2, d3, d4] }
  | _ => none }
def unitsMoreRow : OpenClaim := { program := "ytggighikemhnfaadoor", sum := "f35944c296f56140ca0edd9c823553296a0af29df318be75180c3410582b6fbe", func := "gantry/gantrylaw16.UnitsMore", spec := "unitsMore", unfollowed := true, recurses := true, named := ["gantry/clause.turned"], apart := false, laid := [("gantry/clause.turned", laid_gantry_clause_turned)] }
def UnitsMoreSaid : Prop := unitsMoreRow.holds Tryd.pinned (OpenSpec.ofChange unitsMoreSpec)

/-- ITS FALSE NEIGHBOUR: 'it returns false'. Refute it at one input. -/
def unitsMoreWrong : ChangeSpec := { name := "unitsMore", fn := fun _ => fun
  | [d1, d2, d3, d4] => { results := [.lit (.bool false)], args := [d1, d2, d3, d4] }
  | _ => none }
def UnitsMoreWrongFalsely : Prop := unitsMoreRow.holds Tryd.pinned (OpenSpec.ofChange unitsMoreWrong)

/-- 'gantrylaw17.RupTells': WHATEVER THE INPUT: true; the input reads as it did. -/
def rupTellsSpec : ChangeSpec := { name := "rupTells", fn := fun _ => fun
  | [d1, d2, d3] => { results := [.lit (.bool true)], args := [d1, d2, d3] }
  | _ => none }
def rupTellsRow : OpenClaim := { program := "ytggighikemhnfaadoor", sum := "f35944c296f56140ca0edd9c823553296a0af29df318be75180c3410582b6fbe", func := "gantry/gantrylaw17.RupTells", spec := "rupTells", unfollowed := true, recurses := true, named := ["gantry/clause.turned"], apart := false, laid := [("gantry/clause.turned", laid_gantry_clause_turned)] }
def RupTellsSaid : Prop := rupTellsRow.holds Tryd.pinned (OpenSpec.ofChange rupTellsSpec)

/-- ITS FALSE NEIGHBOUR: 'it returns false'. Refute it at one input. -/
def rupTellsWrong : ChangeSpec := { name := "rupTells", fn := fun _ => fun
  | [d1, d2, d3] => { results := [.lit (.bool false)], args := [d1, d2, d3] }
  | _ => none }
def RupTellsWrongFalsely : Prop := rupTellsRow.holds Tryd.pinned (OpenSpec.ofChange rupTellsWrong)

/-- 'gantrylaw17.RupHolds': WHATEVER THE INPUT: true; the input reads as it did. -/
def rupHoldsSpec : ChangeSpec := { name := "rupHolds", fn := fun _ => fun
  | [d1, d2, d3] => { results := [.lit (.bool true)], args := [d1, d2, d3] }
  | _ => none }
def rupHoldsRow : OpenClaim := { program := "ytggighikemhnfaadoor", sum := "f35944c296f56140ca0edd9c823553296a0af29df318be75180c3410582b6fbe", func := "gantry/gantrylaw17.RupHolds", spec := "rupHolds", unfollowed := true, recurses := true, named := ["gantry/clause.turned"], apart := false, laid := [("gantry/clause.turned", laid_gantry_clause_turned)] }
def RupHoldsSaid : Prop := rupHoldsRow.holds Tryd.pinned (OpenSpec.ofChange rupHoldsSpec)

/-- ITS FALSE NEIGHBOUR: 'it returns false'. Refute it at one input. -/
def rupHoldsWrong : ChangeSpec := { name := "rupHolds", fn := fun _ => fun
  | [d1, d2, d3] => { results := [.lit (.bool false)], args := [d1, d2, d3] }
  | _ => none }
def RupHoldsWrongFalsely : Prop := rupHoldsRow.holds Tryd.pinned (OpenSpec.ofChange rupHoldsWrong)

/-- 'gantrylaw17.RupMore': WHATEVER THE INPUT: true; the input reads as it did. -/
def rupMoreSpec : ChangeSpec := { name := "rupMore", fn := fun _ => fun
  | [d1, d2, d3] => { results := [.lit (.bool true)], args := [d1, d2, d3] }
  | _ => none }
def rupMoreRow : OpenClaim := { program := "ytggighikemhnfaadoor", sum := "f35944c296f56140ca0edd9c823553296a0af29df318be75180c3410582b6fbe", func := "gantry/gantrylaw17.RupMore", spec := "rupMore", unfollowed := true, recurses := true, named := ["gantry/clause.turned"], apart := false, laid := [("gantry/clause.turned", laid_gantry_clause_turned)] }
def RupMoreSaid : Prop := rupMoreRow.holds Tryd.pinned (OpenSpec.ofChange rupMoreSpec)

/-- ITS FALSE NEIGHBOUR: 'it returns false'. Refute it at one input. -/
def rupMoreWrong : ChangeSpec := { name := "rupMore", fn := fun _ => fun
  | [d1, d2, d3] => { results := [.lit (.bool false)], args := [d1, d2, d3] }
  | _ => none }
def RupMoreWrongFalsely : Prop := rupMoreRow.holds Tryd.pinned (OpenSpec.ofChange rupMoreWrong)

/-- 'gantrylaw17.RupParts': WHATEVER THE INPUT: true; the input reads as it did. -/
def rupPartsSpec : ChangeSpec := { name := "rupParts", fn := fun _ => fun
  | [d1, d2, d3] => { results := [.lit (.bool true)], args := [d1, d2, d3] }
  | _ => none }
def rupPartsRow : OpenClaim := { program := "ytggighikemhnfaadoor", sum := "f35944c296f56140ca0edd9c823553296a0af29df318be75180c3410582b6fbe", func := "gantry/gantrylaw17.RupParts", spec := "rupParts", unfollowed := true, recurses := true, named := ["gantry/clause.turned"], apart := false, laid := [("gantry/clause.turned", laid_gantry_clause_turned)] }
def RupPartsSaid : Prop := rupPartsRow.holds Tryd.pinned (OpenSpec.ofChange rupPartsSpec)

/-- ITS FALSE NEIGHBOUR: 'it returns false'. Refute it at one input. -/
def rupPartsWrong : ChangeSpec := { name := "rupParts", fn := fun _ => fun
  | [d1, d2, d3] => { results := [.lit (.bool false)], args := [d1, d2, d3] }
  | _ => none }
def RupPartsWrongFalsely : Prop := rupPartsRow.holds Tryd.pinned (OpenSpec.ofChange rupPartsWrong)

/- THE SECOND FORM. 'bulk': how many values and letters a reading holds, each counted each time it is reached (what is shared counts as often as it is met; a slice's spare places count too). A statement '..UptoSaid' is the law's where the arguments, and the package variables that the reading takes, are together of bulk at most 1048576: NARROWER than '..Said'. Prove '..Said' where nothing that the law and all that it calls make is longer than what came in: it says more and counts as full. Else prove '..UptoSaid'. A law counts once. -/
mutual
def uptoBulk {H : Type} : DataW H → Nat
  | .lit (.string bytes) => bytes.length + 1
  | .lit _ => 1
  | .nil => 1
  | .ptr d => uptoBulk d + 1
  | .slice elems spare => uptoBulkAll elems + uptoBulkAll spare + 1
  | .agg parts => uptoBulkAll parts + 1
  | .iface _ d => uptoBulk d + 1
  | .map entries => uptoBulkEntries entries + 1
  | .held _ => 1
def uptoBulkAll {H : Type} : List (DataW H) → Nat
  | [] => 0
  | d :: r => uptoBulk d + uptoBulkAll r
def uptoBulkEntries {H : Type} : List (Lit × DataW H) → Nat
  | [] => 0
  | x :: r => uptoBulkEntry x + uptoBulkEntries r
def uptoBulkEntry {H : Type} : Lit × DataW H → Nat
  | (.string bytes, d) => bytes.length + uptoBulk d + 1
  | (_, d) => uptoBulk d + 1
 end
def uptoSmall : (H : Type) → List (DataW H) → Bool := fun _ ds => decide (uptoBulkAll ds ≤ 1048576)
def OpenSpec.upto (s : _root_.Go.ChangeSpec) : _root_.Go.OpenSpec := { _root_.Go.OpenSpec.ofChange s with cond := some uptoSmall }

/-- 'gantrylaw16.UnitsRun', WHERE WHAT IT READS IS OF BULK AT MOST 1048576: true; the input reads as it did. -/
def unitsRunUptoRow : OpenClaim := { program := "ytggighikemhnfaadoor", sum := "f35944c296f56140ca0edd9c823553296a0af29df318be75180c3410582b6fbe", func := "gantry/gantrylaw16.UnitsRun", spec := "unitsRun", unfollowed := true, recurses := true, named := ["gantry/clause.turned"], apart := false, laid := [("gantry/clause.turned", laid_gantry_clause_turned)], narrowed := true }
def UnitsRunUptoSaid : Prop := unitsRunUptoRow.holds Tryd.pinned (OpenSpec.upto unitsRunSpec)

/-- 'gantrylaw16.UnitsImply', WHERE WHAT IT READS IS OF BULK AT MOST 1048576: true; the input reads as it did. -/
def unitsImplyUptoRow : OpenClaim := { program := "ytggighikemhnfaadoor", sum := "f35944c296f56140ca0edd9c823553296a0af29df318be75180c3410582b6fbe", func := "gantry/gantrylaw16.UnitsImply", spec := "unitsImply", unfollowed := true, recurses := true, named := ["gantry/clause.turned"], apart := false, laid := [("gantry/clause.turned", laid_gantry_clause_turned)], narrowed := true }
def UnitsImplyUptoSaid : Prop := unitsImplyUptoRow.holds Tryd.pinned (OpenSpec.upto unitsImplySpec)

/-- 'gantrylaw16.UnitsMore', WHERE WHAT IT READS IS OF BULK AT MOST 1048576: true; the input reads as it did. -/
def unitsMoreUptoRow : OpenClaim := { program := "ytggighikemhnfaadoor", sum := "f35944c296f56140ca0edd9c823553296a0af29df318be75180c3410582b6fbe", func := "gantry/gantrylaw16.UnitsMore", spec := "unitsMore", unfollowed := true, recurses := true, named := ["gantry/clause.turned"], apart := false, laid := [("gantry/clause.turned", laid_gantry_clause_turned)], narrowed := true }
def UnitsMoreUptoSaid : Prop := unitsMoreUptoRow.holds Tryd.pinned (OpenSpec.upto unitsMoreSpec)

/-- 'gantrylaw17.RupTells', WHERE WHAT IT READS IS OF BULK AT MOST 1048576: true; the input reads as it did. -/
def rupTellsUptoRow : OpenClaim := { program := "ytggighikemhnfaadoor", sum := "f35944c296f56140ca0edd9c823553296a0af29df318be75180c3410582b6fbe", func := "gantry/gantrylaw17.RupTells", spec := "rupTells", unfollowed := true, recurses := true, named := ["gantry/clause.turned"], apart := false, laid := [("gantry/clause.turned", laid_gantry_clause_turned)], narrowed := true }
def RupTellsUptoSaid : Prop := rupTellsUptoRow.holds Tryd.pinned (OpenSpec.upto rupTellsSpec)

/-- 'gantrylaw17.RupHolds', WHERE WHAT IT READS IS OF BULK AT MOST 1048576: true; the input reads as it did. -/
def rupHoldsUptoRow : OpenClaim := { program := "ytggighikemhnfaadoor", sum := "f35944c296f56140ca0edd9c823553296a0af29df318be75180c3410582b6fbe", func := "gantry/gantrylaw17.RupHolds", spec := "rupHolds", unfollowed := true, recurses := true, named := ["gantry/clause.turned"], apart := false, laid := [("gantry/clause.turned", laid_gantry_clause_turned)], narrowed := true }
def RupHoldsUptoSaid : Prop := rupHoldsUptoRow.holds Tryd.pinned (OpenSpec.upto rupHoldsSpec)

/-- 'gantrylaw17.RupMore', WHERE WHAT IT READS IS OF BULK AT MOST 1048576: true; the input reads as it did. -/
def rupMoreUptoRow : OpenClaim := { program := "ytggighikemhnfaadoor", sum := "f35944c296f56140ca0edd9c823553296a0af29df318be75180c3410582b6fbe", func := "gantry/gantrylaw17.RupMore", spec := "rupMore", unfollowed := true, recurses := true, named := ["gantry/clause.turned"], apart := false, laid := [("gantry/clause.turned", laid_gantry_clause_turned)], narrowed := true }
def RupMoreUptoSaid : Prop := rupMoreUptoRow.holds Tryd.pinned (OpenSpec.upto rupMoreSpec)

/-- 'gantrylaw17.RupParts', WHERE WHAT IT READS IS OF BULK AT MOST 1048576: true; the input reads as it did. -/
def rupPartsUptoRow : OpenClaim := { program := "ytggighikemhnfaadoor", sum := "f35944c296f56140ca0edd9c823553296a0af29df318be75180c3410582b6fbe", func := "gantry/gantrylaw17.RupParts", spec := "rupParts", unfollowed := true, recurses := true, named := ["gantry/clause.turned"], apart := false, laid := [("gantry/clause.turned", laid_gantry_clause_turned)], narrowed := true }
def RupPartsUptoSaid : Prop := rupPartsUptoRow.holds Tryd.pinned (OpenSpec.upto rupPartsSpec)

end Rows
end Go.Proofs.YtggighikemhnfaaDoor
