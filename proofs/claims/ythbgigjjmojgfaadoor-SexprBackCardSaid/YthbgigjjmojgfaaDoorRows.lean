/-
  NARROWER THAN 'FOR EVERY INPUT', by the rows' own cells (each row's printed sentence says how): SexprReads: laid · SexprTells: loops, laid · SexprBack: loops, laid · SexprSpaces: laid · SexprJoined: laid.
  DERIVED. THE GIVEN ROWS OF THIS SEAT. 5 by the template 'for every input the law returns true; each argument reads behind the call as it read before'; 0 by the template 'total and deterministic' (their statements: YthbgigjjmojgfaaDoorTotals.lean).
  GIVEN WITH THE SEED: the statements are not yours to turn. If you find one false, say at which input.
  Laid BY PROGRAM, IN A SANDBOX (cutbox-rows.mjs): the forced cells as the released guide's own fill.sh prints them over the translation 58d189d1d866b19d… (all of the seat's roots in one cut). By AI agents, Wed Nov 11 2026. No macro, syntax, notation, axiom, sorry.
-/
import Derived.Test.YthbgigjjmojgfaaDoorChecked
import GoSem.Claim
import GoSem.ClaimJoined
import GoSem.ClaimMapViews
import Derived.JoinedTies
import Derived.KernelRfl
namespace Go.Proofs.YthbgigjjmojgfaaDoor
/- THE CELL 'sum', in the pinned program and in every row, IS THE sha256 OF THE DUMP (.gsa) THAT YthbgigjjmojgfaaDoorProg.lean LOADS. Nothing in Lean hashes anything: it is a label: what it is worth is what the hold of that sum in a sandbox is worth. -/
noncomputable def Tryd.pinned : Pinned := { name := "ythbgigjjmojgfaadoor", sum := "58d189d1d866b19d9d4a0b74a9a59f78935a085bc01db7c91260f216881f86ed", checked := Tryd.checked }
namespace Rows
def none {H : Type} : Left H := { results := [], args := [] }

/- WHAT THE LISTED PACKAGE-LEVEL VARIABLES READ AS WHEN THE CALL BEGINS. Each datum BY PROGRAM (the guide's laid-datum.mjs) off the statement by which the dump's own 'gosem.cut.vars' lays the variable. In a bare row this is a premise. The card (YthbgigjjmojgfaaDoorCards.lean) ties it to the program's text. -/
def laid_gantry_lex_white {H : Type} : DataW H := .agg [.lit (.int .u64 4294977024), .lit (.int .u64 0), .lit (.int .u64 0), .lit (.int .u64 0)]
def laid_gantry_lex_digits {H : Type} : DataW H := .agg [.lit (.int .u64 287948901175001088), .lit (.int .u64 0), .lit (.int .u64 0), .lit (.int .u64 0)]
def laid_gantry_lex_signs {H : Type} : DataW H := .agg [.lit (.int .u64 17582031444648132608), .lit (.int .u64 5188146765496319999), .lit (.int .u64 0), .lit (.int .u64 0)]
def laid_gantry_lex_inBars {H : Type} : DataW H := .agg [.lit (.int .u64 18446744069414594048), .lit (.int .u64 8070450531979493375), .lit (.int .u64 0), .lit (.int .u64 0)]
def laid_gantry_sexpr_kinds {H : Type} : DataW H := .agg [.lit (.int .i8 0), .lit (.int .i8 0), .lit (.int .i8 0), .lit (.int .i8 1), .lit (.int .i8 2)]

/-- 'gantrylaw03.SexprReads': WHATEVER THE INPUT: true; the input reads as it did. -/
def sexprReadsSpec : ChangeSpec := { name := "sexprReads", fn := fun _ => fun
  | [d1, d2] => { results := [.lit (.bool true)], args := [d1, d2] }
  | _ => none }
def sexprReadsRow : OpenClaim := { program := "ythbgigjjmojgfaadoor", sum := "58d189d1d866b19d9d4a0b74a9a59f78935a085bc01db7c91260f216881f86ed", func := "gantry/gantrylaw03.SexprReads", spec := "sexprReads", unfollowed := true, recurses := true, named := ["gantry/lex.white", "gantry/lex.digits", "gantry/lex.signs", "gantry/lex.inBars", "gantry/sexpr.kinds"], apart := false, laid := [("gantry/lex.white", laid_gantry_lex_white), ("gantry/lex.digits", laid_gantry_lex_digits), ("gantry/lex.signs", laid_gantry_lex_signs), ("gantry/lex.inBars", laid_gantry_lex_inBars), ("gantry/sexpr.kinds", laid_gantry_sexpr_kinds)] }
def SexprReadsSaid : Prop := sexprReadsRow.holds Tryd.pinned (OpenSpec.ofChange sexprReadsSpec)

/-- ITS FALSE NEIGHBOUR: 'it returns false'. Refute it at one input. -/
def sexprReadsWrong : ChangeSpec := { name := "sexprReads", fn := fun _ => fun
  | [d1, d2] => { results := [.lit (.bool false)], args := [d1, d2] }
  | _ => none }
def SexprReadsWrongFalsely : Prop := sexprReadsRow.holds Tryd.pinned (OpenSpec.ofChange sexprReadsWrong)

/-- 'gantrylaw03.SexprTells': WHATEVER THE INPUT: true; the input reads as it did. -/
def sexprTellsSpec : ChangeSpec := { name := "sexprTells", fn := fun _ => fun
  | [d1, d2] => { results := [.lit (.bool true)], args := [d1, d2] }
  | _ => none }
def sexprTellsRow : OpenClaim := { program := "ythbgigjjmojgfaadoor", sum := "58d189d1d866b19d9d4a0b74a9a59f78935a085bc01db7c91260f216881f86ed", func := "gantry/gantrylaw03.SexprTells", spec := "sexprTells", unfollowed := true, recurses := true, named := ["gantry/lex.white", "gantry/lex.digits", "gantry/lex.signs", "gantry/lex.inBars", "gantry/sexpr.kinds"], loops := true, apart := false, laid := [("gantry/lex.white", laid_gantry_lex_white), ("gantry/lex.digits", laid_gantry_lex_digits), ("gantry/lex.signs", laid_gantry_lex_signs), ("gantry/lex.inBars", laid_gantry_lex_inBars), ("gantry/sexpr.kinds", laid_gantry_sexpr_kinds)] }
def SexprTellsSaid : Prop := sexprTellsRow.holds Tryd.pinned (OpenSpec.ofChange sexprTellsSpec)

/-- ITS FALSE NEIGHBOUR: 'it returns false'. Refute it at one input. -/
def sexprTellsWrong : ChangeSpec := { name := "sexprTells", fn := fun _ => fun
  | [d1, d2] => { results := [.lit (.bool false)], args := [d1, d2] }
  | _ => none }
def SexprTellsWrongFalsely : Prop := sexprTellsRow.holds Tryd.pinned (OpenSpec.ofChange sexprTellsWrong)

/-- 'gantrylaw03.SexprBack': WHATEVER THE INPUT: true; the input reads as it did. -/
def sexprBackSpec : ChangeSpec := { name := "sexprBack", fn := fun _ => fun
  | [d1, d2, d3] => { results := [.lit (.bool true)], args := [d1, d2, d3] }
  | _ => none }
def sexprBackRow : OpenClaim := { program := "ythbgigjjmojgfaadoor", sum := "58d189d1d866b19d9d4a0b74a9a59f78935a085bc01db7c91260f216881f86ed", func := "gantry/gantrylaw03.SexprBack", spec := "sexprBack", unfollowed := true, recurses := true, named := ["gantry/lex.white", "gantry/lex.digits", "gantry/lex.signs", "gantry/lex.inBars", "gantry/sexpr.kinds"], loops := true, apart := false, laid := [("gantry/lex.white", laid_gantry_lex_white), ("gantry/lex.digits", laid_gantry_lex_digits), ("gantry/lex.signs", laid_gantry_lex_signs), ("gantry/lex.inBars", laid_gantry_lex_inBars), ("gantry/sexpr.kinds", laid_gantry_sexpr_kinds)] }
def SexprBackSaid : Prop := sexprBackRow.holds Tryd.pinned (OpenSpec.ofChange sexprBackSpec)

/-- ITS FALSE NEIGHBOUR: 'it returns false'. Refute it at one input. -/
def sexprBackWrong : ChangeSpec := { name := "sexprBack", fn := fun _ => fun
  | [d1, d2, d3] => { results := [.lit (.bool false)], args := [d1, d2, d3] }
  | _ => none }
def SexprBackWrongFalsely : Prop := sexprBackRow.holds Tryd.pinned (OpenSpec.ofChange sexprBackWrong)

/-- 'gantrylaw03.SexprSpaces': WHATEVER THE INPUT: true; the input reads as it did. -/
def sexprSpacesSpec : ChangeSpec := { name := "sexprSpaces", fn := fun _ => fun
  | [d1, d2] => { results := [.lit (.bool true)], args := [d1, d2] }
  | _ => none }
def sexprSpacesRow : OpenClaim := { program := "ythbgigjjmojgfaadoor", sum := "58d189d1d866b19d9d4a0b74a9a59f78935a085bc01db7c91260f216881f86ed", func := "gantry/gantrylaw03.SexprSpaces", spec := "sexprSpaces", unfollowed := true, recurses := true, named := ["gantry/lex.white", "gantry/lex.digits", "gantry/lex.signs", "gantry/lex.inBars", "gantry/sexpr.kinds"], apart := false, laid := [("gantry/lex.white", laid_gantry_lex_white), ("gantry/lex.digits", laid_gantry_lex_digits), ("gantry/lex.signs", laid_gantry_lex_signs), ("gantry/lex.inBars", laid_gantry_lex_inBars), ("gantry/sexpr.kinds", laid_gantry_sexpr_kinds)] }
def SexprSpacesSaid : Prop := sexprSpacesRow.holds Tryd.pinned (OpenSpec.ofChange sexprSpacesSpec)

/-- ITS FALSE NEIGHBOUR: 'it returns false'. Refute it at one input. -/
def sexprSpacesWrong : ChangeSpec := { name := "sexprSpaces", fn := fun _ => fun
  | [d1, d2] => { results := [.lit (.bool false)], args := [d1, d2] }
  | _ => none }
def SexprSpacesWrongFalsely : Prop := sexprSpacesRow.holds Tryd.pinned (OpenSpec.ofChange sexprSpacesWrong)

/-- 'gantrylaw03.SexprJoined': WHATEVER THE INPUT: true; the input reads as it did. -/
def sexprJoinedSpec : ChangeSpec := { name := "sexprJoined", fn := fun _ => fun
  | [d1, d2] => { results := [.lit (.bool true)], args := [d1, d2] }
  | _ => none }
def sexprJoinedRow : OpenClaim := { program := "ythbgigjjmojgfaadoor", sum := "58d189d1d866b19d9d4a0b74a9a59f78935a085bc01db7c91260f216881f86ed", func := "gantry/gantrylaw03.SexprJoined", spec := "sexprJoined", unfollowed := true, recurses := true, named := ["gantry/lex.white", "gantry/lex.digits", "gantry/lex.signs", "gantry/lex.inBars", "gantry/sexpr.kinds"], apart := false, laid := [("gantry/lex.white", laid_gantry_lex_white), ("gantry/lex.digits", laid_gantry_lex_digits), ("gantry/lex.signs", laid_gantry_lex_signs), ("gantry/lex.inBars", laid_gantry_lex_inBars), ("gantry/sexpr.kinds", laid_gantry_sexpr_kinds)] }
def SexprJoinedSaid : Prop := sexprJoinedRow.holds Tryd.pinned (OpenSpec.ofChange sexprJoinedSpec)

/-- ITS FALSE NEIGHBOUR: 'it returns false'. Refute it at one input. -/
def sexprJoinedWrong : ChangeSpec := { name := "sexprJoined", fn := fun _ => fun
  | [d1, d2] => { results := [.lit (.bool false)], args := [d1, d2] }
  | _ => none }
def SexprJoinedWrongFalsely : Prop := sexprJoinedRow.holds Tryd.pinned (OpenSpec.ofChange sexprJoinedWrong)

/- THE SECOND FORM. 'bulk': how many values and letters a reading holds, each counted each time it is reached (what is shared counts as often as it is met; a slice's spare places count too). A statement '..UptoSaid' is the law's where the arguments, and the package variables that the reading takes, are together of bulk at most 1048576: NARROWER than '..Said'. Prove '..Said' where nothing that the law and all that it calls make is longer than what came in: it says more and counts as full. Else prove '..UptoSaid'. A law counts once. -/
mutual
def uptoBulk {H : Type} : DataW H → Nat
  | .lit (.string bytes) => bytes.length + 1
  | .lit _ => 1
  | .nil => 1
  | .ptr d => uptoBulk d + 1
  | .slice elems spare => uptoBulkAll elems + uptoBulkAll spare + 1
  | .agg parts => uptoBulkAll parts + 1
  | .iface _ d => uptoBulk d + 1
  | .map entries => uptoBulkEntries entries + 1
  | .held _ => 1
def uptoBulkAll {H : Type} : List (DataW H) → Nat
  | [] => 0
  | d :: r => uptoBulk d + uptoBulkAll r
def uptoBulkEntries {H : Type} : List (Lit × DataW H) → Nat
  | [] => 0
  | x :: r => uptoBulkEntry x + uptoBulkEntries r
def uptoBulkEntry {H : Type} : Lit × DataW H → Nat
  | (.string bytes, d) => bytes.length + uptoBulk d + 1
  | (_, d) => uptoBulk d + 1
 end
def uptoSmall : (H : Type) → List (DataW H) → Bool := fun _ ds => decide (uptoBulkAll ds ≤ 1048576)
def OpenSpec.upto (s : _root_.Go.ChangeSpec) : _root_.Go.OpenSpec := { _root_.Go.OpenSpec.ofChange s with cond := some uptoSmall }

/-- 'gantrylaw03.SexprReads', WHERE WHAT IT READS IS OF BULK AT MOST 1048576: true; the input reads as it did. -/
def sexprReadsUptoRow : OpenClaim := { program := "ythbgigjjmojgfaadoor", sum := "58d189d1d866b19d9d4a0b74a9a59f78935a085bc01db7c91260f216881f86ed", func := "gantry/gantrylaw03.SexprReads", spec := "sexprReads", unfollowed := true, recurses := true, named := ["gantry/lex.white", "gantry/lex.digits", "gantry/lex.signs", "gantry/lex.inBars", "gantry/sexpr.kinds"], apart := false, laid := [("gantry/lex.white", laid_gantry_lex_white), ("gantry/lex.digits", laid_gantry_lex_digits), ("gantry/lex.signs", laid_gantry_lex_signs), ("gantry/lex.inBars", laid_gantry_lex_inBars), ("gantry/sexpr.kinds", laid_gantry_sexpr_kinds)], narrowed := true }
def SexprReadsUptoSaid : Prop := sexprReadsUptoRow.holds Tryd.pinned (OpenSpec.upto sexprReadsSpec)

/-- 'gantrylaw03.SexprTells', WHERE WHAT IT READS IS OF BULK AT MOST 1048576: true; the input reads as it did. -/
def sexprTellsUptoRow : OpenClaim := { program := "ythbgigjjmojgfaadoor", sum := "58d189d1d866b19d9d4a0b74a9a59f78935a085bc01db7c91260f216881f86ed", func := "gantry/gantrylaw03.SexprTells", spec := "sexprTells", unfollowed := true, recurses := true, named := ["gantry/lex.white", "gantry/lex.digits", "gantry/lex.signs", "gantry/lex.inBars", "gantry/sexpr.kinds"], loops := true, apart := false, laid := [("gantry/lex.white", laid_gantry_lex_white), ("gantry/lex.digits", laid_gantry_lex_digits), ("gantry/lex.signs", laid_gantry_lex_signs), ("gantry/lex.inBars", laid_gantry_lex_inBars), ("gantry/sexpr.kinds", laid_gantry_sexpr_kinds)], narrowed := true }
def SexprTellsUptoSaid : Prop := sexprTellsUptoRow.holds Tryd.pinned (OpenSpec.upto sexprTellsSpec)

/-- 'gantrylaw03.SexprBack', WHERE WHAT IT READS IS OF BULK AT MOST 1048576: true; the input reads as it did. -/
def sexprBackUptoRow : OpenClaim := { program := "ythbgigjjmojgfaadoor", sum := "58d189d1d866b19d9d4a0b74a9a59f78935a085bc01db7c91260f216881f86ed", func := "gantry/gantrylaw03.SexprBack", spec := "sexprBack", unfollowed := true, recurses := true, named := ["gantry/lex.white", "gantry/lex.digits", "gantry/lex.signs", "gantry/lex.inBars", "gantry/sexpr.kinds"], loops := true, apart := false, laid := [("gantry/lex.white", laid_gantry_lex_white), ("gantry/lex.digits", laid_gantry_lex_digits), ("gantry/lex.signs", laid_gantry_lex_signs), ("gantry/lex.inBars", laid_gantry_lex_inBars), ("gantry/sexpr.kinds", laid_gantry_sexpr_kinds)], narrowed := true }
def SexprBackUptoSaid : Prop := sexprBackUptoRow.holds Tryd.pinned (OpenSpec.upto sexprBackSpec)

/-- 'gantrylaw03.SexprSpaces', WHERE WHAT IT READS IS OF BULK AT MOST 1048576: true; the input reads as it did. -/
def sexprSpacesUptoRow : OpenClaim := { program := "ythbgigjjmojgfaadoor", sum := "58d189d1d866b19d9d4a0b74a9a59f78935a085bc01db7c91260f216881f86ed", func := "gantry/gantrylaw03.SexprSpaces", spec := "sexprSpaces", unfollowed := true, recurses := true, named := ["gantry/lex.white", "gantry/lex.digits", "gantry/lex.signs", "gantry/lex.inBars", "gantry/sexpr.kinds"], apart := false, laid := [("gantry/lex.white", laid_gantry_lex_white), ("gantry/lex.digits", laid_gantry_lex_digits), ("gantry/lex.signs", laid_gantry_lex_signs), ("gantry/lex.inBars", laid_gantry_lex_inBars), ("gantry/sexpr.kinds", laid_gantry_sexpr_kinds)], narrowed := true }
def SexprSpacesUptoSaid : Prop := sexprSpacesUptoRow.holds Tryd.pinned (OpenSpec.upto sexprSpacesSpec)

/-- 'gantrylaw03.SexprJoined', WHERE WHAT IT READS IS OF BULK AT MOST 1048576: true; the input reads as it did. -/
def sexprJoinedUptoRow : OpenClaim := { program := "ythbgigjjmojgfaadoor", sum := "58d189d1d866b19d9d4a0b74a9a59f78935a085bc01db7c91260f216881f86ed", func := "gantry/gantrylaw03.SexprJoined", spec := "sexprJoined", unfollowed := true, recurses := true, named := ["gantry/lex.white", "gantry/lex.digits", "gantry/lex.signs", "gantry/lex.inBars", "gantry/sexpr.kinds"], apart := false, laid := [("gantry/lex.white", laid_gantry_lex_white), ("gantry/lex.digits", laid_gantry_lex_digits), ("gantry/lex.signs", laid_gantry_lex_signs), ("gantry/lex.inBars", laid_gantry_lex_inBars), ("gantry/sexpr.kinds", laid_gantry_sexpr_kinds)], narrowed := true }
def SexprJoinedUptoSaid : Prop := sexprJoinedUptoRow.holds Tryd.pinned (OpenSpec.upto sexprJoinedSpec)

end Rows
end Go.Proofs.YthbgigjjmojgfaaDoor
