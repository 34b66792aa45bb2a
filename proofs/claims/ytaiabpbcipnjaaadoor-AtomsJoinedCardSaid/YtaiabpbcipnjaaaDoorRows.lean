/-
  NARROWER THAN 'FOR EVERY INPUT', by the rows' own cells (each row's printed sentence says how): AtomsLits: laid · AtomsJoined: laid.
  DERIVED. THE GIVEN ROWS OF THIS SEAT. 2 by the template 'for every input the law returns true; each argument reads behind the call as it read before'; 0 by the template 'total and deterministic' (their statements: YtaiabpbcipnjaaaDoorTotals.lean).
  GIVEN WITH THE SEED: the statements are not yours to turn. If you find one false, say at which input.
  Laid BY PROGRAM, IN A SANDBOX (cutbox-rows.mjs): the forced cells as the released guide's own fill.sh prints them over the translation 879ddf3fb47c7f84… (all of the seat's roots in one cut). By AI agents, Wed Nov 11 2026. No macro, syntax, notation, axiom, sorry.
-/
import Derived.Test.YtaiabpbcipnjaaaDoorChecked
import GoSem.Claim
import GoSem.ClaimJoined
import GoSem.ClaimMapViews
import Derived.JoinedTies
import Derived.KernelRfl
namespace Go.Proofs.YtaiabpbcipnjaaaDoor
/- THE CELL 'sum', in the pinned program and in every row, IS THE sha256 OF THE DUMP (.gsa) THAT YtaiabpbcipnjaaaDoorProg.lean LOADS. Nothing in Lean hashes anything: it is a label: what it is worth is what the hold of that sum in a sandbox is worth. -/
noncomputable def Tryd.pinned : Pinned := { name := "ytaiabpbcipnjaaadoor", sum := "879ddf3fb47c7f848ccade12d69b7e9f3972f7f8763d2adebf5283784c0d3730", checked := Tryd.checked }
namespace Rows
def none {H : Type} : Left H := { results := [], args := [] }

/- WHAT THE LISTED PACKAGE-LEVEL VARIABLES READ AS WHEN THE CALL BEGINS. Each datum BY PROGRAM (the guide's laid-datum.mjs) off the statement by which the dump's own 'gosem.cut.vars' lays the variable. In a bare row this is a premise. The card (YtaiabpbcipnjaaaDoorCards.lean) ties it to the program's text. -/
def laid_gantry_term_lens {H : Type} : DataW H := .agg [.lit (.int .i8 0), .lit (.int .i8 1), .lit (.int .i8 2), .lit (.int .i8 2), .lit (.int .i8 2), .lit (.int .i8 2), .lit (.int .i8 2), .lit (.int .i8 3), .lit (.int .i8 2), .lit (.int .i8 2), .lit (.int .i8 0), .lit (.int .i8 1), .lit (.int .i8 2), .lit (.int .i8 3)]
def laid_gantry_atoms_kinds {H : Type} : DataW H := .agg [.lit (.int .i8 1), .lit (.int .i8 2), .lit (.int .i8 3), .lit (.int .i8 3), .lit (.int .i8 3), .lit (.int .i8 3), .lit (.int .i8 0), .lit (.int .i8 0), .lit (.int .i8 7), .lit (.int .i8 7), .lit (.int .i8 0), .lit (.int .i8 0), .lit (.int .i8 6), .lit (.int .i8 8)]
def laid_gantry_atoms_equalities {H : Type} : DataW H := .agg [.lit (.int .i8 3), .lit (.int .i8 5), .lit (.int .i8 4)]

/-- 'gantrylaw13.AtomsLits': WHATEVER THE INPUT: true; the input reads as it did. -/
def atomsLitsSpec : ChangeSpec := { name := "atomsLits", fn := fun _ => fun
  | [d1, d2] => { results := [.lit (.bool true)], args := [d1, d2] }
  | _ => none }
def atomsLitsRow : OpenClaim := { program := "ytaiabpbcipnjaaadoor", sum := "879ddf3fb47c7f848ccade12d69b7e9f3972f7f8763d2adebf5283784c0d3730", func := "gantry/gantrylaw13.AtomsLits", spec := "atomsLits", unfollowed := true, recurses := true, named := ["gantry/term.lens", "gantry/atoms.equalities", "gantry/atoms.kinds"], plainKeys := false, apart := false, laid := [("gantry/term.lens", laid_gantry_term_lens), ("gantry/atoms.kinds", laid_gantry_atoms_kinds), ("gantry/atoms.equalities", laid_gantry_atoms_equalities)] }
def AtomsLitsSaid : Prop := atomsLitsRow.holds Tryd.pinned (OpenSpec.ofChange atomsLitsSpec)

/-- ITS FALSE NEIGHBOUR: 'it returns false'. Refute it at one input. -/
def atomsLitsWrong : ChangeSpec := { name := "atomsLits", fn := fun _ => fun
  | [d1, d2] => { results := [.lit (.bool false)], args := [d1, d2] }
  | _ => none }
def AtomsLitsWrongFalsely : Prop := atomsLitsRow.holds Tryd.pinned (OpenSpec.ofChange atomsLitsWrong)

/-- 'gantrylaw13.AtomsJoined': WHATEVER THE INPUT: true; the input reads as it did. -/
def atomsJoinedSpec : ChangeSpec := { name := "atomsJoined", fn := fun _ => fun
  | [d1, d2, d3] => { results := [.lit (.bool true)], args := [d1, d2, d3] }
  | _ => none }
def atomsJoinedRow : OpenClaim := { program := "ytaiabpbcipnjaaadoor", sum := "879ddf3fb47c7f848ccade12d69b7e9f3972f7f8763d2adebf5283784c0d3730", func := "gantry/gantrylaw13.AtomsJoined", spec := "atomsJoined", unfollowed := true, recurses := true, named := ["gantry/term.lens", "gantry/atoms.equalities", "gantry/atoms.kinds"], plainKeys := false, apart := false, laid := [("gantry/term.lens", laid_gantry_term_lens), ("gantry/atoms.kinds", laid_gantry_atoms_kinds), ("gantry/atoms.equalities", laid_gantry_atoms_equalities)] }
def AtomsJoinedSaid : Prop := atomsJoinedRow.holds Tryd.pinned (OpenSpec.ofChange atomsJoinedSpec)

/-- ITS FALSE NEIGHBOUR: 'it returns false'. Refute it at one input. -/
def atomsJoinedWrong : ChangeSpec := { name := "atomsJoined", fn := fun _ => fun
  | [d1, d2, d3] => { results := [.lit (.bool false)], args := [d1, d2, d3] }
  | _ => none }
def AtomsJoinedWrongFalsely : Prop := atomsJoinedRow.holds Tryd.pinned (OpenSpec.ofChange atomsJoinedWrong)

/- THE SECOND FORM. 'bulk': how many values and letters a reading holds, each counted each time it is reached (what is shared counts as often as it is met; a slice's spare places count too). A statement '..UptoSaid' is the law's where the arguments, and the package variables that the reading takes, are together of bulk at most 1048576: NARROWER than '..Said'. Prove '..Said' where nothing that the law and all that it calls make is longer than what came in: it says more and counts as full. Else prove '..UptoSaid'. A law counts once. -/
mutual
def uptoBulk {H : Type} : DataW H → Nat
  | .lit (.string bytes) => bytes.length + 1
  | .lit _ => 1
  | .nil => 1
  | .ptr d => uptoBulk d + 1
  | .slice elems spare => uptoBulkAll elems + uptoBulkAll spare + 1
  | .agg parts => uptoBulkAll parts + 1
  | .iface _ d => uptoBulk d + 1
  | .map entries => uptoBulkEntries entries + 1
  | .held _ => 1
def uptoBulkAll {H : Type} : List (DataW H) → Nat
  | [] => 0
  | d :: r => uptoBulk d + uptoBulkAll r
def uptoBulkEntries {H : Type} : List (Lit × DataW H) → Nat
  | [] => 0
  | x :: r => uptoBulkEntry x + uptoBulkEntries r
def uptoBulkEntry {H : Type} : Lit × DataW H → Nat
  | (.string bytes, d) => bytes.length + uptoBulk d + 1
  | (_, d) => uptoBulk d + 1
 end
def uptoSmall : (H : Type) → List (DataW H) → Bool := fun _ ds => decide (uptoBulkAll ds ≤ 1048576)
def OpenSpec.upto (s : _root_.Go.ChangeSpec) : _root_.Go.OpenSpec := { _root_.Go.OpenSpec.ofChange s with cond := some uptoSmall }

/-- 'gantrylaw13.AtomsLits', WHERE WHAT IT READS IS OF BULK AT MOST 1048576: true; the input reads as it did. -/
def atomsLitsUptoRow : OpenClaim := { program := "ytaiabpbcipnjaaadoor", sum := "879ddf3fb47c7f848ccade12d69b7e9f3972f7f8763d2adebf5283784c0d3730", func := "gantry/gantrylaw13.AtomsLits", spec := "atomsLits", unfollowed := true, recurses := true, named := ["gantry/term.lens", "gantry/atoms.equalities", "gantry/atoms.kinds"], plainKeys := false, apart := false, laid := [("gantry/term.lens", laid_gantry_term_lens), ("gantry/atoms.kinds", laid_gantry_atoms_kinds), ("gantry/atoms.equalities", laid_gantry_atoms_equalities)], narrowed := true }
def AtomsLitsUptoSaid : Prop := atomsLitsUptoRow.holds Tryd.pinned (OpenSpec.upto atomsLitsSpec)

/-- 'gantrylaw13.AtomsJoined', WHERE WHAT IT READS IS OF BULK AT MOST 1048576: true; the input reads as it did. -/
def atomsJoinedUptoRow : OpenClaim := { program := "ytaiabpbcipnjaaadoor", sum := "879ddf3fb47c7f848ccade12d69b7e9f3972f7f8763d2adebf5283784c0d3730", func := "gantry/gantrylaw13.AtomsJoined", spec := "atomsJoined", unfollowed := true, recurses := true, named := ["gantry/term.lens", "gantry/atoms.equalities", "gantry/atoms.kinds"], plainKeys := false, apart := false, laid := [("gantry/term.lens", laid_gantry_term_lens), ("gantry/atoms.kinds", laid_gantry_atoms_kinds), ("gantry/atoms.equalities", laid_gantry_atoms_equalities)], narrowed := true }
def AtomsJoinedUptoSaid : Prop := atomsJoinedUptoRow.holds Tryd.pinned (OpenSpec.upto atomsJoinedSpec)

end Rows
end Go.Proofs.YtaiabpbcipnjaaaDoor
