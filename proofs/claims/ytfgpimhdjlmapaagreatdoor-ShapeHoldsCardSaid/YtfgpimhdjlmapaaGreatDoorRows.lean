/-
  NARROWER THAN 'FOR EVERY INPUT', by the rows' own cells (each row's printed sentence says how): ShapeHolds: loops, laid · ShapeTight: loops, laid.
  DERIVED. THE GIVEN ROWS OF THIS SEAT. 2 by the template 'for every input the law returns true; each argument reads behind the call as it read before'; 0 by the template 'total and deterministic' (their statements: YtfgpimhdjlmapaaGreatDoorTotals.lean).
  GIVEN WITH THE SEED: the statements are not yours to turn. If you find one false, say at which input.
  Laid BY PROGRAM, IN A SANDBOX (cutbox-rows.mjs): the forced cells as the released guide's own fill.sh prints them over the translation 3f186508209c5b06… (all of the seat's roots in one cut). By AI agents, Wed Nov 11 2026. No macro, syntax, notation, axiom, sorry.
-/
import Derived.Test.YtfgpimhdjlmapaaGreatDoorChecked
import GoSem.Claim
import GoSem.ClaimJoined
import GoSem.ClaimMapViews
import Derived.JoinedTies
import Derived.KernelRfl
namespace Go.Proofs.YtfgpimhdjlmapaaGreatDoor
/- THE CELL 'sum', in the pinned program and in every row, IS THE sha256 OF THE DUMP (.gsa) THAT YtfgpimhdjlmapaaGreatDoorProg.lean LOADS. Nothing in Lean hashes anything: it is a label: what it is worth is what the hold of that sum in a sandbox is worth. -/
noncomputable def Tryz.pinned : Pinned := { name := "ytfgpimhdjlmapaagreatdoor", sum := "3f186508209c5b067b23caad2fe5d7773525043f7f22062507030f50096d187f", checked := Tryz.checked }
namespace Rows
def none {H : Type} : Left H := { results := [], args := [] }

/- WHAT THE LISTED PACKAGE-LEVEL VARIABLES READ AS WHEN THE CALL BEGINS. Each datum BY PROGRAM (the guide's laid-datum.mjs) off the statement by which the dump's own 'gosem.cut.vars' lays the variable. In a bare row this is a premise. The card (YtfgpimhdjlmapaaGreatDoorCards.lean) ties it to the program's text. -/
def laid_gantry_term_lens {H : Type} : DataW H := .agg [.lit (.int .i8 0), .lit (.int .i8 1), .lit (.int .i8 2), .lit (.int .i8 2), .lit (.int .i8 2), .lit (.int .i8 2), .lit (.int .i8 2), .lit (.int .i8 3), .lit (.int .i8 2), .lit (.int .i8 2), .lit (.int .i8 0), .lit (.int .i8 1), .lit (.int .i8 2), .lit (.int .i8 3)]

/-- 'gantrylaw14.ShapeHolds': WHATEVER THE INPUT: true; the input reads as it did. -/
def shapeHoldsSpec : ChangeSpec := { name := "shapeHolds", fn := fun _ => fun
  | [d1, d2, d3, d4] => { results := [.lit (.bool true)], args := [d1, d2, d3, d4] }
  | _ => none }
def shapeHoldsRow : OpenClaim := { program := "ytfgpimhdjlmapaagreatdoor", sum := "3f186508209c5b067b23caad2fe5d7773525043f7f22062507030f50096d187f", func := "gantry/gantrylaw14.ShapeHolds", spec := "shapeHolds", unfollowed := true, recurses := true, named := ["gantry/term.lens"], loops := true, plainKeys := false, apart := false, laid := [("gantry/term.lens", laid_gantry_term_lens)] }
def ShapeHoldsSaid : Prop := shapeHoldsRow.holds Tryz.pinned (OpenSpec.ofChange shapeHoldsSpec)

/-- ITS FALSE NEIGHBOUR: 'it returns false'. Refute it at one input. -/
def shapeHoldsWrong : ChangeSpec := { name := "shapeHolds", fn := fun _ => fun
  | [d1, d2, d3, d4] => { results := [.lit (.bool false)], args := [d1, d2, d3, d4] }
  | _ => none }
def ShapeHoldsWrongFalsely : Prop := shapeHoldsRow.holds Tryz.pinned (OpenSpec.ofChange shapeHoldsWrong)

/-- 'gantrylaw14.ShapeTight': WHATEVER THE INPUT: true; the input reads as it did. -/
def shapeTightSpec : ChangeSpec := { name := "shapeTight", fn := fun _ => fun
  | [d1, d2, d3, d4, d5] => { results := [.lit (.bool true)], args := [d1, d2, d3, d4, d5] }
  | _ => none }
def shapeTightRow : OpenClaim := { program := "ytfgpimhdjlmapaagreatdoor", sum := "3f186508209c5b067b23caad2fe5d7773525043f7f22062507030f50096d187f", func := "gantry/gantrylaw14.ShapeTight", spec := "shapeTight", unfollowed := true, recurses := true, named := ["gantry/term.lens"], loops := true, plainKeys := false, apart := false, laid := [("gantry/term.lens", laid_gantry_term_lens)] }
def ShapeTightSaid : Prop := shapeTightRow.holds Tryz.pinned (OpenSpec.ofChange shapeTightSpec)

/-- ITS FALSE NEIGHBOUR: 'it returns false'. Refute it at one input. -/
def shapeTightWrong : ChangeSpec := { name := "shapeTight", fn := fun _ => fun
  | [d1, d2, d3, d4, d5] => { results := [.lit (.bool false)], args := [d1, d2, d3, d4, d5] }
  | _ => none }
def ShapeTightWrongFalsely : Prop := shapeTightRow.holds Tryz.pinned (OpenSpec.ofChange shapeTightWrong)

/- THE SECOND FORM. 'bulk': how many values and letters a reading holds, each counted each time it is reached (what is shared counts as often as it is met; a slice's spare places count too). A statement '..UptoSaid' is the law's where the arguments, and the package variables that the reading takes, are together of bulk at most 1048576: NARROWER than '..Said'. Prove '..Said' where nothing that the law and all that it calls make is longer than what came in: it says more and counts as full. Else prove '..UptoSaid'. A law counts once. -/
mutual
def uptoBulk {H : Type} : DataW H → Nat
  | .lit (.string bytes) => bytes.length + 1
  | .lit _ => 1
  | .nil => 1
  | .ptr d => uptoBulk d + 1
  | .slice elems spare => uptoBulkAll elems + uptoBulkAll spare + 1
  | .agg parts => uptoBulkAll parts + 1
  | .iface _ d => uptoBulk d + 1
  | .map entries => uptoBulkEntries entries + 1
  | .held _ => 1
def uptoBulkAll {H : Type} : List (DataW H) → Nat
  | [] => 0
  | d :: r => uptoBulk d + uptoBulkAll r
def uptoBulkEntries {H : Type} : List (Lit × DataW H) → Nat
  | [] => 0
  | x :: r => uptoBulkEntry x + uptoBulkEntries r
def uptoBulkEntry {H : Type} : Lit × DataW H → Nat
  | (.string bytes, d) => bytes.length + uptoBulk d + 1
  | (_, d) => uptoBulk d + 1
 end
def uptoSmall : (H : Type) → List (DataW H) → Bool := fun _ ds => decide (uptoBulkAll ds ≤ 1048576)
def OpenSpec.upto (s : _root_.Go.ChangeSpec) : _root_.Go.OpenSpec := { _root_.Go.OpenSpec.ofChange s with cond := some uptoSmall }

/-- 'gantrylaw14.ShapeHolds', WHERE WHAT IT READS IS OF BULK AT MOST 1048576: true; the input reads as it did. -/
def shapeHoldsUptoRow : OpenClaim := { program := "ytfgpimhdjlmapaagreatdoor", sum := "3f186508209c5b067b23caad2fe5d7773525043f7f22062507030f50096d187f", func := "gantry/gantrylaw14.ShapeHolds", spec := "shapeHolds", unfollowed := true, recurses := true, named := ["gantry/term.lens"], loops := true, plainKeys := false, apart := false, laid := [("gantry/term.lens", laid_gantry_term_lens)], narrowed := true }
def ShapeHoldsUptoSaid : Prop := shapeHoldsUptoRow.holds Tryz.pinned (OpenSpec.upto shapeHoldsSpec)

/-- 'gantrylaw14.ShapeTight', WHERE WHAT IT READS IS OF BULK AT MOST 1048576: true; the input reads as it did. -/
def shapeTightUptoRow : OpenClaim := { program := "ytfgpimhdjlmapaagreatdoor", sum := "3f186508209c5b067b23caad2fe5d7773525043f7f22062507030f50096d187f", func := "gantry/gantrylaw14.ShapeTight", spec := "shapeTight", unfollowed := true, recurses := true, named := ["gantry/term.lens"], loops := true, plainKeys := false, apart := false, laid := [("gantry/term.lens", laid_gantry_term_lens)], narrowed := true }
def ShapeTightUptoSaid : Prop := shapeTightUptoRow.holds Tryz.pinned (OpenSpec.upto shapeTightSpec)

end Rows
end Go.Proofs.YtfgpimhdjlmapaaGreatDoor
