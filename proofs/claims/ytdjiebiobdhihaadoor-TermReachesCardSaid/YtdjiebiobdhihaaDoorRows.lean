/-
  NARROWER THAN 'FOR EVERY INPUT', by the rows' own cells (each row's printed sentence says how): TermOnce: laid · TermReaches: laid · TermTrees: laid · TermCuts: laid.
  DERIVED. THE GIVEN ROWS OF THIS SEAT. 4 by the template 'for every input the law returns true; each argument reads behind the call as it read before'; 0 by the template 'total and deterministic' (their statements: YtdjiebiobdhihaaDoorTotals.lean).
  GIVEN WITH THE SEED: the statements are not yours to turn. If you find one false, say at which input.
  Laid BY PROGRAM, IN A SANDBOX (cutbox-rows.mjs): the forced cells as the released guide's own fill.sh prints them over the translation c57c172ce940ff77… (all of the seat's roots in one cut). By AI agents, Wed Nov 11 2026. No macro, syntax, notation, axiom, sorry.
-/
import Derived.Test.YtdjiebiobdhihaaDoorChecked
import GoSem.Claim
import GoSem.ClaimJoined
import GoSem.ClaimMapViews
import Derived.JoinedTies
import Derived.KernelRfl
namespace Go.Proofs.YtdjiebiobdhihaaDoor
/- THE CELL 'sum', in the pinned program and in every row, IS THE sha256 OF THE DUMP (.gsa) THAT YtdjiebiobdhihaaDoorProg.lean LOADS. Nothing in Lean hashes anything: it is a label: what it is worth is what the hold of that sum in a sandbox is worth. -/
noncomputable def Tryd.pinned : Pinned := { name := "ytdjiebiobdhihaadoor", sum := "c57c172ce940ff773793a1192e897f5162211cea5518fbd512a7e29e1962e092", checked := Tryd.checked }
namespace Rows
def none {H : Type} : Left H := { results := [], args := [] }

/- WHAT THE LISTED PACKAGE-LEVEL VARIABLES READ AS WHEN THE CALL BEGINS. Each datum BY PROGRAM (the guide's laid-datum.mjs) off the statement by which the dump's own 'gosem.cut.vars' lays the variable. In a bare row this is a premise. The card (YtdjiebiobdhihaaDoorCards.lean) ties it to the program's text. -/
def laid_gantry_term_lens {H : Type} : DataW H := .agg [.lit (.int .i8 0), .lit (.int .i8 1), .lit (.int .i8 2), .lit (.int .i8 2), .lit (.int .i8 2), .lit (.int .i8 2), .lit (.int .i8 2), .lit (.int .i8 3), .lit (.int .i8 2), .lit (.int .i8 2), .lit (.int .i8 0), .lit (.int .i8 1), .lit (.int .i8 2), .lit (.int .i8 3)]

/-- 'gantrylaw05.TermOnce': WHATEVER THE INPUT: true; the input reads as it did. -/
def termOnceSpec : ChangeSpec := { name := "termOnce", fn := fun _ => fun
  | [d1, d2, d3] => { results := [.lit (.bool true)], args := [d1, d2, d3] }
  | _ => none }
def termOnceRow : OpenClaim := { program := "ytdjiebiobdhihaadoor", sum := "c57c172ce940ff773793a1192e897f5162211cea5518fbd512a7e29e1962e092", func := "gantry/gantrylaw05.TermOnce", spec := "termOnce", named := ["gantry/term.lens"], plainKeys := false, apart := false, laid := [("gantry/term.lens", laid_gantry_term_lens)] }
def TermOnceSaid : Prop := termOnceRow.holds Tryd.pinned (OpenSpec.ofChange termOnceSpec)

/-- ITS FALSE NEIGHBOUR: 'it returns false'. Refute it at one input. -/
def termOnceWrong : ChangeSpec := { name := "termOnce", fn := fun _ => fun
  | [d1, d2, d3] => { results := [.lit (.bool false)], args := [d1, d2, d3] }
  | _ => none }
def TermOnceWrongFalsely : Prop := termOnceRow.holds Tryd.pinned (OpenSpec.ofChange termOnceWrong)

/-- 'gantrylaw05.TermReaches': WHATEVER THE INPUT: true; the input reads as it did. -/
def termReachesSpec : ChangeSpec := { name := "termReaches", fn := fun _ => fun
  | [d1, d2] => { results := [.lit (.bool true)], args := [d1, d2] }
  | _ => none }
def termReachesRow : OpenClaim := { program := "ytdjiebiobdhihaadoor", sum := "c57c172ce940ff773793a1192e897f5162211cea5518fbd512a7e29e1962e092", func := "gantry/gantrylaw05.TermReaches", spec := "termReaches", unfollowed := true, recurses := true, named := ["gantry/term.lens"], plainKeys := false, apart := false, laid := [("gantry/term.lens", laid_gantry_term_lens)] }
def TermReachesSaid : Prop := termReachesRow.holds Tryd.pinned (OpenSpec.ofChange termReachesSpec)

/-- ITS FALSE NEIGHBOUR: 'it returns false'. Refute it at one input. -/
def termReachesWrong : ChangeSpec := { name := "termReaches", fn := fun _ => fun
  | [d1, d2] => { results := [.lit (.bool false)], args := [d1, d2] }
  | _ => none }
def TermReachesWrongFalsely : Prop := termReachesRow.holds Tryd.pinned (OpenSpec.ofChange termReachesWrong)

/-- 'gantrylaw05.TermTrees': WHATEVER THE INPUT: true; the input reads as it did. -/
def termTreesSpec : ChangeSpec := { name := "termTrees", fn := fun _ => fun
  | [d] => { results := [.lit (.bool true)], args := [d] }
  | _ => none }
def termTreesRow : OpenClaim := { program := "ytdjiebiobdhihaadoor", sum := "c57c172ce940ff773793a1192e897f5162211cea5518fbd512a7e29e1962e092", func := "gantry/gantrylaw05.TermTrees", spec := "termTrees", unfollowed := true, recurses := true, named := ["gantry/term.lens"], plainKeys := false, apart := false, laid := [("gantry/term.lens", laid_gantry_term_lens)] }
def TermTreesSaid : Prop := termTreesRow.holds Tryd.pinned (OpenSpec.ofChange termTreesSpec)

/-- ITS FALSE NEIGHBOUR: 'it returns false'. Refute it at one input. -/
def termTreesWrong : ChangeSpec := { name := "termTrees", fn := fun _ => fun
  | [d] => { results := [.lit (.bool false)], args := [d] }
  | _ => none }
def TermTreesWrongFalsely : Prop := termTreesRow.holds Tryd.pinned (OpenSpec.ofChange termTreesWrong)

/-- 'gantrylaw05.TermCuts': WHATEVER THE INPUT: true; the input reads as it did. -/
def termCutsSpec : ChangeSpec := { name := "termCuts", fn := fun _ => fun
  | [d1, d2] => { results := [.lit (.bool true)], args := [d1, d2] }
  | _ => none }
def termCutsRow : OpenClaim := { program := "ytdjiebiobdhihaadoor", sum := "c57c172ce940ff773793a1192e897f5162211cea5518fbd512a7e29e1962e092", func := "gantry/gantrylaw05.TermCuts", spec := "termCuts", named := ["gantry/term.lens"], plainKeys := false, apart := false, laid := [("gantry/term.lens", laid_gantry_term_lens)] }
def TermCutsSaid : Prop := termCutsRow.holds Tryd.pinned (OpenSpec.ofChange termCutsSpec)

/-- ITS FALSE NEIGHBOUR: 'it returns false'. Refute it at one input. -/
def termCutsWrong : ChangeSpec := { name := "termCuts", fn := fun _ => fun
  | [d1, d2] => { results := [.lit (.bool false)], args := [d1, d2] }
  | _ => none }
def TermCutsWrongFalsely : Prop := termCutsRow.holds Tryd.pinned (OpenSpec.ofChange termCutsWrong)

/- THE SECOND FORM. 'bulk': how many values and letters a reading holds, each counted each time it is reached (what is shared counts as often as it is met; a slice's spare places count too). A statement '..UptoSaid' is the law's where the arguments, and the package variables that the reading takes, are together of bulk at most 1048576: NARROWER than '..Said'. Prove '..Said' where nothing that the law and all that it calls make is longer than what came in: it says more and counts as full. Else prove '..UptoSaid'. A law counts once. -/
mutual
def uptoBulk {H : Type} : DataW H → Nat
  | .lit (.string bytes) => bytes.length + 1
  | .lit _ => 1
  | .nil => 1
  | .ptr d => uptoBulk d + 1
  | .slice elems spare => uptoBulkAll elems + uptoBulkAll spare + 1
  | .agg parts => uptoBulkAll parts + 1
  | .iface _ d => uptoBulk d + 1
  | .map entries => uptoBulkEntries entries + 1
  | .held _ => 1
def uptoBulkAll {H : Type} : List (DataW H) → Nat
  | [] => 0
  | d :: r => uptoBulk d + uptoBulkAll r
def uptoBulkEntries {H : Type} : List (Lit × DataW H) → Nat
  | [] => 0
  | x :: r => uptoBulkEntry x + uptoBulkEntries r
def uptoBulkEntry {H : Type} : Lit × DataW H → Nat
  | (.string bytes, d) => bytes.length + uptoBulk d + 1
  | (_, d) => uptoBulk d + 1
 end
def uptoSmall : (H : Type) → List (DataW H) → Bool := fun _ ds => decide (uptoBulkAll ds ≤ 1048576)
def OpenSpec.upto (s : _root_.Go.ChangeSpec) : _root_.Go.OpenSpec := { _root_.Go.OpenSpec.ofChange s with cond := some uptoSmall }

/-- 'gantrylaw05.TermOnce', WHERE WHAT IT READS IS OF BULK AT MOST 1048576: true; the input reads as it did. -/
def termOnceUptoRow : OpenClaim := { program := "ytdjiebiobdhihaadoor", sum := "c57c172ce940ff773793a1192e897f5162211cea5518fbd512a7e29e1962e092", func := "gantry/gantrylaw05.TermOnce", spec := "termOnce", named := ["gantry/term.lens"], plainKeys := false, apart := false, laid := [("gantry/term.lens", laid_gantry_term_lens)], narrowed := true }
def TermOnceUptoSaid : Prop := termOnceUptoRow.holds Tryd.pinned (OpenSpec.upto termOnceSpec)

/-- 'gantrylaw05.TermReaches', WHERE WHAT IT READS IS OF BULK AT MOST 1048576: true; the input reads as it did. -/
def termReachesUptoRow : OpenClaim := { program := "ytdjiebiobdhihaadoor", sum := "c57c172ce940ff773793a1192e897f5162211cea5518fbd512a7e29e1962e092", func := "gantry/gantrylaw05.TermReaches", spec := "termReaches", unfollowed := true, recurses := true, named := ["gantry/term.lens"], plainKeys := false, apart := false, laid := [("gantry/term.lens", laid_gantry_term_lens)], narrowed := true }
def TermReachesUptoSaid : Prop := termReachesUptoRow.holds Tryd.pinned (OpenSpec.upto termReachesSpec)

/-- 'gantrylaw05.TermTrees', WHERE WHAT IT READS IS OF BULK AT MOST 1048576: true; the input reads as it did. -/
def termTreesUptoRow : OpenClaim := { program := "ytdjiebiobdhihaadoor", sum := "c57c172ce940ff773793a1192e897f5162211cea5518fbd512a7e29e1962e092", func := "gantry/gantrylaw05.TermTrees", spec := "termTrees", unfollowed := true, recurses := true, named := ["gantry/term.lens"], plainKeys := false, apart := false, laid := [("gantry/term.lens", laid_gantry_term_lens)], narrowed := true }
def TermTreesUptoSaid : Prop := termTreesUptoRow.holds Tryd.pinned (OpenSpec.upto termTreesSpec)

/-- 'gantrylaw05.TermCuts', WHERE WHAT IT READS IS OF BULK AT MOST 1048576: true; the input reads as it did. -/
def termCutsUptoRow : OpenClaim := { program := "ytdjiebiobdhihaadoor", sum := "c57c172ce940ff773793a1192e897f5162211cea5518fbd512a7e29e1962e092", func := "gantry/gantrylaw05.TermCuts", spec := "termCuts", named := ["gantry/term.lens"], plainKeys := false, apart := false, laid := [("gantry/term.lens", laid_gantry_term_lens)], narrowed := true }
def TermCutsUptoSaid : Prop := termCutsUptoRow.holds Tryd.pinned (OpenSpec.upto termCutsSpec)

end Rows
end Go.Proofs.YtdjiebiobdhihaaDoor
