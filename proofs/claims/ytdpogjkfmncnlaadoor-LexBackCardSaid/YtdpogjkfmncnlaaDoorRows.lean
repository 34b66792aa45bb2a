/-
  NARROWER THAN 'FOR EVERY INPUT', by the rows' own cells (each row's printed sentence says how): LexStands: laid · LexBack: laid · LexGlue: laid · LexSkips: laid.
  DERIVED. THE GIVEN ROWS OF THIS SEAT. 4 by the template 'for every input the law returns true; each argument reads behind the call as it read before'; 0 by the template 'total and deterministic' (their statements: YtdpogjkfmncnlaaDoorTotals.lean).
  GIVEN WITH THE SEED: the statements are not yours to turn. If you find one false, say at which input.
  Laid BY PROGRAM, IN A SANDBOX (cutbox-rows.mjs): the forced cells as the released guide's own fill.sh prints them over the translation 72db15bde3dd5c34… (all of the seat's roots in one cut). By AI agents, Wed Nov 11 2026. No macro, syntax, notation, axiom, sorry.
-/
import Derived.Test.YtdpogjkfmncnlaaDoorChecked
import GoSem.Claim
import GoSem.ClaimJoined
import GoSem.ClaimMapViews
import Derived.JoinedTies
import Derived.KernelRfl
namespace Go.Proofs.YtdpogjkfmncnlaaDoor
/- THE CELL 'sum', in the pinned program and in every row, IS THE sha256 OF THE DUMP (.gsa) THAT YtdpogjkfmncnlaaDoorProg.lean LOADS. Nothing in Lean hashes anything: it is a label: what it is worth is what the hold of that sum in a sandbox is worth. -/
noncomputable def Tryd.pinned : Pinned := { name := "ytdpogjkfmncnlaadoor", sum := "72db15bde3dd5c34c5a95497a059ca5b7e9f2608ab4357b9d567a4a1bb98608c", checked := Tryd.checked }
namespace Rows
def none {H : Type} : Left H := { results := [], args := [] }

/- WHAT THE LISTED PACKAGE-LEVEL VARIABLES READ AS WHEN THE CALL BEGINS. Each datum BY PROGRAM (the guide's laid-datum.mjs) off the statement by which the dump's own 'gosem.cut.vars' lays the variable. In a bare row this is a premise. The card (YtdpogjkfmncnlaaDoorCards.lean) ties it to the program's text. -/
def laid_gantry_lex_white {H : Type} : DataW H := .agg [.lit (.int .u64 4294977024), .lit (.int .u64 0), .lit (.int .u64 0), .lit (.int .u64 0)]
def laid_gantry_lex_digits {H : Type} : DataW H := .agg [.lit (.int .u64 287948901175001088), .lit (.int .u64 0), .lit (.int .u64 0), .lit (.int .u64 0)]
def laid_gantry_lex_signs {H : Type} : DataW H := .agg [.lit (.int .u64 17582031444648132608), .lit (.int .u64 5188146765496319999), .lit (.int .u64 0), .lit (.int .u64 0)]
def laid_gantry_lex_inBars {H : Type} : DataW H := .agg [.lit (.int .u64 18446744069414594048), .lit (.int .u64 8070450531979493375), .lit (.int .u64 0), .lit (.int .u64 0)]

/-- 'gantrylaw02.LexStands': WHATEVER THE INPUT: true; the input reads as it did. -/
def lexStandsSpec : ChangeSpec := { name := "lexStands", fn := fun _ => fun
  | [d] => { results := [.lit (.bool true)], args := [d] }
  | _ => none }
def lexStandsRow : OpenClaim := { program := "ytdpogjkfmncnlaadoor", sum := "72db15bde3dd5c34c5a95497a059ca5b7e9f2608ab4357b9d567a4a1bb98608c", func := "gantry/gantrylaw02.LexStands", spec := "lexStands", unfollowed := true, recurses := true, named := ["gantry/lex.white", "gantry/lex.digits", "gantry/lex.signs", "gantry/lex.inBars"], apart := false, laid := [("gantry/lex.white", laid_gantry_lex_white), ("gantry/lex.digits", laid_gantry_lex_digits), ("gantry/lex.signs", laid_gantry_lex_signs), ("gantry/lex.inBars", laid_gantry_lex_inBars)] }
def LexStandsSaid : Prop := lexStandsRow.holds Tryd.pinned (OpenSpec.ofChange lexStandsSpec)

/-- ITS FALSE NEIGHBOUR: 'it returns false'. Refute it at one input. -/
def lexStandsWrong : ChangeSpec := { name := "lexStands", fn := fun _ => fun
  | [d] => { results := [.lit (.bool false)], args := [d] }
  | _ => none }
def LexStandsWrongFalsely : Prop := lexStandsRow.holds Tryd.pinned (OpenSpec.ofChange lexStandsWrong)

/-- 'gantrylaw02.LexBack': WHATEVER THE INPUT: true; the input reads as it did. -/
def lexBackSpec : ChangeSpec := { name := "lexBack", fn := fun _ => fun
  | [d] => { results := [.lit (.bool true)], args := [d] }
  | _ => none }
def lexBackRow : OpenClaim := { program := "ytdpogjkfmncnlaadoor", sum := "72db15bde3dd5c34c5a95497a059ca5b7e9f2608ab4357b9d567a4a1bb98608c", func := "gantry/gantrylaw02.LexBack", spec := "lexBack", unfollowed := true, recurses := true, named := ["gantry/lex.white", "gantry/lex.digits", "gantry/lex.signs", "gantry/lex.inBars"], apart := false, laid := [("gantry/lex.white", laid_gantry_lex_white), ("gantry/lex.digits", laid_gantry_lex_digits), ("gantry/lex.signs", laid_gantry_lex_signs), ("gantry/lex.inBars", laid_gantry_lex_inBars)] }
def LexBackSaid : Prop := lexBackRow.holds Tryd.pinned (OpenSpec.ofChange lexBackSpec)

/-- ITS FALSE NEIGHBOUR: 'it returns false'. Refute it at one input. -/
def lexBackWrong : ChangeSpec := { name := "lexBack", fn := fun _ => fun
  | [d] => { results := [.lit (.bool false)], args := [d] }
  | _ => none }
def LexBackWrongFalsely : Prop := lexBackRow.holds Tryd.pinned (OpenSpec.ofChange lexBackWrong)

/-- 'gantrylaw02.LexGlue': WHATEVER THE INPUT: true; the input reads as it did. -/
def lexGlueSpec : ChangeSpec := { name := "lexGlue", fn := fun _ => fun
  | [d1, d2] => { results := [.lit (.bool true)], args := [d1, d2] }
  | _ => none }
def lexGlueRow : OpenClaim := { program := "ytdpogjkfmncnlaadoor", sum := "72db15bde3dd5c34c5a95497a059ca5b7e9f2608ab4357b9d567a4a1bb98608c", func := "gantry/gantrylaw02.LexGlue", spec := "lexGlue", unfollowed := true, recurses := true, named := ["gantry/lex.white", "gantry/lex.digits", "gantry/lex.signs", "gantry/lex.inBars"], apart := false, laid := [("gantry/lex.white", laid_gantry_lex_white), ("gantry/lex.digits", laid_gantry_lex_digits), ("gantry/lex.signs", laid_gantry_lex_signs), ("gantry/lex.inBars", laid_gantry_lex_inBars)] }
def LexGlueSaid : Prop := lexGlueRow.holds Tryd.pinned (OpenSpec.ofChange lexGlueSpec)

/-- ITS FALSE NEIGHBOUR: 'it returns false'. Refute it at one input. -/
def lexGlueWrong : ChangeSpec := { name := "lexGlue", fn := fun _ => fun
  | [d1, d2] => { results := [.lit (.bool false)], args := [d1, d2] }
  | _ => none }
def LexGlueWrongFalsely : Prop := lexGlueRow.holds Tryd.pinned (OpenSpec.ofChange lexGlueWrong)

/-- 'gantrylaw02.LexSkips': WHATEVER THE INPUT: true; the input reads as it did. -/
def lexSkipsSpec : ChangeSpec := { name := "lexSkips", fn := fun _ => fun
  | [d1, d2] => { results := [.lit (.bool true)], args := [d1, d2] }
  | _ => none }
def lexSkipsRow : OpenClaim := { program := "ytdpogjkfmncnlaadoor", sum := "72db15bde3dd5c34c5a95497a059ca5b7e9f2608ab4357b9d567a4a1bb98608c", func := "gantry/gantrylaw02.LexSkips", spec := "lexSkips", unfollowed := true, recurses := true, named := ["gantry/lex.white", "gantry/lex.digits", "gantry/lex.signs", "gantry/lex.inBars"], apart := false, laid := [("gantry/lex.white", laid_gantry_lex_white), ("gantry/lex.digits", laid_gantry_lex_digits), ("gantry/lex.signs", laid_gantry_lex_signs), ("gantry/lex.inBars", laid_gantry_lex_inBars)] }
def LexSkipsSaid : Prop := lexSkipsRow.holds Tryd.pinned (OpenSpec.ofChange lexSkipsSpec)

/-- ITS FALSE NEIGHBOUR: 'it returns false'. Refute it at one input. -/
def lexSkipsWrong : ChangeSpec := { name := "lexSkips", fn := fun _ => fun
  | [d1, d2] => { results := [.lit (.bool false)], args := [d1, d2] }
  | _ => none }
def LexSkipsWrongFalsely : Prop := lexSkipsRow.holds Tryd.pinned (OpenSpec.ofChange lexSkipsWrong)

/- THE SECOND FORM. 'bulk': how many values and letters a reading holds, each counted each time it is reached (what is shared counts as often as it is met; a slice's spare places count too). A statement '..UptoSaid' is the law's where the arguments, and the package variables that the reading takes, are together of bulk at most 1048576: NARROWER than '..Said'. Prove '..Said' where nothing that the law and all that it calls make is longer than what came in: it says more and counts as full. Else prove '..UptoSaid'. A law counts once. -/
mutual
def uptoBulk {H : Type} : DataW H → Nat
  | .lit (.string bytes) => bytes.length + 1
  | .lit _ => 1
  | .nil => 1
  | .ptr d => uptoBulk d + 1
  | .slice elems spare => uptoBulkAll elems + uptoBulkAll spare + 1
  | .agg parts => uptoBulkAll parts + 1
  | .iface _ d => uptoBulk d + 1
  | .map entries => uptoBulkEntries entries + 1
  | .held _ => 1
def uptoBulkAll {H : Type} : List (DataW H) → Nat
  | [] => 0
  | d :: r => uptoBulk d + uptoBulkAll r
def uptoBulkEntries {H : Type} : List (Lit × DataW H) → Nat
  | [] => 0
  | x :: r => uptoBulkEntry x + uptoBulkEntries r
def uptoBulkEntry {H : Type} : Lit × DataW H → Nat
  | (.string bytes, d) => bytes.length + uptoBulk d + 1
  | (_, d) => uptoBulk d + 1
 end
def uptoSmall : (H : Type) → List (DataW H) → Bool := fun _ ds => decide (uptoBulkAll ds ≤ 1048576)
def OpenSpec.upto (s : _root_.Go.ChangeSpec) : _root_.Go.OpenSpec := { _root_.Go.OpenSpec.ofChange s with cond := some uptoSmall }

/-- 'gantrylaw02.LexStands', WHERE WHAT IT READS IS OF BULK AT MOST 1048576: true; the input reads as it did. -/
def lexStandsUptoRow : OpenClaim := { program := "ytdpogjkfmncnlaadoor", sum := "72db15bde3dd5c34c5a95497a059ca5b7e9f2608ab4357b9d567a4a1bb98608c", func := "gantry/gantrylaw02.LexStands", spec := "lexStands", unfollowed := true, recurses := true, named := ["gantry/lex.white", "gantry/lex.digits", "gantry/lex.signs", "gantry/lex.inBars"], apart := false, laid := [("gantry/lex.white", laid_gantry_lex_white), ("gantry/lex.digits", laid_gantry_lex_digits), ("gantry/lex.signs", laid_gantry_lex_signs), ("gantry/lex.inBars", laid_gantry_lex_inBars)], narrowed := true }
def LexStandsUptoSaid : Prop := lexStandsUptoRow.holds Tryd.pinned (OpenSpec.upto lexStandsSpec)

/-- 'gantrylaw02.LexBack', WHERE WHAT IT READS IS OF BULK AT MOST 1048576: true; the input reads as it did. -/
def lexBackUptoRow : OpenClaim := { program := "ytdpogjkfmncnlaadoor", sum := "72db15bde3dd5c34c5a95497a059ca5b7e9f2608ab4357b9d567a4a1bb98608c", func := "gantry/gantrylaw02.LexBack", spec := "lexBack", unfollowed := true, recurses := true, named := ["gantry/lex.white", "gantry/lex.digits", "gantry/lex.signs", "gantry/lex.inBars"], apart := false, laid := [("gantry/lex.white", laid_gantry_lex_white), ("gantry/lex.digits", laid_gantry_lex_digits), ("gantry/lex.signs", laid_gantry_lex_signs), ("gantry/lex.inBars", laid_gantry_lex_inBars)], narrowed := true }
def LexBackUptoSaid : Prop := lexBackUptoRow.holds Tryd.pinned (OpenSpec.upto lexBackSpec)

/-- 'gantrylaw02.LexGlue', WHERE WHAT IT READS IS OF BULK AT MOST 1048576: true; the input reads as it did. -/
def lexGlueUptoRow : OpenClaim := { program := "ytdpogjkfmncnlaadoor", sum := "72db15bde3dd5c34c5a95497a059ca5b7e9f2608ab4357b9d567a4a1bb98608c", func := "gantry/gantrylaw02.LexGlue", spec := "lexGlue", unfollowed := true, recurses := true, named := ["gantry/lex.white", "gantry/lex.digits", "gantry/lex.signs", "gantry/lex.inBars"], apart := false, laid := [("gantry/lex.white", laid_gantry_lex_white), ("gantry/lex.digits", laid_gantry_lex_digits), ("gantry/lex.signs", laid_gantry_lex_signs), ("gantry/lex.inBars", laid_gantry_lex_inBars)], narrowed := true }
def LexGlueUptoSaid : Prop := lexGlueUptoRow.holds Tryd.pinned (OpenSpec.upto lexGlueSpec)

/-- 'gantrylaw02.LexSkips', WHERE WHAT IT READS IS OF BULK AT MOST 1048576: true; the input reads as it did. -/
def lexSkipsUptoRow : OpenClaim := { program := "ytdpogjkfmncnlaadoor", sum := "72db15bde3dd5c34c5a95497a059ca5b7e9f2608ab4357b9d567a4a1bb98608c", func := "gantry/gantrylaw02.LexSkips", spec := "lexSkips", unfollowed := true, recurses := true, named := ["gantry/lex.white", "gantry/lex.digits", "gantry/lex.signs", "gantry/lex.inBars"], apart := false, laid := [("gantry/lex.white", laid_gantry_lex_white), ("gantry/lex.digits", laid_gantry_lex_digits), ("gantry/lex.signs", laid_gantry_lex_signs), ("gantry/lex.inBars", laid_gantry_lex_inBars)], narrowed := true }
def LexSkipsUptoSaid : Prop := lexSkipsUptoRow.holds Tryd.pinned (OpenSpec.upto lexSkipsSpec)

end Rows
end Go.Proofs.YtdpogjkfmncnlaaDoor
