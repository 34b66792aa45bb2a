/-
  NARROWER THAN 'FOR EVERY INPUT', by the rows' own cells (each row's printed sentence says how): TypingTells: loops, laid · TypingGrows: loops, laid · TypingTurns: laid.
  DERIVED. THE GIVEN ROWS OF THIS SEAT. 3 by the template 'for every input the law returns true; each argument reads behind the call as it read before'; 0 by the template 'total and deterministic' (their statements: YtdeobdepepjbmaaDoorTotals.lean).
  GIVEN WITH THE SEED: the statements are not yours to turn. If you find one false, say at which input.
  Laid BY PROGRAM, IN A SANDBOX (cutbox-rows.mjs): the forced cells as the released guide's own fill.sh prints them over the translation 14f4234240827d29… (all of the seat's roots in one cut). By AI agents, Wed Nov 11 2026. No macro, syntax, notation, axiom, sorry.
-/
import Derived.Test.YtdeobdepepjbmaaDoorChecked
import GoSem.Claim
import GoSem.ClaimJoined
import GoSem.ClaimMapViews
import Derived.JoinedTies
import Derived.KernelRfl
namespace Go.Proofs.YtdeobdepepjbmaaDoor
/- THE CELL 'sum', in the pinned program and in every row, IS THE sha256 OF THE DUMP (.gsa) THAT YtdeobdepepjbmaaDoorProg.lean LOADS. Nothing in Lean hashes anything: it is a label: what it is worth is what the hold of that sum in a sandbox is worth. -/
noncomputable def Tryd.pinned : Pinned := { name := "ytdeobdepepjbmaadoor", sum := "14f4234240827d29d81f4bbe3039b44f468cd04aed4025c5381c586026926dc6", checked := Tryd.checked }
namespace Rows
def none {H : Type} : Left H := { results := [], args := [] }

/- WHAT THE LISTED PACKAGE-LEVEL VARIABLES READ AS WHEN THE CALL BEGINS. Each datum BY PROGRAM (the guide's laid-datum.mjs) off the statement by which the dump's own 'gosem.cut.vars' lays the variable. In a bare row this is a premise. The card (YtdeobdepepjbmaaDoorCards.lean) ties it to the program's text. -/
def laid_gantry_lex_signs {H : Type} : DataW H := .agg [.lit (.int .u64 17582031444648132608), .lit (.int .u64 5188146765496319999), .lit (.int .u64 0), .lit (.int .u64 0)]
def laid_gantry_lex_inBars {H : Type} : DataW H := .agg [.lit (.int .u64 18446744069414594048), .lit (.int .u64 8070450531979493375), .lit (.int .u64 0), .lit (.int .u64 0)]
def laid_gantry_sig_always {H : Type} : DataW H := .agg [.lit (.string [66, 111, 111, 108]), .lit (.string [73, 110, 116])]
def laid_gantry_term_lens {H : Type} : DataW H := .agg [.lit (.int .i8 0), .lit (.int .i8 1), .lit (.int .i8 2), .lit (.int .i8 2), .lit (.int .i8 2), .lit (.int .i8 2), .lit (.int .i8 2), .lit (.int .i8 3), .lit (.int .i8 2), .lit (.int .i8 2), .lit (.int .i8 0), .lit (.int .i8 1), .lit (.int .i8 2), .lit (.int .i8 3)]
def laid_gantry_typing_rules {H : Type} : DataW H := .agg [.agg [.lit (.int .i64 0), .agg [.lit (.int .i64 0), .lit (.int .i64 0), .lit (.int .i64 0)], .lit (.int .i64 0)], .agg [.lit (.int .i64 1), .agg [.lit (.int .i64 0), .lit (.int .i64 0), .lit (.int .i64 0)], .lit (.int .i64 0)], .agg [.lit (.int .i64 2), .agg [.lit (.int .i64 0), .lit (.int .i64 0), .lit (.int .i64 0)], .lit (.int .i64 0)], .agg [.lit (.int .i64 2), .agg [.lit (.int .i64 0), .lit (.int .i64 0), .lit (.int .i64 0)], .lit (.int .i64 0)], .agg [.lit (.int .i64 2), .agg [.lit (.int .i64 0), .lit (.int .i64 0), .lit (.int .i64 0)], .lit (.int .i64 0)], .agg [.lit (.int .i64 2), .agg [.lit (.int .i64 0), .lit (.int .i64 0), .lit (.int .i64 0)], .lit (.int .i64 0)], .agg [.lit (.int .i64 2), .agg [.lit (.int .i64 (-1)), .lit (.int .i64 (-1)), .lit (.int .i64 0)], .lit (.int .i64 0)], .agg [.lit (.int .i64 3), .agg [.lit (.int .i64 0), .lit (.int .i64 (-1)), .lit (.int .i64 (-1))], .lit (.int .i64 (-1))], .agg [.lit (.int .i64 2), .agg [.lit (.int .i64 1), .lit (.int .i64 1), .lit (.int .i64 0)], .lit (.int .i64 0)], .agg [.lit (.int .i64 2), .agg [.lit (.int .i64 1), .lit (.int .i64 1), .lit (.int .i64 0)], .lit (.int .i64 0)], .agg [.lit (.int .i64 0), .agg [.lit (.int .i64 0), .lit (.int .i64 0), .lit (.int .i64 0)], .lit (.int .i64 1)], .agg [.lit (.int .i64 1), .agg [.lit (.int .i64 1), .lit (.int .i64 0), .lit (.int .i64 0)], .lit (.int .i64 1)], .agg [.lit (.int .i64 2), .agg [.lit (.int .i64 1), .lit (.int .i64 1), .lit (.int .i64 0)], .lit (.int .i64 0)]]

/-- 'gantrylaw06.TypingTells': WHATEVER THE INPUT: true; the input reads as it did. -/
def typingTellsSpec : ChangeSpec := { name := "typingTells", fn := fun _ => fun
  | [d1, d2, d3, d4] => { results := [.lit (.bool true)], args := [d1, d2, d3, d4] }
  | _ => none }
def typingTellsRow : OpenClaim := { program := "ytdeobdepepjbmaadoor", sum := "14f4234240827d29d81f4bbe3039b44f468cd04aed4025c5381c586026926dc6", func := "gantry/gantrylaw06.TypingTells", spec := "typingTells", unfollowed := true, recurses := true, named := ["gantry/typing.rules", "gantry/lex.inBars", "gantry/sig.always", "gantry/lex.signs", "gantry/term.lens"], loops := true, plainKeys := false, apart := false, laid := [("gantry/lex.signs", laid_gantry_lex_signs), ("gantry/lex.inBars", laid_gantry_lex_inBars), ("gantry/sig.always", laid_gantry_sig_always), ("gantry/term.lens", laid_gantry_term_lens), ("gantry/typing.rules", laid_gantry_typing_rules)] }
def TypingTellsSaid : Prop := typingTellsRow.holds Tryd.pinned (OpenSpec.ofChange typingTellsSpec)

/-- ITS FALSE NEIGHBOUR: 'it returns false'. Refute it at one input. -/
def typingTellsWrong : ChangeSpec := { name := "typingTells", fn := fun _ => fun
  | [d1, d2, d3, d4] => { results := [.lit (.bool false)], args := [d1, d2, d3, d4] }
  | _ => none }
def TypingTellsWrongFalsely : Prop := typingTellsRow.holds Tryd.pinned (OpenSpec.ofChange typingTellsWrong)

/-- 'gantrylaw06.TypingGrows': WHATEVER THE INPUT: true; the input reads as it did. -/
def typingGrowsSpec : ChangeSpec := { name := "typingGrows", fn := fun _ => fun
  | [d1, d2, d3, d4, d5, d6] => { results := [.lit (.bool true)], args := [d1, d2, d3, d4, d5, d6] }
  | _ => none }
def typingGrowsRow : OpenClaim := { program := "ytdeobdepepjbmaadoor", sum := "14f4234240827d29d81f4bbe3039b44f468cd04aed4025c5381c586026926dc6", func := "gantry/gantrylaw06.TypingGrows", spec := "typingGrows", unfollowed := true, recurses := true, named := ["gantry/lex.inBars", "gantry/sig.always", "gantry/lex.signs", "gantry/term.lens", "gantry/typing.rules"], loops := true, plainKeys := false, apart := false, laid := [("gantry/lex.signs", laid_gantry_lex_signs), ("gantry/lex.inBars", laid_gantry_lex_inBars), ("gantry/sig.always", laid_gantry_sig_always), ("gantry/term.lens", laid_gantry_term_lens), ("gantry/typing.rules", laid_gantry_typing_rules)] }
def TypingGrowsSaid : Prop := typingGrowsRow.holds Tryd.pinned (OpenSpec.ofChange typingGrowsSpec)

/-- ITS FALSE NEIGHBOUR: 'it returns false'. Refute it at one input. -/
def typingGrowsWrong : ChangeSpec := { name := "typingGrows", fn := fun _ => fun
  | [d1, d2, d3, d4, d5, d6] => { results := [.lit (.bool false)], args := [d1, d2, d3, d4, d5, d6] }
  | _ => none }
def TypingGrowsWrongFalsely : Prop := typingGrowsRow.holds Tryd.pinned (OpenSpec.ofChange typingGrowsWrong)

/-- 'gantrylaw06.TypingTurns': WHATEVER THE INPUT: true; the input reads as it did. -/
def typingTurnsSpec : ChangeSpec := { name := "typingTurns", fn := fun _ => fun
  | [d1, d2, d3, d4] => { results := [.lit (.bool true)], args := [d1, d2, d3, d4] }
  | _ => none }
def typingTurnsRow : OpenClaim := { program := "ytdeobdepepjbmaadoor", sum := "14f4234240827d29d81f4bbe3039b44f468cd04aed4025c5381c586026926dc6", func := "gantry/gantrylaw06.TypingTurns", spec := "typingTurns", unfollowed := true, recurses := true, named := ["gantry/typing.rules", "gantry/lex.inBars", "gantry/sig.always", "gantry/lex.signs", "gantry/term.lens"], plainKeys := false, apart := false, laid := [("gantry/lex.signs", laid_gantry_lex_signs), ("gantry/lex.inBars", laid_gantry_lex_inBars), ("gantry/sig.always", laid_gantry_sig_always), ("gantry/term.lens", laid_gantry_term_lens), ("gantry/typing.rules", laid_gantry_typing_rules)] }
def TypingTurnsSaid : Prop := typingTurnsRow.holds Tryd.pinned (OpenSpec.ofChange typingTurnsSpec)

/-- ITS FALSE NEIGHBOUR: 'it returns false'. Refute it at one input. -/
def typingTurnsWrong : ChangeSpec := { name := "typingTurns", fn := fun _ => fun
  | [d1, d2, d3, d4] => { results := [.lit (.bool false)], args := [d1, d2, d3, d4] }
  | _ => none }
def TypingTurnsWrongFalsely : Prop := typingTurnsRow.holds Tryd.pinned (OpenSpec.ofChange typingTurnsWrong)

/- THE SECOND FORM. 'bulk': how many values and letters a reading holds, each counted each time it is reached (what is shared counts as often as it is met; a slice's spare places count too). A statement '..UptoSaid' is the law's where the arguments, and the package variables that the reading takes, are together of bulk at most 1048576: NARROWER than '..Said'. Prove '..Said' where nothing that the law and all that it calls make is longer than what came in: it says more and counts as full. Else prove '..UptoSaid'. A law counts once. -/
mutual
def uptoBulk {H : Type} : DataW H → Nat
  | .lit (.string bytes) => bytes.length + 1
  | .lit _ => 1
  | .nil => 1
  | .ptr d => uptoBulk d + 1
  | .slice elems spare => uptoBulkAll elems + uptoBulkAll spare + 1
  | .agg parts => uptoBulkAll parts + 1
  | .iface _ d => uptoBulk d + 1
  | .map entries => uptoBulkEntries entries + 1
  | .held _ => 1
def uptoBulkAll {H : Type} : List (DataW H) → Nat
  | [] => 0
  | d :: r => uptoBulk d + uptoBulkAll r
def uptoBulkEntries {H : Type} : List (Lit × DataW H) → Nat
  | [] => 0
  | x :: r => uptoBulkEntry x + uptoBulkEntries r
def uptoBulkEntry {H : Type} : Lit × DataW H → Nat
  | (.string bytes, d) => bytes.length + uptoBulk d + 1
  | (_, d) => uptoBulk d + 1
 end
def uptoSmall : (H : Type) → List (DataW H) → Bool := fun _ ds => decide (uptoBulkAll ds ≤ 1048576)
def OpenSpec.upto (s : _root_.Go.ChangeSpec) : _root_.Go.OpenSpec := { _root_.Go.OpenSpec.ofChange s with cond := some uptoSmall }

/-- 'gantrylaw06.TypingTells', WHERE WHAT IT READS IS OF BULK AT MOST 1048576: true; the input reads as it did. -/
def typingTellsUptoRow : OpenClaim := { program := "ytdeobdepepjbmaadoor", sum := "14f4234240827d29d81f4bbe3039b44f468cd04aed4025c5381c586026926dc6", func := "gantry/gantrylaw06.TypingTells", spec := "typingTells", unfollowed := true, recurses := true, named := ["gantry/typing.rules", "gantry/lex.inBars", "gantry/sig.always", "gantry/lex.signs", "gantry/term.lens"], loops := true, plainKeys := false, apart := false, laid := [("gantry/lex.signs", laid_gantry_lex_signs), ("gantry/lex.inBars", laid_gantry_lex_inBars), ("gantry/sig.always", laid_gantry_sig_always), ("gantry/term.lens", laid_gantry_term_lens), ("gantry/typing.rules", laid_gantry_typing_rules)], narrowed := true }
def TypingTellsUptoSaid : Prop := typingTellsUptoRow.holds Tryd.pinned (OpenSpec.upto typingTellsSpec)

/-- 'gantrylaw06.TypingGrows', WHERE WHAT IT READS IS OF BULK AT MOST 1048576: true; the input reads as it did. -/
def typingGrowsUptoRow : OpenClaim := { program := "ytdeobdepepjbmaadoor", sum := "14f4234240827d29d81f4bbe3039b44f468cd04aed4025c5381c586026926dc6", func := "gantry/gantrylaw06.TypingGrows", spec := "typingGrows", unfollowed := true, recurses := true, named := ["gantry/lex.inBars", "gantry/sig.always", "gantry/lex.signs", "gantry/term.lens", "gantry/typing.rules"], loops := true, plainKeys := false, apart := false, laid := [("gantry/lex.signs", laid_gantry_lex_signs), ("gantry/lex.inBars", laid_gantry_lex_inBars), ("gantry/sig.always", laid_gantry_sig_always), ("gantry/term.lens", laid_gantry_term_lens), ("gantry/typing.rules", laid_gantry_typing_rules)], narrowed := true }
def TypingGrowsUptoSaid : Prop := typingGrowsUptoRow.holds Tryd.pinned (OpenSpec.upto typingGrowsSpec)

/-- 'gantrylaw06.TypingTurns', WHERE WHAT IT READS IS OF BULK AT MOST 1048576: true; the input reads as it did. -/
def typingTurnsUptoRow : OpenClaim := { program := "ytdeobdepepjbmaadoor", sum := "14f4234240827d29d81f4bbe3039b44f468cd04aed4025c5381c586026926dc6", func := "gantry/gantrylaw06.TypingTurns", spec := "typingTurns", unfollowed := true, recurses := true, named := ["gantry/typing.rules", "gantry/lex.inBars", "gantry/sig.always", "gantry/lex.signs", "gantry/term.lens"], plainKeys := false, apart := false, laid := [("gantry/lex.signs", laid_gantry_lex_signs), ("gantry/lex.inBars", laid_gantry_lex_inBars), ("gantry/sig.always", laid_gantry_sig_always), ("gantry/term.lens", laid_gantry_term_lens), ("gantry/typing.rules", laid_gantry_typing_rules)], narrowed := true }
def TypingTurnsUptoSaid : Prop := typingTurnsUptoRow.holds Tryd.pinned (OpenSpec.upto typingTurnsSpec)

end Rows
end Go.Proofs.YtdeobdepepjbmaaDoor
