/-
  DERIVED. GIVEN WITH THE SEED: THE CARDS: each row of YtbddghcdibdloaaGreatDoorRows.lean that lists a variable, with what it lists TIED to the program's text (the seventh form; the later family's looks); each row that meets fmt, with fmt's text TOLD by the authors' own Lean function (tested against real Go, not proved from fmt's source: count such statements apart). THE CARD IS WHAT COUNTS. Prove the row's statement (the work); the ties are given (YtbddghcdibdloaaGreatDoorTie.lean); close each card by the builder's one call (the guide's Derived/Test/ToyasCard.lean, 'card_holds'). Laid BY PROGRAM, IN A SANDBOX (cutbox-door.mjs). By AI agents, Wed Nov 11 2026. No macro, syntax, notation, axiom, sorry.
-/
import Derived.Test.YtbddghcdibdloaaGreatDoorRows
import GoSem.ClaimSeven
namespace Go.Proofs.YtbddghcdibdloaaGreatDoor
namespace Rows

/-- THE TIED CARD OF 'gantrylaw10.EvalAtMost'. -/
def evalAtMostCard : Claim7 := { stood := { row := evalAtMostRow, standIns := [], harness := (true, "36954946bd511e7d986acc86d603f627c6c54f0ee343990c31f701e748edbabe"), looks := false }, kinds := [], alts := [], laidByText := true, laidKinds := [.wider, .wider, .data, .data, .data], laidTests := true, laidLooks := .later }
def EvalAtMostCardSaid : Prop := Claim7.holds Tryz.pinned (.plain (OpenSpec.ofChange evalAtMostSpec)) evalAtMostCard

/-- THE SECOND FORM's CARD OF 'gantrylaw10.EvalAtMost'. -/
def evalAtMostUptoCard : Claim7 := { stood := { row := evalAtMostUptoRow, standIns := [], harness := (true, "36954946bd511e7d986acc86d603f627c6c54f0ee343990c31f701e748edbabe"), looks := false }, kinds := [], alts := [], laidByText := true, laidKinds := [.wider, .wider, .data, .data, .data], laidTests := true, laidLooks := .later }
def EvalAtMostUptoCardSaid : Prop := Claim7.holds Tryz.pinned (.plain (OpenSpec.upto evalAtMostSpec)) evalAtMostUptoCard
end Rows
end Go.Proofs.YtbddghcdibdloaaGreatDoor
