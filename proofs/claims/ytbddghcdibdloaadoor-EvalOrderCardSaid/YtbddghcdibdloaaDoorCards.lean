/-
  DERIVED. GIVEN WITH THE SEED: THE CARDS: each row of YtbddghcdibdloaaDoorRows.lean that lists a variable, with what it lists TIED to the program's text (the seventh form; the later family's looks); each row that meets fmt, with fmt's text TOLD by the authors' own Lean function (tested against real Go, not proved from fmt's source: count such statements apart). THE CARD IS WHAT COUNTS. Prove the row's statement (the work); the ties are given (YtbddghcdibdloaaDoorTie.lean); close each card by the builder's one call (the guide's Derived/Test/ToyasCard.lean, 'card_holds'). Laid BY PROGRAM, IN A SANDBOX (cutbox-door.mjs). By AI agents, Wed Nov 11 2026. No macro, syntax, notation, axiom, sorry.
-/
import Derived.Test.YtbddghcdibdloaaDoorRows
import GoSem.ClaimSeven
namespace Go.Proofs.YtbddghcdibdloaaDoor
namespace Rows

/-- THE TIED CARD OF 'gantrylaw10.EvalOrder'. -/
def evalOrderCard : Claim7 := { stood := { row := evalOrderRow, standIns := [], harness := (true, "c0c0a03d5c83650857fd11bf5cb6245ca0f5a36521a80a9fd732f433ec6b15cd"), looks := false }, kinds := [], alts := [], laidByText := true, laidKinds := [.wider, .wider, .data, .data, .data], laidTests := true, laidLooks := .later }
def EvalOrderCardSaid : Prop := Claim7.holds Tryd.pinned (.plain (OpenSpec.ofChange evalOrderSpec)) evalOrderCard

/-- THE SECOND FORM's CARD OF 'gantrylaw10.EvalOrder'. -/
def evalOrderUptoCard : Claim7 := { stood := { row := evalOrderUptoRow, standIns := [], harness := (true, "c0c0a03d5c83650857fd11bf5cb6245ca0f5a36521a80a9fd732f433ec6b15cd"), looks := false }, kinds := [], alts := [], laidByText := true, laidKinds := [.wider, .wider, .data, .data, .data], laidTests := true, laidLooks := .later }
def EvalOrderUptoCardSaid : Prop := Claim7.holds Tryd.pinned (.plain (OpenSpec.upto evalOrderSpec)) evalOrderUptoCard
end Rows
end Go.Proofs.YtbddghcdibdloaaDoor
