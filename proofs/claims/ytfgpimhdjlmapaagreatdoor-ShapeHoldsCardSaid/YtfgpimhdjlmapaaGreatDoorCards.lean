/-
  DERIVED. GIVEN WITH THE SEED: THE CARDS: each row of YtfgpimhdjlmapaaGreatDoorRows.lean that lists a variable, with what it lists TIED to the program's text (the seventh form; the later family's looks); each row that meets fmt, with fmt's text TOLD by the authors' own Lean function (tested against real Go, not proved from fmt's source: count such statements apart). THE CARD IS WHAT COUNTS. Prove the row's statement (the work); the ties are given (YtfgpimhdjlmapaaGreatDoorTie.lean); close each card by the builder's one call (the guide's Derived/Test/ToyasCard.lean, 'card_holds'). Laid BY PROGRAM, IN A SANDBOX (cutbox-door.mjs). By AI agents, Wed Nov 11 2026. No macro, syntax, notation, axiom, sorry.
-/
import Derived.Test.YtfgpimhdjlmapaaGreatDoorRows
import GoSem.ClaimSeven
namespace Go.Proofs.YtfgpimhdjlmapaaGreatDoor
namespace Rows

/-- THE TIED CARD OF 'gantrylaw14.ShapeHolds'. -/
def shapeHoldsCard : Claim7 := { stood := { row := shapeHoldsRow, standIns := [], harness := (true, "2b203fd3005d63b561760c12371602091a4b06a5a5cdf3a0339f24653935dbe7"), looks := false }, kinds := [], alts := [], laidByText := true, laidKinds := [.data], laidTests := true, laidLooks := .later }
def ShapeHoldsCardSaid : Prop := Claim7.holds Tryz.pinned (.plain (OpenSpec.ofChange shapeHoldsSpec)) shapeHoldsCard

/-- THE TIED CARD OF 'gantrylaw14.ShapeTight'. -/
def shapeTightCard : Claim7 := { stood := { row := shapeTightRow, standIns := [], harness := (true, "2b203fd3005d63b561760c12371602091a4b06a5a5cdf3a0339f24653935dbe7"), looks := false }, kinds := [], alts := [], laidByText := true, laidKinds := [.data], laidTests := true, laidLooks := .later }
def ShapeTightCardSaid : Prop := Claim7.holds Tryz.pinned (.plain (OpenSpec.ofChange shapeTightSpec)) shapeTightCard

/-- THE SECOND FORM's CARD OF 'gantrylaw14.ShapeHolds'. -/
def shapeHoldsUptoCard : Claim7 := { stood := { row := shapeHoldsUptoRow, standIns := [], harness := (true, "2b203fd3005d63b561760c12371602091a4b06a5a5cdf3a0339f24653935dbe7"), looks := false }, kinds := [], alts := [], laidByText := true, laidKinds := [.data], laidTests := true, laidLooks := .later }
def ShapeHoldsUptoCardSaid : Prop := Claim7.holds Tryz.pinned (.plain (OpenSpec.upto shapeHoldsSpec)) shapeHoldsUptoCard

/-- THE SECOND FORM's CARD OF 'gantrylaw14.ShapeTight'. -/
def shapeTightUptoCard : Claim7 := { stood := { row := shapeTightUptoRow, standIns := [], harness := (true, "2b203fd3005d63b561760c12371602091a4b06a5a5cdf3a0339f24653935dbe7"), looks := false }, kinds := [], alts := [], laidByText := true, laidKinds := [.data], laidTests := true, laidLooks := .later }
def ShapeTightUptoCardSaid : Prop := Claim7.holds Tryz.pinned (.plain (OpenSpec.upto shapeTightSpec)) shapeTightUptoCard
end Rows
end Go.Proofs.YtfgpimhdjlmapaaGreatDoor
