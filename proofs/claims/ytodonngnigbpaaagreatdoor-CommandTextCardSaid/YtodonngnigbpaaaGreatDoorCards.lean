/-
  DERIVED. GIVEN WITH THE SEED: THE CARDS: each row of YtodonngnigbpaaaGreatDoorRows.lean that lists a variable, with what it lists TIED to the program's text (the seventh form; the later family's looks); each row that meets fmt, with fmt's text TOLD by the authors' own Lean function (tested against real Go, not proved from fmt's source: count such statements apart). THE CARD IS WHAT COUNTS. Prove the row's statement (the work); the ties are given (YtodonngnigbpaaaGreatDoorTie.lean); close each card by the builder's one call (the guide's Derived/Test/ToyasCard.lean, 'card_holds'). Laid BY PROGRAM, IN A SANDBOX (cutbox-door.mjs). By AI agents, Wed Nov 11 2026. No macro, syntax, notation, axiom, sorry.
-/
import Derived.Test.YtodonngnigbpaaaGreatDoorRows
import GoSem.ClaimSeven
namespace Go.Proofs.YtodonngnigbpaaaGreatDoor
namespace Rows

/-- THE TIED CARD OF 'gantrylaw08.CommandText'. -/
def commandTextCard : Claim7 := { stood := { row := commandTextRow, standIns := [], harness := (true, "a0c86463402b62506ff4de30a8158440adff85d15004c7a32376c0188f928089"), looks := false }, kinds := [], alts := [], laidByText := true, laidKinds := [.wider, .wider, .wider, .data], laidTests := true, laidLooks := .later }
def CommandTextCardSaid : Prop := Claim7.holds Tryz.pinned (.plain (OpenSpec.ofChange commandTextSpec)) commandTextCard

/-- THE TIED CARD OF 'gantrylaw08.CommandOnce'. -/
def commandOnceCard : Claim7 := { stood := { row := commandOnceRow, standIns := [], harness := (true, "a0c86463402b62506ff4de30a8158440adff85d15004c7a32376c0188f928089"), looks := false }, kinds := [], alts := [], laidByText := true, laidKinds := [.wider, .wider, .wider, .data], laidTests := true, laidLooks := .later }
def CommandOnceCardSaid : Prop := Claim7.holds Tryz.pinned (.plain (OpenSpec.ofChange commandOnceSpec)) commandOnceCard

/-- THE SECOND FORM's CARD OF 'gantrylaw08.CommandText'. -/
def commandTextUptoCard : Claim7 := { stood := { row := commandTextUptoRow, standIns := [], harness := (true, "a0c86463402b62506ff4de30a8158440adff85d15004c7a32376c0188f928089"), looks := false }, kinds := [], alts := [], laidByText := true, laidKinds := [.wider, .wider, .wider, .data], laidTests := true, laidLooks := .later }
def CommandTextUptoCardSaid : Prop := Claim7.holds Tryz.pinned (.plain (OpenSpec.upto commandTextSpec)) commandTextUptoCard

/-- THE SECOND FORM's CARD OF 'gantrylaw08.CommandOnce'. -/
def commandOnceUptoCard : Claim7 := { stood := { row := commandOnceUptoRow, standIns := [], harness := (true, "a0c86463402b62506ff4de30a8158440adff85d15004c7a32376c0188f928089"), looks := false }, kinds := [], alts := [], laidByText := true, laidKinds := [.wider, .wider, .wider, .data], laidTests := true, laidLooks := .later }
def CommandOnceUptoCardSaid : Prop := Claim7.holds Tryz.pinned (.plain (OpenSpec.upto commandOnceSpec)) commandOnceUptoCard
end Rows
end Go.Proofs.YtodonngnigbpaaaGreatDoor
