/-
  DERIVED. GIVEN WITH THE SEED: THE CARDS: each row of YtaiabpbcipnjaaaDoorRows.lean that lists a variable, with what it lists TIED to the program's text (the seventh form; the later family's looks); each row that meets fmt, with fmt's text TOLD by the authors' own Lean function (tested against real Go, not proved from fmt's source: count such statements apart). THE CARD IS WHAT COUNTS. Prove the row's statement (the work); the ties are given (YtaiabpbcipnjaaaDoorTie.lean); close each card by the builder's one call (the guide's Derived/Test/ToyasCard.lean, 'card_holds'). Laid BY PROGRAM, IN A SANDBOX (cutbox-door.mjs). By AI agents, Wed Nov 11 2026. No macro, syntax, notation, axiom, sorry.
-/
import Derived.Test.YtaiabpbcipnjaaaDoorRows
import GoSem.ClaimSeven
namespace Go.Proofs.YtaiabpbcipnjaaaDoor
namespace Rows

/-- THE TIED CARD OF 'gantrylaw13.AtomsLits'. -/
def atomsLitsCard : Claim7 := { stood := { row := atomsLitsRow, standIns := [], harness := (true, "fe1965463b4e8d75d594eadae9bc4ba2bb67aff2b3969b117aeb5c71e8076c64"), looks := false }, kinds := [], alts := [], laidByText := true, laidKinds := [.data, .data, .data], laidTests := true, laidLooks := .later }
def AtomsLitsCardSaid : Prop := Claim7.holds Tryd.pinned (.plain (OpenSpec.ofChange atomsLitsSpec)) atomsLitsCard

/-- THE TIED CARD OF 'gantrylaw13.AtomsJoined'. -/
def atomsJoinedCard : Claim7 := { stood := { row := atomsJoinedRow, standIns := [], harness := (true, "fe1965463b4e8d75d594eadae9bc4ba2bb67aff2b3969b117aeb5c71e8076c64"), looks := false }, kinds := [], alts := [], laidByText := true, laidKinds := [.data, .data, .data], laidTests := true, laidLooks := .later }
def AtomsJoinedCardSaid : Prop := Claim7.holds Tryd.pinned (.plain (OpenSpec.ofChange atomsJoinedSpec)) atomsJoinedCard

/-- THE SECOND FORM's CARD OF 'gantrylaw13.AtomsLits'. -/
def atomsLitsUptoCard : Claim7 := { stood := { row := atomsLitsUptoRow, standIns := [], harness := (true, "fe1965463b4e8d75d594eadae9bc4ba2bb67aff2b3969b117aeb5c71e8076c64"), looks := false }, kinds := [], alts := [], laidByText := true, laidKinds := [.data, .data, .data], laidTests := true, laidLooks := .later }
def AtomsLitsUptoCardSaid : Prop := Claim7.holds Tryd.pinned (.plain (OpenSpec.upto atomsLitsSpec)) atomsLitsUptoCard

/-- THE SECOND FORM's CARD OF 'gantrylaw13.AtomsJoined'. -/
def atomsJoinedUptoCard : Claim7 := { stood := { row := atomsJoinedUptoRow, standIns := [], harness := (true, "fe1965463b4e8d75d594eadae9bc4ba2bb67aff2b3969b117aeb5c71e8076c64"), looks := false }, kinds := [], alts := [], laidByText := true, laidKinds := [.data, .data, .data], laidTests := true, laidLooks := .later }
def AtomsJoinedUptoCardSaid : Prop := Claim7.holds Tryd.pinned (.plain (OpenSpec.upto atomsJoinedSpec)) atomsJoinedUptoCard
end Rows
end Go.Proofs.YtaiabpbcipnjaaaDoor
