/-
  DERIVED. GIVEN WITH THE SEED: THE CARDS: each row of YthbgigjjmojgfaaDoorRows.lean that lists a variable, with what it lists TIED to the program's text (the seventh form; the later family's looks); each row that meets fmt, with fmt's text TOLD by the authors' own Lean function (tested against real Go, not proved from fmt's source: count such statements apart). THE CARD IS WHAT COUNTS. Prove the row's statement (the work); the ties are given (YthbgigjjmojgfaaDoorTie.lean); close each card by the builder's one call (the guide's Derived/Test/ToyasCard.lean, 'card_holds'). Laid BY PROGRAM, IN A SANDBOX (cutbox-door.mjs). By AI agents, Wed Nov 11 2026. No macro, syntax, notation, axiom, sorry.
-/
import Derived.Test.YthbgigjjmojgfaaDoorRows
import GoSem.ClaimSeven
namespace Go.Proofs.YthbgigjjmojgfaaDoor
namespace Rows

/-- THE TIED CARD OF 'gantrylaw03.SexprReads'. -/
def sexprReadsCard : Claim7 := { stood := { row := sexprReadsRow, standIns := [], harness := (true, "f78ef1fc1200221759bb77a895a706b6a0787911a05d3898263acef89dc2f44f"), looks := false }, kinds := [], alts := [], laidByText := true, laidKinds := [.wider, .wider, .wider, .wider, .data], laidTests := true, laidLooks := .later }
def SexprReadsCardSaid : Prop := Claim7.holds Tryd.pinned (.plain (OpenSpec.ofChange sexprReadsSpec)) sexprReadsCard

/-- THE TIED CARD OF 'gantrylaw03.SexprTells'. -/
def sexprTellsCard : Claim7 := { stood := { row := sexprTellsRow, standIns := [], harness := (true, "f78ef1fc1200221759bb77a895a706b6a0787911a05d3898263acef89dc2f44f"), looks := false }, kinds := [], alts := [], laidByText := true, laidKinds := [.wider, .wider, .wider, .wider, .data], laidTests := true, laidLooks := .later }
def SexprTellsCardSaid : Prop := Claim7.holds Tryd.pinned (.plain (OpenSpec.ofChange sexprTellsSpec)) sexprTellsCard

/-- THE TIED CARD OF 'gantrylaw03.SexprBack'. -/
def sexprBackCard : Claim7 := { stood := { row := sexprBackRow, standIns := [], harness := (true, "f78ef1fc1200221759bb77a895a706b6a0787911a05d3898263acef89dc2f44f"), looks := false }, kinds := [], alts := [], laidByText := true, laidKinds := [.wider, .wider, .wider, .wider, .data], laidTests := true, laidLooks := .later }
def SexprBackCardSaid : Prop := Claim7.holds Tryd.pinned (.plain (OpenSpec.ofChange sexprBackSpec)) sexprBackCard

/-- THE TIED CARD OF 'gantrylaw03.SexprSpaces'. -/
def sexprSpacesCard : Claim7 := { stood := { row := sexprSpacesRow, standIns := [], harness := (true, "f78ef1fc1200221759bb77a895a706b6a0787911a05d3898263acef89dc2f44f"), looks := false }, kinds := [], alts := [], laidByText := true, laidKinds := [.wider, .wider, .wider, .wider, .data], laidTests := true, laidLooks := .later }
def SexprSpacesCardSaid : Prop := Claim7.holds Tryd.pinned (.plain (OpenSpec.ofChange sexprSpacesSpec)) sexprSpacesCard

/-- THE TIED CARD OF 'gantrylaw03.SexprJoined'. -/
def sexprJoinedCard : Claim7 := { stood := { row := sexprJoinedRow, standIns := [], harness := (true, "f78ef1fc1200221759bb77a895a706b6a0787911a05d3898263acef89dc2f44f"), looks := false }, kinds := [], alts := [], laidByText := true, laidKinds := [.wider, .wider, .wider, .wider, .data], laidTests := true, laidLooks := .later }
def SexprJoinedCardSaid : Prop := Claim7.holds Tryd.pinned (.plain (OpenSpec.ofChange sexprJoinedSpec)) sexprJoinedCard

/-- THE SECOND FORM's CARD OF 'gantrylaw03.SexprReads'. -/
def sexprReadsUptoCard : Claim7 := { stood := { row := sexprReadsUptoRow, standIns := [], harness := (true, "f78ef1fc1200221759bb77a895a706b6a0787911a05d3898263acef89dc2f44f"), looks := false }, kinds := [], alts := [], laidByText := true, laidKinds := [.wider, .wider, .wider, .wider, .data], laidTests := true, laidLooks := .later }
def SexprReadsUptoCardSaid : Prop := Claim7.holds Tryd.pinned (.plain (OpenSpec.upto sexprReadsSpec)) sexprReadsUptoCard

/-- THE SECOND FORM's CARD OF 'gantrylaw03.SexprTells'. -/
def sexprTellsUptoCard : Claim7 := { stood := { row := sexprTellsUptoRow, standIns := [], harness := (true, "f78ef1fc1200221759bb77a895a706b6a0787911a05d3898263acef89dc2f44f"), looks := false }, kinds := [], alts := [], laidByText := true, laidKinds := [.wider, .wider, .wider, .wider, .data], laidTests := true, laidLooks := .later }
def SexprTellsUptoCardSaid : Prop := Claim7.holds Tryd.pinned (.plain (OpenSpec.upto sexprTellsSpec)) sexprTellsUptoCard

/-- THE SECOND FORM's CARD OF 'gantrylaw03.SexprBack'. -/
def sexprBackUptoCard : Claim7 := { stood := { row := sexprBackUptoRow, standIns := [], harness := (true, "f78ef1fc1200221759bb77a895a706b6a0787911a05d3898263acef89dc2f44f"), looks := false }, kinds := [], alts := [], laidByText := true, laidKinds := [.wider, .wider, .wider, .wider, .data], laidTests := true, laidLooks := .later }
def SexprBackUptoCardSaid : Prop := Claim7.holds Tryd.pinned (.plain (OpenSpec.upto sexprBackSpec)) sexprBackUptoCard

/-- THE SECOND FORM's CARD OF 'gantrylaw03.SexprSpaces'. -/
def sexprSpacesUptoCard : Claim7 := { stood := { row := sexprSpacesUptoRow, standIns := [], harness := (true, "f78ef1fc1200221759bb77a895a706b6a0787911a05d3898263acef89dc2f44f"), looks := false }, kinds := [], alts := [], laidByText := true, laidKinds := [.wider, .wider, .wider, .wider, .data], laidTests := true, laidLooks := .later }
def SexprSpacesUptoCardSaid : Prop := Claim7.holds Tryd.pinned (.plain (OpenSpec.upto sexprSpacesSpec)) sexprSpacesUptoCard

/-- THE SECOND FORM's CARD OF 'gantrylaw03.SexprJoined'. -/
def sexprJoinedUptoCard : Claim7 := { stood := { row := sexprJoinedUptoRow, standIns := [], harness := (true, "f78ef1fc1200221759bb77a895a706b6a0787911a05d3898263acef89dc2f44f"), looks := false }, kinds := [], alts := [], laidByText := true, laidKinds := [.wider, .wider, .wider, .wider, .data], laidTests := true, laidLooks := .later }
def SexprJoinedUptoCardSaid : Prop := Claim7.holds Tryd.pinned (.plain (OpenSpec.upto sexprJoinedSpec)) sexprJoinedUptoCard
end Rows
end Go.Proofs.YthbgigjjmojgfaaDoor
