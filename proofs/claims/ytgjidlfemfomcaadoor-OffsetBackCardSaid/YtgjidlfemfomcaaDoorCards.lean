/-
  DERIVED. GIVEN WITH THE SEED: THE CARDS: each row of YtgjidlfemfomcaaDoorRows.lean that lists a variable, with what it lists TIED to the program's text (the seventh form; the later family's looks); each row that meets fmt, with fmt's text TOLD by the authors' own Lean function (tested against real Go, not proved from fmt's source: count such statements apart). THE CARD IS WHAT COUNTS. Prove the row's statement (the work); the ties are given (YtgjidlfemfomcaaDoorTie.lean); close each card by the builder's one call (the guide's Derived/Test/ToyasCard.lean, 'card_holds'). Laid BY PROGRAM, IN A SANDBOX (cutbox-door.mjs). By AI agents, Wed Nov 11 2026. No macro, syntax, notation, axiom, sorry.
-/
import Derived.Test.YtgjidlfemfomcaaDoorRows
import GoSem.ClaimSeven
namespace Go.Proofs.YtgjidlfemfomcaaDoor
namespace Rows

/-- THE TIED CARD OF 'gantrylaw11.OffsetBack'. -/
def offsetBackCard : Claim7 := { stood := { row := offsetBackRow, standIns := [], harness := (true, "6e0e21933e2d093d59c615b081c9364f1f14629fb8858ac91c21cf5961685367"), looks := false }, kinds := [], alts := [], laidByText := true, laidKinds := [.data], laidTests := true, laidLooks := .later }
def OffsetBackCardSaid : Prop := Claim7.holds Tryd.pinned (.plain (OpenSpec.ofChange offsetBackSpec)) offsetBackCard

/-- THE TIED CARD OF 'gantrylaw11.OffsetOnce'. -/
def offsetOnceCard : Claim7 := { stood := { row := offsetOnceRow, standIns := [], harness := (true, "6e0e21933e2d093d59c615b081c9364f1f14629fb8858ac91c21cf5961685367"), looks := false }, kinds := [], alts := [], laidByText := true, laidKinds := [.data], laidTests := true, laidLooks := .later }
def OffsetOnceCardSaid : Prop := Claim7.holds Tryd.pinned (.plain (OpenSpec.ofChange offsetOnceSpec)) offsetOnceCard

/-- THE TIED CARD OF 'gantrylaw11.OffsetTurns'. -/
def offsetTurnsCard : Claim7 := { stood := { row := offsetTurnsRow, standIns := [], harness := (true, "6e0e21933e2d093d59c615b081c9364f1f14629fb8858ac91c21cf5961685367"), looks := false }, kinds := [], alts := [], laidByText := true, laidKinds := [.data], laidTests := true, laidLooks := .later }
def OffsetTurnsCardSaid : Prop := Claim7.holds Tryd.pinned (.plain (OpenSpec.ofChange offsetTurnsSpec)) offsetTurnsCard

/-- THE SECOND FORM's CARD OF 'gantrylaw11.OffsetBack'. -/
def offsetBackUptoCard : Claim7 := { stood := { row := offsetBackUptoRow, standIns := [], harness := (true, "6e0e21933e2d093d59c615b081c9364f1f14629fb8858ac91c21cf5961685367"), looks := false }, kinds := [], alts := [], laidByText := true, laidKinds := [.data], laidTests := true, laidLooks := .later }
def OffsetBackUptoCardSaid : Prop := Claim7.holds Tryd.pinned (.plain (OpenSpec.upto offsetBackSpec)) offsetBackUptoCard

/-- THE SECOND FORM's CARD OF 'gantrylaw11.OffsetOnce'. -/
def offsetOnceUptoCard : Claim7 := { stood := { row := offsetOnceUptoRow, standIns := [], harness := (true, "6e0e21933e2d093d59c615b081c9364f1f14629fb8858ac91c21cf5961685367"), looks := false }, kinds := [], alts := [], laidByText := true, laidKinds := [.data], laidTests := true, laidLooks := .later }
def OffsetOnceUptoCardSaid : Prop := Claim7.holds Tryd.pinned (.plain (OpenSpec.upto offsetOnceSpec)) offsetOnceUptoCard

/-- THE SECOND FORM's CARD OF 'gantrylaw11.OffsetTurns'. -/
def offsetTurnsUptoCard : Claim7 := { stood := { row := offsetTurnsUptoRow, standIns := [], harness := (true, "6e0e21933e2d093d59c615b081c9364f1f14629fb8858ac91c21cf5961685367"), looks := false }, kinds := [], alts := [], laidByText := true, laidKinds := [.data], laidTests := true, laidLooks := .later }
def OffsetTurnsUptoCardSaid : Prop := Claim7.holds Tryd.pinned (.plain (OpenSpec.upto offsetTurnsSpec)) offsetTurnsUptoCard
end Rows
end Go.Proofs.YtgjidlfemfomcaaDoor
