/-
  DERIVED. GIVEN WITH THE SEED: THE CARDS: each row of YtjibhkgphahbaaaDoorRows.lean that lists a variable, with what it lists TIED to the program's text (the seventh form; the later family's looks); each row that meets fmt, with fmt's text TOLD by the authors' own Lean function (tested against real Go, not proved from fmt's source: count such statements apart). THE CARD IS WHAT COUNTS. Prove the row's statement (the work); the ties are given (YtjibhkgphahbaaaDoorTie.lean); close each card by the builder's one call (the guide's Derived/Test/ToyasCard.lean, 'card_holds'). Laid BY PROGRAM, IN A SANDBOX (cutbox-door.mjs). By AI agents, Wed Nov 11 2026. No macro, syntax, notation, axiom, sorry.
-/
import Derived.Test.YtjibhkgphahbaaaDoorRows
import GoSem.ClaimSeven
namespace Go.Proofs.YtjibhkgphahbaaaDoor
namespace Rows

/-- THE TIED CARD OF 'gantrylaw12.CoreAgain'. -/
def coreAgainCard : Claim7 := { stood := { row := coreAgainRow, standIns := [], harness := (true, "330a43376e4f089d355b5c4521d48d4e178b2e21db7055d5de7644314d163030"), looks := false }, kinds := [], alts := [], laidByText := true, laidKinds := [.data, .data], laidTests := true, laidLooks := .later }
def CoreAgainCardSaid : Prop := Claim7.holds Tryd.pinned (.plain (OpenSpec.ofChange coreAgainSpec)) coreAgainCard

/-- THE TIED CARD OF 'gantrylaw12.CoreOffsets'. -/
def coreOffsetsCard : Claim7 := { stood := { row := coreOffsetsRow, standIns := [], harness := (true, "330a43376e4f089d355b5c4521d48d4e178b2e21db7055d5de7644314d163030"), looks := false }, kinds := [], alts := [], laidByText := true, laidKinds := [.data, .data], laidTests := true, laidLooks := .later }
def CoreOffsetsCardSaid : Prop := Claim7.holds Tryd.pinned (.plain (OpenSpec.ofChange coreOffsetsSpec)) coreOffsetsCard

/-- THE SECOND FORM's CARD OF 'gantrylaw12.CoreAgain'. -/
def coreAgainUptoCard : Claim7 := { stood := { row := coreAgainUptoRow, standIns := [], harness := (true, "330a43376e4f089d355b5c4521d48d4e178b2e21db7055d5de7644314d163030"), looks := false }, kinds := [], alts := [], laidByText := true, laidKinds := [.data, .data], laidTests := true, laidLooks := .later }
def CoreAgainUptoCardSaid : Prop := Claim7.holds Tryd.pinned (.plain (OpenSpec.upto coreAgainSpec)) coreAgainUptoCard

/-- THE SECOND FORM's CARD OF 'gantrylaw12.CoreOffsets'. -/
def coreOffsetsUptoCard : Claim7 := { stood := { row := coreOffsetsUptoRow, standIns := [], harness := (true, "330a43376e4f089d355b5c4521d48d4e178b2e21db7055d5de7644314d163030"), looks := false }, kinds := [], alts := [], laidByText := true, laidKinds := [.data, .data], laidTests := true, laidLooks := .later }
def CoreOffsetsUptoCardSaid : Prop := Claim7.holds Tryd.pinned (.plain (OpenSpec.upto coreOffsetsSpec)) coreOffsetsUptoCard
end Rows
end Go.Proofs.YtjibhkgphahbaaaDoor
