/-
  DERIVED. GIVEN WITH THE SEED: THE CARDS: each row of YtinogambkfihpaaDoorRows.lean that lists a variable, with what it lists TIED to the program's text (the seventh form; the later family's looks); each row that meets fmt, with fmt's text TOLD by the authors' own Lean function (tested against real Go, not proved from fmt's source: count such statements apart). THE CARD IS WHAT COUNTS. Prove the row's statement (the work); the ties are given (YtinogambkfihpaaDoorTie.lean); close each card by the builder's one call (the guide's Derived/Test/ToyasCard.lean, 'card_holds'). Laid BY PROGRAM, IN A SANDBOX (cutbox-door.mjs). By AI agents, Wed Nov 11 2026. No macro, syntax, notation, axiom, sorry.
-/
import Derived.Test.YtinogambkfihpaaDoorRows
import GoSem.ClaimSeven
namespace Go.Proofs.YtinogambkfihpaaDoor
namespace Rows

/-- THE TIED CARD OF 'gantrylaw11.OffsetHolds'. -/
def offsetHoldsCard : Claim7 := { stood := { row := offsetHoldsRow, standIns := [], harness := (true, "7fdab23bcc27725b36cda36930bc907e8ab19c8daa1953cbbda8b05c073a6741"), looks := false }, kinds := [], alts := [], laidByText := true, laidKinds := [.data], laidTests := true, laidLooks := .later }
def OffsetHoldsCardSaid : Prop := Claim7.holds Tryd.pinned (.plain (OpenSpec.ofChange offsetHoldsSpec)) offsetHoldsCard

/-- THE SECOND FORM's CARD OF 'gantrylaw11.OffsetHolds'. -/
def offsetHoldsUptoCard : Claim7 := { stood := { row := offsetHoldsUptoRow, standIns := [], harness := (true, "7fdab23bcc27725b36cda36930bc907e8ab19c8daa1953cbbda8b05c073a6741"), looks := false }, kinds := [], alts := [], laidByText := true, laidKinds := [.data], laidTests := true, laidLooks := .later }
def OffsetHoldsUptoCardSaid : Prop := Claim7.holds Tryd.pinned (.plain (OpenSpec.upto offsetHoldsSpec)) offsetHoldsUptoCard
end Rows
end Go.Proofs.YtinogambkfihpaaDoor
