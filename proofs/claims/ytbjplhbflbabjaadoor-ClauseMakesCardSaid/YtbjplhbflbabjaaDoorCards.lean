/-
  DERIVED. GIVEN WITH THE SEED: THE CARDS: each row of YtbjplhbflbabjaaDoorRows.lean that lists a variable, with what it lists TIED to the program's text (the seventh form; the later family's looks); each row that meets fmt, with fmt's text TOLD by the authors' own Lean function (tested against real Go, not proved from fmt's source: count such statements apart). THE CARD IS WHAT COUNTS. Prove the row's statement (the work); the ties are given (YtbjplhbflbabjaaDoorTie.lean); close each card by the builder's one call (the guide's Derived/Test/ToyasCard.lean, 'card_holds'). Laid BY PROGRAM, IN A SANDBOX (cutbox-door.mjs). By AI agents, Wed Nov 11 2026. No macro, syntax, notation, axiom, sorry.
-/
import Derived.Test.YtbjplhbflbabjaaDoorRows
import GoSem.ClaimSeven
namespace Go.Proofs.YtbjplhbflbabjaaDoor
namespace Rows

/-- THE TIED CARD OF 'gantrylaw15.ClauseMakes'. -/
def clauseMakesCard : Claim7 := { stood := { row := clauseMakesRow, standIns := [], harness := (true, "df448133a1e8e696afb94fc3f60cca1e50356ba9e2646ecf3d06a03dcd3dae1b"), looks := false }, kinds := [], alts := [], laidByText := true, laidKinds := [.data], laidTests := true, laidLooks := .later }
def ClauseMakesCardSaid : Prop := Claim7.holds Tryd.pinned (.plain (OpenSpec.ofChange clauseMakesSpec)) clauseMakesCard

/-- THE TIED CARD OF 'gantrylaw15.ClauseResolves'. -/
def clauseResolvesCard : Claim7 := { stood := { row := clauseResolvesRow, standIns := [], harness := (true, "df448133a1e8e696afb94fc3f60cca1e50356ba9e2646ecf3d06a03dcd3dae1b"), looks := false }, kinds := [], alts := [], laidByText := true, laidKinds := [.data], laidTests := true, laidLooks := .later }
def ClauseResolvesCardSaid : Prop := Claim7.holds Tryd.pinned (.plain (OpenSpec.ofChange clauseResolvesSpec)) clauseResolvesCard

/-- THE TIED CARD OF 'gantrylaw15.ClauseIdle'. -/
def clauseIdleCard : Claim7 := { stood := { row := clauseIdleRow, standIns := [], harness := (true, "df448133a1e8e696afb94fc3f60cca1e50356ba9e2646ecf3d06a03dcd3dae1b"), looks := false }, kinds := [], alts := [], laidByText := true, laidKinds := [.data], laidTests := true, laidLooks := .later }
def ClauseIdleCardSaid : Prop := Claim7.holds Tryd.pinned (.plain (OpenSpec.ofChange clauseIdleSpec)) clauseIdleCard

/-- THE TIED CARD OF 'gantrylaw15.ClauseTurns'. -/
def clauseTurnsCard : Claim7 := { stood := { row := clauseTurnsRow, standIns := [], harness := (true, "df448133a1e8e696afb94fc3f60cca1e50356ba9e2646ecf3d06a03dcd3dae1b"), looks := false }, kinds := [], alts := [], laidByText := true, laidKinds := [.data], laidTests := true, laidLooks := .later }
def ClauseTurnsCardSaid : Prop := Claim7.holds Tryd.pinned (.plain (OpenSpec.ofChange clauseTurnsSpec)) clauseTurnsCard

/-- THE SECOND FORM's CARD OF 'gantrylaw15.ClauseMakes'. -/
def clauseMakesUptoCard : Claim7 := { stood := { row := clauseMakesUptoRow, standIns := [], harness := (true, "df448133a1e8e696afb94fc3f60cca1e50356ba9e2646ecf3d06a03dcd3dae1b"), looks := false }, kinds := [], alts := [], laidByText := true, laidKinds := [.data], laidTests := true, laidLooks := .later }
def ClauseMakesUptoCardSaid : Prop := Claim7.holds Tryd.pinned (.plain (OpenSpec.upto clauseMakesSpec)) clauseMakesUptoCard

/-- THE SECOND FORM's CARD OF 'gantrylaw15.ClauseResolves'. -/
def clauseResolvesUptoCard : Claim7 := { stood := { row := clauseResolvesUptoRow, standIns := [], harness := (true, "df448133a1e8e696afb94fc3f60cca1e50356ba9e2646ecf3d06a03dcd3dae1b"), looks := false }, kinds := [], alts := [], laidByText := true, laidKinds := [.data], laidTests := true, laidLooks := .later }
def ClauseResolvesUptoCardSaid : Prop := Claim7.holds Tryd.pinned (.plain (OpenSpec.upto clauseResolvesSpec)) clauseResolvesUptoCard

/-- THE SECOND FORM's CARD OF 'gantrylaw15.ClauseIdle'. -/
def clauseIdleUptoCard : Claim7 := { stood := { row := clauseIdleUptoRow, standIns := [], harness := (true, "df448133a1e8e696afb94fc3f60cca1e50356ba9e2646ecf3d06a03dcd3dae1b"), looks := false }, kinds := [], alts := [], laidByText := true, laidKinds := [.data], laidTests := true, laidLooks := .later }
def ClauseIdleUptoCardSaid : Prop := Claim7.holds Tryd.pinned (.plain (OpenSpec.upto clauseIdleSpec)) clauseIdleUptoCard

/-- THE SECOND FORM's CARD OF 'gantrylaw15.ClauseTurns'. -/
def clauseTurnsUptoCard : Claim7 := { stood := { row := clauseTurnsUptoRow, standIns := [], harness := (true, "df448133a1e8e696afb94fc3f60cca1e50356ba9e2646ecf3d06a03dcd3dae1b"), looks := false }, kinds := [], alts := [], laidByText := true, laidKinds := [.data], laidTests := true, laidLooks := .later }
def ClauseTurnsUptoCardSaid : Prop := Claim7.holds Tryd.pinned (.plain (OpenSpec.upto clauseTurnsSpec)) clauseTurnsUptoCard
end Rows
end Go.Proofs.YtbjplhbflbabjaaDoor
