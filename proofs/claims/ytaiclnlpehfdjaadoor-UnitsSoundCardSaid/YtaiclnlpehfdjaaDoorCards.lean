/-
  DERIVED. GIVEN WITH THE SEED: THE CARDS: each row of YtaiclnlpehfdjaaDoorRows.lean that lists a variable, with what it lists TIED to the program's text (the seventh form; the later family's looks); each row that meets fmt, with fmt's text TOLD by the authors' own Lean function (tested against real Go, not proved from fmt's source: count such statements apart). THE CARD IS WHAT COUNTS. Prove the row's statement (the work); the ties are given (YtaiclnlpehfdjaaDoorTie.lean); close each card by the builder's one call (the guide's Derived/Test/ToyasCard.lean, 'card_holds'). Laid BY PROGRAM, IN A SANDBOX (cutbox-door.mjs). By AI agents, Wed Nov 11 2026. No macro, syntax, notation, axiom, sorry.
-/
import Derived.Test.YtaiclnlpehfdjaaDoorRows
import GoSem.ClaimSeven
namespace Go.Proofs.YtaiclnlpehfdjaaDoor
namespace Rows

/-- THE TIED CARD OF 'gantrylaw16.UnitsRun'. -/
def unitsRunCard : Claim7 := { stood := { row := unitsRunRow, standIns := [], harness := (true, "4eb7bb992882d008e1690e7160f3de111488fd43bce8884e5c85594a9fff617d"), looks := true }, kinds := [], alts := [], laidByText := true, laidKinds := [.data], laidTests := true, laidLooks := .later }
def UnitsRunCardSaid : Prop := Claim7.holds Tryd.pinned (.plain (OpenSpec.ofChange unitsRunSpec)) unitsRunCard

/-- THE TIED CARD OF 'gantrylaw16.UnitsImply'. -/
def unitsImplyCard : Claim7 := { stood := { row := unitsImplyRow, standIns := [], harness := (true, "4eb7bb992882d008e1690e7160f3de111488fd43bce8884e5c85594a9fff617d"), looks := true }, kinds := [], alts := [], laidByText := true, laidKinds := [.data], laidTests := true, laidLooks := .later }
def UnitsImplyCardSaid : Prop := Claim7.holds Tryd.pinned (.plain (OpenSpec.ofChange unitsImplySpec)) unitsImplyCard

/-- THE TIED CARD OF 'gantrylaw16.UnitsSound'. -/
def unitsSoundCard : Claim7 := { stood := { row := unitsSoundRow, standIns := [], harness := (true, "4eb7bb992882d008e1690e7160f3de111488fd43bce8884e5c85594a9fff617d"), looks := true }, kinds := [], alts := [], laidByText := true, laidKinds := [.data], laidTests := true, laidLooks := .later }
def UnitsSoundCardSaid : Prop := Claim7.holds Tryd.pinned (.plain (OpenSpec.ofChange unitsSoundSpec)) unitsSoundCard

/-- THE TIED CARD OF 'gantrylaw16.UnitsMore'. -/
def unitsMoreCard : Claim7 := { stood := { row := unitsMoreRow, standIns := [], harness := (true, "4eb7bb992882d008e1690e7160f3de111488fd43bce8884e5c85594a9fff617d"), looks := true }, kinds := [], alts := [], laidByText := true, laidKinds := [.data], laidTests := true, laidLooks := .later }
def UnitsMoreCardSaid : Prop := Claim7.holds Tryd.pinned (.plain (OpenSpec.ofChange unitsMoreSpec)) unitsMoreCard

/-- THE TIED CARD OF 'gantrylaw16.UnitsOrder'. -/
def unitsOrderCard : Claim7 := { stood := { row := unitsOrderRow, standIns := [], harness := (true, "4eb7bb992882d008e1690e7160f3de111488fd43bce8884e5c85594a9fff617d"), looks := true }, kinds := [], alts := [], laidByText := true, laidKinds := [.data], laidTests := true, laidLooks := .later }
def UnitsOrderCardSaid : Prop := Claim7.holds Tryd.pinned (.plain (OpenSpec.ofChange unitsOrderSpec)) unitsOrderCard

/-- THE TIED CARD OF 'gantrylaw16.UnitsTurn'. -/
def unitsTurnCard : Claim7 := { stood := { row := unitsTurnRow, standIns := [], harness := (true, "4eb7bb992882d008e1690e7160f3de111488fd43bce8884e5c85594a9fff617d"), looks := true }, kinds := [], alts := [], laidByText := true, laidKinds := [.data], laidTests := true, laidLooks := .later }
def UnitsTurnCardSaid : Prop := Claim7.holds Tryd.pinned (.plain (OpenSpec.ofChange unitsTurnSpec)) unitsTurnCard

/-- THE TIED CARD OF 'gantrylaw16.UnitsOnce'. -/
def unitsOnceCard : Claim7 := { stood := { row := unitsOnceRow, standIns := [], harness := (true, "4eb7bb992882d008e1690e7160f3de111488fd43bce8884e5c85594a9fff617d"), looks := true }, kinds := [], alts := [], laidByText := true, laidKinds := [.data], laidTests := true, laidLooks := .later }
def UnitsOnceCardSaid : Prop := Claim7.holds Tryd.pinned (.plain (OpenSpec.ofChange unitsOnceSpec)) unitsOnceCard

/-- THE SECOND FORM's CARD OF 'gantrylaw16.UnitsRun'. -/
def unitsRunUptoCard : Claim7 := { stood := { row := unitsRunUptoRow, standIns := [], harness := (true, "4eb7bb992882d008e1690e7160f3de111488fd43bce8884e5c85594a9fff617d"), looks := true }, kinds := [], alts := [], laidByText := true, laidKinds := [.data], laidTests := true, laidLooks := .later }
def UnitsRunUptoCardSaid : Prop := Claim7.holds Tryd.pinned (.plain (OpenSpec.upto unitsRunSpec)) unitsRunUptoCard

/-- THE SECOND FORM's CARD OF 'gantrylaw16.UnitsImply'. -/
def unitsImplyUptoCard : Claim7 := { stood := { row := unitsImplyUptoRow, standIns := [], harness := (true, "4eb7bb992882d008e1690e7160f3de111488fd43bce8884e5c85594a9fff617d"), looks := true }, kinds := [], alts := [], laidByText := true, laidKinds := [.data], laidTests := true, laidLooks := .later }
def UnitsImplyUptoCardSaid : Prop := Claim7.holds Tryd.pinned (.plain (OpenSpec.upto unitsImplySpec)) unitsImplyUptoCard

/-- THE SECOND FORM's CARD OF 'gantrylaw16.UnitsSound'. -/
def unitsSoundUptoCard : Claim7 := { stood := { row := unitsSoundUptoRow, standIns := [], harness := (true, "4eb7bb992882d008e1690e7160f3de111488fd43bce8884e5c85594a9fff617d"), looks := true }, kinds := [], alts := [], laidByText := true, laidKinds := [.data], laidTests := true, laidLooks := .later }
def UnitsSoundUptoCardSaid : Prop := Claim7.holds Tryd.pinned (.plain (OpenSpec.upto unitsSoundSpec)) unitsSoundUptoCard

/-- THE SECOND FORM's CARD OF 'gantrylaw16.UnitsMore'. -/
def unitsMoreUptoCard : Claim7 := { stood := { row := unitsMoreUptoRow, standIns := [], harness := (true, "4eb7bb992882d008e1690e7160f3de111488fd43bce8884e5c85594a9fff617d"), looks := true }, kinds := [], alts := [], laidByText := true, laidKinds := [.data], laidTests := true, laidLooks := .later }
def UnitsMoreUptoCardSaid : Prop := Claim7.holds Tryd.pinned (.plain (OpenSpec.upto unitsMoreSpec)) unitsMoreUptoCard

/-- THE SECOND FORM's CARD OF 'gantrylaw16.UnitsOrder'. -/
def unitsOrderUptoCard : Claim7 := { stood := { row := unitsOrderUptoRow, standIns := [], harness := (true, "4eb7bb992882d008e1690e7160f3de111488fd43bce8884e5c85594a9fff617d"), looks := true }, kinds := [], alts := [], laidByText := true, laidKinds := [.data], laidTests := true, laidLooks := .later }
def UnitsOrderUptoCardSaid : Prop := Claim7.holds Tryd.pinned (.plain (OpenSpec.upto unitsOrderSpec)) unitsOrderUptoCard

/-- THE SECOND FORM's CARD OF 'gantrylaw16.UnitsTurn'. -/
def unitsTurnUptoCard : Claim7 := { stood := { row := unitsTurnUptoRow, standIns := [], harness := (true, "4eb7bb992882d008e1690e7160f3de111488fd43bce8884e5c85594a9fff617d"), looks := true }, kinds := [], alts := [], laidByText := true, laidKinds := [.data], laidTests := true, laidLooks := .later }
def UnitsTurnUptoCardSaid : Prop := Claim7.holds Tryd.pinned (.plain (OpenSpec.upto unitsTurnSpec)) unitsTurnUptoCard

/-- THE SECOND FORM's CARD OF 'gantrylaw16.UnitsOnce'. -/
def unitsOnceUptoCard : Claim7 := { stood := { row := unitsOnceUptoRow, standIns := [], harness := (true, "4eb7bb992882d008e1690e7160f3de111488fd43bce8884e5c85594a9fff617d"), looks := true }, kinds := [], alts := [], laidByText := true, laidKinds := [.data], laidTests := true, laidLooks := .later }
def UnitsOnceUptoCardSaid : Prop := Claim7.holds Tryd.pinned (.plain (OpenSpec.upto unitsOnceSpec)) unitsOnceUptoCard
end Rows
end Go.Proofs.YtaiclnlpehfdjaaDoor
