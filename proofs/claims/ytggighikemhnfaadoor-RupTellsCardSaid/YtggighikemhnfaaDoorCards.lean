/-
  DERIVED. GIVEN WITH THE SEED: THE CARDS: each row of YtggighikemhnfaaDoorRows.lean that lists a variable, with what it lists TIED to the program's text (the seventh form; the later family's looks); each row that meets fmt, with fmt's text TOLD by the authors' own Lean function (tested against real Go, not proved from fmt's source: count such statements apart). THE CARD IS WHAT COUNTS. Prove the row's statement (the work); the ties are given (YtggighikemhnfaaDoorTie.lean); close each card by the builder's one call (the guide's Derived/Test/ToyasCard.lean, 'card_holds'). Laid BY PROGRAM, IN A SANDBOX (cutbox-door.mjs). By AI agents, Wed Nov 11 2026. No macro, syntax, notation, axiom, sorry.
-/
import Derived.Test.YtggighikemhnfaaDoorRows
import GoSem.ClaimSeven
namespace Go.Proofs.YtggighikemhnfaaDoor
namespace Rows

/-- THE TIED CARD OF 'gantrylaw16.UnitsRun'. -/
def unitsRunCard : Claim7 := { stood := { row := unitsRunRow, standIns := [], harness := (true, "ef958d7b4f1083a49634a6a009e468d1067731aa4f20c3ee596c02b8c1afc2da"), looks := true }, kinds := [], alts := [], laidByText := true, laidKinds := [.data], laidTests := true, laidLooks := .later }
def UnitsRunCardSaid : Prop := Claim7.holds Tryd.pinned (.plain (OpenSpec.ofChange unitsRunSpec)) unitsRunCard

/-- THE TIED CARD OF 'gantrylaw16.UnitsImply'. -/
def unitsImplyCard : Claim7 := { stood := { row := unitsImplyRow, standIns := [], harness := (true, "ef958d7b4f1083a49634a6a009e468d1067731aa4f20c3ee596c02b8c1afc2da"), looks := true }, kinds := [], alts := [], laidByText := true, laidKinds := [.data], laidTests := true, laidLooks := .later }
def UnitsImplyCardSaid : Prop := Claim7.holds Tryd.pinned (.plain (OpenSpec.ofChange unitsImplySpec)) unitsImplyCard

/-- THE TIED CARD OF 'gantrylaw16.UnitsMore'. -/
def unitsMoreCard : Claim7 := { stood := { row := unitsMoreRow, standIns := [], harness := (true, "ef958d7b4f1083a49634a6a009e468d1067731aa4f20c3ee596c02b8c1afc2da"), looks := true }, kinds := [], alts := [], laidByText := true, laidKinds := [.data], laidTests := true, laidLooks := .later }
def UnitsMoreCardSaid : Prop := Claim7.holds Tryd.pinned (.plain (OpenSpec.ofChange unitsMoreSpec)) unitsMoreCard

/-- THE TIED CARD OF 'gantrylaw17.RupTells'. -/
def rupTellsCard : Claim7 := { stood := { row := rupTellsRow, standIns := [], harness := (true, "ef958d7b4f1083a49634a6a009e468d1067731aa4f20c3ee596c02b8c1afc2da"), looks := true }, kinds := [], alts := [], laidByText := true, laidKinds := [.data], laidTests := true, laidLooks := .later }
def RupTellsCardSaid : Prop := Claim7.holds Tryd.pinned (.plain (OpenSpec.ofChange rupTellsSpec)) rupTellsCard

/-- THE TIED CARD OF 'gantrylaw17.RupHolds'. -/
def rupHoldsCard : Claim7 := { stood := { row := rupHoldsRow, standIns := [], harness := (true, "ef958d7b4f1083a49634a6a009e468d1067731aa4f20c3ee596c02b8c1afc2da"), looks := true }, kinds := [], alts := [], laidByText := true, laidKinds := [.data], laidTests := true, laidLooks := .later }
def RupHoldsCardSaid : Prop := Claim7.holds Tryd.pinned (.plain (OpenSpec.ofChange rupHoldsSpec)) rupHoldsCard

/-- THE TIED CARD OF 'gantrylaw17.RupMore'. -/
def rupMoreCard : Claim7 := { stood := { row := rupMoreRow, standIns := [], harness := (true, "ef958d7b4f1083a49634a6a009e468d1067731aa4f20c3ee596c02b8c1afc2da"), looks := true }, kinds := [], alts := [], laidByText := true, laidKinds := [.data], laidTests := true, laidLooks := .later }
def RupMoreCardSaid : Prop := Claim7.holds Tryd.pinned (.plain (OpenSpec.ofChange rupMoreSpec)) rupMoreCard

/-- THE TIED CARD OF 'gantrylaw17.RupParts'. -/
def rupPartsCard : Claim7 := { stood := { row := rupPartsRow, standIns := [], harness := (true, "ef958d7b4f1083a49634a6a009e468d1067731aa4f20c3ee596c02b8c1afc2da"), looks := true }, kinds := [], alts := [], laidByText := true, laidKinds := [.data], laidTests := true, laidLooks := .later }
def RupPartsCardSaid : Prop := Claim7.holds Tryd.pinned (.plain (OpenSpec.ofChange rupPartsSpec)) rupPartsCard

/-- THE SECOND FORM's CARD OF 'gantrylaw16.UnitsRun'. -/
def unitsRunUptoCard : Claim7 := { stood := { row := unitsRunUptoRow, standIns := [], harness := (true, "ef958d7b4f1083a49634a6a009e468d1067731aa4f20c3ee596c02b8c1afc2da"), looks := true }, kinds := [], alts := [], laidByText := true, laidKinds := [.data], laidTests := true, laidLooks := .later }
def UnitsRunUptoCardSaid : Prop := Claim7.holds Tryd.pinned (.plain (OpenSpec.upto unitsRunSpec)) unitsRunUptoCard

/-- THE SECOND FORM's CARD OF 'gantrylaw16.UnitsImply'. -/
def unitsImplyUptoCard : Claim7 := { stood := { row := unitsImplyUptoRow, standIns := [], harness := (true, "ef958d7b4f1083a49634a6a009e468d1067731aa4f20c3ee596c02b8c1afc2da"), looks := true }, kinds := [], alts := [], laidByText := true, laidKinds := [.data], laidTests := true, laidLooks := .later }
def UnitsImplyUptoCardSaid : Prop := Claim7.holds Tryd.pinned (.plain (OpenSpec.upto unitsImplySpec)) unitsImplyUptoCard

/-- THE SECOND FORM's CARD OF 'gantrylaw16.UnitsMore'. -/
def unitsMoreUptoCard : Claim7 := { stood := { row := unitsMoreUptoRow, standIns := [], harness := (true, "ef958d7b4f1083a49634a6a009e468d1067731aa4f20c3ee596c02b8c1afc2da"), looks := true }, kinds := [], alts := [], laidByText := true, laidKinds := [.data], laidTests := true, laidLooks := .later }
def UnitsMoreUptoCardSaid : Prop := Claim7.holds Tryd.pinned (.plain (OpenSpec.upto unitsMoreSpec)) unitsMoreUptoCard

/-- THE SECOND FORM's CARD OF 'gantrylaw17.RupTells'. -/
def rupTellsUptoCard : Claim7 := { stood := { row := rupTellsUptoRow, standIns := [], harness := (true, "ef958d7b4f1083a49634a6a009e468d1067731aa4f20c3ee596c02b8c1afc2da"), looks := true }, kinds := [], alts := [], laidByText := true, laidKinds := [.data], laidTests := true, laidLooks := .later }
def RupTellsUptoCardSaid : Prop := Claim7.holds Tryd.pinned (.plain (OpenSpec.upto rupTellsSpec)) rupTellsUptoCard

/-- THE SECOND FORM's CARD OF 'gantrylaw17.RupHolds'. -/
def rupHoldsUptoCard : Claim7 := { stood := { row := rupHoldsUptoRow, standIns := [], harness := (true, "ef958d7b4f1083a49634a6a009e468d1067731aa4f20c3ee596c02b8c1afc2da"), looks := true }, kinds := [], alts := [], laidByText := true, laidKinds := [.data], laidTests := true, laidLooks := .later }
def RupHoldsUptoCardSaid : Prop := Claim7.holds Tryd.pinned (.plain (OpenSpec.upto rupHoldsSpec)) rupHoldsUptoCard

/-- THE SECOND FORM's CARD OF 'gantrylaw17.RupMore'. -/
def rupMoreUptoCard : Claim7 := { stood := { row := rupMoreUptoRow, standIns := [], harness := (true, "ef958d7b4f1083a49634a6a009e468d1067731aa4f20c3ee596c02b8c1afc2da"), looks := true }, kinds := [], alts := [], laidByText := true, laidKinds := [.data], laidTests := true, laidLooks := .later }
def RupMoreUptoCardSaid : Prop := Claim7.holds Tryd.pinned (.plain (OpenSpec.upto rupMoreSpec)) rupMoreUptoCard

/-- THE SECOND FORM's CARD OF 'gantrylaw17.RupParts'. -/
def rupPartsUptoCard : Claim7 := { stood := { row := rupPartsUptoRow, standIns := [], harness := (true, "ef958d7b4f1083a49634a6a009e468d1067731aa4f20c3ee596c02b8c1afc2da"), looks := true }, kinds := [], alts := [], laidByText := true, laidKinds := [.data], laidTests := true, laidLooks := .later }
def RupPartsUptoCardSaid : Prop := Claim7.holds Tryd.pinned (.plain (OpenSpec.upto rupPartsSpec)) rupPartsUptoCard
end Rows
end Go.Proofs.YtggighikemhnfaaDoor
