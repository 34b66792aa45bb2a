/-
  DERIVED. GIVEN WITH THE SEED: THE CARDS: each row of YtdpogjkfmncnlaaDoorRows.lean that lists a variable, with what it lists TIED to the program's text (the seventh form; the later family's looks); each row that meets fmt, with fmt's text TOLD by the authors' own Lean function (tested against real Go, not proved from fmt's source: count such statements apart). THE CARD IS WHAT COUNTS. Prove the row's statement (the work); the ties are given (YtdpogjkfmncnlaaDoorTie.lean); close each card by the builder's one call (the guide's Derived/Test/ToyasCard.lean, 'card_holds'). Laid BY PROGRAM, IN A SANDBOX (cutbox-door.mjs). By AI agents, Wed Nov 11 2026. No macro, syntax, notation, axiom, sorry.
-/
import Derived.Test.YtdpogjkfmncnlaaDoorRows
import GoSem.ClaimSeven
namespace Go.Proofs.YtdpogjkfmncnlaaDoor
namespace Rows

/-- THE TIED CARD OF 'gantrylaw02.LexStands'. -/
def lexStandsCard : Claim7 := { stood := { row := lexStandsRow, standIns := [], harness := (true, "38170230b24a8087a15b94bc7a778e2a852e647d6759de7d10266108fc2e3bc2"), looks := false }, kinds := [], alts := [], laidByText := true, laidKinds := [.wider, .wider, .wider, .wider], laidTests := true, laidLooks := .later }
def LexStandsCardSaid : Prop := Claim7.holds Tryd.pinned (.plain (OpenSpec.ofChange lexStandsSpec)) lexStandsCard

/-- THE TIED CARD OF 'gantrylaw02.LexBack'. -/
def lexBackCard : Claim7 := { stood := { row := lexBackRow, standIns := [], harness := (true, "38170230b24a8087a15b94bc7a778e2a852e647d6759de7d10266108fc2e3bc2"), looks := false }, kinds := [], alts := [], laidByText := true, laidKinds := [.wider, .wider, .wider, .wider], laidTests := true, laidLooks := .later }
def LexBackCardSaid : Prop := Claim7.holds Tryd.pinned (.plain (OpenSpec.ofChange lexBackSpec)) lexBackCard

/-- THE TIED CARD OF 'gantrylaw02.LexGlue'. -/
def lexGlueCard : Claim7 := { stood := { row := lexGlueRow, standIns := [], harness := (true, "38170230b24a8087a15b94bc7a778e2a852e647d6759de7d10266108fc2e3bc2"), looks := false }, kinds := [], alts := [], laidByText := true, laidKinds := [.wider, .wider, .wider, .wider], laidTests := true, laidLooks := .later }
def LexGlueCardSaid : Prop := Claim7.holds Tryd.pinned (.plain (OpenSpec.ofChange lexGlueSpec)) lexGlueCard

/-- THE TIED CARD OF 'gantrylaw02.LexSkips'. -/
def lexSkipsCard : Claim7 := { stood := { row := lexSkipsRow, standIns := [], harness := (true, "38170230b24a8087a15b94bc7a778e2a852e647d6759de7d10266108fc2e3bc2"), looks := false }, kinds := [], alts := [], laidByText := true, laidKinds := [.wider, .wider, .wider, .wider], laidTests := true, laidLooks := .later }
def LexSkipsCardSaid : Prop := Claim7.holds Tryd.pinned (.plain (OpenSpec.ofChange lexSkipsSpec)) lexSkipsCard

/-- THE SECOND FORM's CARD OF 'gantrylaw02.LexStands'. -/
def lexStandsUptoCard : Claim7 := { stood := { row := lexStandsUptoRow, standIns := [], harness := (true, "38170230b24a8087a15b94bc7a778e2a852e647d6759de7d10266108fc2e3bc2"), looks := false }, kinds := [], alts := [], laidByText := true, laidKinds := [.wider, .wider, .wider, .wider], laidTests := true, laidLooks := .later }
def LexStandsUptoCardSaid : Prop := Claim7.holds Tryd.pinned (.plain (OpenSpec.upto lexStandsSpec)) lexStandsUptoCard

/-- THE SECOND FORM's CARD OF 'gantrylaw02.LexBack'. -/
def lexBackUptoCard : Claim7 := { stood := { row := lexBackUptoRow, standIns := [], harness := (true, "38170230b24a8087a15b94bc7a778e2a852e647d6759de7d10266108fc2e3bc2"), looks := false }, kinds := [], alts := [], laidByText := true, laidKinds := [.wider, .wider, .wider, .wider], laidTests := true, laidLooks := .later }
def LexBackUptoCardSaid : Prop := Claim7.holds Tryd.pinned (.plain (OpenSpec.upto lexBackSpec)) lexBackUptoCard

/-- THE SECOND FORM's CARD OF 'gantrylaw02.LexGlue'. -/
def lexGlueUptoCard : Claim7 := { stood := { row := lexGlueUptoRow, standIns := [], harness := (true, "38170230b24a8087a15b94bc7a778e2a852e647d6759de7d10266108fc2e3bc2"), looks := false }, kinds := [], alts := [], laidByText := true, laidKinds := [.wider, .wider, .wider, .wider], laidTests := true, laidLooks := .later }
def LexGlueUptoCardSaid : Prop := Claim7.holds Tryd.pinned (.plain (OpenSpec.upto lexGlueSpec)) lexGlueUptoCard

/-- THE SECOND FORM's CARD OF 'gantrylaw02.LexSkips'. -/
def lexSkipsUptoCard : Claim7 := { stood := { row := lexSkipsUptoRow, standIns := [], harness := (true, "38170230b24a8087a15b94bc7a778e2a852e647d6759de7d10266108fc2e3bc2"), looks := false }, kinds := [], alts := [], laidByText := true, laidKinds := [.wider, .wider, .wider, .wider], laidTests := true, laidLooks := .later }
def LexSkipsUptoCardSaid : Prop := Claim7.holds Tryd.pinned (.plain (OpenSpec.upto lexSkipsSpec)) lexSkipsUptoCard
end Rows
end Go.Proofs.YtdpogjkfmncnlaaDoor
