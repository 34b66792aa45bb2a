/-
  DERIVED. GIVEN WITH THE SEED: THE CARDS: each row of YthejmepiliiihaaDoorRows.lean that lists a variable, with what it lists TIED to the program's text (the seventh form; the later family's looks); each row that meets fmt, with fmt's text TOLD by the authors' own Lean function (tested against real Go, not proved from fmt's source: count such statements apart). THE CARD IS WHAT COUNTS. Prove the row's statement (the work); the ties are given (YthejmepiliiihaaDoorTie.lean); close each card by the builder's one call (the guide's Derived/Test/ToyasCard.lean, 'card_holds'). Laid BY PROGRAM, IN A SANDBOX (cutbox-door.mjs). By AI agents, Wed Nov 11 2026. No macro, syntax, notation, axiom, sorry.
-/
import Derived.Test.YthejmepiliiihaaDoorRows
import GoSem.ClaimSeven
namespace Go.Proofs.YthejmepiliiihaaDoor
namespace Rows

/-- THE TIED CARD OF 'gantrylaw04.SigGrows'. -/
def sigGrowsCard : Claim7 := { stood := { row := sigGrowsRow, standIns := [], harness := (true, "3479a94c56200cccfac4b85bda7938b37d19720377c1f63917d0f084867eb15b"), looks := false }, kinds := [], alts := [], laidByText := true, laidKinds := [.wider, .wider, .data], laidTests := true, laidLooks := .later }
def SigGrowsCardSaid : Prop := Claim7.holds Tryd.pinned (.plain (OpenSpec.ofChange sigGrowsSpec)) sigGrowsCard

/-- THE TIED CARD OF 'gantrylaw04.SigTwice'. -/
def sigTwiceCard : Claim7 := { stood := { row := sigTwiceRow, standIns := [], harness := (true, "3479a94c56200cccfac4b85bda7938b37d19720377c1f63917d0f084867eb15b"), looks := false }, kinds := [], alts := [], laidByText := true, laidKinds := [.wider, .wider, .data], laidTests := true, laidLooks := .later }
def SigTwiceCardSaid : Prop := Claim7.holds Tryd.pinned (.plain (OpenSpec.ofChange sigTwiceSpec)) sigTwiceCard

/-- THE SECOND FORM's CARD OF 'gantrylaw04.SigGrows'. -/
def sigGrowsUptoCard : Claim7 := { stood := { row := sigGrowsUptoRow, standIns := [], harness := (true, "3479a94c56200cccfac4b85bda7938b37d19720377c1f63917d0f084867eb15b"), looks := false }, kinds := [], alts := [], laidByText := true, laidKinds := [.wider, .wider, .data], laidTests := true, laidLooks := .later }
def SigGrowsUptoCardSaid : Prop := Claim7.holds Tryd.pinned (.plain (OpenSpec.upto sigGrowsSpec)) sigGrowsUptoCard

/-- THE SECOND FORM's CARD OF 'gantrylaw04.SigTwice'. -/
def sigTwiceUptoCard : Claim7 := { stood := { row := sigTwiceUptoRow, standIns := [], harness := (true, "3479a94c56200cccfac4b85bda7938b37d19720377c1f63917d0f084867eb15b"), looks := false }, kinds := [], alts := [], laidByText := true, laidKinds := [.wider, .wider, .data], laidTests := true, laidLooks := .later }
def SigTwiceUptoCardSaid : Prop := Claim7.holds Tryd.pinned (.plain (OpenSpec.upto sigTwiceSpec)) sigTwiceUptoCard
end Rows
end Go.Proofs.YthejmepiliiihaaDoor
