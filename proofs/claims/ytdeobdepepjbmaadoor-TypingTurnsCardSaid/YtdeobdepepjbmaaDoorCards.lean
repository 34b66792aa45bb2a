/-
  DERIVED. GIVEN WITH THE SEED: THE CARDS: each row of YtdeobdepepjbmaaDoorRows.lean that lists a variable, with what it lists TIED to the program's text (the seventh form; the later family's looks); each row that meets fmt, with fmt's text TOLD by the authors' own Lean function (tested against real Go, not proved from fmt's source: count such statements apart). THE CARD IS WHAT COUNTS. Prove the row's statement (the work); the ties are given (YtdeobdepepjbmaaDoorTie.lean); close each card by the builder's one call (the guide's Derived/Test/ToyasCard.lean, 'card_holds'). Laid BY PROGRAM, IN A SANDBOX (cutbox-door.mjs). By AI agents, Wed Nov 11 2026. No macro, syntax, notation, axiom, sorry.
-/
import Derived.Test.YtdeobdepepjbmaaDoorRows
import GoSem.ClaimSeven
namespace Go.Proofs.YtdeobdepepjbmaaDoor
namespace Rows

/-- THE TIED CARD OF 'gantrylaw06.TypingTells'. -/
def typingTellsCard : Claim7 := { stood := { row := typingTellsRow, standIns := [], harness := (true, "24574a84445ebc135f6e5b30924ee2667053447da9cf46a59c922160c7f89e2a"), looks := false }, kinds := [], alts := [], laidByText := true, laidKinds := [.wider, .wider, .data, .data, .data], laidTests := true, laidLooks := .later }
def TypingTellsCardSaid : Prop := Claim7.holds Tryd.pinned (.plain (OpenSpec.ofChange typingTellsSpec)) typingTellsCard

/-- THE TIED CARD OF 'gantrylaw06.TypingGrows'. -/
def typingGrowsCard : Claim7 := { stood := { row := typingGrowsRow, standIns := [], harness := (true, "24574a84445ebc135f6e5b30924ee2667053447da9cf46a59c922160c7f89e2a"), looks := false }, kinds := [], alts := [], laidByText := true, laidKinds := [.wider, .wider, .data, .data, .data], laidTests := true, laidLooks := .later }
def TypingGrowsCardSaid : Prop := Claim7.holds Tryd.pinned (.plain (OpenSpec.ofChange typingGrowsSpec)) typingGrowsCard

/-- THE TIED CARD OF 'gantrylaw06.TypingTurns'. -/
def typingTurnsCard : Claim7 := { stood := { row := typingTurnsRow, standIns := [], harness := (true, "24574a84445ebc135f6e5b30924ee2667053447da9cf46a59c922160c7f89e2a"), looks := false }, kinds := [], alts := [], laidByText := true, laidKinds := [.wider, .wider, .data, .data, .data], laidTests := true, laidLooks := .later }
def TypingTurnsCardSaid : Prop := Claim7.holds Tryd.pinned (.plain (OpenSpec.ofChange typingTurnsSpec)) typingTurnsCard

/-- THE SECOND FORM's CARD OF 'gantrylaw06.TypingTells'. -/
def typingTellsUptoCard : Claim7 := { stood := { row := typingTellsUptoRow, standIns := [], harness := (true, "24574a84445ebc135f6e5b30924ee2667053447da9cf46a59c922160c7f89e2a"), looks := false }, kinds := [], alts := [], laidByText := true, laidKinds := [.wider, .wider, .data, .data, .data], laidTests := true, laidLooks := .later }
def TypingTellsUptoCardSaid : Prop := Claim7.holds Tryd.pinned (.plain (OpenSpec.upto typingTellsSpec)) typingTellsUptoCard

/-- THE SECOND FORM's CARD OF 'gantrylaw06.TypingGrows'. -/
def typingGrowsUptoCard : Claim7 := { stood := { row := typingGrowsUptoRow, standIns := [], harness := (true, "24574a84445ebc135f6e5b30924ee2667053447da9cf46a59c922160c7f89e2a"), looks := false }, kinds := [], alts := [], laidByText := true, laidKinds := [.wider, .wider, .data, .data, .data], laidTests := true, laidLooks := .later }
def TypingGrowsUptoCardSaid : Prop := Claim7.holds Tryd.pinned (.plain (OpenSpec.upto typingGrowsSpec)) typingGrowsUptoCard

/-- THE SECOND FORM's CARD OF 'gantrylaw06.TypingTurns'. -/
def typingTurnsUptoCard : Claim7 := { stood := { row := typingTurnsUptoRow, standIns := [], harness := (true, "24574a84445ebc135f6e5b30924ee2667053447da9cf46a59c922160c7f89e2a"), looks := false }, kinds := [], alts := [], laidByText := true, laidKinds := [.wider, .wider, .data, .data, .data], laidTests := true, laidLooks := .later }
def TypingTurnsUptoCardSaid : Prop := Claim7.holds Tryd.pinned (.plain (OpenSpec.upto typingTurnsSpec)) typingTurnsUptoCard
end Rows
end Go.Proofs.YtdeobdepepjbmaaDoor
