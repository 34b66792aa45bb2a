/-
  DERIVED. GIVEN WITH THE SEED: THE CARDS: each row of YtdjiebiobdhihaaDoorRows.lean that lists a variable, with what it lists TIED to the program's text (the seventh form; the later family's looks); each row that meets fmt, with fmt's text TOLD by the authors' own Lean function (tested against real Go, not proved from fmt's source: count such statements apart). THE CARD IS WHAT COUNTS. Prove the row's statement (the work); the ties are given (YtdjiebiobdhihaaDoorTie.lean); close each card by the builder's one call (the guide's Derived/Test/ToyasCard.lean, 'card_holds'). Laid BY PROGRAM, IN A SANDBOX (cutbox-door.mjs). By AI agents, Wed Nov 11 2026. No macro, syntax, notation, axiom, sorry.
-/
import Derived.Test.YtdjiebiobdhihaaDoorRows
import GoSem.ClaimSeven
namespace Go.Proofs.YtdjiebiobdhihaaDoor
namespace Rows

/-- THE TIED CARD OF 'gantrylaw05.TermOnce'. -/
def termOnceCard : Claim7 := { stood := { row := termOnceRow, standIns := [], harness := (true, "933d5940415ed441d251e6cc3abd20ef943d433b73a2f4027965867a866401d4"), looks := false }, kinds := [], alts := [], laidByText := true, laidKinds := [.data], laidTests := true, laidLooks := .later }
def TermOnceCardSaid : Prop := Claim7.holds Tryd.pinned (.plain (OpenSpec.ofChange termOnceSpec)) termOnceCard

/-- THE TIED CARD OF 'gantrylaw05.TermReaches'. -/
def termReachesCard : Claim7 := { stood := { row := termReachesRow, standIns := [], harness := (true, "933d5940415ed441d251e6cc3abd20ef943d433b73a2f4027965867a866401d4"), looks := false }, kinds := [], alts := [], laidByText := true, laidKinds := [.data], laidTests := true, laidLooks := .later }
def TermReachesCardSaid : Prop := Claim7.holds Tryd.pinned (.plain (OpenSpec.ofChange termReachesSpec)) termReachesCard

/-- THE TIED CARD OF 'gantrylaw05.TermTrees'. -/
def termTreesCard : Claim7 := { stood := { row := termTreesRow, standIns := [], harness := (true, "933d5940415ed441d251e6cc3abd20ef943d433b73a2f4027965867a866401d4"), looks := false }, kinds := [], alts := [], laidByText := true, laidKinds := [.data], laidTests := true, laidLooks := .later }
def TermTreesCardSaid : Prop := Claim7.holds Tryd.pinned (.plain (OpenSpec.ofChange termTreesSpec)) termTreesCard

/-- THE TIED CARD OF 'gantrylaw05.TermCuts'. -/
def termCutsCard : Claim7 := { stood := { row := termCutsRow, standIns := [], harness := (true, "933d5940415ed441d251e6cc3abd20ef943d433b73a2f4027965867a866401d4"), looks := false }, kinds := [], alts := [], laidByText := true, laidKinds := [.data], laidTests := true, laidLooks := .later }
def TermCutsCardSaid : Prop := Claim7.holds Tryd.pinned (.plain (OpenSpec.ofChange termCutsSpec)) termCutsCard

/-- THE SECOND FORM's CARD OF 'gantrylaw05.TermOnce'. -/
def termOnceUptoCard : Claim7 := { stood := { row := termOnceUptoRow, standIns := [], harness := (true, "933d5940415ed441d251e6cc3abd20ef943d433b73a2f4027965867a866401d4"), looks := false }, kinds := [], alts := [], laidByText := true, laidKinds := [.data], laidTests := true, laidLooks := .later }
def TermOnceUptoCardSaid : Prop := Claim7.holds Tryd.pinned (.plain (OpenSpec.upto termOnceSpec)) termOnceUptoCard

/-- THE SECOND FORM's CARD OF 'gantrylaw05.TermReaches'. -/
def termReachesUptoCard : Claim7 := { stood := { row := termReachesUptoRow, standIns := [], harness := (true, "933d5940415ed441d251e6cc3abd20ef943d433b73a2f4027965867a866401d4"), looks := false }, kinds := [], alts := [], laidByText := true, laidKinds := [.data], laidTests := true, laidLooks := .later }
def TermReachesUptoCardSaid : Prop := Claim7.holds Tryd.pinned (.plain (OpenSpec.upto termReachesSpec)) termReachesUptoCard

/-- THE SECOND FORM's CARD OF 'gantrylaw05.TermTrees'. -/
def termTreesUptoCard : Claim7 := { stood := { row := termTreesUptoRow, standIns := [], harness := (true, "933d5940415ed441d251e6cc3abd20ef943d433b73a2f4027965867a866401d4"), looks := false }, kinds := [], alts := [], laidByText := true, laidKinds := [.data], laidTests := true, laidLooks := .later }
def TermTreesUptoCardSaid : Prop := Claim7.holds Tryd.pinned (.plain (OpenSpec.upto termTreesSpec)) termTreesUptoCard

/-- THE SECOND FORM's CARD OF 'gantrylaw05.TermCuts'. -/
def termCutsUptoCard : Claim7 := { stood := { row := termCutsUptoRow, standIns := [], harness := (true, "933d5940415ed441d251e6cc3abd20ef943d433b73a2f4027965867a866401d4"), looks := false }, kinds := [], alts := [], laidByText := true, laidKinds := [.data], laidTests := true, laidLooks := .later }
def TermCutsUptoCardSaid : Prop := Claim7.holds Tryd.pinned (.plain (OpenSpec.upto termCutsSpec)) termCutsUptoCard
end Rows
end Go.Proofs.YtdjiebiobdhihaaDoor
