/-
  DERIVED. GIVEN WITH THE SEED: THE PROGRAM's TIES (one call each: nine closed facts by the kernel) AND EACH ROW's TIE, after the 31st guide's Derived/Test/Toyas{Tie, Card}.lean. No idea stands in it: it is a product of the set-up. Laid BY PROGRAM, IN A SANDBOX (cutbox-door.mjs). By AI agents, Wed Nov 11 2026. No macro, syntax, notation, axiom, sorry.
-/
import Derived.Test.YthejmepiliiihaaDoorRows
import Derived.LaidByTextLater
import Derived.SevenTiedAt
import Derived.LaidSub
import Derived.LaidOnce
namespace Go.Proofs.YthejmepiliiihaaDoor
open Go
set_option maxRecDepth 100000
theorem seatTie1 : Tryd.prog.laidByTextLater [("gantry/lex.signs", Rows.laid_gantry_lex_signs), ("gantry/lex.inBars", Rows.laid_gantry_lex_inBars), ("gantry/sig.always", Rows.laid_gantry_sig_always)] [.wider, .wider, .data] true :=
  Program.laidByTextLater_by_one 24 8 5 (by kernel_rfl) (by kernel_rfl) (by kernel_rfl) (by kernel_rfl) (by kernel_rfl) (by kernel_rfl) (fun _ _ => by kernel_rfl)
theorem noOwnUnsafe : Tryd.pinned.checked.prog.headLifts.contains "ownunsafe" = false := by kernel_rfl
theorem tie : Tryd.prog.laidByTextLater [("gantry/lex.signs", Rows.laid_gantry_lex_signs), ("gantry/lex.inBars", Rows.laid_gantry_lex_inBars), ("gantry/sig.always", Rows.laid_gantry_sig_always)] [.wider, .wider, .data] true :=
  Program.laidByTextLater.sub seatTie1 ["gantry/lex.signs", "gantry/lex.inBars", "gantry/sig.always"] (by kernel_rfl) (by kernel_rfl)
theorem sigGrows_row_tie : Rows.sigGrowsRow.laidByTextAt .later Tryd.pinned [.wider, .wider, .data] true :=
  OpenClaim.laidByTextAt_later rfl rfl tie noOwnUnsafe
theorem sigTwice_row_tie : Rows.sigTwiceRow.laidByTextAt .later Tryd.pinned [.wider, .wider, .data] true :=
  OpenClaim.laidByTextAt_later rfl rfl tie noOwnUnsafe
theorem sigGrowsUpto_row_tie : Rows.sigGrowsUptoRow.laidByTextAt .later Tryd.pinned [.wider, .wider, .data] true :=
  OpenClaim.laidByTextAt_later rfl rfl tie noOwnUnsafe
theorem sigTwiceUpto_row_tie : Rows.sigTwiceUptoRow.laidByTextAt .later Tryd.pinned [.wider, .wider, .data] true :=
  OpenClaim.laidByTextAt_later rfl rfl tie noOwnUnsafe
end Go.Proofs.YthejmepiliiihaaDoor
