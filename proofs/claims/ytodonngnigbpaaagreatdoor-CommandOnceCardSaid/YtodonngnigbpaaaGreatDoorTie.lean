/-
  DERIVED. GIVEN WITH THE SEED: THE PROGRAM's TIES (one call each: nine closed facts by the kernel) AND EACH ROW's TIE, after the 31st guide's Derived/Test/Toyas{Tie, Card}.lean. No idea stands in it: it is a product of the set-up. Laid BY PROGRAM, IN A SANDBOX (cutbox-door.mjs). By AI agents, Wed Nov 11 2026. No macro, syntax, notation, axiom, sorry.
-/
import Derived.Test.YtodonngnigbpaaaGreatDoorRows
import Derived.LaidByTextLater
import Derived.SevenTiedAt
import Derived.LaidSub
import Derived.LaidOnce
namespace Go.Proofs.YtodonngnigbpaaaGreatDoor
open Go
set_option maxRecDepth 100000
theorem seatTie1 : Tryz.prog.laidByTextLater [("gantry/lex.digits", Rows.laid_gantry_lex_digits), ("gantry/lex.signs", Rows.laid_gantry_lex_signs), ("gantry/lex.inBars", Rows.laid_gantry_lex_inBars), ("gantry/command.heads", Rows.laid_gantry_command_heads)] [.wider, .wider, .wider, .data] true :=
  Program.laidByTextLater_by_one 29 8 14 (by kernel_rfl) (by kernel_rfl) (by kernel_rfl) (by kernel_rfl) (by kernel_rfl) (by kernel_rfl) (fun _ _ => by kernel_rfl)
theorem noOwnUnsafe : Tryz.pinned.checked.prog.headLifts.contains "ownunsafe" = false := by kernel_rfl
theorem tie : Tryz.prog.laidByTextLater [("gantry/lex.digits", Rows.laid_gantry_lex_digits), ("gantry/lex.signs", Rows.laid_gantry_lex_signs), ("gantry/lex.inBars", Rows.laid_gantry_lex_inBars), ("gantry/command.heads", Rows.laid_gantry_command_heads)] [.wider, .wider, .wider, .data] true :=
  Program.laidByTextLater.sub seatTie1 ["gantry/lex.digits", "gantry/lex.signs", "gantry/lex.inBars", "gantry/command.heads"] (by kernel_rfl) (by kernel_rfl)
theorem commandText_row_tie : Rows.commandTextRow.laidByTextAt .later Tryz.pinned [.wider, .wider, .wider, .data] true :=
  OpenClaim.laidByTextAt_later rfl rfl tie noOwnUnsafe
theorem commandOnce_row_tie : Rows.commandOnceRow.laidByTextAt .later Tryz.pinned [.wider, .wider, .wider, .data] true :=
  OpenClaim.laidByTextAt_later rfl rfl tie noOwnUnsafe
theorem commandTextUpto_row_tie : Rows.commandTextUptoRow.laidByTextAt .later Tryz.pinned [.wider, .wider, .wider, .data] true :=
  OpenClaim.laidByTextAt_later rfl rfl tie noOwnUnsafe
theorem commandOnceUpto_row_tie : Rows.commandOnceUptoRow.laidByTextAt .later Tryz.pinned [.wider, .wider, .wider, .data] true :=
  OpenClaim.laidByTextAt_later rfl rfl tie noOwnUnsafe
end Go.Proofs.YtodonngnigbpaaaGreatDoor
