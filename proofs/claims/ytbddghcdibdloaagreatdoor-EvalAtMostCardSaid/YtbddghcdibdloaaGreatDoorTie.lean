/-
  DERIVED. GIVEN WITH THE SEED: THE PROGRAM's TIES (one call each: nine closed facts by the kernel) AND EACH ROW's TIE, after the 31st guide's Derived/Test/Toyas{Tie, Card}.lean. No idea stands in it: it is a product of the set-up. Laid BY PROGRAM, IN A SANDBOX (cutbox-door.mjs). By AI agents, Wed Nov 11 2026. No macro, syntax, notation, axiom, sorry.
-/
import Derived.Test.YtbddghcdibdloaaGreatDoorRows
import Derived.LaidByTextLater
import Derived.SevenTiedAt
import Derived.LaidSub
import Derived.LaidOnce
namespace Go.Proofs.YtbddghcdibdloaaGreatDoor
open Go
set_option maxRecDepth 100000
theorem seatTie1 : Tryz.prog.laidByTextLater [("gantry/lex.signs", Rows.laid_gantry_lex_signs), ("gantry/lex.inBars", Rows.laid_gantry_lex_inBars), ("gantry/sig.always", Rows.laid_gantry_sig_always), ("gantry/term.lens", Rows.laid_gantry_term_lens), ("gantry/typing.rules", Rows.laid_gantry_typing_rules)] [.wider, .wider, .data, .data, .data] true :=
  Program.laidByTextLater_by_one 60 8 66 (by kernel_rfl) (by kernel_rfl) (by kernel_rfl) (by kernel_rfl) (by kernel_rfl) (by kernel_rfl) (fun _ _ => by kernel_rfl)
theorem noOwnUnsafe : Tryz.pinned.checked.prog.headLifts.contains "ownunsafe" = false := by kernel_rfl
theorem tie : Tryz.prog.laidByTextLater [("gantry/lex.signs", Rows.laid_gantry_lex_signs), ("gantry/lex.inBars", Rows.laid_gantry_lex_inBars), ("gantry/sig.always", Rows.laid_gantry_sig_always), ("gantry/term.lens", Rows.laid_gantry_term_lens), ("gantry/typing.rules", Rows.laid_gantry_typing_rules)] [.wider, .wider, .data, .data, .data] true :=
  Program.laidByTextLater.sub seatTie1 ["gantry/lex.signs", "gantry/lex.inBars", "gantry/sig.always", "gantry/term.lens", "gantry/typing.rules"] (by kernel_rfl) (by kernel_rfl)
theorem evalAtMost_row_tie : Rows.evalAtMostRow.laidByTextAt .later Tryz.pinned [.wider, .wider, .data, .data, .data] true :=
  OpenClaim.laidByTextAt_later rfl rfl tie noOwnUnsafe
theorem evalAtMostUpto_row_tie : Rows.evalAtMostUptoRow.laidByTextAt .later Tryz.pinned [.wider, .wider, .data, .data, .data] true :=
  OpenClaim.laidByTextAt_later rfl rfl tie noOwnUnsafe
end Go.Proofs.YtbddghcdibdloaaGreatDoor
