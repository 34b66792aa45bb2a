/-
  DERIVED. GIVEN WITH THE SEED: THE PROGRAM's TIES (one call each: nine closed facts by the kernel) AND EACH ROW's TIE, after the 31st guide's Derived/Test/Toyas{Tie, Card}.lean. No idea stands in it: it is a product of the set-up. Laid BY PROGRAM, IN A SANDBOX (cutbox-door.mjs). By AI agents, Wed Nov 11 2026. No macro, syntax, notation, axiom, sorry.
-/
import Derived.Test.YthbgigjjmojgfaaDoorRows
import Derived.LaidByTextLater
import Derived.SevenTiedAt
import Derived.LaidSub
import Derived.LaidOnce
namespace Go.Proofs.YthbgigjjmojgfaaDoor
open Go
set_option maxRecDepth 100000
theorem seatTie1 : Tryd.prog.laidByTextLater [("gantry/lex.white", Rows.laid_gantry_lex_white), ("gantry/lex.digits", Rows.laid_gantry_lex_digits), ("gantry/lex.signs", Rows.laid_gantry_lex_signs), ("gantry/lex.inBars", Rows.laid_gantry_lex_inBars), ("gantry/sexpr.kinds", Rows.laid_gantry_sexpr_kinds)] [.wider, .wider, .wider, .wider, .data] true :=
  Program.laidByTextLater_by_one 34 8 6 (by kernel_rfl) (by kernel_rfl) (by kernel_rfl) (by kernel_rfl) (by kernel_rfl) (by kernel_rfl) (fun _ _ => by kernel_rfl)
theorem noOwnUnsafe : Tryd.pinned.checked.prog.headLifts.contains "ownunsafe" = false := by kernel_rfl
theorem tie : Tryd.prog.laidByTextLater [("gantry/lex.white", Rows.laid_gantry_lex_white), ("gantry/lex.digits", Rows.laid_gantry_lex_digits), ("gantry/lex.signs", Rows.laid_gantry_lex_signs), ("gantry/lex.inBars", Rows.laid_gantry_lex_inBars), ("gantry/sexpr.kinds", Rows.laid_gantry_sexpr_kinds)] [.wider, .wider, .wider, .wider, .data] true :=
  Program.laidByTextLater.sub seatTie1 ["gantry/lex.white", "gantry/lex.digits", "gantry/lex.signs", "gantry/lex.inBars", "gantry/sexpr.kinds"] (by kernel_rfl) (by kernel_rfl)
theorem sexprReads_row_tie : Rows.sexprReadsRow.laidByTextAt .later Tryd.pinned [.wider, .wider, .wider, .wider, .data] true :=
  OpenClaim.laidByTextAt_later rfl rfl tie noOwnUnsafe
theorem sexprTells_row_tie : Rows.sexprTellsRow.laidByTextAt .later Tryd.pinned [.wider, .wider, .wider, .wider, .data] true :=
  OpenClaim.laidByTextAt_later rfl rfl tie noOwnUnsafe
theorem sexprBack_row_tie : Rows.sexprBackRow.laidByTextAt .later Tryd.pinned [.wider, .wider, .wider, .wider, .data] true :=
  OpenClaim.laidByTextAt_later rfl rfl tie noOwnUnsafe
theorem sexprSpaces_row_tie : Rows.sexprSpacesRow.laidByTextAt .later Tryd.pinned [.wider, .wider, .wider, .wider, .data] true :=
  OpenClaim.laidByTextAt_later rfl rfl tie noOwnUnsafe
theorem sexprJoined_row_tie : Rows.sexprJoinedRow.laidByTextAt .later Tryd.pinned [.wider, .wider, .wider, .wider, .data] true :=
  OpenClaim.laidByTextAt_later rfl rfl tie noOwnUnsafe
theorem sexprReadsUpto_row_tie : Rows.sexprReadsUptoRow.laidByTextAt .later Tryd.pinned [.wider, .wider, .wider, .wider, .data] true :=
  OpenClaim.laidByTextAt_later rfl rfl tie noOwnUnsafe
theorem sexprTellsUpto_row_tie : Rows.sexprTellsUptoRow.laidByTextAt .later Tryd.pinned [.wider, .wider, .wider, .wider, .data] true :=
  OpenClaim.laidByTextAt_later rfl rfl tie noOwnUnsafe
theorem sexprBackUpto_row_tie : Rows.sexprBackUptoRow.laidByTextAt .later Tryd.pinned [.wider, .wider, .wider, .wider, .data] true :=
  OpenClaim.laidByTextAt_later rfl rfl tie noOwnUnsafe
theorem sexprSpacesUpto_row_tie : Rows.sexprSpacesUptoRow.laidByTextAt .later Tryd.pinned [.wider, .wider, .wider, .wider, .data] true :=
  OpenClaim.laidByTextAt_later rfl rfl tie noOwnUnsafe
theorem sexprJoinedUpto_row_tie : Rows.sexprJoinedUptoRow.laidByTextAt .later Tryd.pinned [.wider, .wider, .wider, .wider, .data] true :=
  OpenClaim.laidByTextAt_later rfl rfl tie noOwnUnsafe
end Go.Proofs.YthbgigjjmojgfaaDoor
