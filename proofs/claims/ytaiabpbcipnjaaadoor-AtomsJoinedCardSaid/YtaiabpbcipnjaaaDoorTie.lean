/-
  DERIVED. GIVEN WITH THE SEED: THE PROGRAM's TIES (one call each: nine closed facts by the kernel) AND EACH ROW's TIE, after the 31st guide's Derived/Test/Toyas{Tie, Card}.lean. No idea stands in it: it is a product of the set-up. Laid BY PROGRAM, IN A SANDBOX (cutbox-door.mjs). By AI agents, Wed Nov 11 2026. No macro, syntax, notation, axiom, sorry.
-/
import Derived.Test.YtaiabpbcipnjaaaDoorRows
import Derived.LaidByTextLater
import Derived.SevenTiedAt
import Derived.LaidSub
import Derived.LaidOnce
namespace Go.Proofs.YtaiabpbcipnjaaaDoor
open Go
set_option maxRecDepth 100000
theorem seatTie1 : Tryd.prog.laidByTextLater [("gantry/term.lens", Rows.laid_gantry_term_lens), ("gantry/atoms.kinds", Rows.laid_gantry_atoms_kinds), ("gantry/atoms.equalities", Rows.laid_gantry_atoms_equalities)] [.data, .data, .data] true :=
  Program.laidByTextLater_by_one 24 8 15 (by kernel_rfl) (by kernel_rfl) (by kernel_rfl) (by kernel_rfl) (by kernel_rfl) (by kernel_rfl) (fun _ _ => by kernel_rfl)
theorem noOwnUnsafe : Tryd.pinned.checked.prog.headLifts.contains "ownunsafe" = false := by kernel_rfl
theorem tie : Tryd.prog.laidByTextLater [("gantry/term.lens", Rows.laid_gantry_term_lens), ("gantry/atoms.kinds", Rows.laid_gantry_atoms_kinds), ("gantry/atoms.equalities", Rows.laid_gantry_atoms_equalities)] [.data, .data, .data] true :=
  Program.laidByTextLater.sub seatTie1 ["gantry/term.lens", "gantry/atoms.kinds", "gantry/atoms.equalities"] (by kernel_rfl) (by kernel_rfl)
theorem atomsLits_row_tie : Rows.atomsLitsRow.laidByTextAt .later Tryd.pinned [.data, .data, .data] true :=
  OpenClaim.laidByTextAt_later rfl rfl tie noOwnUnsafe
theorem atomsJoined_row_tie : Rows.atomsJoinedRow.laidByTextAt .later Tryd.pinned [.data, .data, .data] true :=
  OpenClaim.laidByTextAt_later rfl rfl tie noOwnUnsafe
theorem atomsLitsUpto_row_tie : Rows.atomsLitsUptoRow.laidByTextAt .later Tryd.pinned [.data, .data, .data] true :=
  OpenClaim.laidByTextAt_later rfl rfl tie noOwnUnsafe
theorem atomsJoinedUpto_row_tie : Rows.atomsJoinedUptoRow.laidByTextAt .later Tryd.pinned [.data, .data, .data] true :=
  OpenClaim.laidByTextAt_later rfl rfl tie noOwnUnsafe
end Go.Proofs.YtaiabpbcipnjaaaDoor
