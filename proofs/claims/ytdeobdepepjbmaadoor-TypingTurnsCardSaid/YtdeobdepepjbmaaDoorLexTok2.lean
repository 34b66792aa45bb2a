/- The method token of package lex's places, whatever its reader answers. -/
import Derived.Test.YtdeobdepepjbmaaDoorLexNum
import Derived.Lib.Strings
import Derived.Laws.EntriesVeiled
namespace Go.Proofs.YtdeobdepepjbmaaDoor
open Go.RowKit
end Go.Proofs.YtdeobdepepjbmaaDoor
namespace Go.Proofs.YtdeobdepepjbmaaDoor
open Go.RowKit
set_option linter.unusedVariables false
theorem Globs.drew {w : World} (h : Globs w) : Globs w.drew := ⟨h.signs, h.bars⟩
/-- What a reader answers at byte n. -/
def ReadsAs (f : Nat) (s : ByteArray) (n : Nat) (T : ByteArray) (E : Int) (ok : Bool) : Prop :=
  ∀ W : World, Globs W → Calls Tryd.prog f #[.agg #[.string s, .int .i64 n]] W fun e w' => e = .returned (.tuple #[.string T, .int .i64 E, .bool ok]) ∧ Below W.heap.size W w'
def tokenV (k : Int) (T : ByteArray) (n E : Int) (b : Bool) : Value := .tuple #[.agg #[.int .i8 k, .string T, .int .i64 n, .int .i64 E], .bool b]
end Go.Proofs.YtdeobdepepjbmaaDoor
