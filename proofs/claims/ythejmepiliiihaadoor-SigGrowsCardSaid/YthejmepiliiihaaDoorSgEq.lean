/- Two arrays of three numbers that are alike are equal. -/
import Derived.Test.YthejmepiliiihaaDoorSgB
namespace Go.Proofs.YthejmepiliiihaaDoor
open Go.RowKit
set_option linter.unusedVariables false
theorem cInt1 : Tryd.prog.cellsOf 3 = 1 := by kernel_rfl
theorem szInt : (Tryd.prog.info? 3).map (·.size) = some 1 := by kernel_rfl
theorem eq3 (a b c : Int) (w : World) : (Op.equalIn 9999 27 (.agg #[.int .i64 a, .int .i64 b, .int .i64 c]) (.agg #[.int .i64 a, .int .i64 b, .int .i64 c])).run Tryd.prog w = .ok true w := by
  have hz : (sizeOf 3).run Tryd.prog w = .ok 1 w := by
    obtain ⟨i, hi, hi2⟩ := Option.map_eq_some_iff.1 szInt
    simp [sizeOf, typeInfo, hi, hi2]
  have he : ∀ (z : Int), (Op.equalIn 9998 3 (.int .i64 z) (.int .i64 z)).run Tryd.prog w = .ok true w := fun z => by
    have := run_equalIn_int (P := Tryd.prog) w 9997 3 .i64 .i64 z z Tryd.underlying3
    rw [this]; simp
  rw [Op.equalIn]
  have hr : List.range' 0 3 = [0, 1, 2] := rfl
  simp [run_underlying Tryd.underlying27, hz, he, hr, part]
end Go.Proofs.YthejmepiliiihaaDoor
