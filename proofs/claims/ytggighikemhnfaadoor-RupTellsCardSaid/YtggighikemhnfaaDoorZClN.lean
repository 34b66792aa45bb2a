/- Assignments that a law makes of bools. -/
import Derived.Test.YtggighikemhnfaaDoorZClC
import Derived.Laws.MakeOwn
namespace Go.Proofs.YtggighikemhnfaaDoor.Tm
open Go.RowKit Go.Lib
set_option linter.unusedVariables false
theorem len_fits {n cap : Nat} (h1 : n ≤ cap) (h2 : cap ≤ maxLen) : n ≤ 9223372036854775807 := by simp only [maxLen] at h2; omega
end Go.Proofs.YtggighikemhnfaaDoor.Tm
namespace Go.Proofs.YtggighikemhnfaaDoor.Tm
open Go.RowKit Go.Lib
set_option linter.unusedVariables false
def valRow (vs : List Int) : Array Value := ⟨vs.map (Value.int .i8)⟩
theorem val_set {w : World} {b : Nat} {vs : List Int} {ty : TypeId} (h : w.heap[b]? = some (.cells (valRow vs) ty (0, 0))) (i : Nat) (x : Int) : (w.setCell ⟨b, i, none⟩ (.int .i8 x)).heap[b]? = some (.cells (valRow (vs.set i x)) ty (0, 0)) := by
  simp [World.setCell, Array.getElem?_modify, h, valRow, List.map_set]
theorem row_frozen {w : World} {b : Nat} {cs : Array Value} {ty : TypeId} (h : w.heap[b]? = some (.cells cs ty (0, 0))) (i : Nat) : w.frozen? ⟨b, i, none⟩ = false := by simp [World.frozen?, h]
theorem info_i8 : (Tryd.prog.info? 31).map (fun i => (i.zero, i.size, i.bytes)) = some (some (.int .i8 0), 1, 1) := by kernel_rfl
end Go.Proofs.YtggighikemhnfaaDoor.Tm
