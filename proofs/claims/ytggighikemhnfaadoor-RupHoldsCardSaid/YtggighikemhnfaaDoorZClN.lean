/- Assignments that a law makes of bools. -/
import Derived.Test.YtggighikemhnfaaDoorZClC
import Derived.Laws.MakeOwn
namespace Go.Proofs.YtggighikemhnfaaDoor.Tm
open Go.RowKit Go.Lib
set_option linter.unusedVariables false
end Go.Proofs.YtggighikemhnfaaDoor.Tm
namespace Go.Proofs.YtggighikemhnfaaDoor.Tm
open Go.RowKit Go.Lib
set_option linter.unusedVariables false
def valRow (vs : List Int) : Array Value := ⟨vs.map (Value.int .i8)⟩
theorem val_cell {w : World} {b : Nat} {vs : List Int} {ty : TypeId} (h : w.heap[b]? = some (.cells (valRow vs) ty (0, 0))) {i : Nat} {x : Int} (hx : vs[i]? = some x) : w.cell? ⟨b, i, none⟩ = some (.int .i8 x) := by
  rw [cell_of_row w b i _ _ _ h, ← Array.getElem?_toList]
  simp [valRow, hx]
theorem val_set {w : World} {b : Nat} {vs : List Int} {ty : TypeId} (h : w.heap[b]? = some (.cells (valRow vs) ty (0, 0))) (i : Nat) (x : Int) : (w.setCell ⟨b, i, none⟩ (.int .i8 x)).heap[b]? = some (.cells (valRow (vs.set i x)) ty (0, 0)) := by
  simp [World.setCell, Array.getElem?_modify, h, valRow, List.map_set]
theorem row_frozen {w : World} {b : Nat} {cs : Array Value} {ty : TypeId} (h : w.heap[b]? = some (.cells cs ty (0, 0))) (i : Nat) : w.frozen? ⟨b, i, none⟩ = false := by simp [World.frozen?, h]
theorem info_i8 : (Tryd.prog.info? 31).map (fun i => (i.zero, i.size, i.bytes)) = some (some (.int .i8 0), 1, 1) := by kernel_rfl
theorem made_val (k : Nat) : madeCells (Value.int .i8 0).cells (k * 1) = valRow (List.replicate k 0) := by
  apply Array.ext
  · simp [size_madeCells, valRow]
  · intro i h1 h2
    simp [madeCells, valRow, Value.cells, Nat.mod_one]
theorem make_val (c : Int) (k : Nat) (hc : c = k) (hk : k ≤ 2000) (w : World) : (Instr.makeSlice 29 (.int .i64 c) (.int .i64 c)).run Tryd.prog w = .ok (.slice (some ⟨w.heap.size, 0, none⟩) k k) (w.alloc (.cells (valRow (List.replicate k 0)) 31)) := by
  obtain ⟨i0, hi, hz0, hz1, hz2⟩ := info_parts info_i8
  have := run_make (P := Tryd.prog) w 29 31 i0 _ Tryd.underlying29 hi hz0 .i64 .i64 c c (by omega) (by omega) (by rw [hz2]; omega) (by omega)
  rw [hz1] at this
  subst hc
  rw [Int.toNat_natCast, made_val] at this
  exact this
end Go.Proofs.YtggighikemhnfaaDoor.Tm
