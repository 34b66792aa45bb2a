/- slices.Clone over nodes; begins, first. -/
import Derived.Test.YtaiabpbcipnjaaaDoorTmH
import Derived.Deep.CutRange
import Derived.Laws.Cover3
import Derived.Laws.Append
namespace Go.Proofs.YtaiabpbcipnjaaaDoor.Tm
open Go.RowKit
set_option linter.unusedVariables false
theorem below_grown {A B : World} (h : A.grownBy B none) : Below A.heap.size A B := ⟨h.os, h.tape, h.output, h.size, fun i hi => h.block i hi (by simp)⟩
theorem at_add {w : World} {L : List Value} {g o : Nat} (h : ∀ (i : Nat) (v : Value), L[i]? = some v → w.cell? ⟨g, o + i, none⟩ = some v) : ∀ j u, L[j]? = some u → w.cell? ((⟨g, o, none⟩ : Addr).add j) = some u := fun j u hu => by
  rw [Addr.add_lit]; exact h j u hu
theorem one_node (l : List NodeA) : ∀ u ∈ l.flatMap nodeC, u.oneCell' = true := by
  intro u hu
  obtain ⟨x, _, h⟩ := List.mem_flatMap.1 hu
  simp [nodeC] at h
  rcases h with rfl | rfl | rfl | rfl | rfl | rfl | rfl | rfl <;> rfl
theorem info_node : (Tryd.prog.info? 34).map (fun i => (i.zero, i.size, i.bytes)) = some (some (.agg #[.int .i8 0, .int .i8 0, .int .i64 0, .int .i64 0, .int .i64 0, .int .i64 0, .int .i64 0, .int .i64 0]), 8, 56) := by kernel_rfl
/-- What Clone answers: a row of its own. -/
def RowPost (w : World) (l : List NodeA) (e : Ending) (w' : World) : Prop := ∃ v, e = .returned v ∧ w'.ownsRow w.heap.size 34 8 v l.length (l.flatMap nodeC) ∧ Below w.heap.size w w'
theorem eql_nil (g o l c : Nat) (w : World) : (binOp .eql 22 (.slice (some ⟨g, o, none⟩) l c) (.slice none 0 0)).run Tryd.prog w = .ok (.bool false) w := by
  simp only [binOp]
  simp [run_equal_slice_nil w 22 34 (some ⟨g, o, none⟩) l c Tryd.underlying22]
end Go.Proofs.YtaiabpbcipnjaaaDoor.Tm
