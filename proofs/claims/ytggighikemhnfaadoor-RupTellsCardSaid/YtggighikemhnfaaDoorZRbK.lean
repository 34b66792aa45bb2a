/- RupHolds. -/
import Derived.Test.YtggighikemhnfaaDoorZRbJ
import Derived.Test.YtggighikemhnfaaDoorZUoM
import Derived.Test.YtggighikemhnfaaDoorZUoO
namespace Go.Proofs.YtggighikemhnfaaDoor.Tm
open Go.RowKit
set_option linter.unusedVariables false
def FuK (w : World) (vs : List Int) (k : Nat) (U : World) : Prop := U.heap[w.heap.size]? = some (.cells (valRow vs) 31 (0, 0)) ∧ vs.length = 60 ∧ (∀ j v, j < k → vs[j]? = some v → v = 1 ∨ v = 2) ∧ Below w.heap.size w U
theorem FuK.put {w U : World} {vs : List Int} {k : Nat} {x : Int} (h : FuK w vs k U) (hx : x = 1 ∨ x = 2) : FuK w (vs.set k x) (k + 1) (U.setCell ⟨w.heap.size, k, none⟩ (.int .i8 x)) := by
  refine ⟨val_set h.1 k x, by rw [List.length_set]; exact h.2.1, fun j v hj hv => ?_, below_set h.2.2.2 (Nat.le_refl _) _⟩
  rw [List.getElem?_set] at hv
  by_cases e : k = j
  · rw [if_pos e] at hv
    split at hv
    · cases hv; exact hx
    · cases hv
  · rw [if_neg e] at hv
    exact h.2.2.1 j v (by omega) hv
end Go.Proofs.YtggighikemhnfaaDoor.Tm
