/- ref16's wide and put: int8 rows of one's own. -/
import Derived.Test.YtggighikemhnfaaDoorZUoF
import Derived.Test.YtggighikemhnfaaDoorZClN
import Derived.Deep.AppendLies
namespace Go.Proofs.YtggighikemhnfaaDoor.Tm
open Go.RowKit Go.Lib
set_option linter.unusedVariables false
def Row8 (w : World) (base : Nat) (L : List Int) (v : Value) : Prop := w.ownsRow base 31 1 v L.length (L.map (Value.int .i8))
theorem below_set {B g o : Nat} {w w' : World} (h : Below B w w') (hg : B ≤ g) (v : Value) : Below B w (w'.setCell ⟨g, o, none⟩ v) :=
  ⟨h.os, h.tape, h.output, by simpa using h.size, fun k hk => (Below.heap_setCell _ _ _ _ (fun e => by simp at e; omega)).trans (h.block k hk)⟩
/-- Blocks of other types than int8's stay as they are. -/
def Kp8 (w w' : World) : Prop := ∀ (g : Nat) (cs : Array Value) (t : TypeId) (fz : Nat × Nat), t ≠ 31 → w.heap[g]? = some (.cells cs t fz) → w'.heap[g]? = some (.cells cs t fz)
theorem Kp8.refl (w : World) : Kp8 w w := fun _ _ _ _ _ h => h
theorem Kp8.trans {w w1 w2 : World} (h : Kp8 w w1) (k : Kp8 w1 w2) : Kp8 w w2 := fun g cs t fz ht hg => k g cs t fz ht (h g cs t fz ht hg)
end Go.Proofs.YtggighikemhnfaaDoor.Tm
