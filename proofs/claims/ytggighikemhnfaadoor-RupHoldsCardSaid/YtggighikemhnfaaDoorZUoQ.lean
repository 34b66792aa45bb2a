/- ref16's first. -/
import Derived.Test.YtggighikemhnfaaDoorZUoJ
import Derived.Test.YtggighikemhnfaaDoorZUoM
namespace Go.Proofs.YtggighikemhnfaaDoor.Tm
open Go.RowKit Go.Lib
set_option linter.unusedVariables false
def RowsO (w : World) (base : Nat) (M : List RowD) (v : Value) : Prop := w.ownsRow base 23 1 v M.length (M.map rowV)
theorem info_sl : (Tryd.prog.info? 23).map (fun i => (i.zero, i.size, i.bytes)) = some (some (.slice none 0 0), 1, 24) := by kernel_rfl
theorem RowsO.rows {w : World} {B : Nat} {M : List RowD} {a : Option Addr} {c : Nat} (h : RowsO w B M (.slice a M.length c)) (hok : ∀ r ∈ M, IntsR w r.xs r.a r.c) : RowsR w M a c := by
  obtain ⟨a', c', e, h1, h2, h3, _⟩ := own_at h
  cases e
  exact ⟨h1, h2, h3, hok⟩
end Go.Proofs.YtggighikemhnfaaDoor.Tm
namespace Go.Proofs.YtggighikemhnfaaDoor.Tm
open Go.RowKit Go.Lib
set_option linter.unusedVariables false
end Go.Proofs.YtggighikemhnfaaDoor.Tm
