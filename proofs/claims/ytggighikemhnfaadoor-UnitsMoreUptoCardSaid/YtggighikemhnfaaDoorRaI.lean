/- How long a slice may be whose reading is of so much bulk. -/
import Derived.Test.YtggighikemhnfaaDoorTmOpen
import Derived.Test.YtggighikemhnfaaDoorRows
namespace Go.Proofs.YtggighikemhnfaaDoor.Tm
open Go.RowKit
set_option linter.unusedVariables false
theorem one_bulk {H : Type} (d : DataW H) : 1 ≤ Rows.uptoBulk d := by
  cases d with
  | lit l => cases l <;> simp [Rows.uptoBulk]
  | nil => simp [Rows.uptoBulk]
  | ptr d => simp [Rows.uptoBulk]
  | slice elems spare => simp [Rows.uptoBulk]
  | agg parts => simp [Rows.uptoBulk]
  | iface t d => simp [Rows.uptoBulk]
  | map entries => simp [Rows.uptoBulk]
  | held h => simp [Rows.uptoBulk]
theorem all_bulk {H : Type} (l : List (DataW H)) : l.length ≤ Rows.uptoBulkAll l := by
  induction l with
  | nil => simp
  | cons x r ih =>
    have := one_bulk x
    simp only [Rows.uptoBulkAll, List.length_cons]
    omega
theorem len_bulk {H : Type} {enc : TypeId × Value → H} {W : World} {sp : Nat → Bool} {held : Bool} {t e : TypeId} (hu : Tryd.prog.underlying t = some (.slice e)) {fuel len cap : Nat} {a : Option Addr} {x : DataW H × List MemPlace} (h : DataW.trod enc Tryd.prog W 0 sp held fuel t [.slice a len cap] = some x) : len ≤ Rows.uptoBulk x.1 := by
  rcases DataW.trod_slice hu h with ⟨e2, _⟩ | ⟨a', len', cap', elems, rest, m, _, e2, hx2, _, _, _, hel, _, _, _⟩
  · simp only [List.cons.injEq, and_true] at e2
    cases e2
    exact Nat.zero_le _
  · simp only [List.cons.injEq, and_true] at e2
    cases e2
    rw [hx2]
    simp only [Rows.uptoBulk]
    have := all_bulk (elems.map (·.1))
    rw [List.length_map] at this
    omega
end Go.Proofs.YtggighikemhnfaaDoor.Tm
