/- Package offset's node and put. -/
import Derived.Test.YtfbjgadgfjnamaaGreatDoorZOfB
import Derived.ScopeJumps
import Derived.WalkMore
import Derived.Deep.RegionHeld3
namespace Go.Proofs.YtfbjgadgfjnamaaGreatDoor.Tm
open Go.RowKit
set_option linter.unusedVariables false
/-- An OpAdd that may stand: one argument, which lies ahead. -/
theorem stands_add {n : NodeA} {k : Nat} (h : standsB n k = true) (ho : n.op = 11) : 0 ≤ n.a0 ∧ n.a0 < k ∧ mayB n.num = true ∧ n.len = 1 ∧ n.a1 = 0 ∧ n.a2 = 0 ∧ n.fn = 0 := by
  unfold standsB at h
  rw [decide_eq_true_eq] at h
  obtain ⟨⟨_, _, h3⟩, _, h4, h5, h6⟩ := h
  rw [if_neg (by omega), if_pos (by omega)] at h3
  obtain ⟨h7, h8, h9⟩ := h3
  have h10 : n.len = 1 := by rw [h7]; unfold arityA; rw [if_neg (by omega), if_pos (by omega)]
  have := h4.1 (by omega)
  exact ⟨this.1, this.2, h9, h10, h5.2 (by omega), h6.2 (by omega), h8⟩
end Go.Proofs.YtfbjgadgfjnamaaGreatDoor.Tm
namespace Go.Proofs.YtfbjgadgfjnamaaGreatDoor.Tm
open Go.RowKit
set_option linter.unusedVariables false
end Go.Proofs.YtfbjgadgfjnamaaGreatDoor.Tm
namespace Go.Proofs.YtfbjgadgfjnamaaGreatDoor.Tm
open Go.RowKit
set_option linter.unusedVariables false
end Go.Proofs.YtfbjgadgfjnamaaGreatDoor.Tm
namespace Go.Proofs.YtfbjgadgfjnamaaGreatDoor.Tm
open Go.RowKit
set_option linter.unusedVariables false
/-- A table's row is no box of a slice: a store there leaves it. -/
theorem TabR.box {w : World} {l : List NodeA} {a x : Option Addr} {c b n m : Nat} {ty : TypeId} (h : TabR w l a c) (hb : w.heap[b]? = some (.cells #[.slice x n m] ty (0, 0))) (v : Value) : TabR (w.setCell ⟨b, 0, none⟩ v) l a c := by
  refine ⟨h.le, h.cap, ?_, h.ok⟩
  cases l with
  | nil => exact fun h0 => absurd h0 (by simp)
  | cons y r =>
    obtain ⟨g, o, rfl, hg, q0, _⟩ := h.node (k := 0) (n := y) rfl
    have hne : g ≠ b := fun e => by
      subst e
      rw [cell_of_row _ _ _ _ _ _ hb] at q0
      cases o with
      | zero => simp at q0
      | succ o => simp at q0
    have hs : (w.setCell ⟨b, 0, none⟩ v).heap.size = w.heap.size := by simp
    rw [hs]
    exact h.tat.heap (fun g' o' e => by cases e; exact Below.heap_setCell _ _ _ _ hne)
end Go.Proofs.YtfbjgadgfjnamaaGreatDoor.Tm
