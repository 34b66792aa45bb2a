/- The document's kinds, and whether a node may stand. -/
import Derived.Test.YtjibhkgphahbaaaDoorTmA
import Derived.Test.YtjibhkgphahbaaaDoorNumMay
namespace Go.Proofs.YtjibhkgphahbaaaDoor.Tm
open Go.RowKit
set_option linter.unusedVariables false
theorem eq_t {a b : Int} (h : a = b) : (a == b) = true := by simp [h]
theorem eq_f {a b : Int} (h : ¬ a = b) : (a == b) = false := by simp [h]
theorem ne_t {a b : Int} (h : ¬ a = b) : (a != b) = true := by simp [h]
theorem ne_f {a b : Int} (h : a = b) : (a != b) = false := by simp [h]
theorem arity_any (op : Int) (w : World) : Calls Tryd.prog 39 #[.int .i8 op] w fun e w' => e = .returned (.int .i64 (arityA op)) ∧ w = w' := by
  obtain ⟨k, hk⟩ : ∃ k, arityA op = k := ⟨_, rfl⟩
  rw [hk]
  by_cases h : op = 0 ∨ op = 1 ∨ op = 2 ∨ op = 3 ∨ op = 4 ∨ op = 5 ∨ op = 6 ∨ op = 7 ∨ op = 8 ∨ op = 9 ∨ op = 10 ∨ op = 11 ∨ op = 12 ∨ op = 13
  · rcases h with rfl | rfl | rfl | rfl | rfl | rfl | rfl | rfl | rfl | rfl | rfl | rfl | rfl | rfl <;>
    · obtain rfl : _ = k := (show _ = k from hk)
      go_enter Tryd.func39, Tryd.ntmps39
      go_wp2
      go_ret
      exact ⟨rfl, rfl⟩
  · have hk2 : k = -2 := by rw [← hk]; unfold arityA; repeat (rw [if_neg (by omega)])
    subst hk2
    have e0 := eq_f (a := op) (b := 0) (by omega)
    have e1 := eq_f (a := op) (b := 1) (by omega)
    have e2 := eq_f (a := op) (b := 2) (by omega)
    have e3 := eq_f (a := op) (b := 3) (by omega)
    have e4 := eq_f (a := op) (b := 4) (by omega)
    have e5 := eq_f (a := op) (b := 5) (by omega)
    have e6 := eq_f (a := op) (b := 6) (by omega)
    have e7 := eq_f (a := op) (b := 7) (by omega)
    have e8 := eq_f (a := op) (b := 8) (by omega)
    have e9 := eq_f (a := op) (b := 9) (by omega)
    have e10 := eq_f (a := op) (b := 10) (by omega)
    have e11 := eq_f (a := op) (b := 11) (by omega)
    have e12 := eq_f (a := op) (b := 12) (by omega)
    have e13 := eq_f (a := op) (b := 13) (by omega)
    clear hk h
    go_enter Tryd.func39, Tryd.ntmps39
    go_wp2
    go_ret
    exact ⟨rfl, rfl⟩
end Go.Proofs.YtjibhkgphahbaaaDoor.Tm
