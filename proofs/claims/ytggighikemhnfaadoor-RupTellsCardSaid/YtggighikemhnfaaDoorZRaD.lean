/- ref16's Closes, Implies; units' Values. -/
import Derived.Test.YtggighikemhnfaaDoorZRaC
namespace Go.Proofs.YtggighikemhnfaaDoor.Tm
open Go.RowKit Go.Lib
set_option linter.unusedVariables false
theorem flat_sum {rs : List RowD} (h : ∀ y ∈ rs, y.xs.length ≤ 20) : (rs.map (·.xs)).flatten.length ≤ 20 * rs.length := by
  induction rs with
  | nil => simp
  | cons y r ih =>
    rw [List.map_cons, List.flatten_cons, List.length_append, List.length_cons]
    have := h y (by simp)
    have := ih (fun z hz => h z (by simp [hz]))
    omega
theorem RCloses_any (rs : List RowD) (a : Option Addr) (c : Nat) (gs : List Int) (a2 : Option Addr) (c2 : Nat) (cls : List (List Int)) (w : World) (hcl : rs.map (·.xs) = cls) (hR : RowsR w rs a c) (hA : IntsR w gs a2 c2) (hl : rs.length ≤ 1000) (hl2 : ∀ y ∈ rs, y.xs.length ≤ 1000) :
    Calls Tryd.prog 18 #[.slice a rs.length c, .slice a2 gs.length c2] w fun e w' => (∃ r k q, RunRel cls gs r k ∧ e = .returned (.bool q) ∧ q = decide (k ≠ -1)) ∧ Below w.heap.size w w' := by
  have HR := Lib.hid (RRun_any rs a c gs a2 c2 cls w hcl hR hA hl hl2)
  clear hcl hR hA hl hl2
  go_enter Tryd.func18, Tryd.ntmps18
  go_wp2_with fail
  with_reducible refine HR.out.mono ?_
  rintro e w1 ⟨r, k, a', c', rfl, h1, h3⟩
  have HX := Lib.hid (And.intro h1.out.1 h3.out)
  clear h1 h3
  by_cases hk : k = -1
  · have e1 : (k != -1) = false := ne_f hk
    have HQ : Hid (false = decide (k ≠ -1)) := (decide_eq_false (fun e => e hk)).symm
    clear hk
    go_wp2
    go_ret
    exact ⟨⟨r, k, false, HX.out.1, rfl, HQ.out⟩, HX.out.2⟩
  · have e1 : (k != -1) = true := ne_t hk
    have HQ : Hid (true = decide (k ≠ -1)) := (decide_eq_true hk).symm
    clear hk
    go_wp2
    go_ret
    exact ⟨⟨r, k, true, HX.out.1, rfl, HQ.out⟩, HX.out.2⟩
end Go.Proofs.YtggighikemhnfaaDoor.Tm
