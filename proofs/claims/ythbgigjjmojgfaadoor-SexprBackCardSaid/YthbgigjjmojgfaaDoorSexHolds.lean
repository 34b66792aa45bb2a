/- The path of rows around an expression: none of them is a list that is within itself. -/
import Derived.Test.YthbgigjjmojgfaaDoorSexAux
import Derived.BigQuiet
import Derived.LaidEqlPtr
namespace Go.Proofs.YthbgigjjmojgfaaDoor
open Go.RowKit
/-- A row that is not the one at (a, n). -/
def NotRow (a : Option Addr) (n : Nat) (qa : Option Addr) (qn : Nat) : Prop :=
  qn ≠ n ∨ ∃ b o b' o', qa = some ⟨b, o, none⟩ ∧ a = some ⟨b', o', none⟩ ∧ ¬ (b = b' ∧ o = o') ∧ 0 < n
theorem sexSize : (Tryd.prog.info? 26).map (·.size) = some 3 := by kernel_rfl
theorem holds_any (g m cap : Nat) (a : Option Addr) (n c : Nat) (w : World) (h1 : 1 ≤ m) (h2 : m < 256)
    (hc : ∀ k, k < m → ∃ qa qn qc, w.cell? ⟨g, k * 2, none⟩ = some (.slice qa qn qc) ∧ NotRow a n qa qn ∧ ∀ b o, qa = some ⟨b, o, none⟩ → ∃ cs ty, w.heap[b]? = some (.cells cs ty (0, 0)))
    (hf : 0 < n → ∀ b o, a = some ⟨b, o, none⟩ → ∃ cs ty, w.heap[b]? = some (.cells cs ty (0, 0))) :
    Calls Tryd.prog 49 #[.slice (some ⟨g, 0, none⟩) m cap, .slice a n c] w fun e w' => e = .returned (.bool false) ∧ Below w.heap.size w w' := by
  have HC := Lib.hid hc
  have HF2 := Lib.hid hf
  clear hc hf
  go_enter Tryd.func49, Tryd.ntmps49
  go_wp2_with fail
  refine (Len_any m h1 h2 _).mono ?_
  rintro e w1 ⟨⟨L, rfl, h3, h4, h5⟩, rfl⟩
  have hp : 0 < 2 ^ (L - 1) := Nat.pow_pos (by omega)
  obtain ⟨k, hk⟩ : ∃ k : Nat, k = 2 ^ (L - 1) - 1 := ⟨_, rfl⟩
  have hkm : k < m := by omega
  have hw : wrap64 (wrap64 (2 ^ (L - 1)) - 1) = (k : Int) := by
    have e1 : (2 : Int) ^ (L - 1) = ((2 ^ (L - 1) : Nat) : Int) := by norm_cast
    rw [e1]
    unfold wrap64
    omega
  obtain ⟨qa, qn, qc, hcell, hnot, hfq⟩ := HC.out _ hkm
  have HF := Lib.hid hfq
  clear hfq
  clear hk hp h5
  rcases hnot with hne | ⟨b, o, b', o', rfl, rfl, hne, hpos⟩
  · have e2 := eq_false (x := (qn : Int)) (y := (n : Int)) (by omega)
    clear hne
    go_wp2
    go_quiet (fail)
    go_wp2
    go_ret
    exact ⟨rfl, below_drewN (Below.refl _ _) _⟩
  · by_cases hqn : qn = n
    · have e2 := eq_true_ (x := (qn : Int)) (y := (n : Int)) (by omega)
      subst hqn
      obtain ⟨j, hj, hjs⟩ := Option.map_eq_some_iff.1 sexSize
      have hn : (⟨b, o, none⟩ : Addr) ≠ ⟨b', o', none⟩ := fun e => hne (by cases e; exact ⟨rfl, rfl⟩)
      have hq0 : ∀ W : World, W.heap = w.heap → (Go.binOp .eql 98 (.pointer (some ⟨b, o, none⟩)) (.pointer (some ⟨b', o', none⟩))).run Tryd.prog W = .ok (.bool false) W := fun W hW => by
        obtain ⟨ca, ta, ha⟩ := HF.out b o rfl
        obtain ⟨cb, tb, hb⟩ := HF2.out hpos b' o' rfl
        exact run_eql_ptr_other W Tryd.underlying98 hj (by rw [hjs]; decide) hn (by rw [hW]; exact ha) (by rw [hW]; exact hb)
      have hq1 := hq0 w rfl
      have hq2 : ∀ k : Nat, _ := fun k => hq0 (w.drewN k) (by simp)
      clear hq0
      go_wp2
      go_quiet (fail)
      go_wp2
      go_ret
      exact ⟨rfl, below_drewN (Below.refl _ _) _⟩
    · have e2 := eq_false (x := (qn : Int)) (y := (n : Int)) (by omega)
      clear hqn
      go_wp2
      go_quiet (fail)
      go_wp2
      go_ret
      exact ⟨rfl, below_drewN (Below.refl _ _) _⟩
end Go.Proofs.YthbgigjjmojgfaaDoor
