/- ref16's first in a run's words. -/
import Derived.Test.YtggighikemhnfaaDoorZUoQ
import Derived.Test.YtggighikemhnfaaDoorZUoO
namespace Go.Proofs.YtggighikemhnfaaDoor.Tm
open Go.RowKit Go.Lib
set_option linter.unusedVariables false
def MkF (xs m : List Int) : Prop := (∀ z, z ∈ m ↔ z ∈ xs ∧ mayU z = true) ∧ m.Nodup
def PlP (rs M : List RowD) (k : Nat) : Prop := M.length = k ∧ ∀ (j : Nat) (y m : RowD), rs[j]? = some y → M[j]? = some m → MkF y.xs m.xs
theorem PlP.step {rs M : List RowD} {k : Nat} {y m : RowD} (h : PlP rs M k) (hy : rs[k]? = some y) (hm : MkF y.xs m.xs) : PlP rs (M ++ [m]) (k + 1) := by
  refine ⟨by rw [List.length_append, h.1]; rfl, fun j y' m' h1 h2 => ?_⟩
  by_cases e : j < k
  · rw [List.getElem?_append_left (by rw [h.1]; exact e)] at h2
    exact h.2 j y' m' h1 h2
  · have hj : j = k := by
      have := (List.getElem?_eq_some_iff.1 h2).1
      rw [List.length_append, h.1] at this
      simp at this
      omega
    subst hj
    rw [List.getElem?_append_right (by rw [h.1]; exact Nat.le_refl _), h.1, Nat.sub_self] at h2
    cases h2
    rw [hy] at h1
    cases h1
    exact hm
end Go.Proofs.YtggighikemhnfaaDoor.Tm
namespace Go.Proofs.YtggighikemhnfaaDoor.Tm
open Go.RowKit Go.Lib
set_option linter.unusedVariables false
def PlC (cls : List (List Int)) (M : List RowD) : Prop := M.length = cls.length ∧ ∀ (j : Nat) (c : List Int) (m : RowD), cls[j]? = some c → M[j]? = some m → MkF c m.xs
theorem PlC.get {cls : List (List Int)} {M : List RowD} (h : PlC cls M) {j : Nat} {c : List Int} (hc : cls[j]? = some c) : ∃ m, M[j]? = some m ∧ MkF c m.xs := by
  have hj : j < M.length := by rw [h.1]; exact (List.getElem?_eq_some_iff.1 hc).1
  exact ⟨M[j], List.getElem?_eq_getElem hj, h.2 j c _ hc (List.getElem?_eq_getElem hj)⟩
theorem PsI.len {ps : List Int} (h : PsI ps) : ps.length ≤ 1048577 := by
  have := nodup_sub ps ((List.range 1048577).map (fun (n : Nat) => (n : Int))) h.nodup (fun x hx => by
    have h0 := mayU_iff.1 (h.may x hx)
    exact List.mem_map.2 ⟨x.toNat, List.mem_range.2 (by omega), by omega⟩)
  rw [List.length_map, List.length_range] at this
  exact this
end Go.Proofs.YtggighikemhnfaaDoor.Tm
