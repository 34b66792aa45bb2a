/- RupMore. -/
import Derived.Test.YtggighikemhnfaaDoorZRcF
namespace Go.Proofs.YtggighikemhnfaaDoor.Tm
open Go.RowKit
set_option linter.unusedVariables false
theorem core_len {cls : List (List Int)} {c : List Int} : ∀ n K, (coreF cls c n K).length ≤ n + K.length
  | 0, K => by unfold coreF; omega
  | n + 1, K => by
    unfold coreF
    split
    · have := core_len (cls := cls) (c := c) n K
      omega
    · have := core_len (cls := cls) (c := c) n (n :: K)
      rw [List.length_cons] at this
      omega
theorem CoreP.facts {cls : List (List Int)} {c : List Int} {P : List Nat} (h : CoreP cls c P) (hF : Fol cls c) : Fol (sel cls P) c ∧ P.Pairwise (· < ·) ∧ (∀ x ∈ P, x < cls.length) ∧ P.length ≤ cls.length := by
  rcases h with ⟨h1, _⟩ | ⟨_, rfl⟩
  · exact absurd hF h1
  · obtain ⟨h2, h3, h4⟩ := core_inv (cls := cls) (c := c) cls.length [] (Nat.le_refl _) (hF.mono (fun d hd => List.mem_append_left _ (by rw [List.take_of_length_le (Nat.le_refl _)]; exact hd))) (fun x hx => by cases hx) List.Pairwise.nil
    exact ⟨h2, h3, h4, by simpa using core_len (cls := cls) (c := c) cls.length []⟩
end Go.Proofs.YtggighikemhnfaaDoor.Tm
