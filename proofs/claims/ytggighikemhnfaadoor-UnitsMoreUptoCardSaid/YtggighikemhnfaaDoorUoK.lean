/- UnitsOrder. -/
import Derived.Test.YtggighikemhnfaaDoorUoJ
namespace Go.Proofs.YtggighikemhnfaaDoor.Tm
open Go.RowKit Go.Lib
set_option linter.unusedVariables false
def RowsO (w : World) (base : Nat) (M : List RowD) (v : Value) : Prop := w.ownsRow base 23 1 v M.length (M.map rowV)
theorem info_sl : (Tryd.prog.info? 23).map (fun i => (i.zero, i.size, i.bytes)) = some (some (.slice none 0 0), 1, 24) := by kernel_rfl
theorem RowsO.rows {w : World} {B : Nat} {M : List RowD} {a : Option Addr} {c : Nat} (h : RowsO w B M (.slice a M.length c)) (hok : ∀ r ∈ M, IntsR w r.xs r.a r.c) : RowsR w M a c := by
  obtain ⟨a', c', e, h1, h2, h3, _⟩ := own_at h
  cases e
  exact ⟨h1, h2, h3, hok⟩
theorem psV_self {r : List Int} (h : PsI r) : psV r = r := by
  have : ∀ (g ps : List Int), PsI (ps ++ g) → g.foldl stepV ps = ps ++ g := fun g => by
    induction g with
    | nil => exact fun ps _ => by rw [List.append_nil]; rfl
    | cons x g ih =>
      intro ps h
      have hm := h.may x (by simp)
      have hn := List.nodup_append.1 h.nodup
      have h0 : valL ps x = 0 := by
        unfold valL
        rw [if_pos hm, if_neg (fun hx => hn.2.2 x hx x (by simp) rfl), if_neg (fun hx => h.cons x (by simp) (by simp [hx]))]
      rw [List.foldl_cons]
      unfold stepV
      rw [if_pos h0]
      have := ih (ps ++ [x]) (by rw [List.append_assoc]; exact h)
      rw [List.append_assoc] at this
      exact this
  exact this r [] h
end Go.Proofs.YtggighikemhnfaaDoor.Tm
