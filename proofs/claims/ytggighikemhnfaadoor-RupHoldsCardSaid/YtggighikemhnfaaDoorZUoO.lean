/- ref15's Is; what is put holds wherever the clauses do. -/
import Derived.Test.YtggighikemhnfaaDoorZUoM
namespace Go.Proofs.YtggighikemhnfaaDoor.Tm
open Go.RowKit Go.Lib
set_option linter.unusedVariables false
theorem IntsR.dropAt {w : World} {xs : List Int} {g o c : Nat} (h : IntsR w xs (some ⟨g, o, none⟩) c) (k : Nat) (hk : k ≤ xs.length) : IntsR w (xs.drop k) (some ⟨g, o + k, none⟩) (c - k) := by
  refine ⟨by have := h.le; rw [List.length_drop]; omega, by have := h.cap; omega, fun h0 => ?_, fun x hx => h.ok x (List.mem_of_mem_drop hx)⟩
  obtain ⟨g', o', e, h1, h2⟩ := h.tat (by rw [List.length_map, List.length_drop] at h0; rw [List.length_map]; omega)
  cases e
  refine ⟨g, o + k, rfl, h1, fun i v hv => ?_⟩
  rw [List.map_drop, List.getElem?_drop] at hv
  rw [Nat.add_assoc]
  exact h2 (k + i) v hv
def MkP (xs : List Int) (k : Nat) (O : List Int) : Prop := (∀ y, y ∈ O ↔ ∃ j : Nat, j < k ∧ xs[j]? = some y ∧ 0 ≤ y) ∧ O.Nodup ∧ O.length ≤ k
theorem MkP.put {xs O : List Int} {k : Nat} {x : Int} (h : MkP xs k O) (hx : xs[k]? = some x) (h0 : 0 ≤ x) (hn : x ∉ O) (j : Nat) : MkP xs (k + 1) (O.take j ++ [x] ++ O.drop j) := by
  have hm : ∀ y, y ∈ O.take j ++ [x] ++ O.drop j ↔ y = x ∨ y ∈ O := fun y => by
    have : y ∈ O ↔ y ∈ O.take j ∨ y ∈ O.drop j := by rw [← List.mem_append, List.take_append_drop]
    rw [this, List.mem_append, List.mem_append, List.mem_singleton]
    constructor <;> rintro (h | h) <;> first | exact .inl h | exact .inr h | (rcases h with h | h <;> simp [h]) | simp [h]
  refine ⟨fun y => (hm y).trans ⟨?_, ?_⟩, ?_, ?_⟩
  · rintro (rfl | h1)
    · exact ⟨k, by omega, hx, h0⟩
    · obtain ⟨i, a, b⟩ := (h.1 y).1 h1
      exact ⟨i, by omega, b⟩
  · rintro ⟨i, h1, h2, h3⟩
    by_cases e : i = k
    · subst e
      rw [hx] at h2
      cases h2
      exact .inl rfl
    · exact .inr ((h.1 y).2 ⟨i, by omega, h2, h3⟩)
  · have h1 : (O.take j ++ O.drop j).Nodup := by rw [List.take_append_drop]; exact h.2.1
    have h2 := List.nodup_append.1 h1
    have e : O.take j ++ [x] ++ O.drop j = O.take j ++ (x :: O.drop j) := by simp
    rw [e]
    refine List.nodup_append.2 ⟨h2.1, List.nodup_cons.2 ⟨fun h3 => hn (List.mem_of_mem_drop h3), h2.2.1⟩, fun a ha b hb => ?_⟩
    rcases List.mem_cons.1 hb with rfl | hb
    · exact fun e => hn (by rw [← e]; exact List.mem_of_mem_take ha)
    · exact h2.2.2 a ha b hb
  · have := h.2.2
    simp [List.length_take, List.length_drop]
    omega
end Go.Proofs.YtggighikemhnfaaDoor.Tm
namespace Go.Proofs.YtggighikemhnfaaDoor.Tm
open Go.RowKit Go.Lib
set_option linter.unusedVariables false
theorem rv_neg {vs : List Int} {x : Int} (h0 : 0 ≤ x) (h1 : rvM vs (negM x) = 1) : rvM vs x ≠ 1 := by
  have hn := negM_nonneg h0
  unfold rvM at h1 ⊢
  rw [if_neg (by omega)] at h1 ⊢
  unfold valM at h1 ⊢
  rw [negM_half] at h1
  have hp : negM x % 2 = 1 - x % 2 := by unfold negM; split <;> omega
  cases hv : vs[(x / 2).toNat]? with
  | none => rw [hv] at h1; exact fun e => by cases e
  | some v =>
    rw [hv] at h1
    dsimp only at h1 ⊢
    rw [hp] at h1
    rcases (show x % 2 = 0 ∨ x % 2 = 1 by omega) with g | g
    · rw [g] at h1 ⊢
      split at h1
      · rename_i hh
        rw [if_pos hh, if_neg (by decide)]
        rw [if_pos (by decide)] at h1
        omega
      · cases h1
    · rw [g] at h1 ⊢
      split at h1
      · rename_i hh
        rw [if_pos hh, if_pos rfl]
        rw [if_neg (by decide)] at h1
        omega
      · cases h1
theorem val_two {vs ps : List Int} {x : Int} (hm : mayU x = true) (hp : ∀ y ∈ ps, rvM vs y = 1) (h : valL ps x = 2) : rvM vs x ≠ 1 := by
  unfold valL at h
  rw [if_pos hm] at h
  by_cases h1 : x ∈ ps
  · rw [if_pos h1] at h; cases h
  · rw [if_neg h1] at h
    by_cases h2 : negM x ∈ ps
    · exact rv_neg (mayU_iff.1 hm).1 (hp _ h2)
    · rw [if_neg h2] at h; cases h
theorem RunsD.sound {cls : List (List Int)} {vs ps r : List Int} {e : Int} (h : RunsD cls ps r e) (hm : ∀ c ∈ cls, ∀ x ∈ c, mayU x = true) (hh : ∀ c ∈ cls, ∃ x ∈ c, rvM vs x = 1) : (∀ x ∈ ps, rvM vs x = 1) → (∀ x ∈ r, rvM vs x = 1) ∧ e = -1 := by
  induction h with
  | conf h1 h2 h3 =>
    intro hp
    have hc := List.mem_of_getElem? h1
    obtain ⟨x, hx, h4⟩ := hh _ hc
    exact absurd h4 (val_two (hm _ hc x hx) hp (h2 x hx))
  | done h1 h2 => exact fun hp => ⟨hp, rfl⟩
  | put h1 h2 h3 h4 h5 ih =>
    rename_i ps r e k c y
    intro hp
    have hc := List.mem_of_getElem? h2
    refine ih (fun z hz => ?_)
    rcases List.mem_append.1 hz with hz | hz
    · exact hp z hz
    · rw [show z = y by simpa using hz]
      obtain ⟨x, hx, g⟩ := hh _ hc
      rcases h3.2.2 x hx with e2 | e2
      · exact absurd g (val_two (hm _ hc x hx) hp e2)
      · rw [← e2]; exact g
theorem giveM_sound {vs : List Int} : ∀ (gs ps : List Int), (∀ x ∈ gs, mayU x = true → rvM vs x = 1) → (∀ x ∈ ps, rvM vs x = 1) → (giveM ps gs).2 = true ∧ ∀ x ∈ (giveM ps gs).1, rvM vs x = 1
  | [], ps, _, hp => ⟨by unfold giveM; rfl, by unfold giveM; exact hp⟩
  | y :: g, ps, hg, hp => by
    unfold giveM
    by_cases hm : mayU y = true
    · rw [if_pos hm]
      have hy := hg y (by simp) hm
      by_cases h0 : valL ps y = 0
      · rw [if_pos h0]
        refine giveM_sound g (ps ++ [y]) (fun x hx => hg x (by simp [hx])) (fun x hx => ?_)
        rcases List.mem_append.1 hx with e | e
        · exact hp x e
        · rw [show x = y by simpa using e]; exact hy
      · rw [if_neg h0]
        by_cases h2 : valL ps y = 2
        · exact absurd hy (val_two hm hp h2)
        · rw [if_neg h2]
          exact giveM_sound g ps (fun x hx => hg x (by simp [hx])) hp
    · rw [if_neg hm]
      exact giveM_sound g ps (fun x hx => hg x (by simp [hx])) hp
theorem RunRel.sound {cls : List (List Int)} {gs vs r : List Int} {e : Int} (h : RunRel cls gs r e) (hm : ∀ c ∈ cls, ∀ x ∈ c, mayU x = true) (hh : ∀ c ∈ cls, ∃ x ∈ c, rvM vs x = 1) (hg : ∀ x ∈ gs, mayU x = true → rvM vs x = 1) : (∀ x ∈ r, rvM vs x = 1) ∧ e = -1 := by
  obtain ⟨g1, g2⟩ := giveM_sound gs [] hg (fun x h => by cases h)
  rcases h with ⟨h1, _⟩ | ⟨h1, h2⟩
  · rw [g1] at h1; cases h1
  · exact h2.sound hm hh g2
end Go.Proofs.YtggighikemhnfaaDoor.Tm
