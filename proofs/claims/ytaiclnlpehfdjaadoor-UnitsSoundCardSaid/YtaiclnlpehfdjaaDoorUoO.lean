/- ref15's Is; what is put holds wherever the clauses do. -/
import Derived.Test.YtaiclnlpehfdjaaDoorUoN
namespace Go.Proofs.YtaiclnlpehfdjaaDoor.Tm
open Go.RowKit Go.Lib
set_option linter.unusedVariables false
theorem RIs_any (xs : List Int) (a : Option Addr) (c : Nat) (w : World) (hA : IntsR w xs a c) (hl : xs.length ≤ 1000) :
    Calls Tryd.prog 21 #[.slice a xs.length c] w fun e w' => (∃ q, e = .returned (.bool q) ∧ (q = true → ∀ x ∈ xs, 0 ≤ x)) ∧ Below w.heap.size w w' := by
  have HM := Lib.hid (RMake_any xs a c w hA hl)
  have HA : Hid (∀ V, Below w.heap.size w V → IntsR V xs a c) := fun V hV => hA.below hV
  clear hA hl
  go_enter Tryd.func21, Tryd.ntmps21
  go_wp2_with fail
  with_reducible refine HM.out.mono ?_
  rintro e w1 ⟨M, a', c', rfl, h1, h2, h3⟩
  have HP := Lib.hid h1
  have HB := Lib.hid h3
  obtain ⟨q, hq⟩ : ∃ q, decide (xs = M) = q := ⟨_, rfl⟩
  have HQ : Hid (q = true → ∀ x ∈ xs, 0 ≤ x) := fun e x hx => by
    rw [← hq] at e
    have e2 := of_decide_eq_true e
    rw [e2] at hx
    obtain ⟨_, _, _, h⟩ := (HP.out.1 x).1 hx
    exact h
  have HS := Lib.hid (RSame_any xs M a a' c c' q w1 (HA.out _ h3) h2 hq)
  clear h1 h2 h3 hq
  go_wp2_with fail
  with_reducible refine HS.out.mono ?_
  rintro e w2 ⟨rfl, hb⟩
  have HB2 := Lib.hid hb
  clear hb
  go_wp2_with fail
  go_ret
  exact ⟨⟨q, rfl, HQ.out⟩, ball HB.out HB2.out⟩
theorem rv_neg {vs : List Int} {x : Int} (h0 : 0 ≤ x) (h1 : rvM vs (negM x) = 1) : rvM vs x ≠ 1 := by
  have hn := negM_nonneg h0
  unfold rvM at h1 ⊢
  rw [if_neg (by omega)] at h1 ⊢
  unfold valM at h1 ⊢
  rw [negM_half] at h1
  have hp : negM x % 2 = 1 - x % 2 := by unfold negM; split <;> omega
  cases hv : vs[(x / 2).toNat]? with
  | none => rw [hv] at h1; exact fun e => by cases e
  | some v =>
    rw [hv] at h1
    dsimp only at h1 ⊢
    rw [hp] at h1
    rcases (show x % 2 = 0 ∨ x % 2 = 1 by omega) with g | g
    · rw [g] at h1 ⊢
      split at h1
      · rename_i hh
        rw [if_pos hh, if_neg (by decide)]
        rw [if_pos (by decide)] at h1
        omega
      · cases h1
    · rw [g] at h1 ⊢
      split at h1
      · rename_i hh
        rw [if_pos hh, if_pos rfl]
        rw [if_neg (by decide)] at h1
        omega
      · cases h1
theorem val_two {vs ps : List Int} {x : Int} (hm : mayU x = true) (hp : ∀ y ∈ ps, rvM vs y = 1) (h : valL ps x = 2) : rvM vs x ≠ 1 := by
  unfold valL at h
  rw [if_pos hm] at h
  by_cases h1 : x ∈ ps
  · rw [if_pos h1] at h; cases h
  · rw [if_neg h1] at h
    by_cases h2 : negM x ∈ ps
    · exact rv_neg (mayU_iff.1 hm).1 (hp _ h2)
    · rw [if_neg h2] at h; cases h
theorem RunsD.sound {cls : List (List Int)} {vs ps r : List Int} {e : Int} (h : RunsD cls ps r e) (hm : ∀ c ∈ cls, ∀ x ∈ c, mayU x = true) (hh : ∀ c ∈ cls, ∃ x ∈ c, rvM vs x = 1) : (∀ x ∈ ps, rvM vs x = 1) → (∀ x ∈ r, rvM vs x = 1) ∧ e = -1 := by
  induction h with
  | conf h1 h2 h3 =>
    intro hp
    have hc := List.mem_of_getElem? h1
    obtain ⟨x, hx, h4⟩ := hh _ hc
    exact absurd h4 (val_two (hm _ hc x hx) hp (h2 x hx))
  | done h1 h2 => exact fun hp => ⟨hp, rfl⟩
  | put h1 h2 h3 h4 h5 ih =>
    rename_i ps r e k c y
    intro hp
    have hc := List.mem_of_getElem? h2
    refine ih (fun z hz => ?_)
    rcases List.mem_append.1 hz with hz | hz
    · exact hp z hz
    · rw [show z = y by simpa using hz]
      obtain ⟨x, hx, g⟩ := hh _ hc
      rcases h3.2.2 x hx with e2 | e2
      · exact absurd g (val_two (hm _ hc x hx) hp e2)
      · rw [← e2]; exact g
theorem giveM_sound {vs : List Int} : ∀ (gs ps : List Int), (∀ x ∈ gs, mayU x = true → rvM vs x = 1) → (∀ x ∈ ps, rvM vs x = 1) → (giveM ps gs).2 = true ∧ ∀ x ∈ (giveM ps gs).1, rvM vs x = 1
  | [], ps, _, hp => ⟨by unfold giveM; rfl, by unfold giveM; exact hp⟩
  | y :: g, ps, hg, hp => by
    unfold giveM
    by_cases hm : mayU y = true
    · rw [if_pos hm]
      have hy := hg y (by simp) hm
      by_cases h0 : valL ps y = 0
      · rw [if_pos h0]
        refine giveM_sound g (ps ++ [y]) (fun x hx => hg x (by simp [hx])) (fun x hx => ?_)
        rcases List.mem_append.1 hx with e | e
        · exact hp x e
        · rw [show x = y by simpa using e]; exact hy
      · rw [if_neg h0]
        by_cases h2 : valL ps y = 2
        · exact absurd hy (val_two hm hp h2)
        · rw [if_neg h2]
          exact giveM_sound g ps (fun x hx => hg x (by simp [hx])) hp
    · rw [if_neg hm]
      exact giveM_sound g ps (fun x hx => hg x (by simp [hx])) hp
theorem RunRel.sound {cls : List (List Int)} {gs vs r : List Int} {e : Int} (h : RunRel cls gs r e) (hm : ∀ c ∈ cls, ∀ x ∈ c, mayU x = true) (hh : ∀ c ∈ cls, ∃ x ∈ c, rvM vs x = 1) (hg : ∀ x ∈ gs, mayU x = true → rvM vs x = 1) : (∀ x ∈ r, rvM vs x = 1) ∧ e = -1 := by
  obtain ⟨g1, g2⟩ := giveM_sound gs [] hg (fun x h => by cases h)
  rcases h with ⟨h1, _⟩ | ⟨h1, h2⟩
  · rw [g1] at h1; cases h1
  · exact h2.sound hm hh g2
end Go.Proofs.YtaiclnlpehfdjaaDoor.Tm
