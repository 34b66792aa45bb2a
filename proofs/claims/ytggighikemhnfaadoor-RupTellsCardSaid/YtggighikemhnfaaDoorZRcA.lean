/- What follows from some follows from more; what is left of clauses. -/
import Derived.Test.YtggighikemhnfaaDoorZRbJ
namespace Go.Proofs.YtggighikemhnfaaDoor.Tm
open Go.RowKit
set_option linter.unusedVariables false
theorem least_idx {P : Nat → Prop} : ∀ n, P n → ∃ k, P k ∧ ∀ j, j < k → ¬ P j := fun n => by
  induction n using Nat.strongRecOn with
  | ind n ih =>
    intro h
    by_cases h2 : ∃ j, j < n ∧ P j
    · obtain ⟨j, hj, hp⟩ := h2
      exact ih j hj hp
    · exact ⟨n, h, fun j hj hp => h2 ⟨j, hj, hp⟩⟩
theorem runs_total (cls : List (List Int)) : ∀ (m : Nat) (ps : List Int), opens cls ps < m → ∃ r e, RunsD cls ps r e
  | 0, ps, h => by omega
  | m + 1, ps, h => by
    by_cases hF : ∃ (k : Nat) (d : List Int), cls[k]? = some d ∧ FalC ps d
    · obtain ⟨n, hn⟩ := hF
      obtain ⟨k, ⟨c, hc, hf⟩, hb⟩ := least_idx (P := fun (k : Nat) => ∃ d : List Int, cls[k]? = some d ∧ FalC ps d) n hn
      exact ⟨ps, _, .conf hc hf (fun j d hj hd hfd => hb j hj ⟨d, hd, hfd⟩)⟩
    · have hnF : ∀ (j : Nat) (d : List Int), cls[j]? = some d → ¬ FalC ps d := fun j d hd hf => hF ⟨j, d, hd, hf⟩
      by_cases hU : ∃ (k : Nat) (d : List Int), cls[k]? = some d ∧ ∃ y, UniC ps d y
      · obtain ⟨n, hn⟩ := hU
        obtain ⟨k, ⟨c, hc, y, hy⟩, hb⟩ := least_idx (P := fun (k : Nat) => ∃ d : List Int, cls[k]? = some d ∧ ∃ y, UniC ps d y) n hn
        have := opens_lt hc hy.1 hy.2.1
        obtain ⟨r, e, hr⟩ := runs_total cls m (ps ++ [y]) (by omega)
        exact ⟨r, e, .put hnF hc hy (fun j d hj hd z hz => hb j hj ⟨d, hd, z, hz⟩) hr⟩
      · exact ⟨ps, -1, .done hnF (fun j d hd y hy => hU ⟨j, d, hd, y, hy⟩)⟩
theorem run_total (cls : List (List Int)) (gs : List Int) : ∃ r e, RunRel cls gs r e := by
  cases h : (giveM [] gs).2 with
  | false => exact ⟨_, _, .inl ⟨h, rfl, rfl⟩⟩
  | true =>
    obtain ⟨r, e, hr⟩ := runs_total cls _ (giveM [] gs).1 (Nat.lt_succ_self _)
    exact ⟨r, e, .inr ⟨h, hr⟩⟩
theorem Fol.mono {A B : List (List Int)} {c : List Int} (h : Fol A c) (hs : ∀ d ∈ A, d ∈ B) : Fol B c := by
  obtain ⟨r, k, hr, hk⟩ := h
  obtain ⟨r', k', hr'⟩ := run_total B (c.map negM)
  refine ⟨r', k', hr', fun e => hk ?_⟩
  rw [e] at hr'
  exact (more_plain hs (fun x hx => hx) hr' hr).1
/-- The clauses at these places. -/
def sel (cls : List (List Int)) (K : List Nat) : List (List Int) := K.filterMap (fun i => cls[i]?)
open Classical in
/-- What is left, where each, from the last one on, is left out that may be. -/
noncomputable def coreF (cls : List (List Int)) (c : List Int) : Nat → List Nat → List Nat
  | 0, K => K
  | n + 1, K => if Fol (cls.take n ++ sel cls K) c then coreF cls c n K else coreF cls c n (n :: K)
theorem sel_cons {cls : List (List Int)} {K : List Nat} {n : Nat} {d : List Int} (h : cls[n]? = some d) : sel cls (n :: K) = d :: sel cls K := by
  unfold sel
  rw [List.filterMap_cons, h]
theorem mem_turn {cls : List (List Int)} {K : List Nat} {n : Nat} {d : List Int} (h : cls[n]? = some d) : ∀ x, x ∈ cls.take (n + 1) ++ sel cls K ↔ x ∈ cls.take n ++ sel cls (n :: K) := fun x => by
  rw [sel_cons h, List.take_add_one, h, List.append_assoc]
  simp
theorem core_skip {cls : List (List Int)} {c : List Int} {K : List Nat} {m : Nat} : ∀ n, m ≤ n → Fol (cls.take m ++ sel cls K) c → coreF cls c n K = coreF cls c m K
  | 0, h, _ => by rw [show m = 0 by omega]
  | n + 1, h, hF => by
    by_cases e : m = n + 1
    · rw [e]
    · conv => lhs; unfold coreF
      rw [if_pos (hF.mono (fun d hd => ?_))]
      · exact core_skip n (by omega) hF
      · rcases List.mem_append.1 hd with h1 | h1
        · refine List.mem_append_left _ ?_
          rw [show n = m + (n - m) by omega, List.take_add]
          exact List.mem_append_left _ h1
        · exact List.mem_append_right _ h1
theorem core_keep {cls : List (List Int)} {c : List Int} {K : List Nat} {n : Nat} (h : ¬ Fol (cls.take n ++ sel cls K) c) : coreF cls c (n + 1) K = coreF cls c n (n :: K) := by
  conv => lhs; unfold coreF
  rw [if_neg h]
/-- What is left holds what was kept, in order, and it follows from it. -/
theorem core_inv {cls : List (List Int)} {c : List Int} : ∀ n K, n ≤ cls.length → Fol (cls.take n ++ sel cls K) c → (∀ x ∈ K, n ≤ x ∧ x < cls.length) → K.Pairwise (· < ·) → Fol (sel cls (coreF cls c n K)) c ∧ (coreF cls c n K).Pairwise (· < ·) ∧ ∀ x ∈ coreF cls c n K, x < cls.length
  | 0, K, _, hF, hK, hp => by
    unfold coreF
    exact ⟨by simpa using hF, hp, fun x hx => (hK x hx).2⟩
  | n + 1, K, hn, hF, hK, hp => by
    by_cases h : Fol (cls.take n ++ sel cls K) c
    · rw [core_skip (m := n) (n + 1) (by omega) h]
      exact core_inv n K (by omega) h (fun x hx => ⟨by have := (hK x hx).1; omega, (hK x hx).2⟩) hp
    · rw [core_keep h]
      obtain ⟨d, hd⟩ : ∃ d, cls[n]? = some d := ⟨_, List.getElem?_eq_getElem (by omega)⟩
      refine core_inv n (n :: K) (by omega) (hF.mono (fun x hx => (mem_turn hd x).1 hx)) (fun x hx => ?_) (List.pairwise_cons.2 ⟨fun x hx => (hK x hx).1, hp⟩)
      rcases List.mem_cons.1 hx with rfl | hx
      · exact ⟨Nat.le_refl _, by omega⟩
      · exact ⟨by have := (hK x hx).1; omega, (hK x hx).2⟩
end Go.Proofs.YtggighikemhnfaaDoor.Tm
