/- Plain facts: what is reached. -/
import Derived.Test.YtdjiebiobdhihaaDoorTmX
namespace Go.Proofs.YtdjiebiobdhihaaDoor
open Go.RowKit
set_option linter.unusedVariables false
theorem set_get (bs : List Bool) (a i : Nat) (b : Bool) (h : (bs.set a b)[i]? = some true) : bs[i]? = some true ∨ (i = a ∧ b = true) := by
  by_cases e : a = i
  · subst e
    rw [List.getElem?_set_self'] at h
    cases hb : bs[a]? with
    | none => rw [hb] at h; cases h
    | some x => rw [hb] at h; simp at h; exact .inr ⟨rfl, h⟩
  · rw [List.getElem?_set_ne e] at h
    exact .inl h
/-- Setting some keeps what is set. -/
theorem sets_keep : ∀ (xs : List Nat) (bs : List Bool) (i : Nat), bs[i]? = some true → (xs.foldl (fun b a => b.set a true) bs)[i]? = some true
  | [], bs, i, h => h
  | x :: r, bs, i, h => by
    rw [List.foldl_cons]
    refine sets_keep r _ i ?_
    by_cases e : x = i
    · subst e
      rw [List.getElem?_set_self']
      rw [h]; rfl
    · rw [List.getElem?_set_ne e]; exact h
/-- Setting sets. -/
theorem sets_do : ∀ (xs : List Nat) (bs : List Bool) (i : Nat), i ∈ xs → i < bs.length → (xs.foldl (fun b a => b.set a true) bs)[i]? = some true
  | x :: r, bs, i, h, hl => by
    rw [List.foldl_cons]
    rcases List.mem_cons.1 h with rfl | h
    · refine sets_keep r _ i ?_
      rw [List.getElem?_set_self']
      rw [List.getElem?_eq_getElem hl]; rfl
    · exact sets_do r _ i h (by simpa using hl)
/-- Setting what is set changes nothing. -/
theorem sets_idle : ∀ (xs : List Nat) (bs : List Bool), (∀ i ∈ xs, bs[i]? = some true) → xs.foldl (fun b a => b.set a true) bs = bs
  | [], bs, _ => rfl
  | x :: r, bs, h => by
    have h0 := h x (by simp)
    have e : bs.set x true = bs := by
      apply List.ext_getElem?
      intro i
      by_cases hi : x = i
      · subst hi
        rw [List.getElem?_set_self', h0]; rfl
      · rw [List.getElem?_set_ne hi]
    rw [List.foldl_cons, e]
    exact sets_idle r bs (fun i hi => h i (by simp [hi]))
/-- Setting lets the others be. -/
theorem sets_other : ∀ (xs : List Nat) (bs : List Bool) (i : Nat), i ∉ xs → (xs.foldl (fun b a => b.set a true) bs)[i]? = bs[i]?
  | [], bs, i, _ => rfl
  | x :: r, bs, i, h => by
    rw [List.foldl_cons, sets_other r _ i (fun hh => h (by simp [hh])), List.getElem?_set_ne (fun e => h (by simp [e]))]
theorem below_lt {n : NodeA} {k b : Nat} (hb : b ∈ belowL n k) : b < k := by
  unfold belowL upL at hb
  obtain ⟨i, _, hi⟩ := List.mem_flatMap.1 hb
  unfold pickA at hi
  split at hi
  · simp at hi; omega
  · cases hi
theorem step_keep {l : List NodeA} {k i : Nat} {bs : List Bool} (h : bs[i]? = some true) : (stepR l k bs)[i]? = some true := by
  unfold stepR
  split
  · split
    · exact sets_keep _ _ _ h
    · exact h
  · exact h
theorem step_high {l : List NodeA} {k i : Nat} {bs : List Bool} (h : k ≤ i) : (stepR l k bs)[i]? = bs[i]? := by
  unfold stepR
  split
  · split
    · exact sets_other _ _ _ (fun hm => by have := below_lt hm; omega)
    · rfl
  · rfl
theorem down_keep {l : List NodeA} : ∀ (k : Nat) {i : Nat} {bs : List Bool}, bs[i]? = some true → (downL l k bs)[i]? = some true
  | 0, _, _, h => h
  | k + 1, _, _, h => down_keep k (step_keep h)
theorem down_high {l : List NodeA} : ∀ (k : Nat) {i : Nat} {bs : List Bool}, k ≤ i → (downL l k bs)[i]? = bs[i]?
  | 0, _, _, _ => rfl
  | k + 1, i, bs, h => by
    unfold downL
    rw [down_high k (by omega), step_high (by omega)]
theorem down_len (l : List NodeA) : ∀ (k : Nat) (bs : List Bool), (downL l k bs).length = bs.length
  | 0, _ => rfl
  | k + 1, bs => by unfold downL; rw [down_len l k, stepR_len]
/-- What is reached reaches its arguments. -/
theorem down_closed {l : List NodeA} : ∀ (k : Nat) {bs : List Bool} {i : Nat} {n : NodeA}, bs.length = l.length → i < k → l[i]? = some n → (downL l k bs)[i]? = some true → ∀ b ∈ belowL n i, (downL l k bs)[b]? = some true
  | 0, _, _, _, _, hi, _, _ => by omega
  | k + 1, bs, i, n, hl, hi, hn, ht => by
    intro b hb
    unfold downL at ht ⊢
    by_cases hik : i < k
    · exact down_closed k (by rw [stepR_len]; exact hl) hik hn ht b hb
    · obtain rfl : i = k := by omega
      rw [down_high i (Nat.le_refl _), step_high (Nat.le_refl _)] at ht
      have hlt := (List.getElem?_eq_some_iff.1 hn).1
      have hbl := below_lt hb
      refine down_keep i ?_
      unfold stepR
      rw [if_pos (by rw [List.getD_eq_getElem?_getD, ht]; rfl), hn]
      exact sets_do _ _ _ hb (by omega)
/-- Where all arguments are there already nothing changes. -/
theorem down_idle {l : List NodeA} : ∀ (k : Nat) {bs : List Bool}, (∀ i n, i < k → l[i]? = some n → bs[i]? = some true → ∀ b ∈ belowL n i, bs[b]? = some true) → downL l k bs = bs
  | 0, _, _ => rfl
  | k + 1, bs, h => by
    have e : stepR l k bs = bs := by
      unfold stepR
      split
      · rename_i hk
        split
        · rename_i n hn
          refine sets_idle _ _ (fun b hb => h k n (by omega) hn ?_ b hb)
          rw [List.getD_eq_getElem?_getD] at hk
          cases hq : bs[k]? with
          | none => rw [hq] at hk; cases hk
          | some x => rw [hq] at hk; simp at hk; rw [hk]
        · rfl
      · rfl
    unfold downL
    rw [e]
    exact down_idle k (fun i n hi => h i n (by omega))
theorem marks_keep (N : Nat) : ∀ (rs : List Int) (bs : List Bool) (i : Nat), bs[i]? = some true → (rs.foldl (mark1 N) bs)[i]? = some true
  | [], _, _, h => h
  | r :: q, bs, i, h => by
    rw [List.foldl_cons]
    refine marks_keep N q _ i ?_
    unfold mark1
    split
    · exact sets_keep [r.toNat] bs i h
    · exact h
theorem marks_do (N : Nat) : ∀ (rs : List Int) (bs : List Bool) (i : Nat), bs.length = N → i < N → (i : Int) ∈ rs → (rs.foldl (mark1 N) bs)[i]? = some true
  | r :: q, bs, i, hl, hi, h => by
    rw [List.foldl_cons]
    rcases List.mem_cons.1 h with rfl | h
    · refine marks_keep N q _ i ?_
      unfold mark1
      rw [if_pos ⟨by omega, by omega⟩]
      exact sets_do [((i : Int)).toNat] bs i (by simp) (by omega)
    · exact marks_do N q _ i (by rw [mark1_len]; exact hl) hi h
theorem marks_get (N : Nat) : ∀ (rs : List Int) (bs : List Bool) (i : Nat), (rs.foldl (mark1 N) bs)[i]? = some true → bs[i]? = some true ∨ (i : Int) ∈ rs
  | [], _, _, h => .inl h
  | r :: q, bs, i, h => by
    rw [List.foldl_cons] at h
    rcases marks_get N q _ i h with h | h
    · unfold mark1 at h
      split at h
      · rename_i hr
        rcases set_get _ _ _ _ h with h | ⟨rfl, _⟩
        · exact .inl h
        · exact .inr (by simp; left; omega)
      · exact .inl h
    · exact .inr (by simp [h])
theorem markL_iff {N : Nat} {rs : List Int} {i : Nat} (hi : i < N) : (markL N rs)[i]? = some true ↔ (i : Int) ∈ rs := by
  unfold markL
  constructor
  · intro h
    rcases marks_get N rs _ i h with h | h
    · rw [List.getElem?_replicate] at h
      split at h <;> cases h
    · exact h
  · exact marks_do N rs _ i (by simp) hi
theorem reach_len (l : List NodeA) (rs : List Int) : (reachB l rs).length = l.length := by unfold reachB; rw [down_len, markL_len]
theorem bool_or {bs : List Bool} {i : Nat} (h : i < bs.length) : bs[i]? = some true ∨ bs[i]? = some false := by
  rw [List.getElem?_eq_getElem h]
  cases bs[i] <;> simp
theorem idxL_mem {bs : List Bool} {i : Nat} {j : Nat} (hj : bs.length = j) : (i : Int) ∈ idxL bs j ↔ bs[i]? = some true := by
  unfold idxL
  rw [List.mem_map]
  constructor
  · rintro ⟨k, hk, e⟩
    obtain rfl : k = i := by omega
    have h := (List.mem_filter.1 hk).2
    have hlt := List.mem_range.1 (List.mem_filter.1 hk).1
    rw [List.getD_eq_getElem?_getD, List.getElem?_eq_getElem (by omega)] at h
    simp at h
    rw [List.getElem?_eq_getElem (by omega), h]
  · intro h
    have hlt := (List.getElem?_eq_some_iff.1 h).1
    refine ⟨i, List.mem_filter.2 ⟨List.mem_range.2 (by omega), ?_⟩, rfl⟩
    rw [List.getD_eq_getElem?_getD, h]; rfl
/-- Reached again from what is reached: the same. -/
theorem reach_again (l : List NodeA) (rs : List Int) : reachL l (reachL l rs) = reachL l rs := by
  have hL := reach_len l rs
  have e : markL l.length (reachL l rs) = reachB l rs := by
    apply List.ext_getElem?
    intro i
    by_cases hi : i < l.length
    · have h1 : (markL l.length (reachL l rs))[i]? = some true ↔ (reachB l rs)[i]? = some true := by
        rw [markL_iff hi]
        exact idxL_mem hL
      rcases bool_or (bs := reachB l rs) (i := i) (by omega) with h | h
      · rw [h1.2 h, h]
      · rcases bool_or (bs := markL l.length (reachL l rs)) (i := i) (by rw [markL_len]; exact hi) with g | g
        · rw [h1.1 g] at h; cases h
        · rw [g, h]
    · rw [List.getElem?_eq_none (by rw [markL_len]; omega), List.getElem?_eq_none (by omega)]
  have e2 : reachB l (reachL l rs) = reachB l rs := by
    show downL l l.length (markL l.length (reachL l rs)) = _
    rw [e]
    exact down_idle l.length (fun i n hi hn ht b hb => down_closed l.length (markL_len _ _) hi hn ht b hb)
  show idxL (reachB l (reachL l rs)) l.length = idxL (reachB l rs) l.length
  rw [e2]
theorem reach_root {l : List NodeA} {rs : List Int} {i : Nat} (hi : i < l.length) (h : (i : Int) ∈ rs) : (i : Int) ∈ reachL l rs := by
  refine (idxL_mem (reach_len l rs)).2 ?_
  exact down_keep _ ((markL_iff hi).2 h)
theorem reach_arg {l : List NodeA} {rs : List Int} {i : Nat} {n : NodeA} (hn : l[i]? = some n) (h : (i : Int) ∈ reachL l rs) {b : Nat} (hb : b ∈ belowL n i) : (b : Int) ∈ reachL l rs := by
  have h1 := (idxL_mem (reach_len l rs)).1 h
  exact (idxL_mem (reach_len l rs)).2 (down_closed l.length (markL_len _ _) (List.getElem?_eq_some_iff.1 hn).1 hn h1 b hb)
theorem reach_rng {l : List NodeA} {rs : List Int} {x : Int} (h : x ∈ reachL l rs) : ∃ i : Nat, x = i ∧ i < l.length := by
  unfold reachL idxL at h
  obtain ⟨i, hi, rfl⟩ := List.mem_map.1 h
  exact ⟨i, rfl, List.mem_range.1 (List.mem_filter.1 hi).1⟩
theorem reach_rises {l : List NodeA} {rs : List Int} {i j : Nat} {x y : Int} (hij : i < j) (hx : (reachL l rs)[i]? = some x) (hy : (reachL l rs)[j]? = some y) : x < y := by
  have hp : (reachL l rs).Pairwise (· < ·) := by
    unfold reachL idxL
    refine List.Pairwise.map _ (fun a b h => ?_) (List.Pairwise.filter _ List.pairwise_lt_range)
    omega
  have hj := (List.getElem?_eq_some_iff.1 hy).1
  have hi := (List.getElem?_eq_some_iff.1 hx).1
  have := List.pairwise_iff_getElem.1 hp i j hi hj hij
  rw [(List.getElem?_eq_some_iff.1 hx).2, (List.getElem?_eq_some_iff.1 hy).2] at this
  exact this
end Go.Proofs.YtdjiebiobdhihaaDoor
