/- A binary heap in a list; the heap of nodes in memory. -/
import Derived.Test.YtmgppnepccmceaaHpA
import Derived.Laws.Rows
namespace Go.Proofs.Ytmgppnepccmceaa
open Go.RowKit
set_option linter.unusedVariables false
def atI (L : List Int) (i : Nat) : Int := L.getD i 0
def swapL (L : List Int) (i j : Nat) : List Int := (L.set i (atI L j)).set j (atI L i)
theorem swapL_len (L : List Int) (i j : Nat) : (swapL L i j).length = L.length := by unfold swapL; rw [List.length_set, List.length_set]
theorem atI_get {L : List Int} {i : Nat} (h : i < L.length) : L[i]? = some (atI L i) := by
  unfold atI
  rw [List.getD_eq_getElem?_getD, List.getElem?_eq_getElem h]; rfl
theorem atI_swap {L : List Int} {i j k : Nat} (hi : i < L.length) (hj : j < L.length) : atI (swapL L i j) k = if k = j then atI L i else if k = i then atI L j else atI L k := by
  unfold swapL
  show ((L.set i (atI L j)).set j (atI L i)).getD k 0 = _
  rw [List.getD_eq_getElem?_getD, List.getElem?_set]
  by_cases h1 : j = k
  · subst h1
    simp only [if_true, List.length_set, if_pos hj]
    rfl
  · have h1' : ¬ k = j := fun e => h1 e.symm
    simp only [if_neg h1, if_neg h1', List.getElem?_set]
    by_cases h2 : i = k
    · subst h2
      simp only [if_true, if_pos hi]
      rfl
    · have h2' : ¬ k = i := fun e => h2 e.symm
      simp only [if_neg h2, if_neg h2']
      unfold atI
      rw [List.getD_eq_getElem?_getD]
theorem swapL_perm {L : List Int} {i j : Nat} (hi : i < L.length) (hj : j < L.length) : (swapL L i j).Perm L := by
  have h := (Array.swap_perm (xs := L.toArray) (i := i) (j := j) (by simpa using hi) (by simpa using hj)).toList
  have e : (L.toArray.swap i j (by simpa using hi) (by simpa using hj)).toList = swapL L i j := by
    unfold swapL
    have e1 := atI_get hi
    have e2 := atI_get hj
    rw [List.getElem?_eq_getElem hi] at e1
    rw [List.getElem?_eq_getElem hj] at e2
    simp only [Option.some.injEq] at e1 e2
    rw [← e1, ← e2]
    simp [Array.swap]
  rw [e] at h
  exact h
/-- The first n are a heap but between one and its parent, or its children. -/
def HeapN (L : List Int) (n : Nat) : Prop := ∀ i, 0 < i → i < n → atI L ((i - 1) / 2) ≤ atI L i
def UpI (L : List Int) (n j : Nat) : Prop :=
  (∀ i, 0 < i → i < n → i ≠ j → atI L ((i - 1) / 2) ≤ atI L i) ∧ (0 < j → ∀ i, 0 < i → i < n → (i - 1) / 2 = j → atI L ((j - 1) / 2) ≤ atI L i)
def DownI (L : List Int) (n j : Nat) : Prop :=
  (∀ i, 0 < i → i < n → (i - 1) / 2 ≠ j → atI L ((i - 1) / 2) ≤ atI L i) ∧ (0 < j → ∀ i, 0 < i → i < n → (i - 1) / 2 = j → atI L ((j - 1) / 2) ≤ atI L i)
theorem UpI.stop {L : List Int} {n j : Nat} (h : UpI L n j) (hs : j = 0 ∨ atI L ((j - 1) / 2) ≤ atI L j) : HeapN L n := fun i h0 hn => by
  by_cases e : i = j
  · subst e
    rcases hs with hs | hs
    · omega
    · exact hs
  · exact h.1 i h0 hn e
theorem UpI.step {L : List Int} {n j : Nat} (h : UpI L n j) (hj : 0 < j) (hjn : j < n) (hn : n ≤ L.length) (hlt : atI L j < atI L ((j - 1) / 2)) : UpI (swapL L ((j - 1) / 2) j) n ((j - 1) / 2) := by
  have hp : (j - 1) / 2 < L.length := by omega
  have hjl : j < L.length := by omega
  refine ⟨fun i h0 hi hne => ?_, fun hp0 i h0 hi hpi => ?_⟩
  · rw [atI_swap hp hjl, atI_swap hp hjl]
    by_cases e1 : i = j
    · subst e1
      rw [if_neg (by omega), if_pos rfl, if_pos rfl]
      omega
    · rw [if_neg e1, if_neg hne]
      by_cases e2 : (i - 1) / 2 = j
      · rw [if_pos e2]
        exact h.2 hj i h0 hi e2
      · rw [if_neg e2]
        split
        · rename_i e3
          have := h.1 i h0 hi e1
          rw [e3] at this
          omega
        · exact h.1 i h0 hi e1
  · rw [atI_swap hp hjl, atI_swap hp hjl, if_neg (by omega), if_neg (by omega)]
    have hgp := h.1 ((j - 1) / 2) hp0 (by omega) (by omega)
    by_cases e1 : i = j
    · rw [if_pos e1]
      exact hgp
    · rw [if_neg e1, if_neg (by omega)]
      have := h.1 i h0 hi e1
      rw [hpi] at this
      omega
/-- The lesser child. -/
def kidI (L : List Int) (n i : Nat) : Nat := if 2 * i + 2 < n ∧ atI L (2 * i + 2) < atI L (2 * i + 1) then 2 * i + 2 else 2 * i + 1
theorem kid_le {L : List Int} {n i k : Nat} (h : 2 * i + 1 < n) (hk : 0 < k) (hkn : k < n) (hp : (k - 1) / 2 = i) : atI L (kidI L n i) ≤ atI L k := by
  unfold kidI
  have : k = 2 * i + 1 ∨ k = 2 * i + 2 := by omega
  split
  · rename_i g
    rcases this with e | e <;> subst e
    · omega
    · exact Int.le_refl _
  · rename_i g
    rcases this with e | e <;> subst e
    · exact Int.le_refl _
    · exact Int.not_lt.1 (fun e => g ⟨hkn, e⟩)
theorem kid_range (L : List Int) {n i : Nat} (h : 2 * i + 1 < n) : kidI L n i < n ∧ (kidI L n i - 1) / 2 = i ∧ i < kidI L n i := by
  unfold kidI
  split
  · rename_i g
    exact ⟨g.1, by omega, by omega⟩
  · exact ⟨h, by omega, by omega⟩
theorem DownI.stop {L : List Int} {n i : Nat} (h : DownI L n i) (hs : n ≤ 2 * i + 1 ∨ atI L i ≤ atI L (kidI L n i)) : HeapN L n := fun k h0 hn => by
  by_cases e : (k - 1) / 2 = i
  · rcases hs with hs | hs
    · omega
    · rw [e]
      exact Int.le_trans hs (kid_le (by omega) h0 hn e)
  · exact h.1 k h0 hn e
theorem DownI.step {L : List Int} {n i : Nat} (h : DownI L n i) (hi : 2 * i + 1 < n) (hn : n ≤ L.length) (hlt : atI L (kidI L n i) < atI L i) : DownI (swapL L i (kidI L n i)) n (kidI L n i) := by
  obtain ⟨k1, k2, k3⟩ := kid_range L hi
  have hle : ∀ k, 0 < k → k < n → (k - 1) / 2 = i → atI L (kidI L n i) ≤ atI L k := fun k h0 hk e => kid_le hi h0 hk e
  obtain ⟨j, hj⟩ : ∃ j, kidI L n i = j := ⟨_, rfl⟩
  rw [hj] at k1 k2 k3 hlt hle ⊢
  have hil : i < L.length := by omega
  have hjl : j < L.length := by omega
  refine ⟨fun k h0 hk hne => ?_, fun _ k h0 hk hpk => ?_⟩
  · rw [atI_swap hil hjl, atI_swap hil hjl, if_neg hne]
    by_cases e1 : k = j
    · rw [if_pos e1, if_pos (by rw [e1]; exact k2)]
      omega
    · rw [if_neg e1]
      by_cases e2 : (k - 1) / 2 = i
      · rw [if_pos e2, if_neg (by omega)]
        exact hle k h0 hk e2
      · rw [if_neg e2]
        by_cases e3 : k = i
        · rw [if_pos e3]
          subst e3
          exact h.2 h0 j (by omega) k1 k2
        · rw [if_neg e3]
          exact h.1 k h0 hk e2
  · rw [atI_swap hil hjl, atI_swap hil hjl, k2, if_neg (by omega), if_pos rfl, if_neg (by omega), if_neg (by omega)]
    have := h.1 k h0 hk (by omega)
    rw [hpk] at this
    exact this
theorem HeapN.min {L : List Int} {n : Nat} (h : HeapN L n) : ∀ i, i < n → atI L 0 ≤ atI L i := by
  intro i
  induction i using Nat.strongRecOn with
  | ind i ih =>
    intro hi
    by_cases h0 : i = 0
    · rw [h0]; exact Int.le_refl _
    · exact Int.le_trans (ih ((i - 1) / 2) (by omega) (by omega)) (h i (by omega) hi)
theorem HeapN.all {L : List Int} (h : HeapN L L.length) : ∀ x ∈ L, atI L 0 ≤ x := fun x hx => by
  obtain ⟨i, hi⟩ := List.getElem?_of_mem hx
  have hl := (List.getElem?_eq_some_iff.1 hi).1
  have := h.min i hl
  rw [atI_get hl] at hi
  cases hi
  exact this
/-- A number behind a heap. -/
theorem HeapN.push {L : List Int} {x : Int} (h : HeapN L L.length) : UpI (L ++ [x]) (L.length + 1) L.length := by
  have e : ∀ i, i < L.length → atI (L ++ [x]) i = atI L i := fun i hi => by
    unfold atI
    rw [List.getD_eq_getElem?_getD, List.getElem?_append_left hi, List.getD_eq_getElem?_getD]
  refine ⟨fun i h0 hi hne => ?_, fun h0 i hi hin hp => by omega⟩
  rw [e _ (by omega), e _ (by omega)]
  exact h i h0 (by omega)
/-- The first and the last are swapped. -/
theorem HeapN.pop {L : List Int} {n : Nat} (h : HeapN L L.length) (hn : n + 1 = L.length) : DownI (swapL L 0 n) n 0 := by
  refine ⟨fun i h0 hi hp => ?_, fun h0 => by omega⟩
  rw [atI_swap (by omega) (by omega), atI_swap (by omega) (by omega), if_neg (by omega), if_neg hp, if_neg (by omega), if_neg (by omega)]
  exact h i h0 (by omega)
theorem HeapN.take {L : List Int} {n : Nat} (h : HeapN L n) (hn : n ≤ L.length) : HeapN (L.take n) (L.take n).length := fun i h0 hi => by
  have hl : (L.take n).length = n := by rw [List.length_take]; omega
  have e : ∀ i, i < n → atI (L.take n) i = atI L i := fun i hi => by
    unfold atI
    rw [List.getD_eq_getElem?_getD, List.getElem?_take, if_pos hi, List.getD_eq_getElem?_getD]
  rw [hl] at hi
  rw [e _ (by omega), e _ hi]
  exact h i h0 hi

/-- The node at a place. -/
def nodeAt (L : List Nat) (i : Nat) : Nat := L.getD i 0
theorem nodeAt_get {L : List Nat} {i : Nat} (h : i < L.length) : L[i]? = some (nodeAt L i) := by
  unfold nodeAt
  rw [List.getD_eq_getElem?_getD, List.getElem?_eq_getElem h]; rfl
theorem nodeAt_mem {L : List Nat} {i : Nat} (h : i < L.length) : nodeAt L i ∈ L := List.mem_of_getElem? (nodeAt_get h)
theorem nodeAt_of {L : List Nat} {i x : Nat} (h : L[i]? = some x) : nodeAt L i = x := by unfold nodeAt; rw [List.getD_eq_getElem?_getD, h]; rfl
def swapN (L : List Nat) (i j : Nat) : List Nat := (L.set i (nodeAt L j)).set j (nodeAt L i)
theorem swapN_len (L : List Nat) (i j : Nat) : (swapN L i j).length = L.length := by unfold swapN; rw [List.length_set, List.length_set]
theorem atI_map (f : Nat → Int) {L : List Nat} {i : Nat} (h : i < L.length) : atI (L.map f) i = f (nodeAt L i) := by
  unfold atI
  rw [List.getD_eq_getElem?_getD, List.getElem?_map, nodeAt_get h]; rfl
theorem swapN_map (f : Nat → Int) {L : List Nat} {i j : Nat} (hi : i < L.length) (hj : j < L.length) : (swapN L i j).map f = swapL (L.map f) i j := by
  unfold swapN swapL
  rw [List.map_set, List.map_set, atI_map f hi, atI_map f hj]
theorem nodeAt_swap {L : List Nat} {i j k : Nat} (hi : i < L.length) (hj : j < L.length) : nodeAt (swapN L i j) k = if k = j then nodeAt L i else if k = i then nodeAt L j else nodeAt L k := by
  unfold swapN
  show ((L.set i (nodeAt L j)).set j (nodeAt L i)).getD k 0 = _
  rw [List.getD_eq_getElem?_getD, List.getElem?_set]
  by_cases h1 : j = k
  · subst h1
    simp only [if_true, List.length_set, if_pos hj]
    rfl
  · have h1' : ¬ k = j := fun e => h1 e.symm
    simp only [if_neg h1, if_neg h1', List.getElem?_set]
    by_cases h2 : i = k
    · subst h2
      simp only [if_true, if_pos hi]
      rfl
    · have h2' : ¬ k = i := fun e => h2 e.symm
      simp only [if_neg h2, if_neg h2']
      unfold nodeAt
      rw [List.getD_eq_getElem?_getD]
theorem swapN_perm {L : List Nat} {i j : Nat} (hi : i < L.length) (hj : j < L.length) : (swapN L i j).Perm L := by
  have h := (Array.swap_perm (xs := L.toArray) (i := i) (j := j) (by simpa using hi) (by simpa using hj)).toList
  have e : (L.toArray.swap i j (by simpa using hi) (by simpa using hj)).toList = swapN L i j := by
    unfold swapN
    have e1 := nodeAt_get hi
    have e2 := nodeAt_get hj
    rw [List.getElem?_eq_getElem hi] at e1
    rw [List.getElem?_eq_getElem hj] at e2
    simp only [Option.some.injEq] at e1 e2
    rw [← e1, ← e2]
    simp [Array.swap]
  rw [e] at h
  exact h
/-- The place of a node: -1, if it is out. -/
def plc (L : List Nat) (x : Nat) : Int := if x ∈ L then (L.idxOf x : Int) else -1
theorem nodup_at {L : List Nat} (h : L.Nodup) {i j : Nat} (hi : i < L.length) (hj : j < L.length) (e : nodeAt L i = nodeAt L j) : i = j := by
  have h1 := nodeAt_get hi
  have h2 := nodeAt_get hj
  rw [e, ← h2] at h1
  exact (List.getElem?_inj hi h).1 h1
theorem plc_at {L : List Nat} (h : L.Nodup) {i : Nat} (hi : i < L.length) : plc L (nodeAt L i) = i := by
  unfold plc
  rw [if_pos (nodeAt_mem hi)]
  have hlt : L.idxOf (nodeAt L i) < L.length := List.idxOf_lt_length_of_mem (nodeAt_mem hi)
  have e : nodeAt L (L.idxOf (nodeAt L i)) = nodeAt L i := nodeAt_of (by rw [List.getElem?_eq_getElem hlt, List.getElem_idxOf hlt])
  exact_mod_cast nodup_at h hlt hi e
theorem plc_mem {L : List Nat} (h : L.Nodup) {x : Nat} (hx : x ∈ L) : ∃ i, i < L.length ∧ nodeAt L i = x ∧ plc L x = i := by
  obtain ⟨i, hi, e⟩ := List.mem_iff_getElem.1 hx
  have e2 : nodeAt L i = x := nodeAt_of (by rw [List.getElem?_eq_getElem hi, e])
  exact ⟨i, hi, e2, by rw [← e2]; exact plc_at h hi⟩
theorem plc_out {L : List Nat} {x : Nat} (hx : x ∉ L) : plc L x = -1 := by unfold plc; rw [if_neg hx]
theorem plc_swap {L : List Nat} (h : L.Nodup) {i j : Nat} (hi : i < L.length) (hj : j < L.length) (x : Nat) : plc (swapN L i j) x = if x = nodeAt L i then (j : Int) else if x = nodeAt L j then (i : Int) else plc L x := by
  have hp := swapN_perm hi hj
  have hn : (swapN L i j).Nodup := hp.nodup_iff.2 h
  by_cases hx : x ∈ L
  · obtain ⟨k, hk, hkx, hkp⟩ := plc_mem hn (hp.mem_iff.2 hx)
    rw [swapN_len] at hk
    rw [nodeAt_swap hi hj] at hkx
    rw [hkp]
    by_cases e1 : k = j
    · rw [if_pos e1] at hkx
      rw [if_pos hkx.symm, e1]
    · rw [if_neg e1] at hkx
      by_cases e2 : k = i
      · rw [if_pos e2] at hkx
        have : x ≠ nodeAt L i := fun e => by
          rw [e] at hkx
          have := nodup_at h hj hi hkx
          omega
        rw [if_neg this, if_pos hkx.symm, e2]
      · rw [if_neg e2] at hkx
        rw [if_neg (fun e => e2 (nodup_at h hk hi (hkx.trans e))), if_neg (fun e => e1 (nodup_at h hk hj (hkx.trans e))), ← hkx, plc_at h hk]
  · rw [if_neg (fun e => hx (by rw [e]; exact nodeAt_mem hi)), if_neg (fun e => hx (by rw [e]; exact nodeAt_mem hj)), plc_out hx, plc_out (fun e => hx (hp.mem_iff.1 e))]
end Go.Proofs.Ytmgppnepccmceaa
