/- container/heap over the queue: up, down. -/
import Derived.Test.YtggighikemhnfaaDoorZUnD
import Derived.Test.YtggighikemhnfaaDoorZClN
import Derived.BigQuiet
import Derived.RegionTactic
import Derived.Deep.RegionWith
namespace Go.Proofs.YtggighikemhnfaaDoor.Tm
set_option linter.unusedVariables false
def atI (L : List Int) (i : Nat) : Int := L.getD i 0
def swapL (L : List Int) (i j : Nat) : List Int := (L.set i (atI L j)).set j (atI L i)
theorem swapL_len (L : List Int) (i j : Nat) : (swapL L i j).length = L.length := by unfold swapL; rw [List.length_set, List.length_set]
theorem atI_get {L : List Int} {i : Nat} (h : i < L.length) : L[i]? = some (atI L i) := by
  unfold atI
  rw [List.getD_eq_getElem?_getD, List.getElem?_eq_getElem h]; rfl
theorem atI_swap {L : List Int} {i j k : Nat} (hi : i < L.length) (hj : j < L.length) : atI (swapL L i j) k = if k = j then atI L i else if k = i then atI L j else atI L k := by
  unfold swapL
  show ((L.set i (atI L j)).set j (atI L i)).getD k 0 = _
  rw [List.getD_eq_getElem?_getD, List.getElem?_set]
  by_cases h1 : j = k
  · subst h1
    simp only [if_true, List.length_set, if_pos hj]
    rfl
  · have h1' : ¬ k = j := fun e => h1 e.symm
    simp only [if_neg h1, if_neg h1', List.getElem?_set]
    by_cases h2 : i = k
    · subst h2
      simp only [if_true, if_pos hi]
      rfl
    · have h2' : ¬ k = i := fun e => h2 e.symm
      simp only [if_neg h2, if_neg h2']
      unfold atI
      rw [List.getD_eq_getElem?_getD]
theorem swapL_perm {L : List Int} {i j : Nat} (hi : i < L.length) (hj : j < L.length) : (swapL L i j).Perm L := by
  have h := (Array.swap_perm (xs := L.toArray) (i := i) (j := j) (by simpa using hi) (by simpa using hj)).toList
  have e : (L.toArray.swap i j (by simpa using hi) (by simpa using hj)).toList = swapL L i j := by
    unfold swapL
    have e1 := atI_get hi
    have e2 := atI_get hj
    rw [List.getElem?_eq_getElem hi] at e1
    rw [List.getElem?_eq_getElem hj] at e2
    simp only [Option.some.injEq] at e1 e2
    rw [← e1, ← e2]
    simp [Array.swap]
  rw [e] at h
  exact h
/-- The first n are a heap but between one and its parent, or its children. -/
def HeapN (L : List Int) (n : Nat) : Prop := ∀ i, 0 < i → i < n → atI L ((i - 1) / 2) ≤ atI L i
def UpI (L : List Int) (n j : Nat) : Prop :=
  (∀ i, 0 < i → i < n → i ≠ j → atI L ((i - 1) / 2) ≤ atI L i) ∧ (0 < j → ∀ i, 0 < i → i < n → (i - 1) / 2 = j → atI L ((j - 1) / 2) ≤ atI L i)
def DownI (L : List Int) (n j : Nat) : Prop :=
  (∀ i, 0 < i → i < n → (i - 1) / 2 ≠ j → atI L ((i - 1) / 2) ≤ atI L i) ∧ (0 < j → ∀ i, 0 < i → i < n → (i - 1) / 2 = j → atI L ((j - 1) / 2) ≤ atI L i)
theorem UpI.stop {L : List Int} {n j : Nat} (h : UpI L n j) (hs : j = 0 ∨ atI L ((j - 1) / 2) ≤ atI L j) : HeapN L n := fun i h0 hn => by
  by_cases e : i = j
  · subst e
    rcases hs with hs | hs
    · omega
    · exact hs
  · exact h.1 i h0 hn e
theorem UpI.step {L : List Int} {n j : Nat} (h : UpI L n j) (hj : 0 < j) (hjn : j < n) (hn : n ≤ L.length) (hlt : atI L j < atI L ((j - 1) / 2)) : UpI (swapL L ((j - 1) / 2) j) n ((j - 1) / 2) := by
  have hp : (j - 1) / 2 < L.length := by omega
  have hjl : j < L.length := by omega
  refine ⟨fun i h0 hi hne => ?_, fun hp0 i h0 hi hpi => ?_⟩
  · rw [atI_swap hp hjl, atI_swap hp hjl]
    by_cases e1 : i = j
    · subst e1
      rw [if_neg (by omega), if_pos rfl, if_pos rfl]
      omega
    · rw [if_neg e1, if_neg hne]
      by_cases e2 : (i - 1) / 2 = j
      · rw [if_pos e2]
        exact h.2 hj i h0 hi e2
      · rw [if_neg e2]
        split
        · rename_i e3
          have := h.1 i h0 hi e1
          rw [e3] at this
          omega
        · exact h.1 i h0 hi e1
  · rw [atI_swap hp hjl, atI_swap hp hjl, if_neg (by omega), if_neg (by omega)]
    have hgp := h.1 ((j - 1) / 2) hp0 (by omega) (by omega)
    by_cases e1 : i = j
    · rw [if_pos e1]
      exact hgp
    · rw [if_neg e1, if_neg (by omega)]
      have := h.1 i h0 hi e1
      rw [hpi] at this
      omega
/-- The lesser child. -/
def kidI (L : List Int) (n i : Nat) : Nat := if 2 * i + 2 < n ∧ atI L (2 * i + 2) < atI L (2 * i + 1) then 2 * i + 2 else 2 * i + 1
theorem kid_le {L : List Int} {n i k : Nat} (h : 2 * i + 1 < n) (hk : 0 < k) (hkn : k < n) (hp : (k - 1) / 2 = i) : atI L (kidI L n i) ≤ atI L k := by
  unfold kidI
  have : k = 2 * i + 1 ∨ k = 2 * i + 2 := by omega
  split
  · rename_i g
    rcases this with e | e <;> subst e
    · omega
    · exact Int.le_refl _
  · rename_i g
    rcases this with e | e <;> subst e
    · exact Int.le_refl _
    · exact Int.not_lt.1 (fun e => g ⟨hkn, e⟩)
theorem kid_range (L : List Int) {n i : Nat} (h : 2 * i + 1 < n) : kidI L n i < n ∧ (kidI L n i - 1) / 2 = i ∧ i < kidI L n i := by
  unfold kidI
  split
  · rename_i g
    exact ⟨g.1, by omega, by omega⟩
  · exact ⟨h, by omega, by omega⟩
theorem DownI.stop {L : List Int} {n i : Nat} (h : DownI L n i) (hs : n ≤ 2 * i + 1 ∨ atI L i ≤ atI L (kidI L n i)) : HeapN L n := fun k h0 hn => by
  by_cases e : (k - 1) / 2 = i
  · rcases hs with hs | hs
    · omega
    · rw [e]
      exact Int.le_trans hs (kid_le (by omega) h0 hn e)
  · exact h.1 k h0 hn e
theorem DownI.step {L : List Int} {n i : Nat} (h : DownI L n i) (hi : 2 * i + 1 < n) (hn : n ≤ L.length) (hlt : atI L (kidI L n i) < atI L i) : DownI (swapL L i (kidI L n i)) n (kidI L n i) := by
  obtain ⟨k1, k2, k3⟩ := kid_range L hi
  have hle : ∀ k, 0 < k → k < n → (k - 1) / 2 = i → atI L (kidI L n i) ≤ atI L k := fun k h0 hk e => kid_le hi h0 hk e
  obtain ⟨j, hj⟩ : ∃ j, kidI L n i = j := ⟨_, rfl⟩
  rw [hj] at k1 k2 k3 hlt hle ⊢
  have hil : i < L.length := by omega
  have hjl : j < L.length := by omega
  refine ⟨fun k h0 hk hne => ?_, fun _ k h0 hk hpk => ?_⟩
  · rw [atI_swap hil hjl, atI_swap hil hjl, if_neg hne]
    by_cases e1 : k = j
    · rw [if_pos e1, if_pos (by rw [e1]; exact k2)]
      omega
    · rw [if_neg e1]
      by_cases e2 : (k - 1) / 2 = i
      · rw [if_pos e2, if_neg (by omega)]
        exact hle k h0 hk e2
      · rw [if_neg e2]
        by_cases e3 : k = i
        · rw [if_pos e3]
          subst e3
          exact h.2 h0 j (by omega) k1 k2
        · rw [if_neg e3]
          exact h.1 k h0 hk e2
  · rw [atI_swap hil hjl, atI_swap hil hjl, k2, if_neg (by omega), if_pos rfl, if_neg (by omega), if_neg (by omega)]
    have := h.1 k h0 hk (by omega)
    rw [hpk] at this
    exact this
theorem HeapN.min {L : List Int} {n : Nat} (h : HeapN L n) : ∀ i, i < n → atI L 0 ≤ atI L i := by
  intro i
  induction i using Nat.strongRecOn with
  | ind i ih =>
    intro hi
    by_cases h0 : i = 0
    · rw [h0]; exact Int.le_refl _
    · exact Int.le_trans (ih ((i - 1) / 2) (by omega) (by omega)) (h i (by omega) hi)
theorem HeapN.all {L : List Int} (h : HeapN L L.length) : ∀ x ∈ L, atI L 0 ≤ x := fun x hx => by
  obtain ⟨i, hi⟩ := List.getElem?_of_mem hx
  have hl := (List.getElem?_eq_some_iff.1 hi).1
  have := h.min i hl
  rw [atI_get hl] at hi
  cases hi
  exact this
/-- A number behind a heap. -/
theorem HeapN.push {L : List Int} {x : Int} (h : HeapN L L.length) : UpI (L ++ [x]) (L.length + 1) L.length := by
  have e : ∀ i, i < L.length → atI (L ++ [x]) i = atI L i := fun i hi => by
    unfold atI
    rw [List.getD_eq_getElem?_getD, List.getElem?_append_left hi, List.getD_eq_getElem?_getD]
  refine ⟨fun i h0 hi hne => ?_, fun h0 i hi hin hp => by omega⟩
  rw [e _ (by omega), e _ (by omega)]
  exact h i h0 (by omega)
/-- The first and the last are swapped. -/
theorem HeapN.pop {L : List Int} {n : Nat} (h : HeapN L L.length) (hn : n + 1 = L.length) : DownI (swapL L 0 n) n 0 := by
  refine ⟨fun i h0 hi hp => ?_, fun h0 => by omega⟩
  rw [atI_swap (by omega) (by omega), atI_swap (by omega) (by omega), if_neg (by omega), if_neg hp, if_neg (by omega), if_neg (by omega)]
  exact h i h0 (by omega)
theorem HeapN.take {L : List Int} {n : Nat} (h : HeapN L n) (hn : n ≤ L.length) : HeapN (L.take n) (L.take n).length := fun i h0 hi => by
  have hl : (L.take n).length = n := by rw [List.length_take]; omega
  have e : ∀ i, i < n → atI (L.take n) i = atI L i := fun i hi => by
    unfold atI
    rw [List.getD_eq_getElem?_getD, List.getElem?_take, if_pos hi, List.getD_eq_getElem?_getD]
  rw [hl] at hi
  rw [e _ (by omega), e _ hi]
  exact h i h0 hi
end Go.Proofs.YtggighikemhnfaaDoor.Tm
namespace Go.Proofs.YtggighikemhnfaaDoor.Tm
open Go.RowKit
set_option linter.unusedVariables false
/-- All blocks of P are as they were. -/
structure Kp (P : Nat → Prop) (w w' : World) : Prop where
  os : w'.os = w.os
  tape : w'.tape = w.tape
  output : w'.output = w.output
  size : w'.heap.size = w.heap.size
  keep : ∀ k, P k → w'.heap[k]? = w.heap[k]?
theorem Kp.refl (P : Nat → Prop) (w : World) : Kp P w w := ⟨rfl, rfl, rfl, rfl, fun _ _ => rfl⟩
theorem Kp.trans {P : Nat → Prop} {u v w : World} (h : Kp P u v) (k : Kp P v w) : Kp P u w :=
  ⟨k.os.trans h.os, k.tape.trans h.tape, k.output.trans h.output, k.size.trans h.size, fun i hi => (k.keep i hi).trans (h.keep i hi)⟩
theorem Kp.drewN {P : Nat → Prop} {u w : World} (h : Kp P u w) (n : Nat) : Kp P u (w.drewN n) := ⟨h.os, h.tape, h.output, h.size, h.keep⟩
theorem Kp.cell {P : Nat → Prop} {w w' : World} (h : Kp P w w') {b o : Nat} (hb : P b) : w'.cell? ⟨b, o, none⟩ = w.cell? ⟨b, o, none⟩ := World.cell?_of_block (a := ⟨b, o, none⟩) (h.keep b hb)
theorem Kp.set {P : Nat → Prop} {u w : World} (h : Kp P u w) {g o : Nat} (hg : ¬ P g) (v : Value) : Kp P u (w.setCell ⟨g, o, none⟩ v) :=
  ⟨h.os, h.tape, h.output, by simpa using h.size, fun k hk => (Below.heap_setCell _ _ _ _ (fun e => hg (by subst e; exact hk))).trans (h.keep k hk)⟩
theorem row_cell {w : World} {base g cap : Nat} {L : List Int} (h : RowO w base L (.slice (some ⟨g, 0, none⟩) L.length cap)) {i : Nat} (hi : i < L.length) : w.cell? ⟨g, i, none⟩ = some (.int .i64 (atI L i)) := by
  obtain ⟨a, c, e, _, _, h3, _⟩ := own_at h
  cases e
  obtain ⟨g', o', e2, _, hc⟩ := h3 (by simp; omega)
  cases e2
  have := hc i (.int .i64 (atI L i)) (by rw [List.getElem?_map, atI_get hi]; rfl)
  rw [Nat.zero_add] at this
  exact this
theorem row_own {w : World} {base g cap : Nat} {L : List Int} (h : RowO w base L (.slice (some ⟨g, 0, none⟩) L.length cap)) : ∃ cur, w.heap[g]? = some (.cells cur 3 (0, 0)) ∧ base ≤ g ∧ L.length ≤ cap ∧ cap ≤ maxLen ∧ cur.size = cap ∧ cur.toList.take L.length = L.map (.int .i64) := by
  rcases h.2 with ⟨e, _⟩ | ⟨g', cap', cur, e, h1, h2, h3, h4, h5, h6⟩
  · cases e
  · cases e
    rw [Nat.mul_one] at h5 h6
    exact ⟨cur, h2, h1, h3, h4, h5, h6⟩
theorem row_set {w : World} {base g cap : Nat} {L : List Int} (h : RowO w base L (.slice (some ⟨g, 0, none⟩) L.length cap)) {i : Nat} (hi : i < L.length) (x : Int) : RowO (w.setCell ⟨g, i, none⟩ (.int .i64 x)) base (L.set i x) (.slice (some ⟨g, 0, none⟩) (L.set i x).length cap) := by
  obtain ⟨cur, h2, h1, h3, h4, h5, h6⟩ := row_own h
  rw [List.length_set]
  refine ⟨by simp, .inr ⟨g, cap, cur.setIfInBounds i (.int .i64 x), by simp, h1, ?_, by simp; omega, h4, by simp; omega, ?_⟩⟩
  · rw [heap_setCell_same w g i _ _ _ h2]
  · rw [List.length_set, Nat.mul_one, List.map_set, ← h6]
    simp [List.take_set]
theorem row_fz {w : World} {base g cap : Nat} {L : List Int} (h : RowO w base L (.slice (some ⟨g, 0, none⟩) L.length cap)) (i : Nat) : w.frozen? ⟨g, i, none⟩ = false ∧ g < w.heap.size := by
  obtain ⟨cur, h2, _⟩ := row_own h
  exact ⟨by simp [World.frozen?, h2], (Array.getElem?_eq_some_iff.1 h2).1⟩
theorem ILen_any (a : Option Addr) (n c : Nat) (w : World) : Calls Tryd.prog 59 #[.slice a n c] w fun e w' => e = .returned (.int .i64 n) ∧ w = w' := by
  go_enter Tryd.func59, Tryd.ntmps59
  go_wp2
  go_ret
  exact ⟨rfl, rfl⟩
theorem ILess_any (base g cap : Nat) (L : List Int) (i j : Nat) (r : Bool) (w : World) (h : RowO w base L (.slice (some ⟨g, 0, none⟩) L.length cap)) (hi : i < L.length) (hj : j < L.length) (hr : decide (atI L i < atI L j) = r) :
    Calls Tryd.prog 93 #[.slice (some ⟨g, 0, none⟩) L.length cap, .int .i64 i, .int .i64 j] w fun e w' => e = .returned (.bool r) ∧ ∃ q, w' = w.drewN q := by
  have c1 := row_cell h hi
  have c2 := row_cell h hj
  obtain ⟨_, hlt⟩ := row_fz h 0
  have l1 : L.length ≤ 9223372036854775807 := by
    obtain ⟨cur, h2, h1, h3, h4, _⟩ := row_own h
    simp only [maxLen] at h4; omega
  obtain ⟨x, hx⟩ : ∃ x, atI L i = x := ⟨_, rfl⟩
  obtain ⟨y, hy⟩ : ∃ y, atI L j = y := ⟨_, rfl⟩
  rw [hx] at c1 hr
  rw [hy] at c2 hr
  have i1 : (i : Int) < (L.length : Int) := by omega
  have j1 : (j : Int) < (L.length : Int) := by omega
  have HR := Lib.hid hr
  clear h hr hx hy
  go_enter Tryd.func93, Tryd.ntmps93
  go_wp2
  go_quiet (fail)
  go_wp2
  go_ret
  exact ⟨ret_bool HR.out, _, rfl⟩
theorem ISwap_any (base g cap : Nat) (L : List Int) (i j : Nat) (w : World) (h : RowO w base L (.slice (some ⟨g, 0, none⟩) L.length cap)) (hi : i < L.length) (hj : j < L.length) :
    Calls Tryd.prog 95 #[.slice (some ⟨g, 0, none⟩) L.length cap, .int .i64 i, .int .i64 j] w fun e w' => e = .returned (.tuple #[]) ∧ Hid (RowO w' base (swapL L i j) (.slice (some ⟨g, 0, none⟩) L.length cap) ∧ Kp (fun k => k ≠ g) w w') := by
  have c1 := row_cell h hi
  have c2 := row_cell h hj
  obtain ⟨_, hlt⟩ := row_fz h 0
  have f1 := (row_fz h i).1
  have f2 := (row_fz h j).1
  have l1 : L.length ≤ 9223372036854775807 := by
    obtain ⟨cur, h2, h1, h3, h4, _⟩ := row_own h
    simp only [maxLen] at h4; omega
  have HF : Hid (RowO (((w.setCell ⟨g, i, none⟩ (.int .i64 (atI L j))).setCell ⟨g, j, none⟩ (.int .i64 (atI L i))).drew) base (swapL L i j) (.slice (some ⟨g, 0, none⟩) L.length cap) ∧ Kp (fun k => k ≠ g) w (((w.setCell ⟨g, i, none⟩ (.int .i64 (atI L j))).setCell ⟨g, j, none⟩ (.int .i64 (atI L i))).drew)) := by
    have h2 := row_set h hi (atI L j)
    have h3 := row_set h2 (i := j) (by rw [List.length_set]; exact hj) (atI L i)
    rw [List.length_set, List.length_set] at h3
    exact ⟨h3, (((Kp.refl _ w).set (fun e => e rfl) _).set (fun e => e rfl) _).drewN 1⟩
  obtain ⟨x, hx⟩ : ∃ x, atI L i = x := ⟨_, rfl⟩
  obtain ⟨y, hy⟩ : ∃ y, atI L j = y := ⟨_, rfl⟩
  rw [hx] at c1 HF
  rw [hy] at c2 HF
  have i1 : (i : Int) < (L.length : Int) := by omega
  have j1 : (j : Int) < (L.length : Int) := by omega
  clear h hx hy
  by_cases hij : i = j
  · subst hij
    obtain rfl : y = x := by rw [c1] at c2; cases c2; rfl
    clear c2
    go_enter Tryd.func95, Tryd.ntmps95
    go_wp2
    go_region
    all_goals go_wp2
    all_goals go_end0
    all_goals exact ⟨rfl, HF⟩
  · have hji : ¬ j = i := fun e => hij e.symm
    go_enter Tryd.func95, Tryd.ntmps95
    go_wp2
    go_region
    all_goals go_wp2
    all_goals go_end0
    all_goals exact ⟨rfl, HF⟩
end Go.Proofs.YtggighikemhnfaaDoor.Tm
namespace Go.Proofs.YtggighikemhnfaaDoor.Tm
open Go.RowKit
set_option linter.unusedVariables false
/-- The run's queue: the slice lies in a cell of block b. -/
structure HQ (w : World) (base b g cap : Nat) (L : List Int) : Prop where
  ptr : w.cell? ⟨b, 1026, none⟩ = some (.slice (some ⟨g, 0, none⟩) L.length cap)
  row : RowO w base L (.slice (some ⟨g, 0, none⟩) L.length cap)
  ne : b ≠ g
  lt : b < w.heap.size
theorem HQ.kp {w w' : World} {base b g cap : Nat} {L L' : List Int} (h : HQ w base b g cap L) (k : Kp (fun k => k ≠ g) w w') (hl : L'.length = L.length) (hr : RowO w' base L' (.slice (some ⟨g, 0, none⟩) L.length cap)) : HQ w' base b g cap L' :=
  ⟨by rw [k.cell h.ne, hl]; exact h.ptr, by rw [hl]; exact hr, h.ne, by rw [k.size]; exact h.lt⟩
theorem HQ.drewN {w : World} {base b g cap : Nat} {L : List Int} (h : HQ w base b g cap L) (q : Nat) : HQ (w.drewN q) base b g cap L := ⟨h.ptr, h.row, h.ne, h.lt⟩
theorem HQ.len {w : World} {base b g cap : Nat} {L : List Int} (h : HQ w base b g cap L) : L.length ≤ cap ∧ cap ≤ 9223372036854775807 := by
  obtain ⟨cur, h2, h1, h3, h4, _⟩ := row_own h.row
  simp only [maxLen] at h4
  exact ⟨h3, by omega⟩
def qI (b : Nat) : Value := .iface 84 (.pointer (some ⟨b, 1026, none⟩))
theorem meth_load {w : World} {b f : Nat} {v : Value} (name : String) (h : w.cell? ⟨b, 1026, none⟩ = some v) (ho : (Tryd.t84.methods.find? (·.name == name)).map (fun m => (m.path, m.func)) = some (#[⟨52, 0, true⟩], some (f, false))) :
    Sem.run Tryd.prog (method 223 84 (.pointer (some ⟨b, 1026, none⟩)) name) w = .ok (f, v) w := by
  obtain ⟨m, hm, he⟩ := Option.map_eq_some_iff.1 ho
  simp only [Prod.mk.injEq] at he
  obtain ⟨h1, h2⟩ := he
  show (method (_ + 1) _ _ _).run _ _ = _
  unfold method
  go_simp
  simp only [follow, Place.get, receiverAt]
  go_simp
theorem meth_Len {w : World} {b : Nat} {v : Value} (h : w.cell? ⟨b, 1026, none⟩ = some v) : Sem.run Tryd.prog (method 223 84 (.pointer (some ⟨b, 1026, none⟩)) "Len") w = .ok (59, v) w := meth_load _ h (by kernel_rfl)
theorem meth_Less {w : World} {b : Nat} {v : Value} (h : w.cell? ⟨b, 1026, none⟩ = some v) : Sem.run Tryd.prog (method 223 84 (.pointer (some ⟨b, 1026, none⟩)) "Less") w = .ok (93, v) w := meth_load _ h (by kernel_rfl)
theorem meth_Swap {w : World} {b : Nat} {v : Value} (h : w.cell? ⟨b, 1026, none⟩ = some v) : Sem.run Tryd.prog (method 223 84 (.pointer (some ⟨b, 1026, none⟩)) "Swap") w = .ok (95, v) w := meth_load _ h (by kernel_rfl)
theorem meth_Push (w : World) (b : Nat) : Sem.run Tryd.prog (method 223 84 (.pointer (some ⟨b, 1026, none⟩)) "Push") w = .ok (97, .pointer (some ⟨b, 1026, none⟩)) w := by kernel_rfl
theorem meth_Pop (w : World) (b : Nat) : Sem.run Tryd.prog (method 223 84 (.pointer (some ⟨b, 1026, none⟩)) "Pop") w = .ok (96, .pointer (some ⟨b, 1026, none⟩)) w := by kernel_rfl
end Go.Proofs.YtggighikemhnfaaDoor.Tm
