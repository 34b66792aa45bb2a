/- CoreMeans: rows that are well sorted; what Of gives, in a world. -/
import Derived.Test.YtpppfghdjbmbgaaGreatDoorZHdV
import Derived.Test.YtpppfghdjbmbgaaGreatDoorZCqF
namespace Go.Proofs.YtpppfghdjbmbgaaGreatDoor
open Go.RowKit
open Tm (NodeA NodeOk TabR mayT okFrom standsB)
set_option linter.unusedVariables false
theorem Tm.may_in {n : Int} (h : mayB n = true) : -4611686018427387904 ≤ n ∧ n ≤ 4611686018427387904 := mayB_true.1 h
/-- Values, in a table and an interpretation that may be. -/
structure Vals (x : SigV) (y : WorV) (t : List NodeA) (E : List (Int × Bool)) : Prop where
  may : mayT t = true
  wor : worQ x y = true
  row : ∀ (k : Nat) (n : NodeA), t[k]? = some n → rowT x t n = true
  len : E.length = t.length
  at_ : ∀ (k : Nat) (n : NodeA), t[k]? = some n → atV E (k : Int) = stepV x y E n
theorem badV_no {L : List (Int × Bool)} {n : NodeA} : ∀ {k : Nat}, badV L n k = false → ∀ j : Nat, j < k → (atV L (argN n j)).2 = false
  | 0, _, j, hj => absurd hj (Nat.not_lt_zero _)
  | k + 1, h, j, hj => by
    have h' : (badV L n k || (atV L (argN n k)).2) = false := h
    rw [Bool.or_eq_false_iff] at h'
    by_cases e : j = k
    · subst e; exact h'.2
    · exact badV_no h'.1 j (by omega)
/-- What a node that does not overflow has as its value. -/
structure Fine1 (x : SigV) (y : WorV) (E : List (Int × Bool)) (n : NodeA) (v : Int) : Prop where
  args : ∀ j : Nat, (j : Int) < n.len → (atV E (argN n j)).2 = false
  ok : (ndV x y n (argsV E n n.len.toNat)).2 = true
  val : v = (ndV x y n (argsV E n n.len.toNat)).1
theorem Vals.fine {x : SigV} {y : WorV} {t : List NodeA} {E : List (Int × Bool)} (h : Vals x y t E) {k : Nat} {n : NodeA} (hk : t[k]? = some n) (ho : (atV E (k : Int)).2 = false) : Fine1 x y E n (atV E (k : Int)).1 := by
  rw [h.at_ k n hk] at ho ⊢
  unfold stepV at ho ⊢
  by_cases hb : badV E n n.len.toNat = true
  · rw [if_pos hb] at ho; cases ho
  · rw [if_neg hb] at ho ⊢
    by_cases h2 : (ndV x y n (argsV E n n.len.toNat)).2 = true
    · rw [if_pos h2]
      exact ⟨fun j hj => badV_no (Bool.eq_false_iff.2 hb) j (by omega), h2, rfl⟩
    · rw [if_neg h2] at ho; cases ho
theorem argsV_get {E : List (Int × Bool)} {n : NodeA} {m j : Nat} (h : j < m) : (argsV E n m).getD j 0 = (atV E (argN n j)).1 := by
  unfold argsV
  rw [List.getD_eq_getElem?_getD, List.getElem?_map, List.getElem?_range h]; rfl
theorem sortsN_get {t : List NodeA} {n : NodeA} {j : Nat} (h : (j : Int) < n.len) : (sortsN t n).getD j 0 = srtN t (argN n j) := by
  unfold sortsN
  rw [List.getD_eq_getElem?_getD, List.getElem?_map, List.getElem?_range (by omega)]; rfl
theorem srtN_at {t : List NodeA} {k : Nat} {n : NodeA} (h : t[k]? = some n) : srtN t (k : Int) = n.sort := by
  unfold srtN
  rw [Int.toNat_natCast, h]; rfl
theorem worQ_sizes {x : SigV} {y : WorV} (h : worQ x y = true) : y.sizes.length = x.sorts.length := by
  unfold worQ at h
  simp only [Bool.and_eq_true, decide_eq_true_eq] at h
  exact h.2.1
theorem isB_bool {n : Nat} {z : List Int} (hz : z.length = n) (v : Int) : isB n z 0 v = decide (v = 0 ∨ v = 1) := by
  rw [isB_there hz (by decide) (by omega)]; rfl
theorem isB_int {n : Nat} {z : List Int} (hz : z.length = n) (v : Int) : isB n z 1 v = mayB v := by
  rw [isB_there hz (by decide) (by omega)]; rfl
theorem bitN_is (q : Bool) : bitN q = 0 ∨ bitN q = 1 := by cases q <;> simp [bitN]
/-- The sort that the kind gives, and its arguments' sorts. -/
theorem op_sorts {op : Int} {l : List Int} (h : opE op l = 0) : (l.length : Int) = manyN op ∧ ∃ s, opO op l = some s ∧ opV op l = s := by
  have hh := h
  unfold opE at h
  by_cases h1 : manyN op < 0 ∨ ¬ (l.length : Int) = manyN op
  · rw [if_pos h1] at h; cases h
  rw [if_neg h1] at h
  by_cases h2 : l.any (fun s => decide (s < 0)) = true
  · rw [if_pos h2] at h; cases h
  rw [if_neg h2] at h
  by_cases h3 : (opO op l).isSome = true
  · obtain ⟨s, hs⟩ := Option.isSome_iff_exists.1 h3
    refine ⟨by omega, s, hs, ?_⟩
    unfold opV
    rw [if_pos hh, hs]; rfl
  · rw [if_neg h3] at h; cases h
theorem alike_at {l : List Int} {n s : Int} (h : alikeB l n s = true) {j : Nat} (hj : (j : Int) < n) : l.getD j 0 = s := by
  unfold alikeB at h
  simp only [Bool.and_eq_true, decide_eq_true_eq] at h
  have hlt : j < l.length := by omega
  rw [List.getD_eq_getElem?_getD, List.getElem?_eq_getElem hlt]
  have := List.all_eq_true.1 h.1 l[j] (List.getElem_mem hlt)
  simpa using this
theorem row_facts {x : SigV} {t : List NodeA} {n : NodeA} (h : rowT x t n = true) : rulE x t n = 0 ∧ rulV x t n = n.sort := by
  unfold rowT at h
  simp only [Bool.and_eq_true, decide_eq_true_eq] at h
  exact h
theorem seqQ_all {α : Type} {one : List α → α → Bool} {l : List α} (h : seqQ one [] l = true) {p : α} (hp : p ∈ l) : ∃ k, one (l.take k) p = true := by
  obtain ⟨k, hk⟩ := List.getElem?_of_mem hp
  exact ⟨k, seqQ_at h hk⟩
theorem zip_at {α β : Type} {l : List α} {m : List β} {k : Nat} {a : α} {b : β} (ha : l[k]? = some a) (hb : m[k]? = some b) : (a, b) ∈ l.zip m := by
  apply List.mem_of_getElem? (i := k)
  rw [List.getElem?_zip_eq_some]
  exact ⟨ha, hb⟩
theorem apply_is {x : SigV} {y : WorV} {f : Int} {l : List Int} (hw : worQ x y = true) (h : askE x y f l = 0) : isB x.sorts.length y.sizes (fnA x f).res (applyV x y f l) = true := by
  obtain ⟨_, f0, f1, _⟩ := askE_zero h
  have hl := worQ_len hw
  obtain ⟨k, rfl⟩ : ∃ k : Nat, f = k := ⟨f.toNat, by omega⟩
  have hk : k < x.funs.length := by omega
  have e1 : x.funs[k]? = some (fnA x k) := by unfold fnA; rw [Int.toNat_natCast, List.getElem?_eq_getElem hk]; rfl
  have e2 : y.funs[k]? = some (fvA y k) := by unfold fvA; rw [Int.toNat_natCast, List.getElem?_eq_getElem (by omega)]; rfl
  have hz : fvQ x.sorts.length y.sizes (fnA x k) (fvA y k) = true := by
    unfold worQ at hw
    simp only [Bool.and_eq_true] at hw
    exact List.all_eq_true.1 hw.2.2.2.2 _ (zip_at e1 e2)
  unfold fvQ at hz
  simp only [Bool.and_eq_true] at hz
  unfold applyV
  rw [if_pos h]
  unfold rowV
  cases hf : (fvA y k).rows.find? (fun s => sameA s ⟨l.getD 0 0, l.getD 1 0, l.getD 2 0, 0⟩) with
  | none => exact hz.2.1
  | some r =>
    obtain ⟨j, hj⟩ := seqQ_all hz.2.2 (List.mem_of_find?_eq_some hf)
    unfold oneR at hj
    simp only [Bool.and_eq_true] at hj
    exact hj.2.1
theorem max_bit {a b : Int} (ha : a = 0 ∨ a = 1) (hb : b = 0 ∨ b = 1) : max a b = 0 ∨ max a b = 1 := by
  rcases ha with rfl | rfl <;> rcases hb with rfl | rfl <;> decide
theorem mul_bit {a b : Int} (ha : a = 0 ∨ a = 1) (hb : b = 0 ∨ b = 1) : wrap64 (a * b) = 0 ∨ wrap64 (a * b) = 1 := by
  rcases ha with rfl | rfl <;> rcases hb with rfl | rfl <;> (unfold wrap64; omega)
theorem not_bit {a : Int} (ha : a = 0 ∨ a = 1) : wrap64 (1 - a) = 0 ∨ wrap64 (1 - a) = 1 := by
  rcases ha with rfl | rfl <;> (unfold wrap64; omega)
/-- The arguments of a node of those kinds are Bools. -/
theorem Vals.arg {x : SigV} {y : WorV} {t : List NodeA} {E : List (Int × Bool)} (h : Vals x y t E) {k : Nat} {n : NodeA} (hk : t[k]? = some n) {j : Nat} (hj : (j : Int) < n.len) : ∃ (i : Nat) (m : NodeA), argN n j = (i : Int) ∧ i < k ∧ t[i]? = some m ∧ srtN t (argN n j) = m.sort := by
  have hlt := (List.getElem?_eq_some_iff.1 hk).1
  have hst := (Tm.ok_at (Tm.mayT_ok h.may).2 hk).1
  obtain ⟨a0, a1⟩ := stands_arg hst j hj
  obtain ⟨i, hi⟩ : ∃ i : Nat, argN n j = (i : Int) := ⟨(argN n j).toNat, by omega⟩
  refine ⟨i, t[i]'(by omega), hi, by omega, List.getElem?_eq_getElem (by omega), ?_⟩
  rw [hi]
  exact srtN_at (List.getElem?_eq_getElem (by omega))
theorem fits_of {n : Nat} {z : List Int} {f : FunA} {b0 b1 b2 : Int} (h0 : (0 : Int) < f.len → isB n z f.a0 b0 = true) (z0 : ¬ (0 : Int) < f.len → b0 = 0) (h1 : (1 : Int) < f.len → isB n z f.a1 b1 = true) (z1 : ¬ (1 : Int) < f.len → b1 = 0) (h2 : (2 : Int) < f.len → isB n z f.a2 b2 = true) (z2 : ¬ (2 : Int) < f.len → b2 = 0) : fitB n z f b0 b1 b2 = true := by
  have one : ∀ (k : Nat) (b : Int), ((k : Int) < f.len → isB n z (argV f k) b = true) → (¬ (k : Int) < f.len → b = 0) → fitAt n z f b k = true := fun k b h z => by
    unfold fitAt
    by_cases hk : (k : Int) < f.len
    · rw [if_pos hk]; exact h hk
    · rw [if_neg hk]; exact decide_eq_true (z hk)
  unfold fitB
  rw [one 0 b0 h0 z0, one 1 b1 h1 z1, one 2 b2 h2 z2]; rfl
theorem num_may {n : NodeA} {k : Nat} (h : standsB n k = true) (ho : n.op = 10 ∨ n.op = 11 ∨ n.op = 12) : mayB n.num = true := by
  unfold Tm.standsB at h
  rw [decide_eq_true_eq] at h
  obtain ⟨⟨h0, h1, h2⟩, _⟩ := h
  rw [if_neg (by omega), if_pos ho] at h2
  exact h2.2.2
theorem argsV_len (E : List (Int × Bool)) (n : NodeA) (k : Nat) : (argsV E n k).length = k := by unfold argsV; rw [List.length_map, List.length_range]
theorem sortsN_len (t : List NodeA) (n : NodeA) : (sortsN t n).length = n.len.toNat := by unfold sortsN; rw [List.length_map, List.length_range]
/-- A node that does not overflow has a value of its sort. -/
theorem Vals.is {x : SigV} {y : WorV} {t : List NodeA} {E : List (Int × Bool)} (h : Vals x y t E) : ∀ (K k : Nat) (n : NodeA), k < K → t[k]? = some n → (atV E (k : Int)).2 = false → isB x.sorts.length y.sizes n.sort (atV E (k : Int)).1 = true
  | 0, k, n, hK, _, _ => absurd hK (Nat.not_lt_zero _)
  | K + 1, k, n, hK, hk, ho => by
    have hst := (Tm.ok_at (Tm.mayT_ok h.may).2 hk).1
    have hf := stands_form hst
    obtain ⟨fa, fo, fv⟩ := h.fine hk ho
    obtain ⟨r0, r1⟩ := row_facts (h.row k n hk)
    have hz := worQ_sizes h.wor
    have IH : ∀ j : Nat, (j : Int) < n.len → isB x.sorts.length y.sizes (srtN t (argN n j)) ((argsV E n n.len.toNat).getD j 0) = true := fun j hj => by
      obtain ⟨i, m, e1, e2, e3, e4⟩ := h.arg hk hj
      rw [argsV_get (by omega), e4, e1]
      exact Vals.is h K i m (by omega) e3 (by have := fa j hj; rw [e1] at this; exact this)
    rw [fv]
    by_cases h13 : n.op = 13
    · have e : ndV x y n (argsV E n n.len.toNat) = (applyV x y n.fn (argsV E n n.len.toNat), true) := by unfold ndV; rw [h13]; rfl
      rw [e]
      unfold rulE at r0
      unfold rulV at r1
      rw [if_pos h13] at r0 r1
      have ha : appE x n.fn (sortsN t n) = 0 := by
        by_cases hh : appE x n.fn (sortsN t n) = 0
        · exact hh
        · rw [if_neg hh] at r0; cases r0
      have hs : (fnA x n.fn).res = n.sort := by
        unfold appV at r1
        rw [if_pos ha] at r1
        exact r1
      rw [← hs]
      refine apply_is h.wor ?_
      unfold appE at ha
      by_cases hc : checkQ x.a = true ∧ 0 ≤ n.fn ∧ n.fn < (x.funs.length : Int) ∧ ((sortsN t n).length : Int) = (fnA x n.fn).len
      · rw [if_pos hc] at ha
        obtain ⟨_, c1, c2, c3⟩ := hc
        rw [sortsN_len] at c3
        have hab : argsB (fnA x n.fn) (sortsN t n) = true := by
          by_cases hh : argsB (fnA x n.fn) (sortsN t n) = true
          · exact hh
          · rw [if_neg hh] at ha; cases ha
        have hsr : ∀ j : Nat, (j : Int) < n.len → srtN t (argN n j) = argV (fnA x n.fn) j := fun j hj => by
          unfold argsB at hab
          have := List.all_eq_true.1 hab j (List.mem_range.2 (by rw [sortsN_len]; omega))
          rw [decide_eq_true_eq, sortsN_get hj] at this
          exact this
        unfold askE
        rw [if_pos ⟨h.wor, c1, c2, by rw [argsV_len]; exact c3⟩, if_pos]
        have one : ∀ j : Nat, (j : Int) < (fnA x n.fn).len → isB x.sorts.length y.sizes (argV (fnA x n.fn) j) ((argsV E n n.len.toNat).getD j 0) = true := fun j hj => by
          rw [← hsr j (by omega)]; exact IH j (by omega)
        have non : ∀ j : Nat, ¬ (j : Int) < (fnA x n.fn).len → (argsV E n n.len.toNat).getD j 0 = 0 := fun j hj => by
          rw [List.getD_eq_getElem?_getD, List.getElem?_eq_none (by rw [argsV_len]; omega)]; rfl
        exact fits_of (fun hj => one 0 hj) (fun hj => non 0 hj) (fun hj => one 1 hj) (fun hj => non 1 hj) (fun hj => one 2 hj) (fun hj => non 2 hj)
      · rw [if_neg hc] at ha; cases ha
    · unfold rulE at r0
      unfold rulV at r1
      rw [if_neg h13] at r0 r1
      obtain ⟨hm, s, hs, hs2⟩ := op_sorts r0
      rw [hs2] at r1
      subst r1
      rw [sortsN_len] at hm
      have g0 : (0 : Int) < n.len → (sortsN t n).getD 0 0 = srtN t (argN n 0) := fun h => sortsN_get h
      have g1 : (1 : Int) < n.len → (sortsN t n).getD 1 0 = srtN t (argN n 1) := fun h => sortsN_get h
      have g2 : (2 : Int) < n.len → (sortsN t n).getD 2 0 = srtN t (argN n 2) := fun h => sortsN_get h
      have hop : n.op = 0 ∨ n.op = 1 ∨ n.op = 2 ∨ n.op = 3 ∨ n.op = 4 ∨ n.op = 5 ∨ n.op = 6 ∨ n.op = 7 ∨ n.op = 8 ∨ n.op = 9 ∨ n.op = 10 ∨ n.op = 11 ∨ n.op = 12 := by omega
      have bool1 : ∀ j : Nat, (j : Int) < n.len → srtN t (argN n j) = 0 → (argsV E n n.len.toNat).getD j 0 = 0 ∨ (argsV E n n.len.toNat).getD j 0 = 1 := fun j hj hs => by
        have := IH j hj
        rw [hs, isB_bool hz, decide_eq_true_eq] at this
        exact this
      have int1 : ∀ j : Nat, (j : Int) < n.len → srtN t (argN n j) = 1 → mayB ((argsV E n n.len.toNat).getD j 0) = true := fun j hj hs => by
        have := IH j hj
        rw [hs, isB_int hz] at this
        exact this
      unfold ndV at fo ⊢
      rcases hop with ho' | ho' | ho' | ho' | ho' | ho' | ho' | ho' | ho' | ho' | ho' | ho' | ho' <;> rw [ho'] at hs fo ⊢ hm <;> simp only [opO, Option.some.injEq, Int.reduceEq, or_self, or_false, or_true, ite_false, ite_true] at hs fo ⊢
      · rw [← hs, isB_bool hz]; decide
      · have hl : n.len = 1 := by have : manyN 1 = 1 := rfl; omega
        split at hs
        · rename_i hal
          have s0 : srtN t (argN n 0) = 0 := by rw [← g0 (by omega)]; exact alike_at hal (j := 0) (by decide)
          rw [← Option.some.inj hs, isB_bool hz, decide_eq_true_eq]
          exact not_bit (bool1 0 (by omega) s0)
        · cases hs
      · have hl : n.len = 2 := by have : manyN 2 = 2 := rfl; omega
        split at hs
        · rename_i hal
          have s0 : srtN t (argN n 0) = 0 := by rw [← g0 (by omega)]; exact alike_at hal (j := 0) (by decide)
          have s1 : srtN t (argN n 1) = 0 := by rw [← g1 (by omega)]; exact alike_at hal (j := 1) (by decide)
          rw [← Option.some.inj hs, isB_bool hz, decide_eq_true_eq]
          exact mul_bit (bool1 0 (by omega) s0) (bool1 1 (by omega) s1)
        · cases hs
      · have hl : n.len = 2 := by have : manyN 3 = 2 := rfl; omega
        split at hs
        · rename_i hal
          have s0 : srtN t (argN n 0) = 0 := by rw [← g0 (by omega)]; exact alike_at hal (j := 0) (by decide)
          have s1 : srtN t (argN n 1) = 0 := by rw [← g1 (by omega)]; exact alike_at hal (j := 1) (by decide)
          rw [← Option.some.inj hs, isB_bool hz, decide_eq_true_eq]
          exact max_bit (bool1 0 (by omega) s0) (bool1 1 (by omega) s1)
        · cases hs
      · have hl : n.len = 2 := by have : manyN 4 = 2 := rfl; omega
        split at hs
        · rename_i hal
          have s0 : srtN t (argN n 0) = 0 := by rw [← g0 (by omega)]; exact alike_at hal (j := 0) (by decide)
          have s1 : srtN t (argN n 1) = 0 := by rw [← g1 (by omega)]; exact alike_at hal (j := 1) (by decide)
          rw [← Option.some.inj hs, isB_bool hz, decide_eq_true_eq]
          exact bitN_is _
        · cases hs
      · have hl : n.len = 2 := by have : manyN 5 = 2 := rfl; omega
        split at hs
        · rename_i hal
          have s0 : srtN t (argN n 0) = 0 := by rw [← g0 (by omega)]; exact alike_at hal (j := 0) (by decide)
          have s1 : srtN t (argN n 1) = 0 := by rw [← g1 (by omega)]; exact alike_at hal (j := 1) (by decide)
          rw [← Option.some.inj hs, isB_bool hz, decide_eq_true_eq]
          exact bitN_is _
        · cases hs
      · split at hs
        · rw [← Option.some.inj hs, isB_bool hz, decide_eq_true_eq]
          exact bitN_is _
        · cases hs
      · have hl : n.len = 3 := by have : manyN 7 = 3 := rfl; omega
        split at hs
        · rename_i hal
          rw [← Option.some.inj hs]
          split
          · rw [g1 (by omega)]; exact IH 1 (by omega)
          · rw [hal.2, g2 (by omega)]; exact IH 2 (by omega)
        · cases hs
      · split at hs
        · rw [← Option.some.inj hs, isB_bool hz, decide_eq_true_eq]
          exact bitN_is _
        · cases hs
      · split at hs
        · rw [← Option.some.inj hs, isB_bool hz, decide_eq_true_eq]
          exact bitN_is _
        · cases hs
      · rw [← hs, isB_int hz]
        exact num_may hst (.inl ho')
      · split at hs
        · rw [← Option.some.inj hs, isB_int hz]
          split at fo
          · cases fo
          · rw [if_neg (by assumption)]; exact fo
        · cases hs
      · split at hs
        · rw [← Option.some.inj hs, isB_bool hz, decide_eq_true_eq]
          exact bitN_is _
        · cases hs
/-- A base and a number: what a node is that does not overflow. -/
theorem Vals.int {x : SigV} {y : WorV} {t : List NodeA} {E : List (Int × Bool)} (h : Vals x y t E) {k : Nat} {n : NodeA} (hk : t[k]? = some n) (hs : n.sort = 1) (ho : (atV E (k : Int)).2 = false) : mayB (atV E (k : Int)).1 = true := by
  have := h.is (k + 1) k n (by omega) hk ho
  rw [hs, isB_int (worQ_sizes h.wor)] at this
  exact this
/-- What an OpAdd is, and its argument. -/
theorem Vals.add {x : SigV} {y : WorV} {t : List NodeA} {E : List (Int × Bool)} (h : Vals x y t E) {k : Nat} {n : NodeA} (hk : t[k]? = some n) (hop : n.op = 11) (ho : (atV E (k : Int)).2 = false) : ∃ (i : Nat) (m : NodeA), n.a0 = (i : Int) ∧ i < k ∧ t[i]? = some m ∧ m.sort = 1 ∧ (atV E (i : Int)).2 = false ∧ (atV E (k : Int)).1 = (atV E (i : Int)).1 + n.num := by
  have hst := (Tm.ok_at (Tm.mayT_ok h.may).2 hk).1
  have hf := stands_form hst
  obtain ⟨fa, fo, fv⟩ := h.fine hk ho
  obtain ⟨r0, r1⟩ := row_facts (h.row k n hk)
  have hl : n.len = 1 := by rcases hf.2.2.2.2 with e | e; · omega
                            · rw [e, hop]; rfl
  obtain ⟨i, m, e1, e2, e3, e4⟩ := h.arg hk (j := 0) (by omega)
  have e1' : n.a0 = (i : Int) := e1
  have hms : m.sort = 1 := by
    unfold rulE at r0
    rw [if_neg (by omega)] at r0
    obtain ⟨hm, s, hs, hs2⟩ := op_sorts r0
    rw [hop] at hs
    simp only [opO, Int.reduceEq, ite_false, ite_true] at hs
    split at hs
    · rename_i hal
      rw [← e4, ← sortsN_get (by omega)]
      exact alike_at hal (j := 0) (by decide)
    · cases hs
  have hio : (atV E (i : Int)).2 = false := by have := fa 0 (by omega); rw [e1] at this; exact this
  refine ⟨i, m, e1', e2, e3, hms, hio, ?_⟩
  have hv : (argsV E n n.len.toNat).getD 0 0 = (atV E (i : Int)).1 := by rw [argsV_get (by omega), e1]
  have b0 := Tm.may_in (h.int e3 hms hio)
  have b1 := Tm.may_in (num_may hst (.inr (.inl hop)))
  rw [fv]
  unfold ndV at fo ⊢
  rw [hop, hv] at fo ⊢
  simp only [Int.reduceEq, ite_false, ite_true] at fo ⊢
  split at fo
  · cases fo
  · rw [if_neg (by assumption)]
    have b2 := Tm.may_in fo
    show wrap64 _ = _
    unfold wrap64 at b2 ⊢
    omega
theorem Vals.num {x : SigV} {y : WorV} {t : List NodeA} {E : List (Int × Bool)} (h : Vals x y t E) {k : Nat} {n : NodeA} (hk : t[k]? = some n) (hop : n.op = 10) : (atV E (k : Int)).2 = false ∧ (atV E (k : Int)).1 = n.num := by
  have hst := (Tm.ok_at (Tm.mayT_ok h.may).2 hk).1
  have hf := stands_form hst
  have hl : n.len = 0 := by rcases hf.2.2.2.2 with e | e; · omega
                            · rw [e, hop]; rfl
  rw [h.at_ k n hk]
  unfold stepV
  have hb : badV E n n.len.toNat = false := by rw [hl]; rfl
  have hn : ndV x y n (argsV E n n.len.toNat) = (n.num, true) := by unfold ndV; rw [hop]; rfl
  rw [hb, hn]
  exact ⟨rfl, rfl⟩
end Go.Proofs.YtpppfghdjbmbgaaGreatDoor
namespace Go.Proofs.YtpppfghdjbmbgaaGreatDoor
open Go.RowKit
open Tm (NodeA NodeOk TabR mayT okFrom standsB MkS MkI PlA Pre Out WS srt WsN nodA putM negM impM leM eqM eqI xorM behM iteM sumM imgM splitA diffM numM two2 one1 argA)
set_option linter.unusedVariables false
/-- The node at a place does not overflow, and this is its value. -/
def OkV (E : List (Int × Bool)) (i v : Int) : Prop := (atV E i).2 = false ∧ (atV E i).1 = v
/-- A table that has what a maker has, and perhaps more. -/
def Ex (s : MkS) (c : List NodeA) : Prop := ∃ r, c = s.l ++ r
theorem Ex.up {s s' : MkS} {c : List NodeA} (h : Ex s' c) (k : Pre s s') : Ex s c := by
  obtain ⟨r, hr⟩ := h
  obtain ⟨q, hq⟩ := k.pre
  exact ⟨q ++ r, by rw [hr, hq, List.append_assoc]⟩
theorem Ex.same {s s' : MkS} {c : List NodeA} (h : Ex s' c) (e : s'.l = s.l) : Ex s c := by
  obtain ⟨r, hr⟩ := h
  exact ⟨r, by rw [hr, e]⟩
theorem Ex.get {s : MkS} {c : List NodeA} (h : Ex s c) {i : Int} (hi : PlA s i) : ∃ k : Nat, i = (k : Int) ∧ k < s.l.length ∧ c[k]? = some (nodA s.l i) := by
  obtain ⟨k, rfl, hk⟩ := hi.nat
  obtain ⟨r, hr⟩ := h
  exact ⟨k, rfl, hk, by rw [hr, List.getElem?_append_left hk]; exact Tm.nodA_get hk⟩
section
variable {x : SigV} {y : WorV} {c : List NodeA} {E : List (Int × Bool)} {most : Int} {s : MkS}
theorem Ex.bit (h : Ex s c) (hV : Vals x y c E) {i v : Int} (hi : PlA s i) (hs : srt s.l i = 0) (ho : OkV E i v) : v = 0 ∨ v = 1 := by
  obtain ⟨k, rfl, hk, hg⟩ := h.get hi
  have := hV.is (k + 1) k _ (by omega) hg ho.1
  have hs' : (nodA s.l k).sort = 0 := hs
  rw [hs', isB_bool (worQ_sizes hV.wor), ho.2] at this
  exact of_decide_eq_true this
theorem Ex.int (h : Ex s c) (hV : Vals x y c E) {i v : Int} (hi : PlA s i) (hs : srt s.l i = 1) (ho : OkV E i v) : mayB v = true := by
  obtain ⟨k, rfl, hk, hg⟩ := h.get hi
  have := hV.int hg hs ho.1
  rw [ho.2] at this
  exact this
theorem bad_no {L : List (Int × Bool)} {n : NodeA} : ∀ {k : Nat}, (∀ j : Nat, j < k → (atV L (argN n j)).2 = false) → badV L n k = false
  | 0, _ => rfl
  | k + 1, h => by
    show (badV L n k || (atV L (argN n k)).2) = false
    rw [bad_no fun j hj => h j (by omega), h k (by omega)]; rfl
end
end Go.Proofs.YtpppfghdjbmbgaaGreatDoor
namespace Go.Proofs.YtpppfghdjbmbgaaGreatDoor
open Go.RowKit
open Tm (NodeA NodeOk TabR mayT okFrom standsB MkS MkI PlA Pre Out WS srt WsN nodA putM negM impM leM eqM eqI xorM behM iteM sumM imgM splitA diffM numM two2 one1 argA imA subN stepM WkS StepQ AllIm ImP QC)
set_option linter.unusedVariables false
section
variable {x : SigV} {y : WorV} {c : List NodeA} {E : List (Int × Bool)} {most : Int} {s : MkS}
end
/-! What is put besides the node itself is no application. -/
section
variable {most : Int} {P : NodeA → Prop}
variable (hP : ∀ m : NodeA, ¬ m.op = 13 → P m)
include hP
end
theorem srtN_srt (t : List NodeA) (i : Int) : srtN t i = srt t i := by
  unfold srtN srt nodA
  rw [List.getD_eq_getElem?_getD]
  cases t[i.toNat]? <;> rfl
theorem argN_A (n : NodeA) (j : Nat) : argN n j = argA n j := by
  match j with
  | 0 => rfl
  | 1 => rfl
  | k + 2 =>
    unfold argN
    rw [if_neg (by omega), if_neg (by omega)]; rfl
end Go.Proofs.YtpppfghdjbmbgaaGreatDoor
namespace Go.Proofs.YtpppfghdjbmbgaaGreatDoor
open Go.RowKit
open Tm (NodeA NodeOk TabR mayT okFrom standsB MkS MkI PlA Pre Out WS srt WsN nodA imgM argA imA subN stepM WkS StepQ AllIm ImP QC badS sortsA srtA Cl ImsP OfErr FailP)
set_option linter.unusedVariables false
theorem srt_rng {c : List NodeA} (h : mayT c = true) {i : Int} (h0 : 0 ≤ i) (hl : i < (c.length : Int)) : srt c i = 0 ∨ srt c i = 1 ∨ srt c i = 2 ∨ srt c i = 3 ∨ srt c i = 4 ∨ srt c i = 5 := by
  obtain ⟨k, rfl⟩ : ∃ k : Nat, i = (k : Int) := ⟨i.toNat, by omega⟩
  have hst := (Tm.ok_at (Tm.mayT_ok h).2 (Tm.nodA_get (l := c) (k := k) (by omega))).1
  unfold Tm.standsB at hst
  rw [decide_eq_true_eq] at hst
  obtain ⟨_, s, _⟩ := hst
  unfold srt
  omega
theorem sorts_0 {c : List NodeA} {n : NodeA} (h : n.len = 0) : sortsN c n = [] := by unfold sortsN; rw [h]; rfl
theorem sorts_1 {c : List NodeA} {n : NodeA} (h : n.len = 1) : sortsN c n = [srt c n.a0] := by
  unfold sortsN; rw [h]
  show [srtN c n.a0] = _
  rw [srtN_srt]
theorem sorts_2 {c : List NodeA} {n : NodeA} (h : n.len = 2) : sortsN c n = [srt c n.a0, srt c n.a1] := by
  unfold sortsN; rw [h]
  show [srtN c n.a0, srtN c n.a1] = _
  rw [srtN_srt, srtN_srt]
theorem sorts_3 {c : List NodeA} {n : NodeA} (h : n.len = 3) : sortsN c n = [srt c n.a0, srt c n.a1, srt c n.a2] := by
  unfold sortsN; rw [h]
  show [srtN c n.a0, srtN c n.a1, srtN c n.a2] = _
  rw [srtN_srt, srtN_srt, srtN_srt]
theorem sortsA_N (c : List NodeA) (n : NodeA) : sortsA c n n.len.toNat = sortsN c n := by
  unfold sortsA sortsN
  refine List.map_congr_left fun j _ => ?_
  rw [argN_A, srtN_srt]; rfl
/-- A kind's Sort, of sorts that fit it, by either package. -/
theorem kind_ws {c : List NodeA} (hm : mayT c = true) {n : NodeA} {k : Nat} (hst : standsB n k = true) (hk : k ≤ c.length) (h13 : ¬ n.op = 13) (hw : WsN c n) : opE n.op (sortsN c n) = 0 ∧ opV n.op (sortsN c n) = n.sort ∧ badS c n = false := by
  have hfm := stands_form hst
  obtain ⟨_, hl, ha⟩ := Tm.stands_args hst
  have hlen := hl.resolve_left h13
  have key : opE n.op (sortsN c n) = 0 ∧ opV n.op (sortsN c n) = n.sort ∧ Tm.opA n.op (sortsN c n) = (n.sort, 0) := by
    have hr : n.op = 0 ∨ n.op = 1 ∨ n.op = 2 ∨ n.op = 3 ∨ n.op = 4 ∨ n.op = 5 ∨ n.op = 6 ∨ n.op = 7 ∨ n.op = 8 ∨ n.op = 9 ∨ n.op = 10 ∨ n.op = 11 ∨ n.op = 12 := by omega
    rcases hr with ho | ho | ho | ho | ho | ho | ho | ho | ho | ho | ho | ho | ho <;> rw [ho] at hlen ⊢
    · rw [sorts_0 hlen, hw.s0 ho]; exact ⟨rfl, rfl, rfl⟩
    · obtain ⟨e0, e1⟩ := hw.s1 ho
      rw [sorts_1 hlen, e0, e1]; exact ⟨rfl, rfl, rfl⟩
    · obtain ⟨e0, e1, e2⟩ := hw.s2 (by omega)
      rw [sorts_2 hlen, e0, e1, e2]; exact ⟨rfl, rfl, rfl⟩
    · obtain ⟨e0, e1, e2⟩ := hw.s2 (by omega)
      rw [sorts_2 hlen, e0, e1, e2]; exact ⟨rfl, rfl, rfl⟩
    · obtain ⟨e0, e1, e2⟩ := hw.s2 (by omega)
      rw [sorts_2 hlen, e0, e1, e2]; exact ⟨rfl, rfl, rfl⟩
    · obtain ⟨e0, e1, e2⟩ := hw.s2 (by omega)
      rw [sorts_2 hlen, e0, e1, e2]; exact ⟨rfl, rfl, rfl⟩
    · obtain ⟨e0, e1⟩ := hw.s6 ho
      have hl2 : n.len = 2 := hlen
      have p : 0 ≤ n.a0 ∧ n.a0 < (k : Int) := ha 0 (by omega)
      rw [sorts_2 hlen, e0, ← e1]
      rcases srt_rng hm p.1 (by omega) with e | e | e | e | e | e <;> rw [e] <;> exact ⟨rfl, rfl, rfl⟩
    · obtain ⟨e0, e1, e2⟩ := hw.s7 ho
      have hl2 : n.len = 3 := hlen
      have p : 0 ≤ n.a1 ∧ n.a1 < (k : Int) := ha 1 (by omega)
      rw [sorts_3 hlen, e0, e2, e1]
      have := srt_rng hm p.1 (by omega)
      rw [e1] at this
      rcases this with e | e | e | e | e | e <;> rw [e] <;> exact ⟨rfl, rfl, rfl⟩
    · obtain ⟨e0, e1, e2⟩ := hw.s8 (by omega)
      rw [sorts_2 hlen, e0, e1, e2]; exact ⟨rfl, rfl, rfl⟩
    · obtain ⟨e0, e1, e2⟩ := hw.s8 (by omega)
      rw [sorts_2 hlen, e0, e1, e2]; exact ⟨rfl, rfl, rfl⟩
    · rw [sorts_0 hlen, hw.s10 ho]; exact ⟨rfl, rfl, rfl⟩
    · obtain ⟨e0, e1⟩ := hw.s11 ho
      rw [sorts_1 hlen, e0, e1]; exact ⟨rfl, rfl, rfl⟩
    · obtain ⟨e0, e1, e2⟩ := hw.s8 (by omega)
      rw [sorts_2 hlen, e0, e1, e2]; exact ⟨rfl, rfl, rfl⟩
  refine ⟨key.1, key.2.1, ?_⟩
  unfold badS
  rw [if_neg h13]
  have e : srtA c n = (n.sort, 0) := by unfold srtA; rw [sortsA_N]; exact key.2.2
  rw [e]; simp
/-- A row that the document finds well sorted. -/
theorem ws_row {x : SigV} {t : List NodeA} {n : NodeA} {k : Nat} (hst : standsB n k = true) (h : rowT x t n = true) : WsN t n := by
  obtain ⟨r0, r1⟩ := row_facts h
  by_cases h13 : n.op = 13
  · exact ⟨fun e => by omega, fun e => by omega, fun e => by omega, fun e => by omega, fun e => by omega, fun e => by omega, fun e => by omega, fun e => by omega⟩
  unfold rulE at r0
  unfold rulV at r1
  rw [if_neg h13] at r0 r1
  obtain ⟨hm, s, hs, hs2⟩ := op_sorts r0
  rw [hs2] at r1
  subst r1
  rw [sortsN_len] at hm
  have hf := stands_form hst
  have hl := hf.2.2.2.2.resolve_left h13
  have g : ∀ j : Nat, (j : Int) < n.len → (sortsN t n).getD j 0 = srt t (argA n j) := fun j hj => by rw [sortsN_get hj, srtN_srt, argN_A]
  have two : n.op = 2 ∨ n.op = 3 ∨ n.op = 4 ∨ n.op = 5 ∨ n.op = 6 ∨ n.op = 8 ∨ n.op = 9 ∨ n.op = 12 → n.len = 2 := fun e => by
    rw [hl]; rcases e with e | e | e | e | e | e | e | e <;> rw [e] <;> decide
  refine ⟨fun e => ?_, fun e => ?_, fun e => ?_, fun e => ?_, fun e => ?_, fun e => ?_, fun e => ?_, fun e => ?_⟩
  · rw [e] at hs
    exact (Option.some.inj hs).symm
  · have hl1 : n.len = 1 := by rw [hl, e]; decide
    rw [e] at hs
    simp only [opO, Int.reduceEq, ite_false, or_self] at hs
    split at hs
    · rename_i hal
      exact ⟨(Option.some.inj hs).symm, (g 0 (by omega)).symm.trans (alike_at hal (j := 0) (by decide))⟩
    · cases hs
  · have hl2 := two (by omega)
    have hs' : (if alikeB (sortsN t n) 2 0 = true then some (0 : Int) else none) = some n.sort := by
      rcases e with e | e | e | e <;> rw [e] at hs <;> simp only [opO, Int.reduceEq, ite_false, or_self] at hs <;> exact hs
    split at hs'
    · rename_i hal
      exact ⟨(Option.some.inj hs').symm, (g 0 (by omega)).symm.trans (alike_at hal (j := 0) (by decide)), (g 1 (by omega)).symm.trans (alike_at hal (j := 1) (by decide))⟩
    · cases hs'
  · have hl2 := two (by omega)
    rw [e] at hs
    simp only [opO, Int.reduceEq, ite_false, ite_true] at hs
    split at hs
    · rename_i hal
      exact ⟨(Option.some.inj hs).symm, (g 0 (by omega)).symm.trans (hal.trans (g 1 (by omega)))⟩
    · cases hs
  · have hl3 : n.len = 3 := by rw [hl, e]; decide
    rw [e] at hs
    simp only [opO, Int.reduceEq, ite_false, ite_true] at hs
    split at hs
    · rename_i hal
      have e1 := Option.some.inj hs
      have q0 : (sortsN t n).getD 0 0 = srt t n.a0 := g 0 (by omega)
      have q1 : (sortsN t n).getD 1 0 = srt t n.a1 := g 1 (by omega)
      have q2 : (sortsN t n).getD 2 0 = srt t n.a2 := g 2 (by omega)
      exact ⟨q0.symm.trans hal.1, q1.symm.trans e1, q2.symm.trans (hal.2.symm.trans e1)⟩
    · cases hs
  · have hl2 := two (by omega)
    have hs' : (if alikeB (sortsN t n) 2 1 = true then some (0 : Int) else none) = some n.sort := by
      rcases e with e | e | e <;> rw [e] at hs <;> simp only [opO, Int.reduceEq, ite_false, ite_true, or_self, or_false, or_true] at hs <;> exact hs
    split at hs'
    · rename_i hal
      exact ⟨(Option.some.inj hs').symm, (g 0 (by omega)).symm.trans (alike_at hal (j := 0) (by decide)), (g 1 (by omega)).symm.trans (alike_at hal (j := 1) (by decide))⟩
    · cases hs'
  · rw [e] at hs
    exact (Option.some.inj hs).symm
  · have hl1 : n.len = 1 := by rw [hl, e]; decide
    rw [e] at hs
    simp only [opO, Int.reduceEq, ite_false, ite_true] at hs
    split at hs
    · rename_i hal
      exact ⟨(Option.some.inj hs).symm, (g 0 (by omega)).symm.trans (alike_at hal (j := 0) (by decide))⟩
    · cases hs
theorem Vals.ws {x : SigV} {y : WorV} {t : List NodeA} {E : List (Int × Bool)} (h : Vals x y t E) : ∀ n ∈ t, WsN t n := fun n hn => by
  obtain ⟨k, hk⟩ := List.getElem?_of_mem hn
  exact ws_row (Tm.ok_at (Tm.mayT_ok h.may).2 hk).1 (h.row k n hk)
theorem Vals.good {x : SigV} {y : WorV} {t : List NodeA} {E : List (Int × Bool)} (h : Vals x y t E) : t.any (badS t) = false := by
  rw [List.any_eq_false]
  intro n hn
  obtain ⟨k, hk⟩ := List.getElem?_of_mem hn
  by_cases h13 : n.op = 13
  · unfold badS; rw [if_pos h13]; simp
  · rw [(kind_ws h.may (Tm.ok_at (Tm.mayT_ok h.may).2 hk).1 (Nat.le_of_lt (List.getElem?_eq_some_iff.1 hk).1) h13 (h.ws n hn)).2.2]; simp
end Go.Proofs.YtpppfghdjbmbgaaGreatDoor
