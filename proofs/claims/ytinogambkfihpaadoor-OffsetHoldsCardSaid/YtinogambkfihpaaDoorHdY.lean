/- OffsetHolds: its plain argument. -/
import Derived.Test.YtinogambkfihpaaDoorHdV
import Derived.Test.YtinogambkfihpaaDoorOfN
namespace Go.Proofs.YtinogambkfihpaaDoor
open Go.RowKit
open Tm (NodeA NodeOk TabR mayT okFrom standsB)
set_option linter.unusedVariables false
theorem stepV_ext {x : SigV} {y : WorV} {L M : List (Int × Bool)} {n : NodeA} (hl : 0 ≤ n.len) (h : ∀ j : Nat, (j : Int) < n.len → atV L (argN n j) = atV M (argN n j)) : stepV x y L n = stepV x y M n := by
  have hb : ∀ k : Nat, (k : Int) ≤ n.len → badV L n k = badV M n k := by
    intro k
    induction k with
    | zero => intro _; rfl
    | succ k ih =>
      intro hk
      show (badV L n k || _) = (badV M n k || _)
      rw [ih (by omega), h k (by omega)]
  have ha : argsV L n n.len.toNat = argsV M n n.len.toNat := by
    unfold argsV
    apply List.map_congr_left
    intro j hj
    rw [h j (by have := List.mem_range.1 hj; omega)]
  unfold stepV
  rw [hb _ (by omega), ha]
/-- Values, in a table and an interpretation that may be. -/
structure Vals (x : SigV) (y : WorV) (t : List NodeA) (E : List (Int × Bool)) : Prop where
  may : mayT t = true
  wor : worQ x y = true
  row : ∀ (k : Nat) (n : NodeA), t[k]? = some n → rowT x t n = true
  len : E.length = t.length
  at_ : ∀ (k : Nat) (n : NodeA), t[k]? = some n → atV E (k : Int) = stepV x y E n
theorem vals_of {x : SigV} {y : WorV} {t : List NodeA} (h : valE x y t = 0) : Vals x y t (evK x y t t.length) := by
  unfold valE at h
  by_cases hc : mayT t = true ∧ worQ x y = true
  · rw [if_pos hc] at h
    have ht : tabE x t = 0 := by
      by_cases h0 : tabE x t = 0
      · exact h0
      · rw [if_neg h0] at h; cases h
    have hrow : t.all (rowT x t) = true := by
      unfold tabE at ht
      by_cases h1 : checkQ x.a = true ∧ mayT t = true
      · rw [if_pos h1] at ht
        by_cases h2 : t.all (rowT x t) = true
        · exact h2
        · rw [if_neg h2] at ht; cases ht
      · rw [if_neg h1] at ht; cases ht
    refine ⟨hc.1, hc.2, fun k n hk => List.all_eq_true.1 hrow n (List.mem_of_getElem? hk), evK_len _ _ _ _, fun k n hk => ?_⟩
    have hlt := (List.getElem?_eq_some_iff.1 hk).1
    have hst := (Tm.ok_at (Tm.mayT_ok hc.1).2 hk).1
    have hf := stands_form hst
    have e : atV (evK x y t t.length) (k : Int) = stepV x y (evK x y t k) n := by
      unfold atV
      rw [Int.toNat_natCast, evK_get x y t hlt, List.getD_eq_getElem?_getD, hk]; rfl
    rw [e]
    refine stepV_ext hf.1 (fun j hj => ?_)
    obtain ⟨a0, a1⟩ := stands_arg hst j hj
    obtain ⟨i, hi⟩ : ∃ i : Nat, argN n j = (i : Int) := ⟨(argN n j).toNat, by omega⟩
    rw [hi]
    unfold atV
    rw [Int.toNat_natCast, evK_get x y t (by omega : i < k), evK_get x y t (by omega : i < t.length)]
  · rw [if_neg hc] at h; cases h
theorem badV_no {L : List (Int × Bool)} {n : NodeA} : ∀ {k : Nat}, badV L n k = false → ∀ j : Nat, j < k → (atV L (argN n j)).2 = false
  | 0, _, j, hj => absurd hj (Nat.not_lt_zero _)
  | k + 1, h, j, hj => by
    have h' : (badV L n k || (atV L (argN n k)).2) = false := h
    rw [Bool.or_eq_false_iff] at h'
    by_cases e : j = k
    · subst e; exact h'.2
    · exact badV_no h'.1 j (by omega)
/-- What a node that does not overflow has as its value. -/
structure Fine1 (x : SigV) (y : WorV) (E : List (Int × Bool)) (n : NodeA) (v : Int) : Prop where
  args : ∀ j : Nat, (j : Int) < n.len → (atV E (argN n j)).2 = false
  ok : (ndV x y n (argsV E n n.len.toNat)).2 = true
  val : v = (ndV x y n (argsV E n n.len.toNat)).1
theorem Vals.fine {x : SigV} {y : WorV} {t : List NodeA} {E : List (Int × Bool)} (h : Vals x y t E) {k : Nat} {n : NodeA} (hk : t[k]? = some n) (ho : (atV E (k : Int)).2 = false) : Fine1 x y E n (atV E (k : Int)).1 := by
  rw [h.at_ k n hk] at ho ⊢
  unfold stepV at ho ⊢
  by_cases hb : badV E n n.len.toNat = true
  · rw [if_pos hb] at ho; cases ho
  · rw [if_neg hb] at ho ⊢
    by_cases h2 : (ndV x y n (argsV E n n.len.toNat)).2 = true
    · rw [if_pos h2]
      exact ⟨fun j hj => badV_no (Bool.eq_false_iff.2 hb) j (by omega), h2, rfl⟩
    · rw [if_neg h2] at ho; cases ho
theorem argsV_get {E : List (Int × Bool)} {n : NodeA} {m j : Nat} (h : j < m) : (argsV E n m).getD j 0 = (atV E (argN n j)).1 := by
  unfold argsV
  rw [List.getD_eq_getElem?_getD, List.getElem?_map, List.getElem?_range h]; rfl
theorem sortsN_get {t : List NodeA} {n : NodeA} {j : Nat} (h : (j : Int) < n.len) : (sortsN t n).getD j 0 = srtN t (argN n j) := by
  unfold sortsN
  rw [List.getD_eq_getElem?_getD, List.getElem?_map, List.getElem?_range (by omega)]; rfl
theorem srtN_at {t : List NodeA} {k : Nat} {n : NodeA} (h : t[k]? = some n) : srtN t (k : Int) = n.sort := by
  unfold srtN
  rw [Int.toNat_natCast, h]; rfl
theorem worQ_sizes {x : SigV} {y : WorV} (h : worQ x y = true) : y.sizes.length = x.sorts.length := by
  unfold worQ at h
  simp only [Bool.and_eq_true, decide_eq_true_eq] at h
  exact h.2.1
theorem isB_bool {n : Nat} {z : List Int} (hz : z.length = n) (v : Int) : isB n z 0 v = decide (v = 0 ∨ v = 1) := by
  rw [isB_there hz (by decide) (by omega)]; rfl
theorem isB_int {n : Nat} {z : List Int} (hz : z.length = n) (v : Int) : isB n z 1 v = mayB v := by
  rw [isB_there hz (by decide) (by omega)]; rfl
theorem wrap_same {n : Int} (h : -9223372036854775808 ≤ n ∧ n ≤ 9223372036854775807) : wrap64 n = n := by unfold wrap64; omega
theorem bitN_is (q : Bool) : bitN q = 0 ∨ bitN q = 1 := by cases q <;> simp [bitN]
/-- The sort that the kind gives, and its arguments' sorts. -/
theorem op_sorts {op : Int} {l : List Int} (h : opE op l = 0) : (l.length : Int) = manyN op ∧ ∃ s, opO op l = some s ∧ opV op l = s := by
  have hh := h
  unfold opE at h
  by_cases h1 : manyN op < 0 ∨ ¬ (l.length : Int) = manyN op
  · rw [if_pos h1] at h; cases h
  rw [if_neg h1] at h
  by_cases h2 : l.any (fun s => decide (s < 0)) = true
  · rw [if_pos h2] at h; cases h
  rw [if_neg h2] at h
  by_cases h3 : (opO op l).isSome = true
  · obtain ⟨s, hs⟩ := Option.isSome_iff_exists.1 h3
    refine ⟨by omega, s, hs, ?_⟩
    unfold opV
    rw [if_pos hh, hs]; rfl
  · rw [if_neg h3] at h; cases h
theorem alike_at {l : List Int} {n s : Int} (h : alikeB l n s = true) {j : Nat} (hj : (j : Int) < n) : l.getD j 0 = s := by
  unfold alikeB at h
  simp only [Bool.and_eq_true, decide_eq_true_eq] at h
  have hlt : j < l.length := by omega
  rw [List.getD_eq_getElem?_getD, List.getElem?_eq_getElem hlt]
  have := List.all_eq_true.1 h.1 l[j] (List.getElem_mem hlt)
  simpa using this
theorem row_facts {x : SigV} {t : List NodeA} {n : NodeA} (h : rowT x t n = true) : rulE x t n = 0 ∧ rulV x t n = n.sort := by
  unfold rowT at h
  simp only [Bool.and_eq_true, decide_eq_true_eq] at h
  exact h
theorem seqQ_all {α : Type} {one : List α → α → Bool} {l : List α} (h : seqQ one [] l = true) {p : α} (hp : p ∈ l) : ∃ k, one (l.take k) p = true := by
  obtain ⟨k, hk⟩ := List.getElem?_of_mem hp
  exact ⟨k, seqQ_at h hk⟩
theorem zip_at {α β : Type} {l : List α} {m : List β} {k : Nat} {a : α} {b : β} (ha : l[k]? = some a) (hb : m[k]? = some b) : (a, b) ∈ l.zip m := by
  apply List.mem_of_getElem? (i := k)
  rw [List.getElem?_zip_eq_some]
  exact ⟨ha, hb⟩
theorem apply_is {x : SigV} {y : WorV} {f : Int} {l : List Int} (hw : worQ x y = true) (h : askE x y f l = 0) : isB x.sorts.length y.sizes (fnA x f).res (applyV x y f l) = true := by
  obtain ⟨_, f0, f1, _⟩ := askE_zero h
  have hl := worQ_len hw
  obtain ⟨k, rfl⟩ : ∃ k : Nat, f = k := ⟨f.toNat, by omega⟩
  have hk : k < x.funs.length := by omega
  have e1 : x.funs[k]? = some (fnA x k) := by unfold fnA; rw [Int.toNat_natCast, List.getElem?_eq_getElem hk]; rfl
  have e2 : y.funs[k]? = some (fvA y k) := by unfold fvA; rw [Int.toNat_natCast, List.getElem?_eq_getElem (by omega)]; rfl
  have hz : fvQ x.sorts.length y.sizes (fnA x k) (fvA y k) = true := by
    unfold worQ at hw
    simp only [Bool.and_eq_true] at hw
    exact List.all_eq_true.1 hw.2.2.2.2 _ (zip_at e1 e2)
  unfold fvQ at hz
  simp only [Bool.and_eq_true] at hz
  unfold applyV
  rw [if_pos h]
  unfold rowV
  cases hf : (fvA y k).rows.find? (fun s => sameA s ⟨l.getD 0 0, l.getD 1 0, l.getD 2 0, 0⟩) with
  | none => exact hz.2.1
  | some r =>
    obtain ⟨j, hj⟩ := seqQ_all hz.2.2 (List.mem_of_find?_eq_some hf)
    unfold oneR at hj
    simp only [Bool.and_eq_true] at hj
    exact hj.2.1
theorem max_bit {a b : Int} (ha : a = 0 ∨ a = 1) (hb : b = 0 ∨ b = 1) : max a b = 0 ∨ max a b = 1 := by
  rcases ha with rfl | rfl <;> rcases hb with rfl | rfl <;> decide
theorem mul_bit {a b : Int} (ha : a = 0 ∨ a = 1) (hb : b = 0 ∨ b = 1) : wrap64 (a * b) = 0 ∨ wrap64 (a * b) = 1 := by
  rcases ha with rfl | rfl <;> rcases hb with rfl | rfl <;> (unfold wrap64; omega)
theorem not_bit {a : Int} (ha : a = 0 ∨ a = 1) : wrap64 (1 - a) = 0 ∨ wrap64 (1 - a) = 1 := by
  rcases ha with rfl | rfl <;> (unfold wrap64; omega)
/-- The arguments of a node of those kinds are Bools. -/
theorem Vals.arg {x : SigV} {y : WorV} {t : List NodeA} {E : List (Int × Bool)} (h : Vals x y t E) {k : Nat} {n : NodeA} (hk : t[k]? = some n) {j : Nat} (hj : (j : Int) < n.len) : ∃ (i : Nat) (m : NodeA), argN n j = (i : Int) ∧ i < k ∧ t[i]? = some m ∧ srtN t (argN n j) = m.sort := by
  have hlt := (List.getElem?_eq_some_iff.1 hk).1
  have hst := (Tm.ok_at (Tm.mayT_ok h.may).2 hk).1
  obtain ⟨a0, a1⟩ := stands_arg hst j hj
  obtain ⟨i, hi⟩ : ∃ i : Nat, argN n j = (i : Int) := ⟨(argN n j).toNat, by omega⟩
  refine ⟨i, t[i]'(by omega), hi, by omega, List.getElem?_eq_getElem (by omega), ?_⟩
  rw [hi]
  exact srtN_at (List.getElem?_eq_getElem (by omega))
theorem fits_of {n : Nat} {z : List Int} {f : FunA} {b0 b1 b2 : Int} (h0 : (0 : Int) < f.len → isB n z f.a0 b0 = true) (z0 : ¬ (0 : Int) < f.len → b0 = 0) (h1 : (1 : Int) < f.len → isB n z f.a1 b1 = true) (z1 : ¬ (1 : Int) < f.len → b1 = 0) (h2 : (2 : Int) < f.len → isB n z f.a2 b2 = true) (z2 : ¬ (2 : Int) < f.len → b2 = 0) : fitB n z f b0 b1 b2 = true := by
  have one : ∀ (k : Nat) (b : Int), ((k : Int) < f.len → isB n z (argV f k) b = true) → (¬ (k : Int) < f.len → b = 0) → fitAt n z f b k = true := fun k b h z => by
    unfold fitAt
    by_cases hk : (k : Int) < f.len
    · rw [if_pos hk]; exact h hk
    · rw [if_neg hk]; exact decide_eq_true (z hk)
  unfold fitB
  rw [one 0 b0 h0 z0, one 1 b1 h1 z1, one 2 b2 h2 z2]; rfl
theorem num_may {n : NodeA} {k : Nat} (h : standsB n k = true) (ho : n.op = 10 ∨ n.op = 11 ∨ n.op = 12) : mayB n.num = true := by
  unfold Tm.standsB at h
  rw [decide_eq_true_eq] at h
  obtain ⟨⟨h0, h1, h2⟩, _⟩ := h
  rw [if_neg (by omega), if_pos ho] at h2
  exact h2.2.2
theorem argN_z {n : NodeA} {k : Nat} (h : standsB n k = true) {j : Nat} (hj : j < 3) (hl : ¬ (j : Int) < n.len) : argN n j = 0 := by
  unfold Tm.standsB at h
  rw [decide_eq_true_eq] at h
  obtain ⟨_, _, ⟨_, a0⟩, ⟨_, a1⟩, ⟨_, a2⟩⟩ := h
  have hc : j = 0 ∨ j = 1 ∨ j = 2 := by omega
  rcases hc with rfl | rfl | rfl
  · exact a0 (by omega)
  · exact a1 (by omega)
  · exact a2 (by omega)
theorem argsV_len (E : List (Int × Bool)) (n : NodeA) (k : Nat) : (argsV E n k).length = k := by unfold argsV; rw [List.length_map, List.length_range]
theorem sortsN_len (t : List NodeA) (n : NodeA) : (sortsN t n).length = n.len.toNat := by unfold sortsN; rw [List.length_map, List.length_range]
/-- A node that does not overflow has a value of its sort. -/
theorem Vals.is {x : SigV} {y : WorV} {t : List NodeA} {E : List (Int × Bool)} (h : Vals x y t E) : ∀ (K k : Nat) (n : NodeA), k < K → t[k]? = some n → (atV E (k : Int)).2 = false → isB x.sorts.length y.sizes n.sort (atV E (k : Int)).1 = true
  | 0, k, n, hK, _, _ => absurd hK (Nat.not_lt_zero _)
  | K + 1, k, n, hK, hk, ho => by
    have hst := (Tm.ok_at (Tm.mayT_ok h.may).2 hk).1
    have hf := stands_form hst
    obtain ⟨fa, fo, fv⟩ := h.fine hk ho
    obtain ⟨r0, r1⟩ := row_facts (h.row k n hk)
    have hz := worQ_sizes h.wor
    have IH : ∀ j : Nat, (j : Int) < n.len → isB x.sorts.length y.sizes (srtN t (argN n j)) ((argsV E n n.len.toNat).getD j 0) = true := fun j hj => by
      obtain ⟨i, m, e1, e2, e3, e4⟩ := h.arg hk hj
      rw [argsV_get (by omega), e4, e1]
      exact Vals.is h K i m (by omega) e3 (by have := fa j hj; rw [e1] at this; exact this)
    rw [fv]
    by_cases h13 : n.op = 13
    · have e : ndV x y n (argsV E n n.len.toNat) = (applyV x y n.fn (argsV E n n.len.toNat), true) := by unfold ndV; rw [h13]; rfl
      rw [e]
      unfold rulE at r0
      unfold rulV at r1
      rw [if_pos h13] at r0 r1
      have ha : appE x n.fn (sortsN t n) = 0 := by
        by_cases hh : appE x n.fn (sortsN t n) = 0
        · exact hh
        · rw [if_neg hh] at r0; cases r0
      have hs : (fnA x n.fn).res = n.sort := by
        unfold appV at r1
        rw [if_pos ha] at r1
        exact r1
      rw [← hs]
      refine apply_is h.wor ?_
      unfold appE at ha
      by_cases hc : checkQ x.a = true ∧ 0 ≤ n.fn ∧ n.fn < (x.funs.length : Int) ∧ ((sortsN t n).length : Int) = (fnA x n.fn).len
      · rw [if_pos hc] at ha
        obtain ⟨_, c1, c2, c3⟩ := hc
        rw [sortsN_len] at c3
        have hab : argsB (fnA x n.fn) (sortsN t n) = true := by
          by_cases hh : argsB (fnA x n.fn) (sortsN t n) = true
          · exact hh
          · rw [if_neg hh] at ha; cases ha
        have hsr : ∀ j : Nat, (j : Int) < n.len → srtN t (argN n j) = argV (fnA x n.fn) j := fun j hj => by
          unfold argsB at hab
          have := List.all_eq_true.1 hab j (List.mem_range.2 (by rw [sortsN_len]; omega))
          rw [decide_eq_true_eq, sortsN_get hj] at this
          exact this
        unfold askE
        rw [if_pos ⟨h.wor, c1, c2, by rw [argsV_len]; exact c3⟩, if_pos]
        have one : ∀ j : Nat, (j : Int) < (fnA x n.fn).len → isB x.sorts.length y.sizes (argV (fnA x n.fn) j) ((argsV E n n.len.toNat).getD j 0) = true := fun j hj => by
          rw [← hsr j (by omega)]; exact IH j (by omega)
        have non : ∀ j : Nat, ¬ (j : Int) < (fnA x n.fn).len → (argsV E n n.len.toNat).getD j 0 = 0 := fun j hj => by
          rw [List.getD_eq_getElem?_getD, List.getElem?_eq_none (by rw [argsV_len]; omega)]; rfl
        exact fits_of (fun hj => one 0 hj) (fun hj => non 0 hj) (fun hj => one 1 hj) (fun hj => non 1 hj) (fun hj => one 2 hj) (fun hj => non 2 hj)
      · rw [if_neg hc] at ha; cases ha
    · unfold rulE at r0
      unfold rulV at r1
      rw [if_neg h13] at r0 r1
      obtain ⟨hm, s, hs, hs2⟩ := op_sorts r0
      rw [hs2] at r1
      subst r1
      rw [sortsN_len] at hm
      have g0 : (0 : Int) < n.len → (sortsN t n).getD 0 0 = srtN t (argN n 0) := fun h => sortsN_get h
      have g1 : (1 : Int) < n.len → (sortsN t n).getD 1 0 = srtN t (argN n 1) := fun h => sortsN_get h
      have g2 : (2 : Int) < n.len → (sortsN t n).getD 2 0 = srtN t (argN n 2) := fun h => sortsN_get h
      have hop : n.op = 0 ∨ n.op = 1 ∨ n.op = 2 ∨ n.op = 3 ∨ n.op = 4 ∨ n.op = 5 ∨ n.op = 6 ∨ n.op = 7 ∨ n.op = 8 ∨ n.op = 9 ∨ n.op = 10 ∨ n.op = 11 ∨ n.op = 12 := by omega
      have bool1 : ∀ j : Nat, (j : Int) < n.len → srtN t (argN n j) = 0 → (argsV E n n.len.toNat).getD j 0 = 0 ∨ (argsV E n n.len.toNat).getD j 0 = 1 := fun j hj hs => by
        have := IH j hj
        rw [hs, isB_bool hz, decide_eq_true_eq] at this
        exact this
      have int1 : ∀ j : Nat, (j : Int) < n.len → srtN t (argN n j) = 1 → mayB ((argsV E n n.len.toNat).getD j 0) = true := fun j hj hs => by
        have := IH j hj
        rw [hs, isB_int hz] at this
        exact this
      unfold ndV at fo ⊢
      rcases hop with ho' | ho' | ho' | ho' | ho' | ho' | ho' | ho' | ho' | ho' | ho' | ho' | ho' <;> rw [ho'] at hs fo ⊢ hm <;> simp only [opO, Option.some.injEq, Int.reduceEq, or_self, or_false, or_true, ite_false, ite_true] at hs fo ⊢
      · rw [← hs, isB_bool hz]; decide
      · have hl : n.len = 1 := by have : manyN 1 = 1 := rfl; omega
        split at hs
        · rename_i hal
          have s0 : srtN t (argN n 0) = 0 := by rw [← g0 (by omega)]; exact alike_at hal (j := 0) (by decide)
          rw [← Option.some.inj hs, isB_bool hz, decide_eq_true_eq]
          exact not_bit (bool1 0 (by omega) s0)
        · cases hs
      · have hl : n.len = 2 := by have : manyN 2 = 2 := rfl; omega
        split at hs
        · rename_i hal
          have s0 : srtN t (argN n 0) = 0 := by rw [← g0 (by omega)]; exact alike_at hal (j := 0) (by decide)
          have s1 : srtN t (argN n 1) = 0 := by rw [← g1 (by omega)]; exact alike_at hal (j := 1) (by decide)
          rw [← Option.some.inj hs, isB_bool hz, decide_eq_true_eq]
          exact mul_bit (bool1 0 (by omega) s0) (bool1 1 (by omega) s1)
        · cases hs
      · have hl : n.len = 2 := by have : manyN 3 = 2 := rfl; omega
        split at hs
        · rename_i hal
          have s0 : srtN t (argN n 0) = 0 := by rw [← g0 (by omega)]; exact alike_at hal (j := 0) (by decide)
          have s1 : srtN t (argN n 1) = 0 := by rw [← g1 (by omega)]; exact alike_at hal (j := 1) (by decide)
          rw [← Option.some.inj hs, isB_bool hz, decide_eq_true_eq]
          exact max_bit (bool1 0 (by omega) s0) (bool1 1 (by omega) s1)
        · cases hs
      · have hl : n.len = 2 := by have : manyN 4 = 2 := rfl; omega
        split at hs
        · rename_i hal
          have s0 : srtN t (argN n 0) = 0 := by rw [← g0 (by omega)]; exact alike_at hal (j := 0) (by decide)
          have s1 : srtN t (argN n 1) = 0 := by rw [← g1 (by omega)]; exact alike_at hal (j := 1) (by decide)
          rw [← Option.some.inj hs, isB_bool hz, decide_eq_true_eq]
          exact bitN_is _
        · cases hs
      · have hl : n.len = 2 := by have : manyN 5 = 2 := rfl; omega
        split at hs
        · rename_i hal
          have s0 : srtN t (argN n 0) = 0 := by rw [← g0 (by omega)]; exact alike_at hal (j := 0) (by decide)
          have s1 : srtN t (argN n 1) = 0 := by rw [← g1 (by omega)]; exact alike_at hal (j := 1) (by decide)
          rw [← Option.some.inj hs, isB_bool hz, decide_eq_true_eq]
          exact bitN_is _
        · cases hs
      · split at hs
        · rw [← Option.some.inj hs, isB_bool hz, decide_eq_true_eq]
          exact bitN_is _
        · cases hs
      · have hl : n.len = 3 := by have : manyN 7 = 3 := rfl; omega
        split at hs
        · rename_i hal
          rw [← Option.some.inj hs]
          split
          · rw [g1 (by omega)]; exact IH 1 (by omega)
          · rw [hal.2, g2 (by omega)]; exact IH 2 (by omega)
        · cases hs
      · split at hs
        · rw [← Option.some.inj hs, isB_bool hz, decide_eq_true_eq]
          exact bitN_is _
        · cases hs
      · split at hs
        · rw [← Option.some.inj hs, isB_bool hz, decide_eq_true_eq]
          exact bitN_is _
        · cases hs
      · rw [← hs, isB_int hz]
        exact num_may hst (.inl ho')
      · split at hs
        · rw [← Option.some.inj hs, isB_int hz]
          split at fo
          · cases fo
          · rw [if_neg (by assumption)]; exact fo
        · cases hs
      · split at hs
        · rw [← Option.some.inj hs, isB_bool hz, decide_eq_true_eq]
          exact bitN_is _
        · cases hs
/-- A base and a number: what a node is that does not overflow. -/
theorem Vals.int {x : SigV} {y : WorV} {t : List NodeA} {E : List (Int × Bool)} (h : Vals x y t E) {k : Nat} {n : NodeA} (hk : t[k]? = some n) (hs : n.sort = 1) (ho : (atV E (k : Int)).2 = false) : mayB (atV E (k : Int)).1 = true := by
  have := h.is (k + 1) k n (by omega) hk ho
  rw [hs, isB_int (worQ_sizes h.wor)] at this
  exact this
/-- What an OpAdd is, and its argument. -/
theorem Vals.add {x : SigV} {y : WorV} {t : List NodeA} {E : List (Int × Bool)} (h : Vals x y t E) {k : Nat} {n : NodeA} (hk : t[k]? = some n) (hop : n.op = 11) (ho : (atV E (k : Int)).2 = false) : ∃ (i : Nat) (m : NodeA), n.a0 = (i : Int) ∧ i < k ∧ t[i]? = some m ∧ m.sort = 1 ∧ (atV E (i : Int)).2 = false ∧ (atV E (k : Int)).1 = (atV E (i : Int)).1 + n.num := by
  have hst := (Tm.ok_at (Tm.mayT_ok h.may).2 hk).1
  have hf := stands_form hst
  obtain ⟨fa, fo, fv⟩ := h.fine hk ho
  obtain ⟨r0, r1⟩ := row_facts (h.row k n hk)
  have hl : n.len = 1 := by rcases hf.2.2.2.2 with e | e; · omega
                            · rw [e, hop]; rfl
  obtain ⟨i, m, e1, e2, e3, e4⟩ := h.arg hk (j := 0) (by omega)
  have e1' : n.a0 = (i : Int) := e1
  have hms : m.sort = 1 := by
    unfold rulE at r0
    rw [if_neg (by omega)] at r0
    obtain ⟨hm, s, hs, hs2⟩ := op_sorts r0
    rw [hop] at hs
    simp only [opO, Int.reduceEq, ite_false, ite_true] at hs
    split at hs
    · rename_i hal
      rw [← e4, ← sortsN_get (by omega)]
      exact alike_at hal (j := 0) (by decide)
    · cases hs
  have hio : (atV E (i : Int)).2 = false := by have := fa 0 (by omega); rw [e1] at this; exact this
  refine ⟨i, m, e1', e2, e3, hms, hio, ?_⟩
  have hv : (argsV E n n.len.toNat).getD 0 0 = (atV E (i : Int)).1 := by rw [argsV_get (by omega), e1]
  have b0 := Tm.may_in (h.int e3 hms hio)
  have b1 := Tm.may_in (num_may hst (.inr (.inl hop)))
  rw [fv]
  unfold ndV at fo ⊢
  rw [hop, hv] at fo ⊢
  simp only [Int.reduceEq, ite_false, ite_true] at fo ⊢
  split at fo
  · cases fo
  · rw [if_neg (by assumption)]
    have b2 := Tm.may_in fo
    show wrap64 _ = _
    unfold wrap64 at b2 ⊢
    omega
theorem Vals.num {x : SigV} {y : WorV} {t : List NodeA} {E : List (Int × Bool)} (h : Vals x y t E) {k : Nat} {n : NodeA} (hk : t[k]? = some n) (hop : n.op = 10) : (atV E (k : Int)).2 = false ∧ (atV E (k : Int)).1 = n.num := by
  have hst := (Tm.ok_at (Tm.mayT_ok h.may).2 hk).1
  have hf := stands_form hst
  have hl : n.len = 0 := by rcases hf.2.2.2.2 with e | e; · omega
                            · rw [e, hop]; rfl
  rw [h.at_ k n hk]
  unfold stepV
  have hb : badV E n n.len.toNat = false := by rw [hl]; rfl
  have hn : ndV x y n (argsV E n n.len.toNat) = (n.num, true) := by unfold ndV; rw [hop]; rfl
  rw [hb, hn]
  exact ⟨rfl, rfl⟩
theorem rootP_err (l : List NodeA) : ∀ (f k : Nat) (s : Int × Int), ¬ s.2 = 0 → ¬ (Tm.rootP l f k s).2.2 = 0
  | 0, k, s, h => h
  | f + 1, k, s, h => by
    unfold Tm.rootP
    cases e : l[k]? with
    | none => exact h
    | some n =>
      simp only
      split
      · rw [Tm.stepA_err h]; exact h
      · split
        · rw [Tm.stepA_err h]; exact rootP_err l f _ s h
        · exact h
/-- The chain to a node's base. -/
theorem Vals.root {x : SigV} {y : WorV} {t : List NodeA} {E : List (Int × Bool)} (h : Vals x y t E) : ∀ (f k : Nat) (s : Int × Int) (n : NodeA), k < f → t[k]? = some n → s.2 = 0 → (Tm.rootP t f k s).2.2 = 0 → (atV E (k : Int)).2 = false →
    (atV E ((Tm.rootP t f k s).1 : Int)).2 = false ∧ (atV E (k : Int)).1 = (atV E ((Tm.rootP t f k s).1 : Int)).1 + ((Tm.rootP t f k s).2.1 - s.1)
  | 0, k, s, n, hf, _, _, _, _ => absurd hf (Nat.not_lt_zero _)
  | f + 1, k, s, n, hf, hk, hs, he, ho => by
    by_cases h10 : n.op = 10
    · rw [Tm.rootP_num hk h10] at he ⊢
      obtain ⟨_, e1⟩ := h.num hk h10
      obtain ⟨z1, z2⟩ := h.num (Tm.one_zero h.may) rfl
      obtain ⟨_, _, e3⟩ := Tm.stepA_z he
      refine ⟨z1, ?_⟩
      show _ = (atV E ((1 : Nat) : Int)).1 + _
      rw [e1, z2, e3]
      show n.num = 0 + (s.1 + n.num - s.1)
      omega
    · by_cases h11 : n.op = 11
      · obtain ⟨i, m, e1, e2, e3, e4, e5, e6⟩ := h.add hk h11 ho
        rw [Tm.rootP_add hk h11] at he ⊢
        have hi : n.a0.toNat = i := by omega
        rw [hi] at he ⊢
        have hs' : (Tm.stepA s n.num).2 = 0 := by
          by_cases hh : (Tm.stepA s n.num).2 = 0
          · exact hh
          · exact absurd he (rootP_err t _ _ _ hh)
        obtain ⟨_, _, e7⟩ := Tm.stepA_z hs'
        obtain ⟨r1, r2⟩ := Vals.root h f i (Tm.stepA s n.num) m (by omega) e3 hs' he e5
        refine ⟨r1, ?_⟩
        rw [e6, r2, e7]
        omega
      · rw [Tm.rootP_end hk h10 h11] at he ⊢
        exact ⟨ho, by show (atV E (k : Int)).1 = (atV E (k : Int)).1 + (s.1 - s.1); omega⟩
end Go.Proofs.YtinogambkfihpaaDoor
namespace Go.Proofs.YtinogambkfihpaaDoor
open Go.RowKit
open Tm (NodeA NodeOk TabR mayT okFrom standsB)
set_option linter.unusedVariables false
/-- A node of a table ahead, of Int, in a table with one node more: its base and its number. -/
theorem int_root {x : SigV} {y : WorV} {t u : List NodeA} {E : List (Int × Bool)} (hu : Vals x y u E) (hok : okFrom [] t = true) (hp : ∀ j, j < t.length → u[j]? = t[j]?) {a : Int} (h : (Tm.ofP t a).2.2 = 0) (ho : (atV E a).2 = false) :
    ∃ r : Nat, (Tm.ofP t a).1 = (r : Int) ∧ (atV E (r : Int)).2 = false ∧ (atV E a).1 = (atV E (r : Int)).1 + (Tm.ofP t a).2.1 ∧ mayB (atV E a).1 = true := by
  obtain ⟨k, n, rfl, hk, hs, he, heq⟩ := Tm.ofP_node h
  have hku : u[k]? = some n := by rw [hp k (List.getElem?_eq_some_iff.1 hk).1]; exact hk
  have hr := hu.root (k + 1) k (0, 0) n (by omega) hku rfl (by rw [Tm.root_pre hok hp (k + 1) k (0, 0) (List.getElem?_eq_some_iff.1 hk).1]; exact he) ho
  rw [Tm.root_pre hok hp (k + 1) k (0, 0) (List.getElem?_eq_some_iff.1 hk).1] at hr
  refine ⟨(Tm.rootA t k).1, by rw [heq], hr.1, ?_, hu.int hku hs ho⟩
  rw [heq]
  have h2 := hr.2
  rw [Int.sub_zero] at h2
  exact h2
theorem le_parts {t : List NodeA} {a b c : Int} (h : (Tm.leP t a b c 1000).2.2.2 = 0) : Tm.DiffOk t a b c ∧ (Tm.leP t a b c 1000).1 = (Tm.putF t (Tm.compN (Tm.diffP t a b c).1 (Tm.diffP t a b c).2.1 (Tm.diffP t a b c).2.2.1) 1000).1 ∧ (Tm.leP t a b c 1000).2.1 = (Tm.putF t (Tm.compN (Tm.diffP t a b c).1 (Tm.diffP t a b c).2.1 (Tm.diffP t a b c).2.2.1) 1000).2.1 ∧ (Tm.putF t (Tm.compN (Tm.diffP t a b c).1 (Tm.diffP t a b c).2.1 (Tm.diffP t a b c).2.2.1) 1000).2.2 = 0 := by
  unfold Tm.leP at h ⊢
  by_cases hd : (Tm.diffP t a b c).2.2.2 = 0
  · rw [if_pos hd] at h ⊢
    exact ⟨Tm.diff_ok hd, rfl, rfl, h⟩
  · rw [if_neg hd] at h; exact absurd h hd
theorem atM_may {a b n : Int} (ha : mayB a = true) (hb : mayB b = true) (hn : mayB n = true) : atM a b n = decide (a - b ≤ n) := by
  unfold atM
  rw [ha, hb, hn]; rfl
theorem bitN_one (q : Bool) : decide (bitN q = 1) = q := by cases q <;> rfl
/-- What the law says, plainly. -/
theorem holds_ok {x : SigV} {y : WorV} {t : List NodeA} {a b c : Int} (h0 : (Tm.leP t a b c 1000).2.2.2 = 0) {u : List NodeA} (hu : (Tm.leP t a b c 1000).1 = u) {k : Int} (hk : (Tm.leP t a b c 1000).2.1 = k) (hv : valE x y u = 0)
    (ha : (atV (evK x y u u.length) a).2 = false) (hb : (atV (evK x y u u.length) b).2 = false) (hi : (atV (evK x y u u.length) k).2 = false) :
    decide ((atV (evK x y u u.length) k).1 = 1) = atM (atV (evK x y u u.length) a).1 (atV (evK x y u u.length) b).1 c := by
  have hV := vals_of hv
  generalize evK x y u u.length = E at *
  obtain ⟨hd, e1, e2, e3⟩ := le_parts h0
  obtain ⟨m, e4, hx⟩ := Tm.put_ext e3
  rw [← e1, hu] at hx
  rw [← e2, hk] at e4
  subst e4
  have hok := (Tm.mayT_ok hd.may).2
  have hp : ∀ j, j < t.length → u[j]? = t[j]? := fun j hj => hx.pre hj
  obtain ⟨p, a1, a2, a3, a4⟩ := int_root hV hok hp hd.oa ha
  obtain ⟨q, b1, b2, b3, b4⟩ := int_root hV hok hp hd.ob hb
  have hmc : mayB c = true := mayB_true.2 hd.mc
  rw [atM_may a4 b4 hmc, a3, b3]
  have hN := hx.at_
  rw [hd.x, hd.y, hd.d, a1, b1] at hN
  have hmd : mayB (c - (Tm.ofP t a).2.1 + (Tm.ofP t b).2.1) = true := mayB_true.2 hd.md
  generalize hD : c - (Tm.ofP t a).2.1 + (Tm.ofP t b).2.1 = d at *
  obtain ⟨fa, fo, fv⟩ := hV.fine hN hi
  by_cases hpq : (p : Int) = (q : Int)
  · have hpq' : p = q := by omega
    subst hpq'
    have hc : Tm.compN (p : Int) (p : Int) d = if 0 ≤ d then Tm.trueN else ⟨1, 1, 0, 0, 0, 0, 0, 0⟩ := if_pos rfl
    by_cases h0d : 0 ≤ d
    · rw [if_pos h0d] at hc
      rw [hc] at fv
      rw [fv]
      show decide ((1 : Int) = 1) = _
      exact decide_eq_decide.2 (iff_of_true rfl (by omega))
    · rw [if_neg h0d] at hc
      rw [hc] at fv
      have hz : (atV E 0).1 = 1 := by
        have ht : u[0]? = some Tm.trueN := by
          have := (Tm.mayT_ok hV.may).1
          have h2 : (u.take 2)[0]? = some Tm.trueN := by rw [this]; rfl
          rw [List.getElem?_take] at h2
          simpa using h2
        have := hV.at_ 0 _ ht
        show (atV E ((0 : Nat) : Int)).1 = 1
        rw [this]; rfl
      rw [fv]
      have hv0 : (argsV E ⟨1, 1, 0, 0, 0, 0, 0, 0⟩ 1).getD 0 0 = 1 := by rw [argsV_get (by omega)]; exact hz
      show decide (wrap64 (1 - (argsV E ⟨1, 1, 0, 0, 0, 0, 0, 0⟩ 1).getD 0 0) = 1) = _
      rw [hv0]
      exact decide_eq_decide.2 (iff_of_false (by unfold wrap64; omega) (by omega))
  · have hc : Tm.compN (p : Int) (q : Int) d = ⟨12, 2, p, q, 0, 0, 0, d⟩ := if_neg hpq
    rw [hc] at fv hN fa
    have hsort : ∀ j : Nat, (j : Int) < 2 → ∃ (i : Nat) (m : NodeA), argN ⟨12, 2, (p : Int), (q : Int), 0, 0, 0, d⟩ j = (i : Int) ∧ u[i]? = some m ∧ m.sort = 1 := fun j hj => by
      obtain ⟨i, m, f1, f2, f3, f4⟩ := hV.arg hN hj
      refine ⟨i, m, f1, f3, ?_⟩
      obtain ⟨r0, r1⟩ := row_facts (hV.row _ _ hN)
      unfold rulE at r0
      rw [if_neg (by show ¬ (12 : Int) = 13; decide)] at r0
      obtain ⟨_, s, hs, _⟩ := op_sorts r0
      simp only [opO, Int.reduceEq, or_true, ite_false, ite_true] at hs
      split at hs
      · rename_i hal
        rw [← f4, ← sortsN_get hj]
        exact alike_at hal hj
      · cases hs
    obtain ⟨i, m1, f1, f2, f3⟩ := hsort 0 (by decide)
    obtain ⟨j, m2, g1, g2, g3⟩ := hsort 1 (by decide)
    obtain rfl : p = i := by have : ((p : Nat) : Int) = i := f1; omega
    obtain rfl : q = j := by have : ((q : Nat) : Int) = j := g1; omega
    have mp := hV.int f2 f3 a2
    have mq := hV.int g2 g3 b2
    rw [fv]
    have hv0 : (argsV E ⟨12, 2, (p : Int), (q : Int), 0, 0, 0, d⟩ 2).getD 0 0 = (atV E p).1 := argsV_get (by omega)
    have hv1 : (argsV E ⟨12, 2, (p : Int), (q : Int), 0, 0, 0, d⟩ 2).getD 1 0 = (atV E q).1 := argsV_get (by omega)
    show decide (bitN (atM ((argsV E ⟨12, 2, (p : Int), (q : Int), 0, 0, 0, d⟩ 2).getD 0 0) ((argsV E ⟨12, 2, (p : Int), (q : Int), 0, 0, 0, d⟩ 2).getD 1 0) d) = 1) = _
    rw [bitN_one, hv0, hv1, atM_may mp mq hmd]
    rw [decide_eq_decide]
    omega
end Go.Proofs.YtinogambkfihpaaDoor
