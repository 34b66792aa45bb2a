/- Plain facts on the numbers that may be, numerals and their digits, and sums; no program is named here. -/
import Derived.WalkKit
import Derived.Laws.Strings
namespace Go.Proofs.YtjibhkgphahbaaaDoor
open Go.RowKit
/-- Whether a number lies from -2^62 to 2^62. -/
def mayB (n : Int) : Bool := decide (-4611686018427387904 ≤ n ∧ n ≤ 4611686018427387904)
theorem mayB_true {n : Int} : mayB n = true ↔ -4611686018427387904 ≤ n ∧ n ≤ 4611686018427387904 := by unfold mayB; simp
theorem mayB_false {n : Int} : mayB n = false ↔ n < -4611686018427387904 ∨ 4611686018427387904 < n := by unfold mayB; simp; omega
theorem may_ret {x : Int} (lo : -9223372036854775808 ≤ x) (hi : x ≤ 9223372036854775807)
    (h : (IntKind.u64.wrap (IntKind.u64.wrap x + 4611686018427387904) / 9223372036854775808 != 0) = true ∧
      (IntKind.u64.wrap (IntKind.u64.wrap (IntKind.u64.wrap x + 4611686018427387904) * 2) != 0) = true) : mayB x = false := by
  rw [mayB_false]
  obtain ⟨h1, h2⟩ := h
  simp only [bne_iff_ne, ne_eq, IntKind.wrap_u64] at h1 h2
  omega
theorem may_go0 {x : Int} (lo : -9223372036854775808 ≤ x) (hi : x ≤ 9223372036854775807)
    (h : IntKind.u64.wrap (IntKind.u64.wrap x + 4611686018427387904) / 9223372036854775808 = 0) : mayB x = true := by
  rw [mayB_true]
  simp only [IntKind.wrap_u64] at h
  omega
theorem may_go1 {x : Int} (lo : -9223372036854775808 ≤ x) (hi : x ≤ 9223372036854775807)
    (h : (IntKind.u64.wrap (IntKind.u64.wrap x + 4611686018427387904) / 9223372036854775808 != 0) = false ∨
      (IntKind.u64.wrap (IntKind.u64.wrap (IntKind.u64.wrap x + 4611686018427387904) * 2) != 0) = false) : mayB x = true := by
  rw [mayB_true]
  simp only [bne_eq_false_iff_eq, IntKind.wrap_u64] at h
  omega
def addOk (a b : Int) : Bool := mayB a && (mayB b && mayB (a + b))
def addV (a b : Int) : Int := if addOk a b = true then a + b else 0
def addE (a b : Int) : Int := if addOk a b = true then 0 else 10
def subV (a b : Int) : Int := if addOk a (-b) = true then a - b else 0
def subE (a b : Int) : Int := if addOk a (-b) = true then 0 else 10
theorem addOk_true {a b : Int} : addOk a b = true ↔ (-4611686018427387904 ≤ a ∧ a ≤ 4611686018427387904) ∧ (-4611686018427387904 ≤ b ∧ b ≤ 4611686018427387904) ∧ (-4611686018427387904 ≤ a + b ∧ a + b ≤ 4611686018427387904) := by
  unfold addOk; simp [mayB_true]
theorem addOk_false {a b : Int} (h : addOk a b = false) : ¬ ((-4611686018427387904 ≤ a ∧ a ≤ 4611686018427387904) ∧ (-4611686018427387904 ≤ b ∧ b ≤ 4611686018427387904) ∧ (-4611686018427387904 ≤ a + b ∧ a + b ≤ 4611686018427387904)) := by
  rw [← addOk_true, h]; simp
theorem addOk_no {a b : Int} (h : addOk a b = false) : (mayB a && (mayB b && mayB (wrap64 (a + b)))) = false := by
  have h' := addOk_false h
  cases e : (mayB a && (mayB b && mayB (wrap64 (a + b)))) with
  | false => rfl
  | true =>
    exfalso
    simp only [Bool.and_eq_true, mayB_true, wrap64] at e
    omega
theorem subOk_no {a b : Int} (h : addOk a (-b) = false) : (mayB a && (mayB b && mayB (wrap64 (a - b)))) = false := by
  have h' := addOk_false h
  cases e : (mayB a && (mayB b && mayB (wrap64 (a - b)))) with
  | false => rfl
  | true =>
    exfalso
    simp only [Bool.and_eq_true, mayB_true, wrap64] at e
    omega
/-! ## Numerals -/
def isD (c : UInt8) : Bool := decide (48 ≤ c.toNat ∧ c.toNat ≤ 57)
theorem isD_true {c : UInt8} : isD c = true ↔ 48 ≤ c.toNat ∧ c.toNat ≤ 57 := by unfold isD; simp
theorem isD_false {c : UInt8} : isD c = false ↔ c.toNat < 48 ∨ 57 < c.toNat := by unfold isD; simp; omega
/-- Is it a numeral: 0, or digits whose first one is not 0? -/
def numB : List UInt8 → Bool
  | [] => false
  | c :: l => !(c == 48 && !l.isEmpty) && (c :: l).all isD
/-- What digits stand for. -/
def valN (l : List UInt8) : Nat := l.foldl (fun n c => n * 10 + (c.toNat - 48)) 0
theorem valN_snoc (l : List UInt8) (c : UInt8) : valN (l ++ [c]) = valN l * 10 + (c.toNat - 48) := by
  unfold valN; rw [List.foldl_append]; rfl
theorem valN_nil : valN [] = 0 := rfl
theorem foldl_ge (l : List UInt8) : ∀ n : Nat, n ≤ l.foldl (fun n c => n * 10 + (c.toNat - 48)) n := by
  induction l with
  | nil => intro n; exact Nat.le_refl _
  | cons c l ih => intro n; exact Nat.le_trans (by omega) (ih (n * 10 + (c.toNat - 48)))
theorem valN_take_le (l : List UInt8) (k : Nat) : valN (l.take k) ≤ valN l := by
  have h : valN l = (l.drop k).foldl (fun n c => n * 10 + (c.toNat - 48)) (valN (l.take k)) := by
    unfold valN; rw [← List.foldl_append, List.take_append_drop]
  rw [h]; exact foldl_ge _ _
theorem valN_take_succ (l : List UInt8) (k : Nat) (h : k < l.length) : valN (l.take (k + 1)) = valN (l.take k) * 10 + (l[k].toNat - 48) := by
  rw [List.take_succ_eq_append_getElem h, valN_snoc]
def parseV (l : List UInt8) : Int := if numB l = true then (if valN l ≤ 4611686018427387904 then valN l else 0) else 0
def parseE (l : List UInt8) : Int := if numB l = true then (if valN l ≤ 4611686018427387904 then 0 else 10) else 20
theorem allD_take_succ (l : List UInt8) (k : Nat) (h : k < l.length) : (l.take (k + 1)).all isD = ((l.take k).all isD && isD l[k]) := by
  rw [List.take_succ_eq_append_getElem h, List.all_append]; simp
theorem allD_false_of (l : List UInt8) (k : Nat) (h : k < l.length) (hm : isD l[k] = false) : l.all isD = false := by
  rw [List.all_eq_false]; exact ⟨l[k], List.getElem_mem h, by simp [hm]⟩
theorem numB_of {l : List UInt8} (h0 : 0 < l.length) (h1 : l[0].toNat ≠ 48 ∨ l.length ≤ 1) : numB l = l.all isD := by
  cases l with
  | nil => simp at h0
  | cons c l =>
    show (!(c == 48 && !l.isEmpty) && (c :: l).all isD) = _
    have : (c == 48 && !l.isEmpty) = false := by
      rcases h1 with h1 | h1
      · have : c ≠ 48 := fun e => h1 (by rw [List.getElem_cons_zero, e]; rfl)
        simp [this]
      · have : l = [] := by cases l <;> simp_all
        simp [this]
    rw [this]; rfl
theorem numB_no {l : List UInt8} (h1 : l.length = 0 ∨ ∃ h : 0 < l.length, l[0].toNat = 48 ∧ 1 < l.length) : numB l = false := by
  cases l with
  | nil => rfl
  | cons c l =>
    rcases h1 with h1 | ⟨h0, h1, h2⟩
    · simp at h1
    · unfold numB
      have e : c = 48 := UInt8.toNat_inj.1 (by simpa using h1)
      have : l ≠ [] := by rintro rfl; simp at h2
      simp [e, this]
theorem numB_allD {l : List UInt8} (h : numB l = true) : l.all isD = true := by
  cases l with
  | nil => simp [numB] at h
  | cons c l => unfold numB at h; simp only [Bool.and_eq_true] at h; exact h.2
theorem bytes_empty {s : ByteArray} : s.toList = [] ↔ s.size = 0 := by
  rw [ByteArray.toList_eq]
  constructor
  · intro h
    have := congrArg List.length h
    simpa using this
  · intro h
    exact List.eq_nil_of_length_eq_zero (by simpa using h)
/-- The last digit of n, as a byte. -/
def dig (n : Nat) : UInt8 := UInt8.ofNat (48 + n % 10)
/-- The digits of n. -/
def dec (n : Nat) : List UInt8 := if n < 10 then [dig n] else dec (n / 10) ++ [dig n]
termination_by n
decreasing_by omega
/-- The digits ahead of the last one. -/
def decP (n : Nat) : List UInt8 := if n < 10 then [] else dec (n / 10)
theorem dec_eq (n : Nat) : dec n = decP n ++ [dig n] := by
  rw [dec]; unfold decP; split <;> rfl
theorem decP_small {n : Nat} (h : n < 10) : decP n = [] := by unfold decP; rw [if_pos h]
theorem decP_big {n : Nat} (h : 10 ≤ n) : decP n = dec (n / 10) := by unfold decP; rw [if_neg (by omega)]
theorem dec_length : ∀ (k n : Nat), n < 10 ^ (k + 1) → (dec n).length ≤ k + 1 := by
  intro k
  induction k with
  | zero =>
    intro n h
    rw [dec_eq, decP_small (by simpa using h)]
    simp
  | succ k ih =>
    intro n h
    rw [dec_eq]
    by_cases h1 : n < 10
    · rw [decP_small h1]; simp
    · rw [decP_big (by omega)]
      have := ih (n / 10) (by rw [Nat.pow_succ] at h; omega)
      simp; omega
theorem dec_pos (n : Nat) : 0 < (dec n).length := by rw [dec_eq]; simp
theorem digit_toNat (n : Nat) : (dig n).toNat = 48 + n % 10 := by
  unfold dig
  rw [UInt8.toNat_ofNat']; omega
theorem valN_dec (n : Nat) : valN (dec n) = n := by
  induction n using Nat.strongRecOn with
  | _ n ih =>
    rw [dec_eq, valN_snoc, digit_toNat]
    by_cases h : n < 10
    · rw [decP_small h, valN_nil]; omega
    · rw [decP_big (by omega), ih (n / 10) (by omega)]; omega
theorem dec_all (n : Nat) : (dec n).all isD = true := by
  induction n using Nat.strongRecOn with
  | _ n ih =>
    rw [dec_eq, List.all_append]
    have hd : isD (dig n) = true := by rw [isD_true, digit_toNat]; omega
    by_cases h : n < 10
    · rw [decP_small h]; simp [hd]
    · rw [decP_big (by omega), ih (n / 10) (by omega)]; simp [hd]
theorem dec_head (n : Nat) (hn : 0 < n) : (dec n)[0]?.map UInt8.toNat ≠ some 48 := by
  induction n using Nat.strongRecOn with
  | _ n ih =>
    rw [dec_eq]
    by_cases h : n < 10
    · rw [decP_small h]
      simp only [List.nil_append, List.getElem?_cons_zero, Option.map_some, ne_eq, Option.some.injEq]
      rw [digit_toNat]; omega
    · rw [decP_big (by omega), List.getElem?_append_left (dec_pos _)]
      exact ih (n / 10) (by omega) (by omega)
theorem dec_numB (n : Nat) : numB (dec n) = true := by
  have hp := dec_pos n
  rw [numB_of hp, dec_all]
  by_cases h : n < 10
  · right; rw [dec_eq, decP_small h]; simp
  · left
    have := dec_head n (by omega)
    rw [List.getElem?_eq_getElem hp] at this
    simpa using this
theorem valN_pos (l : List UInt8) (h0 : 0 < l.length) (hall : l.all isD = true) (h1 : l[0].toNat ≠ 48) : 10 ^ (l.length - 1) ≤ valN l := by
  cases l with
  | nil => simp at h0
  | cons c l =>
    have hc : 48 ≤ c.toNat := by
      have := List.all_eq_true.1 hall c (by simp)
      rw [isD_true] at this; exact this.1
    have hc1 : c.toNat ≠ 48 := by simpa using h1
    have key : ∀ (l : List UInt8) (n : Nat), n * 10 ^ l.length ≤ l.foldl (fun n c => n * 10 + (c.toNat - 48)) n := by
      intro l
      induction l with
      | nil => intro n; simp
      | cons c l ih =>
        intro n
        refine Nat.le_trans ?_ (ih (n * 10 + (c.toNat - 48)))
        rw [List.length_cons, Nat.pow_succ, Nat.add_mul, Nat.mul_comm (10 ^ l.length) 10, ← Nat.mul_assoc]
        omega
    have := key l (0 * 10 + (c.toNat - 48))
    show 10 ^ l.length ≤ List.foldl _ (0 * 10 + (c.toNat - 48)) l
    refine Nat.le_trans ?_ this
    have h : 1 ≤ 0 * 10 + (c.toNat - 48) := by omega
    exact Nat.le_trans (by simp) (Nat.mul_le_mul_right _ h)
theorem dec_valN (l : List UInt8) (h : numB l = true) : dec (valN l) = l := by
  induction hn : l.length generalizing l with
  | zero => cases l <;> simp_all [numB]
  | succ k ih =>
    have hall := numB_allD h
    obtain ⟨c, hc⟩ : ∃ c, l = l.dropLast ++ [c] := ⟨l.getLast (by intro e; subst e; simp at hn), (List.dropLast_concat_getLast _).symm⟩
    have hcd : 48 ≤ c.toNat ∧ c.toNat ≤ 57 := by
      have := List.all_eq_true.1 hall c (by rw [hc]; simp)
      rwa [isD_true] at this
    have hv : valN l = valN l.dropLast * 10 + (c.toNat - 48) := by rw [hc, valN_snoc, ← hc]
    have hcc : dig (valN l) = c := by
      apply UInt8.toNat_inj.1
      rw [digit_toNat, hv]; omega
    by_cases h1 : l.length ≤ 1
    · have h2 : l.dropLast = [] := List.eq_nil_of_length_eq_zero (by rw [List.length_dropLast]; omega)
      rw [dec_eq, hcc, decP_small (by rw [hv, h2, valN_nil]; omega)]
      rw [hc, h2]
    · have hne : l[0].toNat ≠ 48 := fun e => by
        have := numB_no (l := l) (.inr ⟨by omega, e, by omega⟩)
        rw [h] at this; cases this
      have hl0 : 0 < l.dropLast.length := by simp; omega
      have hd0 : l.dropLast[0].toNat ≠ 48 := by rw [List.getElem_dropLast]; exact hne
      have hall' : l.dropLast.all isD = true := by
        rw [List.all_eq_true] at hall ⊢
        exact fun x hx => hall x (List.dropLast_subset _ hx)
      have hp := valN_pos l.dropLast hl0 hall' hd0
      have hp1 : 1 ≤ valN l.dropLast := Nat.le_trans (Nat.pow_pos (by omega)) hp
      rw [dec_eq, hcc, decP_big (by rw [hv]; omega), show valN l / 10 = valN l.dropLast from by rw [hv]; omega,
        ih l.dropLast (by rw [numB_of hl0 (.inl hd0), hall']) (by simp; omega), ← hc]
/-- A number without its sign, and 1 more. -/
def abs1 (n : Int) : Int := (if n < 0 then -n else n) + 1
theorem abs1_neg {n : Int} (h : n < 0) : abs1 n = -n + 1 := by unfold abs1; rw [if_pos h]
theorem abs1_pos {n : Int} (h : ¬ n < 0) : abs1 n = n + 1 := by unfold abs1; rw [if_neg h]
theorem abs1_ge (n : Int) : 1 ≤ abs1 n := by unfold abs1; split <;> omega
theorem abs1_le {n : Int} (h : mayB n = true) : abs1 n ≤ 4611686018427387905 := by rw [mayB_true] at h; unfold abs1; split <;> omega
def sumA : List Int → Int
  | [] => 0
  | n :: l => abs1 n + sumA l
theorem sumA_append (l r : List Int) : sumA (l ++ r) = sumA l + sumA r := by
  induction l with
  | nil => simp [sumA]
  | cons n l ih => simp [sumA, ih]; omega
theorem sumA_ge (l : List Int) : (l.length : Int) ≤ sumA l := by
  induction l with
  | nil => simp [sumA]
  | cons n l ih => have := abs1_ge n; simp [sumA]; omega
theorem sumA_nonneg (l : List Int) : 0 ≤ sumA l := by have := sumA_ge l; omega
theorem sumA_take_succ (l : List Int) (k : Nat) (h : k < l.length) : sumA (l.take (k + 1)) = sumA (l.take k) + abs1 l[k] := by
  rw [List.take_succ_eq_append_getElem h, sumA_append]; simp [sumA]
theorem sumA_take_le (l : List Int) (k : Nat) : sumA (l.take k) ≤ sumA l := by
  have := congrArg sumA (List.take_append_drop k l)
  rw [sumA_append] at this
  have := sumA_nonneg (l.drop k)
  omega
/-- The limit, brought within 0 to 2^62. -/
def cap (most : Int) : Int := if most < 0 then 0 else if most ≤ 4611686018427387904 then most else 4611686018427387904
theorem cap_nonneg (m : Int) : 0 ≤ cap m := by unfold cap; split; omega; split <;> omega
theorem cap_le (m : Int) : cap m ≤ 4611686018427387904 := by unfold cap; split; omega; split <;> omega
def sumOk (m : Int) (l : List Int) : Bool := l.all mayB && decide (sumA l ≤ cap m)
def sumV (m : Int) (l : List Int) : Int := if sumOk m l = true then sumA l else 0
theorem sumOk_bad {m : Int} {l : List Int} (h : l.all mayB = false) : sumOk m l = false := by unfold sumOk; rw [h]; rfl
theorem sumOk_big {m : Int} {l : List Int} (h : cap m < sumA l) : sumOk m l = false := by unfold sumOk; rw [Bool.and_eq_false_iff]; right; simp; omega
theorem sumOk_yes {m : Int} {l : List Int} (h : l.all mayB = true) (h2 : sumA l ≤ cap m) : sumOk m l = true := by unfold sumOk; rw [h]; simpa using h2
theorem sumV_no {m : Int} {l : List Int} (h : sumOk m l = false) : sumV m l = 0 := by unfold sumV; rw [h]; rfl
theorem sumV_yes {m : Int} {l : List Int} (h : sumOk m l = true) : sumV m l = sumA l := by unfold sumV; rw [h]; rfl
theorem all_take_succ (xs : List Int) (k : Nat) (h : k < xs.length) : (xs.take (k + 1)).all mayB = ((xs.take k).all mayB && mayB xs[k]) := by
  rw [List.take_succ_eq_append_getElem h, List.all_append]; simp
theorem all_false_of (xs : List Int) (k : Nat) (h : k < xs.length) (hm : mayB xs[k] = false) : xs.all mayB = false := by
  rw [List.all_eq_false]; exact ⟨xs[k], List.getElem_mem h, by simp [hm]⟩
end Go.Proofs.YtjibhkgphahbaaaDoor
