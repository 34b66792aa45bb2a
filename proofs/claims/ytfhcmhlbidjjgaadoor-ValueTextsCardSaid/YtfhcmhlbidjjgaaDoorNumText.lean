/- The function Text of package num and of the document gives the numeral of a number that may be. -/
import Derived.WalkKit
import Derived.Laws.Strings
import Derived.Test.YtfhcmhlbidjjgaaDoorProg
import Derived.Test.YtfhcmhlbidjjgaaDoorAid
namespace Go.Proofs.YtfhcmhlbidjjgaaDoor
open Go.RowKit
/-- Whether a number lies from -2^62 to 2^62. -/
def mayB (n : Int) : Bool := decide (-4611686018427387904 ≤ n ∧ n ≤ 4611686018427387904)
theorem mayB_true {n : Int} : mayB n = true ↔ -4611686018427387904 ≤ n ∧ n ≤ 4611686018427387904 := by unfold mayB; simp
theorem mayB_false {n : Int} : mayB n = false ↔ n < -4611686018427387904 ∨ 4611686018427387904 < n := by unfold mayB; simp; omega
theorem may_ret {x : Int} (lo : -9223372036854775808 ≤ x) (hi : x ≤ 9223372036854775807)
    (h : (IntKind.u64.wrap (IntKind.u64.wrap x + 4611686018427387904) / 9223372036854775808 != 0) = true ∧
      (IntKind.u64.wrap (IntKind.u64.wrap (IntKind.u64.wrap x + 4611686018427387904) * 2) != 0) = true) : mayB x = false := by
  rw [mayB_false]
  obtain ⟨h1, h2⟩ := h
  simp only [bne_iff_ne, ne_eq, IntKind.wrap_u64] at h1 h2
  omega
theorem may_go0 {x : Int} (lo : -9223372036854775808 ≤ x) (hi : x ≤ 9223372036854775807)
    (h : IntKind.u64.wrap (IntKind.u64.wrap x + 4611686018427387904) / 9223372036854775808 = 0) : mayB x = true := by
  rw [mayB_true]
  simp only [IntKind.wrap_u64] at h
  omega
theorem may_go1 {x : Int} (lo : -9223372036854775808 ≤ x) (hi : x ≤ 9223372036854775807)
    (h : (IntKind.u64.wrap (IntKind.u64.wrap x + 4611686018427387904) / 9223372036854775808 != 0) = false ∨
      (IntKind.u64.wrap (IntKind.u64.wrap (IntKind.u64.wrap x + 4611686018427387904) * 2) != 0) = false) : mayB x = true := by
  rw [mayB_true]
  simp only [bne_eq_false_iff_eq, IntKind.wrap_u64] at h
  omega
def addOk (a b : Int) : Bool := mayB a && (mayB b && mayB (a + b))
def addV (a b : Int) : Int := if addOk a b = true then a + b else 0
def addE (a b : Int) : Int := if addOk a b = true then 0 else 10
def subV (a b : Int) : Int := if addOk a (-b) = true then a - b else 0
def subE (a b : Int) : Int := if addOk a (-b) = true then 0 else 10
theorem addOk_true {a b : Int} : addOk a b = true ↔ (-4611686018427387904 ≤ a ∧ a ≤ 4611686018427387904) ∧ (-4611686018427387904 ≤ b ∧ b ≤ 4611686018427387904) ∧ (-4611686018427387904 ≤ a + b ∧ a + b ≤ 4611686018427387904) := by
  unfold addOk; simp [mayB_true]
theorem addOk_false {a b : Int} (h : addOk a b = false) : ¬ ((-4611686018427387904 ≤ a ∧ a ≤ 4611686018427387904) ∧ (-4611686018427387904 ≤ b ∧ b ≤ 4611686018427387904) ∧ (-4611686018427387904 ≤ a + b ∧ a + b ≤ 4611686018427387904)) := by
  rw [← addOk_true, h]; simp
theorem addOk_no {a b : Int} (h : addOk a b = false) : (mayB a && (mayB b && mayB (wrap64 (a + b)))) = false := by
  have h' := addOk_false h
  cases e : (mayB a && (mayB b && mayB (wrap64 (a + b)))) with
  | false => rfl
  | true =>
    exfalso
    simp only [Bool.and_eq_true, mayB_true, wrap64] at e
    omega
theorem subOk_no {a b : Int} (h : addOk a (-b) = false) : (mayB a && (mayB b && mayB (wrap64 (a - b)))) = false := by
  have h' := addOk_false h
  cases e : (mayB a && (mayB b && mayB (wrap64 (a - b)))) with
  | false => rfl
  | true =>
    exfalso
    simp only [Bool.and_eq_true, mayB_true, wrap64] at e
    omega
/-! ## Numerals -/
def isD (c : UInt8) : Bool := decide (48 ≤ c.toNat ∧ c.toNat ≤ 57)
theorem isD_true {c : UInt8} : isD c = true ↔ 48 ≤ c.toNat ∧ c.toNat ≤ 57 := by unfold isD; simp
theorem isD_false {c : UInt8} : isD c = false ↔ c.toNat < 48 ∨ 57 < c.toNat := by unfold isD; simp; omega
/-- Is it a numeral: 0, or digits whose first one is not 0? -/
def numB : List UInt8 → Bool
  | [] => false
  | c :: l => !(c == 48 && !l.isEmpty) && (c :: l).all isD
/-- What digits stand for. -/
def valN (l : List UInt8) : Nat := l.foldl (fun n c => n * 10 + (c.toNat - 48)) 0
theorem valN_snoc (l : List UInt8) (c : UInt8) : valN (l ++ [c]) = valN l * 10 + (c.toNat - 48) := by
  unfold valN; rw [List.foldl_append]; rfl
theorem valN_nil : valN [] = 0 := rfl
theorem foldl_ge (l : List UInt8) : ∀ n : Nat, n ≤ l.foldl (fun n c => n * 10 + (c.toNat - 48)) n := by
  induction l with
  | nil => intro n; exact Nat.le_refl _
  | cons c l ih => intro n; exact Nat.le_trans (by omega) (ih (n * 10 + (c.toNat - 48)))
theorem valN_take_le (l : List UInt8) (k : Nat) : valN (l.take k) ≤ valN l := by
  have h : valN l = (l.drop k).foldl (fun n c => n * 10 + (c.toNat - 48)) (valN (l.take k)) := by
    unfold valN; rw [← List.foldl_append, List.take_append_drop]
  rw [h]; exact foldl_ge _ _
theorem valN_take_succ (l : List UInt8) (k : Nat) (h : k < l.length) : valN (l.take (k + 1)) = valN (l.take k) * 10 + (l[k].toNat - 48) := by
  rw [List.take_succ_eq_append_getElem h, valN_snoc]
def parseV (l : List UInt8) : Int := if numB l = true then (if valN l ≤ 4611686018427387904 then valN l else 0) else 0
def parseE (l : List UInt8) : Int := if numB l = true then (if valN l ≤ 4611686018427387904 then 0 else 10) else 20
theorem allD_take_succ (l : List UInt8) (k : Nat) (h : k < l.length) : (l.take (k + 1)).all isD = ((l.take k).all isD && isD l[k]) := by
  rw [List.take_succ_eq_append_getElem h, List.all_append]; simp
theorem allD_false_of (l : List UInt8) (k : Nat) (h : k < l.length) (hm : isD l[k] = false) : l.all isD = false := by
  rw [List.all_eq_false]; exact ⟨l[k], List.getElem_mem h, by simp [hm]⟩
theorem numB_of {l : List UInt8} (h0 : 0 < l.length) (h1 : l[0].toNat ≠ 48 ∨ l.length ≤ 1) : numB l = l.all isD := by
  cases l with
  | nil => simp at h0
  | cons c l =>
    show (!(c == 48 && !l.isEmpty) && (c :: l).all isD) = _
    have : (c == 48 && !l.isEmpty) = false := by
      rcases h1 with h1 | h1
      · have : c ≠ 48 := fun e => h1 (by rw [List.getElem_cons_zero, e]; rfl)
        simp [this]
      · have : l = [] := by cases l <;> simp_all
        simp [this]
    rw [this]; rfl
theorem numB_no {l : List UInt8} (h1 : l.length = 0 ∨ ∃ h : 0 < l.length, l[0].toNat = 48 ∧ 1 < l.length) : numB l = false := by
  cases l with
  | nil => rfl
  | cons c l =>
    rcases h1 with h1 | ⟨h0, h1, h2⟩
    · simp at h1
    · unfold numB
      have e : c = 48 := UInt8.toNat_inj.1 (by simpa using h1)
      have : l ≠ [] := by rintro rfl; simp at h2
      simp [e, this]
theorem numB_allD {l : List UInt8} (h : numB l = true) : l.all isD = true := by
  cases l with
  | nil => simp [numB] at h
  | cons c l => unfold numB at h; simp only [Bool.and_eq_true] at h; exact h.2
theorem bytes_empty {s : ByteArray} : s.toList = [] ↔ s.size = 0 := by
  rw [ByteArray.toList_eq]
  constructor
  · intro h
    have := congrArg List.length h
    simpa using this
  · intro h
    exact List.eq_nil_of_length_eq_zero (by simpa using h)
/-- The last digit of n, as a byte. -/
def dig (n : Nat) : UInt8 := UInt8.ofNat (48 + n % 10)
/-- The digits of n. -/
def dec (n : Nat) : List UInt8 := if n < 10 then [dig n] else dec (n / 10) ++ [dig n]
termination_by n
decreasing_by omega
/-- The digits ahead of the last one. -/
def decP (n : Nat) : List UInt8 := if n < 10 then [] else dec (n / 10)
theorem dec_eq (n : Nat) : dec n = decP n ++ [dig n] := by
  rw [dec]; unfold decP; split <;> rfl
theorem decP_small {n : Nat} (h : n < 10) : decP n = [] := by unfold decP; rw [if_pos h]
theorem decP_big {n : Nat} (h : 10 ≤ n) : decP n = dec (n / 10) := by unfold decP; rw [if_neg (by omega)]
theorem dec_length : ∀ (k n : Nat), n < 10 ^ (k + 1) → (dec n).length ≤ k + 1 := by
  intro k
  induction k with
  | zero =>
    intro n h
    rw [dec_eq, decP_small (by simpa using h)]
    simp
  | succ k ih =>
    intro n h
    rw [dec_eq]
    by_cases h1 : n < 10
    · rw [decP_small h1]; simp
    · rw [decP_big (by omega)]
      have := ih (n / 10) (by rw [Nat.pow_succ] at h; omega)
      simp; omega
theorem dec_pos (n : Nat) : 0 < (dec n).length := by rw [dec_eq]; simp
theorem digit_toNat (n : Nat) : (dig n).toNat = 48 + n % 10 := by
  unfold dig
  rw [UInt8.toNat_ofNat']; omega
theorem valN_dec (n : Nat) : valN (dec n) = n := by
  induction n using Nat.strongRecOn with
  | _ n ih =>
    rw [dec_eq, valN_snoc, digit_toNat]
    by_cases h : n < 10
    · rw [decP_small h, valN_nil]; omega
    · rw [decP_big (by omega), ih (n / 10) (by omega)]; omega
theorem dec_all (n : Nat) : (dec n).all isD = true := by
  induction n using Nat.strongRecOn with
  | _ n ih =>
    rw [dec_eq, List.all_append]
    have hd : isD (dig n) = true := by rw [isD_true, digit_toNat]; omega
    by_cases h : n < 10
    · rw [decP_small h]; simp [hd]
    · rw [decP_big (by omega), ih (n / 10) (by omega)]; simp [hd]
theorem dec_head (n : Nat) (hn : 0 < n) : (dec n)[0]?.map UInt8.toNat ≠ some 48 := by
  induction n using Nat.strongRecOn with
  | _ n ih =>
    rw [dec_eq]
    by_cases h : n < 10
    · rw [decP_small h]
      simp only [List.nil_append, List.getElem?_cons_zero, Option.map_some, ne_eq, Option.some.injEq]
      rw [digit_toNat]; omega
    · rw [decP_big (by omega), List.getElem?_append_left (dec_pos _)]
      exact ih (n / 10) (by omega) (by omega)
theorem dec_numB (n : Nat) : numB (dec n) = true := by
  have hp := dec_pos n
  rw [numB_of hp, dec_all]
  by_cases h : n < 10
  · right; rw [dec_eq, decP_small h]; simp
  · left
    have := dec_head n (by omega)
    rw [List.getElem?_eq_getElem hp] at this
    simpa using this
theorem valN_pos (l : List UInt8) (h0 : 0 < l.length) (hall : l.all isD = true) (h1 : l[0].toNat ≠ 48) : 10 ^ (l.length - 1) ≤ valN l := by
  cases l with
  | nil => simp at h0
  | cons c l =>
    have hc : 48 ≤ c.toNat := by
      have := List.all_eq_true.1 hall c (by simp)
      rw [isD_true] at this; exact this.1
    have hc1 : c.toNat ≠ 48 := by simpa using h1
    have key : ∀ (l : List UInt8) (n : Nat), n * 10 ^ l.length ≤ l.foldl (fun n c => n * 10 + (c.toNat - 48)) n := by
      intro l
      induction l with
      | nil => intro n; simp
      | cons c l ih =>
        intro n
        refine Nat.le_trans ?_ (ih (n * 10 + (c.toNat - 48)))
        rw [List.length_cons, Nat.pow_succ, Nat.add_mul, Nat.mul_comm (10 ^ l.length) 10, ← Nat.mul_assoc]
        omega
    have := key l (0 * 10 + (c.toNat - 48))
    show 10 ^ l.length ≤ List.foldl _ (0 * 10 + (c.toNat - 48)) l
    refine Nat.le_trans ?_ this
    have h : 1 ≤ 0 * 10 + (c.toNat - 48) := by omega
    exact Nat.le_trans (by simp) (Nat.mul_le_mul_right _ h)
theorem dec_valN (l : List UInt8) (h : numB l = true) : dec (valN l) = l := by
  induction hn : l.length generalizing l with
  | zero => cases l <;> simp_all [numB]
  | succ k ih =>
    have hall := numB_allD h
    obtain ⟨c, hc⟩ : ∃ c, l = l.dropLast ++ [c] := ⟨l.getLast (by intro e; subst e; simp at hn), (List.dropLast_concat_getLast _).symm⟩
    have hcd : 48 ≤ c.toNat ∧ c.toNat ≤ 57 := by
      have := List.all_eq_true.1 hall c (by rw [hc]; simp)
      rwa [isD_true] at this
    have hv : valN l = valN l.dropLast * 10 + (c.toNat - 48) := by rw [hc, valN_snoc, ← hc]
    have hcc : dig (valN l) = c := by
      apply UInt8.toNat_inj.1
      rw [digit_toNat, hv]; omega
    by_cases h1 : l.length ≤ 1
    · have h2 : l.dropLast = [] := List.eq_nil_of_length_eq_zero (by rw [List.length_dropLast]; omega)
      rw [dec_eq, hcc, decP_small (by rw [hv, h2, valN_nil]; omega)]
      rw [hc, h2]
    · have hne : l[0].toNat ≠ 48 := fun e => by
        have := numB_no (l := l) (.inr ⟨by omega, e, by omega⟩)
        rw [h] at this; cases this
      have hl0 : 0 < l.dropLast.length := by simp; omega
      have hd0 : l.dropLast[0].toNat ≠ 48 := by rw [List.getElem_dropLast]; exact hne
      have hall' : l.dropLast.all isD = true := by
        rw [List.all_eq_true] at hall ⊢
        exact fun x hx => hall x (List.dropLast_subset _ hx)
      have hp := valN_pos l.dropLast hl0 hall' hd0
      have hp1 : 1 ≤ valN l.dropLast := Nat.le_trans (Nat.pow_pos (by omega)) hp
      rw [dec_eq, hcc, decP_big (by rw [hv]; omega), show valN l / 10 = valN l.dropLast from by rw [hv]; omega,
        ih l.dropLast (by rw [numB_of hl0 (.inl hd0), hall']) (by simp; omega), ← hc]
/-- A number without its sign, and 1 more. -/
def abs1 (n : Int) : Int := (if n < 0 then -n else n) + 1
theorem abs1_neg {n : Int} (h : n < 0) : abs1 n = -n + 1 := by unfold abs1; rw [if_pos h]
theorem abs1_pos {n : Int} (h : ¬ n < 0) : abs1 n = n + 1 := by unfold abs1; rw [if_neg h]
theorem abs1_ge (n : Int) : 1 ≤ abs1 n := by unfold abs1; split <;> omega
theorem abs1_le {n : Int} (h : mayB n = true) : abs1 n ≤ 4611686018427387905 := by rw [mayB_true] at h; unfold abs1; split <;> omega
def sumA : List Int → Int
  | [] => 0
  | n :: l => abs1 n + sumA l
theorem sumA_append (l r : List Int) : sumA (l ++ r) = sumA l + sumA r := by
  induction l with
  | nil => simp [sumA]
  | cons n l ih => simp [sumA, ih]; omega
theorem sumA_ge (l : List Int) : (l.length : Int) ≤ sumA l := by
  induction l with
  | nil => simp [sumA]
  | cons n l ih => have := abs1_ge n; simp [sumA]; omega
theorem sumA_nonneg (l : List Int) : 0 ≤ sumA l := by have := sumA_ge l; omega
theorem sumA_take_succ (l : List Int) (k : Nat) (h : k < l.length) : sumA (l.take (k + 1)) = sumA (l.take k) + abs1 l[k] := by
  rw [List.take_succ_eq_append_getElem h, sumA_append]; simp [sumA]
theorem sumA_take_le (l : List Int) (k : Nat) : sumA (l.take k) ≤ sumA l := by
  have := congrArg sumA (List.take_append_drop k l)
  rw [sumA_append] at this
  have := sumA_nonneg (l.drop k)
  omega
/-- The limit, brought within 0 to 2^62. -/
def cap (most : Int) : Int := if most < 0 then 0 else if most ≤ 4611686018427387904 then most else 4611686018427387904
theorem cap_nonneg (m : Int) : 0 ≤ cap m := by unfold cap; split; omega; split <;> omega
theorem cap_le (m : Int) : cap m ≤ 4611686018427387904 := by unfold cap; split; omega; split <;> omega
def sumOk (m : Int) (l : List Int) : Bool := l.all mayB && decide (sumA l ≤ cap m)
def sumV (m : Int) (l : List Int) : Int := if sumOk m l = true then sumA l else 0
theorem sumOk_bad {m : Int} {l : List Int} (h : l.all mayB = false) : sumOk m l = false := by unfold sumOk; rw [h]; rfl
theorem sumOk_big {m : Int} {l : List Int} (h : cap m < sumA l) : sumOk m l = false := by unfold sumOk; rw [Bool.and_eq_false_iff]; right; simp; omega
theorem sumOk_yes {m : Int} {l : List Int} (h : l.all mayB = true) (h2 : sumA l ≤ cap m) : sumOk m l = true := by unfold sumOk; rw [h]; simpa using h2
theorem sumV_no {m : Int} {l : List Int} (h : sumOk m l = false) : sumV m l = 0 := by unfold sumV; rw [h]; rfl
theorem sumV_yes {m : Int} {l : List Int} (h : sumOk m l = true) : sumV m l = sumA l := by unfold sumV; rw [h]; rfl
theorem all_take_succ (xs : List Int) (k : Nat) (h : k < xs.length) : (xs.take (k + 1)).all mayB = ((xs.take k).all mayB && mayB xs[k]) := by
  rw [List.take_succ_eq_append_getElem h, List.all_append]; simp
theorem all_false_of (xs : List Int) (k : Nat) (h : k < xs.length) (hm : mayB xs[k] = false) : xs.all mayB = false := by
  rw [List.all_eq_false]; exact ⟨xs[k], List.getElem_mem h, by simp [hm]⟩
end Go.Proofs.YtfhcmhlbidjjgaaDoor
namespace Go.Proofs.YtfhcmhlbidjjgaaDoor
open Go.RowKit
/-- The byte at k, as the walk spells it and as the list has it. -/
theorem at_list (s : ByteArray) (k : Nat) (h : k < s.size) : s.data.toList[k]'(by simpa using h) = s[k] := by
  simp; rfl
theorem isNumeral_any (s : ByteArray) (w : World) (hs : s.size ≤ 9223372036854775807) :
    Calls Tryd.prog 74 #[.string s] w fun e w' => e = .returned (.bool (numB s.data.toList)) ∧ w = w' := by
  have hL : s.data.toList.length = s.size := by simp
  by_cases h0 : s.size = 0
  · have hn : s.toList = [] := bytes_empty.2 h0
    have HF := Lib.hid (numB_no (l := s.data.toList) (.inl (by omega)))
    clear hL h0
    go_enter Tryd.func74, Tryd.ntmps74
    go_wp2
    go_ret
    exact ⟨ret_bool HF.out.symm, rfl⟩
  · have hp : 0 < s.size := by omega
    have hne : ¬ s.toList = [] := fun h => h0 (bytes_empty.1 h)
    have hem : s.toList.isEmpty = false := by simpa using hne
    by_cases h1 : (s[0].toNat : Int) = 48 ∧ 1 < s.size
    · obtain ⟨h48, h2⟩ := h1
      have HF := Lib.hid (numB_no (l := s.data.toList) (.inr ⟨by omega, by rw [at_list s 0 hp]; omega, by omega⟩))
      clear hL h0
      go_enter Tryd.func74, Tryd.ntmps74
      go_wp2
      go_ret
      exact ⟨ret_bool HF.out.symm, rfl⟩
    · have HF := Lib.hid (numB_of (l := s.data.toList) (by omega) (by rw [at_list s 0 hp]; omega))
      have HL := Lib.hid hL
      have hcase : ((s[0].toNat : Int) = 48 ∧ s.size ≤ 1) ∨ ((s[0].toNat : Int) == 48) = false := by
        by_cases e : (s[0].toNat : Int) = 48
        · exact .inl ⟨e, by omega⟩
        · exact .inr (by simpa using e)
      clear hL h0 h1
      rcases hcase with ⟨h48, h2⟩ | h48
      all_goals
        go_enter Tryd.func74, Tryd.ntmps74
        go_wp2
        go_loop [18] (fun i => ∃ k : Nat, k ≤ s.size ∧ (s.data.toList.take k).all isD = true ∧ i = .int .i64 k) (fun i => s.size - (intOf i).toNat)
        case atStart => exact ⟨0, Nat.zero_le _, rfl, rfl⟩
        case round =>
          obtain ⟨k, hk, hall, rfl⟩ := hrel
          have HA := Lib.hid hall; clear hall
          by_cases hlt : k < s.size
          · by_cases hd1 : 48 ≤ (s[k].toNat : Int)
            · by_cases hd2 : (s[k].toNat : Int) ≤ 57
              · have hD : Hid ((s.data.toList.take (k + 1)).all isD = true) := by
                  have := allD_take_succ s.data.toList k (by have := HL.out; omega)
                  rw [at_list s k hlt, HA.out, isD_true.2 ⟨by omega, by omega⟩] at this
                  exact this
                go_wp2
                go_round
                case rel => exact ⟨k + 1, by omega, hD.out, by go_num⟩
                case measure => simp [intOf]; omega
              · have hD : Hid (numB s.data.toList = false) := by
                  have := allD_false_of s.data.toList k (by have := HL.out; omega) (by rw [at_list s k hlt]; exact isD_false.2 (by omega))
                  exact HF.out.trans this
                go_wp2
                go_ret
                exact ⟨ret_bool hD.out.symm, rfl⟩
            · have hD : Hid (numB s.data.toList = false) := by
                have := allD_false_of s.data.toList k (by have := HL.out; omega) (by rw [at_list s k hlt]; exact isD_false.2 (by omega))
                exact HF.out.trans this
              go_wp2
              go_ret
              exact ⟨ret_bool hD.out.symm, rfl⟩
          · go_wp2
            go_ret
            exact ⟨ret_bool (by rw [HF.out, ← HA.out, List.take_of_length_le (by have := HL.out; omega)]), rfl⟩
theorem put_yes (b : Nat) (n c : Int) (w : World) (h1 : 48 ≤ c) (h2 : c ≤ 57) (n1 : 0 ≤ n) (n2 : n * 10 + (c - 48) ≤ 4611686018427387904)
    (hc : w.cell? ⟨b, 0, none⟩ = some (.int .u64 n)) (hf : w.frozen? ⟨b, 0, none⟩ = false) :
    Calls Tryd.prog 75 #[.int .u8 c, .pointer (some ⟨b, 0, none⟩)] w fun e w' => e = .returned (.bool true) ∧ w.setCell ⟨b, 0, none⟩ (.int .u64 (n * 10 + (c - 48))) = w' := by
  have h3 : n ≤ (4611686018427387904 - (c - 48)) / 10 := by omega
  go_enter Tryd.func75, Tryd.ntmps75
  go_wp2
  go_ret
  exact ⟨rfl, rfl⟩
theorem put_no (b : Nat) (n c : Int) (w : World) (h1 : 48 ≤ c) (h2 : c ≤ 57) (_n1 : 0 ≤ n) (_n3 : n ≤ 4611686018427387904) (n2 : 4611686018427387904 < n * 10 + (c - 48))
    (hc : w.cell? ⟨b, 0, none⟩ = some (.int .u64 n)) :
    Calls Tryd.prog 75 #[.int .u8 c, .pointer (some ⟨b, 0, none⟩)] w fun e w' => e = .returned (.bool false) ∧ w = w' := by
  have h3 : (4611686018427387904 - (c - 48)) / 10 < n := by omega
  go_enter Tryd.func75, Tryd.ntmps75
  go_wp2
  go_ret
  exact ⟨rfl, rfl⟩
theorem isNumeral_yes (s : ByteArray) (w : World) (hs : s.size ≤ 9223372036854775807) (h : numB s.data.toList = true) :
    Calls Tryd.prog 74 #[.string s] w fun e w' => e = .returned (.bool true) ∧ w = w' := by
  have := isNumeral_any s w hs; rw [h] at this; exact this
theorem isNumeral_no (s : ByteArray) (w : World) (hs : s.size ≤ 9223372036854775807) (h : numB s.data.toList = false) :
    Calls Tryd.prog 74 #[.string s] w fun e w' => e = .returned (.bool false) ∧ w = w' := by
  have := isNumeral_any s w hs; rw [h] at this; exact this
theorem numB_at {s : ByteArray} (h : numB s.data.toList = true) (k : Nat) (hk : k < s.size) : 48 ≤ s[k].toNat ∧ s[k].toNat ≤ 57 := by
  have h1 := numB_allD h
  have h2 : isD (s.data.toList[k]'(by simpa using hk)) = true := List.all_eq_true.1 h1 _ (List.getElem_mem _)
  rw [at_list s k hk, isD_true] at h2
  exact h2
theorem Parse_any (s : ByteArray) (w : World) (hs : s.size ≤ 9223372036854775807) :
    Calls Tryd.prog 70 #[.string s] w fun e w' => e = .returned (.tuple #[.int .i64 (parseV s.data.toList), .int .i64 (parseE s.data.toList)]) ∧ Below w.heap.size w w' := by
  have HL : Hid (s.data.toList.length = s.size) := by show _ = _; simp
  cases hn : numB s.data.toList with
  | false =>
    have HN := Lib.hid hn
    clear hn
    go_enter Tryd.func70, Tryd.ntmps70
    go_wp2_with (go_at_call 74; refine (isNumeral_no s _ hs HN.out).mono ?_; rintro e w' ⟨rfl, rfl⟩)
    go_ret2
    exact ⟨ret_two (val_int (by simp [parseV, HN.out])) (val_int (by simp [parseE, HN.out])), Below.refl _ _⟩
  | true =>
    have HN := Lib.hid hn
    clear hn
    go_enter Tryd.func70, Tryd.ntmps70
    go_wp2_with (go_at_call 74; refine (isNumeral_yes s _ hs HN.out).mono ?_; rintro e w' ⟨rfl, rfl⟩)
    go_loopw [13] (fun i wr => ∃ k : Nat, k ≤ s.size ∧ valN (s.data.toList.take k) ≤ 4611686018427387904 ∧ i = .int .i64 k ∧ wr.heap[w.heap.size]? = some (.cells #[.int .u64 (valN (s.data.toList.take k))] 79 (0, 0)) ∧ Below w.heap.size w wr) (fun i _ => s.size - (intOf i).toNat)
    case atStart =>
      refine ⟨0, Nat.zero_le _, by simp [valN_nil], rfl, ?_, (Below.refl _ _).alloc (Nat.le_refl _) _⟩
      simpa [valN_nil] using heap_alloc_new w (.cells #[.int .u64 0] 79)
    case round =>
      obtain ⟨k, hk, hv, rfl, hb, hbel⟩ := hrel
      have hcell := cell_of_one hb
      have hfree := free_of_one hb
      by_cases hlt : k < s.size
      · obtain ⟨d1, d2⟩ := numB_at HN.out k hlt
        have HS : Hid (valN (s.data.toList.take (k + 1)) = valN (s.data.toList.take k) * 10 + (s[k].toNat - 48)) := by
          have := valN_take_succ s.data.toList k (by have := HL.out; omega)
          rw [at_list s k hlt] at this
          exact this
        have HB := Lib.hid hb
        clear hb
        by_cases hgo : valN (s.data.toList.take k) * 10 + (s[k].toNat - 48) ≤ 4611686018427387904
        · go_wp2_with (go_at_call 75; refine (put_yes _ _ _ _ (by omega) (by omega) (by omega) (by omega) hcell hfree).mono ?_; rintro e w' ⟨rfl, rfl⟩)
          go_roundw
          case rel =>
            refine ⟨k + 1, by omega, by rw [HS.out]; exact hgo, by go_num, ?_, hbel.setCell (Nat.le_refl _) _⟩
            rw [one_setCell HB.out, HS.out, show (valN (s.data.toList.take k) : Int) * 10 + ((s[k].toNat : Int) - 48) = ((valN (s.data.toList.take k) * 10 + (s[k].toNat - 48) : Nat) : Int) from by omega]
          case measure => simp [intOf]; omega
        · go_wp2_with (go_at_call 75; refine (put_no _ _ _ _ (by omega) (by omega) (by omega) (by omega) (by omega) hcell).mono ?_; rintro e w' ⟨rfl, rfl⟩)
          go_ret2
          have hbig : ¬ valN s.data.toList ≤ 4611686018427387904 := by
            have := valN_take_le s.data.toList (k + 1)
            rw [HS.out] at this
            omega
          exact ⟨ret_two (val_int (by simp [parseV, HN.out, hbig])) (val_int (by simp [parseE, HN.out, hbig])), hbel⟩
      · have ht : s.data.toList.take k = s.data.toList := List.take_of_length_le (by have := HL.out; omega)
        rw [ht] at hv hcell
        go_wp2
        go_ret2
        exact ⟨ret_two (val_int (by simp [parseV, HN.out, hv])) (val_int (by simp [parseE, HN.out, hv])), hbel⟩
end Go.Proofs.YtfhcmhlbidjjgaaDoor
namespace Go.Proofs.YtfhcmhlbidjjgaaDoor
open Go.RowKit
theorem allMay_any (b c : Nat) (xs : List Int) (w : World) (hn : xs.length ≤ 100) (hx : ∀ x ∈ xs, I64 x)
    (hc : ∀ j, j < xs.length → w.cell? ⟨b, j, none⟩ = some (.int .i64 (xs.getD j 0))) :
    Calls Tryd.prog 21 #[.slice (some ⟨b, 0, none⟩) xs.length c] w fun e w' => e = .returned (.bool (xs.all mayB)) ∧ w = w' := by
  have HC := Lib.hid hc; clear hc
  have HX := Lib.hid hx; clear hx
  go_enter Tryd.func21, Tryd.ntmps21
  go_wp2
  go_loop [8] (fun i => ∃ k : Nat, k ≤ xs.length ∧ (xs.take k).all mayB = true ∧ i = .int .i64 k) (fun i => xs.length - (intOf i).toNat)
  case atStart => exact ⟨0, Nat.zero_le _, rfl, rfl⟩
  case round =>
    obtain ⟨k, hk, hall, rfl⟩ := hrel
    have HA := Lib.hid hall; clear hall
    by_cases hlt : k < xs.length
    · have hcell := HC.out k hlt
      have hb : I64 xs[k] := HX.out _ (List.getElem_mem hlt)
      obtain ⟨lo, hi⟩ := hb
      go_wp2
      · go_round
        case rel => exact ⟨k + 1, by omega, by rw [all_take_succ xs k hlt, HA.out, may_go0 lo hi (by assumption)]; rfl, by go_num⟩
        case measure => simp [intOf]; omega
      · go_ret
        exact ⟨ret_bool (all_false_of xs k hlt (may_ret lo hi (by assumption))).symm, rfl⟩
      · go_round
        case rel => exact ⟨k + 1, by omega, by rw [all_take_succ xs k hlt, HA.out, may_go1 lo hi (by assumption)]; rfl, by go_num⟩
        case measure => simp [intOf]; omega
    · go_wp2
      go_ret
      exact ⟨ret_bool (by rw [← HA.out, List.take_of_length_le (by omega)]), rfl⟩
theorem allMay1 (b : Nat) (n : Int) (w : World) (hn : I64 n) (hc : w.cell? ⟨b, 0, none⟩ = some (.int .i64 n)) :
    Calls Tryd.prog 21 #[.slice (some ⟨b, 0, none⟩) 1 1] w fun e w' => e = .returned (.bool (mayB n)) ∧ w = w' := by
  have h := allMay_any b 1 [n] w (by simp) (by simpa using hn) (by
    intro j hj
    obtain rfl : j = 0 := by simpa using hj
    simpa using hc)
  exact h.mono fun _ _ ⟨he, hw⟩ => ⟨by rw [he]; simp, hw⟩
theorem allMay3 (b : Nat) (x y z : Int) (w : World) (hx : I64 x) (hy : I64 y) (hz : I64 z) (h0 : w.cell? ⟨b, 0, none⟩ = some (.int .i64 x))
    (h1 : w.cell? ⟨b, 1, none⟩ = some (.int .i64 y)) (h2 : w.cell? ⟨b, 2, none⟩ = some (.int .i64 z)) :
    Calls Tryd.prog 21 #[.slice (some ⟨b, 0, none⟩) 3 3] w fun e w' => e = .returned (.bool (mayB x && (mayB y && mayB z))) ∧ w = w' := by
  have h := allMay_any b 3 [x, y, z] w (by simp) (by simpa using ⟨hx, hy, hz⟩) (by
    intro j hj
    have : j = 0 ∨ j = 1 ∨ j = 2 := by simp at hj; omega
    rcases this with rfl | rfl | rfl
    · simpa using h0
    · simpa using h1
    · simpa using h2)
  exact h.mono fun _ _ ⟨he, hw⟩ => ⟨by rw [he]; simp, hw⟩
theorem allMay3_no (b : Nat) (x y z : Int) (w : World) (hx : I64 x) (hy : I64 y) (hz : I64 z) (hno : (mayB x && (mayB y && mayB z)) = false) (h0 : w.cell? ⟨b, 0, none⟩ = some (.int .i64 x))
    (h1 : w.cell? ⟨b, 1, none⟩ = some (.int .i64 y)) (h2 : w.cell? ⟨b, 2, none⟩ = some (.int .i64 z)) :
    Calls Tryd.prog 21 #[.slice (some ⟨b, 0, none⟩) 3 3] w fun e w' => e = .returned (.bool false) ∧ w = w' :=
  (allMay3 b x y z w hx hy hz h0 h1 h2).mono fun _ _ ⟨he, hw⟩ => ⟨by rw [he, hno], hw⟩
theorem allMay3_yes (b : Nat) (x y z : Int) (w : World) (hx : mayB x = true) (hy : mayB y = true) (hz : mayB z = true) (h0 : w.cell? ⟨b, 0, none⟩ = some (.int .i64 x))
    (h1 : w.cell? ⟨b, 1, none⟩ = some (.int .i64 y)) (h2 : w.cell? ⟨b, 2, none⟩ = some (.int .i64 z)) :
    Calls Tryd.prog 21 #[.slice (some ⟨b, 0, none⟩) 3 3] w fun e w' => e = .returned (.bool true) ∧ w = w' := by
  have i : ∀ {n}, mayB n = true → I64 n := fun h => by rw [mayB_true] at h; exact ⟨by omega, by omega⟩
  exact (allMay3 b x y z w (i hx) (i hy) (i hz) h0 h1 h2).mono fun _ _ ⟨he, hw⟩ => ⟨by rw [he, hx, hy, hz]; rfl, hw⟩
theorem i64_wrap (x : Int) : I64 (wrap64 x) := by unfold I64 wrap64; omega
end Go.Proofs.YtfhcmhlbidjjgaaDoor
namespace Go.Proofs.YtfhcmhlbidjjgaaDoor
open Go.RowKit
theorem digit_put (A B p : Nat) (d : Int) (v : Value) (w : World) (hab : A ≠ B) (h2 : p < 19) (d1 : 0 ≤ d) (d2 : d ≤ 9)
    (hc : w.cell? ⟨A, 0, none⟩ = some (.int .i64 ((p : Int) + 1))) (hf : w.frozen? ⟨A, 0, none⟩ = false)
    (hb : w.cell? ⟨B, p, none⟩ = some v) (hg : w.frozen? ⟨B, p, none⟩ = false) :
    Calls Tryd.prog 33 #[.int .u64 d, .pointer (some ⟨A, 0, none⟩), .pointer (some ⟨B, 0, none⟩)] w fun e w' => e = .returned (.tuple #[]) ∧ (w.setCell ⟨A, 0, none⟩ (.int .i64 p)).setCell ⟨B, p, none⟩ (.int .u8 (48 + d)) = w' := by
  go_enter Tryd.func33, Tryd.ntmps33
  go_wp2
  go_end0
  exact ⟨rfl, rfl⟩
/-- What the loop over n's digits keeps: block B + 1 holds the place, block B the digits written so far. -/
def NumInv (n : Nat) (B : Nat) (cur : Nat) (w : World) : Prop :=
  ∃ (p : Nat) (t : List UInt8) (cs : Array Value), p + t.length = 19 ∧ 0 < t.length ∧ dec n = decP cur ++ t ∧ cs.size = 19 ∧
    w.heap[B]? = some (.cells cs 91 (0, 0)) ∧ w.heap[B + 1]? = some (.cells #[.int .i64 p] 3 (0, 0)) ∧ ∀ j (h : j < t.length), cs[p + j]? = some (.int .u8 (t[j].toNat : Int))
theorem blk_cell {w : World} {b : Nat} {cs : Array Value} {t : TypeId} (h : w.heap[b]? = some (.cells cs t (0, 0))) (i : Nat) : w.cell? ⟨b, i, none⟩ = cs[i]? := cell_of_row w b i cs t (0, 0) h
theorem blk_free {w : World} {b : Nat} {cs : Array Value} {t : TypeId} (h : w.heap[b]? = some (.cells cs t (0, 0))) (i : Nat) : w.frozen? ⟨b, i, none⟩ = false := by simp [World.frozen?, h]
theorem blk_set {w : World} {b : Nat} {cs : Array Value} {t : TypeId} (h : w.heap[b]? = some (.cells cs t (0, 0))) (i : Nat) (u : Value) : (w.setCell ⟨b, i, none⟩ u).heap[b]? = some (.cells (cs.setIfInBounds i u) t (0, 0)) := by
  simp [World.setCell, Array.getElem?_modify, h]
theorem blk_far {w : World} {b : Nat} {o : Option Obj} (h : w.heap[b]? = o) {p : Addr} (hp : b ≠ p.block) (u : Value) : (w.setCell p u).heap[b]? = o := (Below.heap_setCell w p u b hp).trans h
theorem num_step {n B cur : Nat} {w : World} (hn : n ≤ 4611686018427387904) (h : NumInv n B cur w) (hbig : 10 ≤ cur) :
    ∃ (q : Nat) (v : Value), q < 19 ∧ w.cell? ⟨B + 1, 0, none⟩ = some (.int .i64 ((q : Int) + 1)) ∧ w.frozen? ⟨B + 1, 0, none⟩ = false ∧ w.cell? ⟨B, q, none⟩ = some v ∧ w.frozen? ⟨B, q, none⟩ = false ∧
      NumInv n B (cur / 10) ((w.setCell ⟨B + 1, 0, none⟩ (.int .i64 q)).setCell ⟨B, q, none⟩ (.int .u8 (48 + (cur : Int) / 10 % 10))) := by
  obtain ⟨p, t, cs, hp, ht, hdec, hcs, hB, hA, hcells⟩ := h
  have hl : (dec n).length ≤ 19 := dec_length 18 n (by omega)
  rw [hdec, decP_big hbig, List.length_append] at hl
  have hpos := dec_pos (cur / 10)
  obtain ⟨q, rfl⟩ : ∃ q, p = q + 1 := ⟨p - 1, by omega⟩
  have hq : q < cs.size := by omega
  refine ⟨q, cs[q], by omega, by simpa using cell_of_one hA, free_of_one hA, by rw [blk_cell hB, Array.getElem?_eq_getElem hq], blk_free hB q, ?_⟩
  refine ⟨q, dig (cur / 10) :: t, cs.setIfInBounds q (.int .u8 (48 + (cur : Int) / 10 % 10)), by simp; omega, by simp, ?_, by simpa using hcs, ?_, ?_, ?_⟩
  · rw [hdec, decP_big hbig, dec_eq (cur / 10)]; simp
  · exact blk_set (blk_far hB (p := ⟨B + 1, 0, none⟩) (by simp) _) q _
  · exact blk_far (one_setCell hA) (p := ⟨B, q, none⟩) (by simp) _
  · intro j hj
    cases j with
    | zero =>
      rw [Nat.add_zero, Array.getElem?_setIfInBounds_self_of_lt (by simpa using hq)]
      simp only [List.getElem_cons_zero]
      rw [digit_toNat]
      congr 2
    | succ j =>
      have hj' : j < t.length := by simpa using hj
      rw [Array.getElem?_setIfInBounds_ne (by omega)]
      simp only [List.getElem_cons_succ]
      rw [← hcells j hj']
      congr 1
      omega
theorem arr_under : Tryd.prog.underlying 91 = some (.array (Tryd.prog.arrayLen 91) (Tryd.prog.elem 91)) := by kernel_rfl
theorem arr_len : Tryd.prog.arrayLen 91 = 19 := by kernel_rfl
theorem arr_size (w : World) : (sizeOf (Tryd.prog.elem 91)).run Tryd.prog w = .ok 1 w := by kernel_rfl
theorem arr_slice (B p : Nat) (w : World) (hp : p < 19) :
    (Instr.sliceAt 91 (.pointer (some ⟨B, 0, none⟩)) (some (.int .i64 (p : Int))) none none).run Tryd.prog w = .ok (.slice (some ⟨B, p, none⟩) (19 - p) (19 - p)) w := by
  rw [run_sliceAt_array_l w 91 ⟨B, 0, none⟩ arr_under .i64 p (by omega) (by rw [arr_len]; omega), arr_size]
  simp only [Result.andThen, slicedAt, arr_len, Int.toNat_natCast, Nat.mul_one]
  rw [if_neg (by omega)]
  have : (⟨B, 0, none⟩ : Addr).add p = ⟨B, p, none⟩ := by unfold Addr.add; split <;> simp_all
  rw [this]
theorem num_done {n B cur : Nat} {w : World} (h : NumInv n B cur w) (hs : ¬ 10 ≤ cur) :
    ∃ p : Nat, p < 19 ∧ w.cell? ⟨B + 1, 0, none⟩ = some (.int .i64 (p : Int)) ∧ (convert 93 9 (.slice (some ⟨B, p, none⟩) (19 - p) (19 - p))).run Tryd.prog w = .ok (.string ⟨(dec n).toArray⟩) w := by
  obtain ⟨p, t, cs, hp, ht, hdec, hcs, hB, hA, hcells⟩ := h
  refine ⟨p, by omega, cell_of_one hA, ?_⟩
  rw [decP_small (by omega), List.nil_append] at hdec
  rw [hdec, show 19 - p = t.length from by omega]
  refine run_convert_bytes_back w 93 9 5 ⟨B, p, none⟩ t.length t Tryd.underlying93 Tryd.underlying5 Tryd.underlying9 fun j hj => ?_
  have : (⟨B, p, none⟩ : Addr).add j = ⟨B, p + j, none⟩ := by unfold Addr.add; split <;> simp_all
  rw [this, blk_cell hB, hcells j hj]
/-- The nineteen places behind the first digit. -/
def row19 (n : Nat) : Array Value := #[.int .u8 0, .int .u8 0, .int .u8 0, .int .u8 0, .int .u8 0, .int .u8 0, .int .u8 0, .int .u8 0, .int .u8 0, .int .u8 0, .int .u8 0, .int .u8 0, .int .u8 0, .int .u8 0, .int .u8 0, .int .u8 0, .int .u8 0, .int .u8 0, .int .u8 (48 + (n : Int) % 10)]
theorem num_start (n : Nat) (w : World) : NumInv n w.heap.size n ((w.alloc (.cells (row19 n) 91)).alloc (.cells #[.int .i64 18] 3)) := by
  refine ⟨18, [dig n], row19 n, by simp, by simp, dec_eq n, rfl, (Below.heap_alloc _ _ _ (by simp)).trans (heap_alloc_new w _), ?_, ?_⟩
  · have := heap_alloc_new (w.alloc (.cells (row19 n) 91)) (.cells #[.int .i64 18] 3)
    simpa using this
  · intro j hj
    obtain rfl : j = 0 := by simpa using hj
    simp [digit_toNat, row19]
set_option maxRecDepth 100000 in
theorem nnumeral_any (n : Nat) (w : World) (h2 : n ≤ 4611686018427387904) :
    Calls Tryd.prog 22 #[.int .u64 n] w fun e w' => e = .returned (.string ⟨(dec n).toArray⟩) ∧ Below w.heap.size w w' := by
  go_enter Tryd.func22, Tryd.ntmps22
  go_wp2_with (go_at_call 33; refine (digit_put _ _ 18 _ (.int .u8 0) _ (by omega) (by omega) (by omega) (by omega) (by simp) (by simp) (by simp) (by simp)).mono ?_; rintro e w' ⟨rfl, rfl⟩)
  go_loopw [0] (fun c wr => ∃ cur : Nat, cur ≤ n ∧ c = .int .u64 cur ∧ NumInv n w.heap.size cur wr ∧ Below w.heap.size w wr) (fun c _ => (intOf c).toNat)
  case atStart =>
    refine ⟨n, Nat.le_refl _, rfl, ?_, ?_⟩
    · exact num_start n w
    · exact ((Below.refl _ _).alloc (Nat.le_refl _) _).alloc (by simp) _
  case round =>
    obtain ⟨cur, hcur, rfl, hinv, hbel⟩ := hrel
    have HI := Lib.hid hinv
    clear hinv
    by_cases hbig : 10 ≤ cur
    · obtain ⟨q, v, hq, c1, f1, c2, f2, hnext⟩ := num_step h2 HI.out hbig
      have HX := Lib.hid hnext
      clear hnext
      go_wp2_with (go_at_call 33; refine (digit_put _ _ q _ v _ (by omega) hq (by omega) (by omega) c1 f1 c2 f2).mono ?_; rintro e w' ⟨rfl, rfl⟩)
      go_roundw
      case rel => exact ⟨cur / 10, by omega, by simp, HX.out, (hbel.setCell (by simp) _).setCell (by simp) _⟩
      case measure => simp [intOf]; omega
    · obtain ⟨p, hp, c1, hconv⟩ := num_done HI.out hbig
      have hsl := arr_slice w.heap.size p wr hp
      go_wp2
      go_ret
      exact ⟨rfl, hbel⟩
def textV (a : Int) : List UInt8 := if mayB a = true then (if a < 0 then [40, 45, 32] ++ dec (-a).toNat ++ [41] else dec a.toNat) else []
def textE (a : Int) : Int := if mayB a = true then 0 else 10
theorem textV_neg {a : Int} (h : mayB a = true) (hn : a < 0) : (⟨#[40, 45, 32]⟩ ++ ⟨(dec (-a).toNat).toArray⟩ ++ ⟨#[41]⟩ : ByteArray) = ⟨(textV a).toArray⟩ := by
  unfold textV
  rw [if_pos h, if_pos hn]
  apply ByteArray.ext
  simp
theorem textV_pos {a : Int} (h : mayB a = true) (hn : ¬ a < 0) : (⟨(dec a.toNat).toArray⟩ : ByteArray) = ⟨(textV a).toArray⟩ := by
  unfold textV
  rw [if_pos h, if_neg hn]
theorem textV_size {a : Int} (h : mayB a = true) : (textV a).length ≤ 24 := by
  have := mayB_true.1 h
  have h1 : (dec (-a).toNat).length ≤ 19 := dec_length 18 _ (by omega)
  have h2 : (dec a.toNat).length ≤ 19 := dec_length 18 _ (by omega)
  unfold textV
  rw [if_pos h]
  split
  · simp; omega
  · omega
theorem allMay1_yes (b : Nat) (n : Int) (w : World) (h : mayB n = true) (hc : w.cell? ⟨b, 0, none⟩ = some (.int .i64 n)) :
    Calls Tryd.prog 21 #[.slice (some ⟨b, 0, none⟩) 1 1] w fun e w' => e = .returned (.bool true) ∧ w = w' := by
  have hn : I64 n := by rw [mayB_true] at h; exact ⟨by omega, by omega⟩
  have := allMay1 b n w hn hc; rw [h] at this; exact this
theorem allMay1_no (b : Nat) (n : Int) (w : World) (hn : I64 n) (h : mayB n = false) (hc : w.cell? ⟨b, 0, none⟩ = some (.int .i64 n)) :
    Calls Tryd.prog 21 #[.slice (some ⟨b, 0, none⟩) 1 1] w fun e w' => e = .returned (.bool false) ∧ w = w' := by
  have := allMay1 b n w hn hc; rw [h] at this; exact this
theorem nnumeral_int (m : Int) (w : World) (h1 : 0 ≤ m) (h2 : m ≤ 4611686018427387904) :
    Calls Tryd.prog 22 #[.int .u64 m] w fun e w' => e = .returned (.string ⟨(dec m.toNat).toArray⟩) ∧ Below w.heap.size w w' := by
  obtain ⟨n, rfl⟩ := Int.eq_ofNat_of_zero_le h1
  rw [Int.toNat_natCast]
  exact nnumeral_any n w (by omega)
theorem NText_any (a : Int) (w : World) (ha : I64 a) :
    Calls Tryd.prog 13 #[.int .i64 a] w fun e w' => e = .returned (.tuple #[.string ⟨(textV a).toArray⟩, .int .i64 (textE a)]) ∧ Below w.heap.size w w' := by
  cases hm : mayB a with
  | false =>
    have HM := Lib.hid hm; clear hm
    go_enter Tryd.func13, Tryd.ntmps13
    go_wp2_with (go_at_call 21; refine (allMay1_no _ a _ ha HM.out (by simp)).mono ?_; rintro e w' ⟨rfl, rfl⟩)
    go_ret2
    exact ⟨ret_two (val_str (by simp [textV, HM.out])) (val_int (by simp [textE, HM.out])), (Below.refl _ _).alloc (Nat.le_refl _) _⟩
  | true =>
    have HM := Lib.hid hm
    obtain ⟨lo, hi⟩ := mayB_true.1 hm
    clear hm ha
    by_cases hneg : a < 0
    · have hl : (dec (-a).toNat).length ≤ 19 := dec_length 18 _ (by omega)
      go_enter Tryd.func13, Tryd.ntmps13
      go_wp2_with (first | (go_at_call 21; refine (allMay1_yes _ a _ HM.out (by simp)).mono ?_; rintro e w' ⟨rfl, rfl⟩) | (go_at_call 22; refine (nnumeral_int _ _ (by omega) (by omega)).mono ?_; rintro e w' ⟨rfl, hb⟩))
      go_ret2
      exact ⟨ret_two (val_str (textV_neg HM.out hneg)) (val_int (by simp [textE, HM.out])), ((Below.refl _ _).alloc (Nat.le_refl _) _).trans (hb.mono (by simp))⟩
    · have HN := Lib.hid hneg
      go_enter Tryd.func13, Tryd.ntmps13
      go_wp2_with (first | (go_at_call 21; refine (allMay1_yes _ a _ HM.out (by simp)).mono ?_; rintro e w' ⟨rfl, rfl⟩) | (go_at_call 22; refine (nnumeral_int _ _ (by omega) (by omega)).mono ?_; rintro e w' ⟨rfl, hb⟩))
      go_ret2
      exact ⟨ret_two (val_str (textV_pos HM.out (by have := HN.out; omega))) (val_int (by simp [textE, HM.out])), ((Below.refl _ _).alloc (Nat.le_refl _) _).trans (hb.mono (by simp))⟩
theorem conv_one (w : World) (n : Nat) :
    (convert 93 9 (.slice (some ⟨w.heap.size, 0, none⟩) 1 1)).run Tryd.prog (w.alloc (.cells #[.int .u8 (48 + (n : Int) % 10)] 5)) = .ok (.string ⟨#[dig n]⟩) (w.alloc (.cells #[.int .u8 (48 + (n : Int) % 10)] 5)) := by
  refine run_convert_bytes_back _ 93 9 5 ⟨w.heap.size, 0, none⟩ 1 [dig n] Tryd.underlying93 Tryd.underlying5 Tryd.underlying9 fun j hj => ?_
  obtain rfl : j = 0 := by simpa using hj
  simp [Addr.add, digit_toNat]
end Go.Proofs.YtfhcmhlbidjjgaaDoor
