/- Clauses: the small functions. -/
import Derived.Test.YtaiclnlpehfdjaaDoorClA
namespace Go.Proofs.YtaiclnlpehfdjaaDoor.Tm
open Go.RowKit
set_option linter.unusedVariables false
/-- The literal turned about. -/
def negM (x : Int) : Int := if x % 2 = 0 then x + 1 else x - 1
theorem nat_xor1 (n : Nat) : n ^^^ 1 = if n % 2 = 0 then n + 1 else n - 1 := by
  have h1 := Nat.xor_div_two (a := n) (b := 1)
  have h2 : (n ^^^ 1) % 2 = (n + 1) % 2 := by
    have := Nat.testBit_xor n 1 0
    simp only [Nat.testBit_zero] at this
    by_cases h : n % 2 = 1 <;> by_cases h' : (n ^^^ 1) % 2 = 1
    · rw [decide_eq_true h, decide_eq_true h'] at this; cases this
    · omega
    · omega
    · rw [decide_eq_false h, decide_eq_false h'] at this; cases this
  rw [show (1 / 2 : Nat) = 0 from rfl, Nat.xor_zero] at h1
  split <;> omega
theorem i64_xor1 (x : Int) (hx : I64 x) : bits .xor .i64 x 1 = negM x := by
  obtain ⟨l1, l2⟩ := hx
  have h1 : (BitVec.ofInt 64 1).toNat = 1 := by decide
  have key : (BitVec.ofInt 64 x ^^^ BitVec.ofInt 64 1).toNat = (x % ((2 ^ 64 : Nat) : Int)).toNat ^^^ 1 := by
    rw [BitVec.toNat_xor, BitVec.toNat_ofInt, h1]
  show IntKind.i64.wrap ((BitVec.ofInt 64 x ^^^ BitVec.ofInt 64 1).toNat : Nat) = _
  rw [key, nat_xor1, IntKind.wrap_i64]
  unfold negM
  split <;> split <;> omega
theorem i64_and1 (x : Int) (hx : I64 x) : bits .and .i64 x 1 = x % 2 := by
  obtain ⟨l1, l2⟩ := hx
  have h1 : (BitVec.ofInt 64 1).toNat = 1 := by decide
  have key : (BitVec.ofInt 64 x &&& BitVec.ofInt 64 1).toNat = (x % ((2 ^ 64 : Nat) : Int)).toNat % 2 := by
    rw [BitVec.toNat_and, BitVec.toNat_ofInt, h1, Nat.and_one_is_mod]
  show IntKind.i64.wrap ((BitVec.ofInt 64 x &&& BitVec.ofInt 64 1).toNat : Nat) = _
  rw [key, IntKind.wrap_i64]
  omega
theorem negM_neg (x : Int) : negM (negM x) = x := by unfold negM; split <;> split <;> omega
theorem negM_ne (x : Int) : negM x ≠ x := by unfold negM; split <;> omega
theorem negM_i64 {x : Int} (h : I64 x) : I64 (negM x) := by
  obtain ⟨l1, l2⟩ := h
  unfold negM I64
  split <;> omega
theorem negM_half (x : Int) : negM x / 2 = x / 2 := by unfold negM; split <;> omega
theorem negM_nonneg {x : Int} (h : 0 ≤ x) : 0 ≤ negM x := by unfold negM; split <;> omega
theorem Neg_any (x : Int) (w : World) (hx : I64 x) :
    Calls Tryd.prog 47 #[.int .i64 x] w fun e w' => e = .returned (.int .i64 (negM x)) ∧ w = w' := by
  have h := i64_xor1 x hx
  have H := Lib.hid h
  clear h hx
  go_enter Tryd.func47, Tryd.ntmps47
  go_wp2
  go_ret
  exact ⟨ret_int H.out, rfl⟩
theorem Node_any (x : Int) (w : World) (hx : I64 x) :
    Calls Tryd.prog 36 #[.int .i64 x] w fun e w' => e = .returned (.int .i64 (x / 2)) ∧ w = w' := by
  obtain ⟨h1, h2⟩ := hx
  go_enter Tryd.func36, Tryd.ntmps36
  go_wp2
  go_ret
  exact ⟨rfl, rfl⟩
theorem Is_any (x : Int) (w : World) (hx : I64 x) :
    Calls Tryd.prog 50 #[.int .i64 x] w fun e w' => e = .returned (.bool (decide (x % 2 = 1))) ∧ w = w' := by
  have h := i64_and1 x hx
  have hr : (bits .and .i64 x 1 != 0) = decide (x % 2 = 1) := by
    rw [h]
    by_cases h1 : x % 2 = 1
    · rw [decide_eq_true h1, h1]; rfl
    · rw [decide_eq_false h1, show x % 2 = 0 by omega]; rfl
  have H := Lib.hid hr
  clear h hr hx
  go_enter Tryd.func50, Tryd.ntmps50
  go_wp2
  go_ret
  exact ⟨ret_bool H.out, rfl⟩
/-- The document's Same. -/
theorem RSame_any (xs ys : List Int) (a b : Option Addr) (c d : Nat) (r : Bool) (w : World) (hA : IntsR w xs a c) (hB : IntsR w ys b d) (hr : decide (xs = ys) = r) :
    Calls Tryd.prog 39 #[.slice a xs.length c, .slice b ys.length d] w fun e w' => e = .returned (.bool r) ∧ Below w.heap.size w w' := by
  have HA := Lib.hid hA
  have HB := Lib.hid hB
  have l1 : xs.length ≤ c := hA.le
  have l2 : ys.length ≤ d := hB.le
  have c1 : xs.length ≤ 9223372036854775807 := by have := hA.cap; simp only [maxLen] at this; omega
  have c2 : ys.length ≤ 9223372036854775807 := by have := hB.cap; simp only [maxLen] at this; omega
  have HBr : Hid (Below w.heap.size w w) := Below.refl _ _
  have HR := Lib.hid hr
  clear hA hB hr
  by_cases hl : xs.length = ys.length
  · have hne : ((xs.length : Int) != (ys.length : Int)) = false := ne_f (by omega)
    have HL := Lib.hid hl
    have hli : ((ys.length : Nat) : Int) = ((xs.length : Nat) : Int) := by omega
    have HLi := Lib.hid hli
    clear hl hli
    go_enter Tryd.func39, Tryd.ntmps39
    go_wp2
    go_loopw [5] (fun i wr => ∃ k : Nat, k ≤ xs.length ∧ i = .int .i64 k ∧ Hid (∀ j x y, j < k → xs[j]? = some x → ys[j]? = some y → x = y) ∧ Hid (Below w.heap.size w wr)) (fun i _ => xs.length - (intOf i).toNat)
    case atStart => exact ⟨0, Nat.zero_le _, rfl, (fun j x y h _ _ => absurd h (by omega)), HBr⟩
    case round =>
      obtain ⟨k, hkl, rfl, HE, HW⟩ := hrel
      by_cases hlt : k < xs.length
      · have hlt2 : k < ys.length := by rw [← HL.out]; exact hlt
        obtain ⟨x, hx⟩ : ∃ x, xs[k]? = some x := ⟨_, List.getElem?_eq_getElem hlt⟩
        obtain ⟨y, hy⟩ : ∃ y, ys[k]? = some y := ⟨_, List.getElem?_eq_getElem hlt2⟩
        obtain ⟨g, o, rfl, hg, q0⟩ := (HA.out.below HW.out).cell hx
        obtain ⟨g', o', rfl, hg', r0⟩ := (HB.out.below HW.out).cell hy
        have HX := Lib.hid (And.intro hx hy)
        clear hx hy
        by_cases hxy : x = y
        · have hxx : (x != y) = false := ne_f hxy
          have HN : Hid (∀ j x y, j < k + 1 → xs[j]? = some x → ys[j]? = some y → x = y) := fun j x' y' hj h1 h2 => by
            by_cases e : j = k
            · subst e
              rw [HX.out.1] at h1
              rw [HX.out.2] at h2
              cases h1; cases h2
              exact hxy
            · exact HE.out j x' y' (by omega) h1 h2
          clear hxy
          go_wp2
          go_quiet (fail)
          go_wp2
          go_roundw
          case rel => exact ⟨k + 1, by omega, by go_num, HN, below_drewN HW.out⟩
          case measure => simp [intOf]; omega
        · have hxx : (x != y) = true := ne_t hxy
          have HF : Hid (false = r) := by
            show _ = _
            rw [← HR.out]
            exact (decide_eq_false (fun e => by have h1 := HX.out.1; rw [e, HX.out.2] at h1; cases h1; exact hxy rfl)).symm
          clear hxy
          go_wp2
          go_quiet (fail)
          go_wp2
          go_ret
          exact ⟨ret_bool HF.out, below_drewN HW.out⟩
      · obtain rfl : k = xs.length := by omega
        have HF : Hid (true = r) := by
          show _ = _
          rw [← HR.out]
          refine (decide_eq_true (List.ext_getElem? fun j => ?_)).symm
          by_cases hj : j < xs.length
          · rw [List.getElem?_eq_getElem hj, List.getElem?_eq_getElem (by rw [← HL.out]; exact hj)]
            rw [HE.out j _ _ hj (List.getElem?_eq_getElem hj) (List.getElem?_eq_getElem (by rw [← HL.out]; exact hj))]
          · rw [List.getElem?_eq_none (by omega), List.getElem?_eq_none (by rw [← HL.out]; omega)]
        go_wp2
        go_ret
        exact ⟨ret_bool HF.out, HW.out⟩
  · have hne : ((xs.length : Int) != (ys.length : Int)) = true := ne_t (by omega)
    have HF : Hid (false = r) := by
      show _ = _
      rw [← HR.out]
      exact (decide_eq_false (fun e => hl (by rw [e]))).symm
    clear hl
    go_enter Tryd.func39, Tryd.ntmps39
    go_wp2
    go_ret
    exact ⟨ret_bool HF.out, HBr.out⟩
/-- Do numbers rise, all above one? -/
def riseF : Int → List Int → Bool
  | _, [] => true
  | y, x :: r => decide (y < x) && riseF x r
def isM (xs : List Int) : Bool := riseF (-1) xs
theorem drop_get {α : Type} {l : List α} {k : Nat} {x : α} (h : l[k]? = some x) : l.drop k = x :: l.drop (k + 1) := by
  have hlt := (List.getElem?_eq_some_iff.1 h).1
  have e := (List.getElem?_eq_some_iff.1 h).2
  rw [List.drop_eq_getElem_cons hlt, e]
end Go.Proofs.YtaiclnlpehfdjaaDoor.Tm
