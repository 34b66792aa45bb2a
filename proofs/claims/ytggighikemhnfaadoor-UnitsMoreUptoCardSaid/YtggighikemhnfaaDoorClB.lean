/- Clauses: the small functions. -/
import Derived.Test.YtggighikemhnfaaDoorClA
namespace Go.Proofs.YtggighikemhnfaaDoor.Tm
open Go.RowKit
set_option linter.unusedVariables false
/-- The literal turned about. -/
def negM (x : Int) : Int := if x % 2 = 0 then x + 1 else x - 1
theorem nat_xor1 (n : Nat) : n ^^^ 1 = if n % 2 = 0 then n + 1 else n - 1 := by
  have h1 := Nat.xor_div_two (a := n) (b := 1)
  have h2 : (n ^^^ 1) % 2 = (n + 1) % 2 := by
    have := Nat.testBit_xor n 1 0
    simp only [Nat.testBit_zero] at this
    by_cases h : n % 2 = 1 <;> by_cases h' : (n ^^^ 1) % 2 = 1
    · rw [decide_eq_true h, decide_eq_true h'] at this; cases this
    · omega
    · omega
    · rw [decide_eq_false h, decide_eq_false h'] at this; cases this
  rw [show (1 / 2 : Nat) = 0 from rfl, Nat.xor_zero] at h1
  split <;> omega
theorem i64_xor1 (x : Int) (hx : I64 x) : bits .xor .i64 x 1 = negM x := by
  obtain ⟨l1, l2⟩ := hx
  have h1 : (BitVec.ofInt 64 1).toNat = 1 := by decide
  have key : (BitVec.ofInt 64 x ^^^ BitVec.ofInt 64 1).toNat = (x % ((2 ^ 64 : Nat) : Int)).toNat ^^^ 1 := by
    rw [BitVec.toNat_xor, BitVec.toNat_ofInt, h1]
  show IntKind.i64.wrap ((BitVec.ofInt 64 x ^^^ BitVec.ofInt 64 1).toNat : Nat) = _
  rw [key, nat_xor1, IntKind.wrap_i64]
  unfold negM
  split <;> split <;> omega
theorem i64_and1 (x : Int) (hx : I64 x) : bits .and .i64 x 1 = x % 2 := by
  obtain ⟨l1, l2⟩ := hx
  have h1 : (BitVec.ofInt 64 1).toNat = 1 := by decide
  have key : (BitVec.ofInt 64 x &&& BitVec.ofInt 64 1).toNat = (x % ((2 ^ 64 : Nat) : Int)).toNat % 2 := by
    rw [BitVec.toNat_and, BitVec.toNat_ofInt, h1, Nat.and_one_is_mod]
  show IntKind.i64.wrap ((BitVec.ofInt 64 x &&& BitVec.ofInt 64 1).toNat : Nat) = _
  rw [key, IntKind.wrap_i64]
  omega
theorem negM_neg (x : Int) : negM (negM x) = x := by unfold negM; split <;> split <;> omega
theorem negM_ne (x : Int) : negM x ≠ x := by unfold negM; split <;> omega
theorem negM_i64 {x : Int} (h : I64 x) : I64 (negM x) := by
  obtain ⟨l1, l2⟩ := h
  unfold negM I64
  split <;> omega
theorem negM_half (x : Int) : negM x / 2 = x / 2 := by unfold negM; split <;> omega
theorem negM_nonneg {x : Int} (h : 0 ≤ x) : 0 ≤ negM x := by unfold negM; split <;> omega
theorem Neg_any (x : Int) (w : World) (hx : I64 x) :
    Calls Tryd.prog 62 #[.int .i64 x] w fun e w' => e = .returned (.int .i64 (negM x)) ∧ w = w' := by
  have h := i64_xor1 x hx
  have H := Lib.hid h
  clear h hx
  go_enter Tryd.func62, Tryd.ntmps62
  go_wp2
  go_ret
  exact ⟨ret_int H.out, rfl⟩
theorem Node_any (x : Int) (w : World) (hx : I64 x) :
    Calls Tryd.prog 46 #[.int .i64 x] w fun e w' => e = .returned (.int .i64 (x / 2)) ∧ w = w' := by
  obtain ⟨h1, h2⟩ := hx
  go_enter Tryd.func46, Tryd.ntmps46
  go_wp2
  go_ret
  exact ⟨rfl, rfl⟩
theorem Is_any (x : Int) (w : World) (hx : I64 x) :
    Calls Tryd.prog 66 #[.int .i64 x] w fun e w' => e = .returned (.bool (decide (x % 2 = 1))) ∧ w = w' := by
  have h := i64_and1 x hx
  have hr : (bits .and .i64 x 1 != 0) = decide (x % 2 = 1) := by
    rw [h]
    by_cases h1 : x % 2 = 1
    · rw [decide_eq_true h1, h1]; rfl
    · rw [decide_eq_false h1, show x % 2 = 0 by omega]; rfl
  have H := Lib.hid hr
  clear h hr hx
  go_enter Tryd.func66, Tryd.ntmps66
  go_wp2
  go_ret
  exact ⟨ret_bool H.out, rfl⟩
/-- Do numbers rise, all above one? -/
def riseF : Int → List Int → Bool
  | _, [] => true
  | y, x :: r => decide (y < x) && riseF x r
def isM (xs : List Int) : Bool := riseF (-1) xs
theorem drop_get {α : Type} {l : List α} {k : Nat} {x : α} (h : l[k]? = some x) : l.drop k = x :: l.drop (k + 1) := by
  have hlt := (List.getElem?_eq_some_iff.1 h).1
  have e := (List.getElem?_eq_some_iff.1 h).2
  rw [List.drop_eq_getElem_cons hlt, e]
end Go.Proofs.YtggighikemhnfaaDoor.Tm
