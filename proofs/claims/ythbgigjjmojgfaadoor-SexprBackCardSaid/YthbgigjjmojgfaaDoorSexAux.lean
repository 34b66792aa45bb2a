/- Small functions of package sexpr: what a list holds; how many bits a small number has. -/
import Derived.Test.YthbgigjjmojgfaaDoorSexRd
namespace Go.Proofs.YthbgigjjmojgfaaDoor
open Go.RowKit
theorem listed_yes (s : ByteArray) (a : Option Addr) (n c : Nat) (w : World) :
    Calls Tryd.prog 34 #[.agg #[.int .i8 3, .string s, .slice a n c]] w fun e w' => e = .returned (.slice a n c) ∧ Below w.heap.size w w' := by
  go_enter Tryd.func34, Tryd.ntmps34
  go_wp2
  go_ret
  exact ⟨rfl, (Below.refl _ _).alloc (Nat.le_refl _) _⟩
theorem listed_no (k : Int) (s : ByteArray) (a : Option Addr) (n c : Nat) (w : World) (hk : ¬ k = 3) :
    Calls Tryd.prog 34 #[.agg #[.int .i8 k, .string s, .slice a n c]] w fun e w' => e = .returned (.slice none 0 0) ∧ Below w.heap.size w w' := by
  have e1 := ne_true (x := k) (y := 3) hk
  clear hk
  go_enter Tryd.func34, Tryd.ntmps34
  go_wp2
  go_ret
  exact ⟨rfl, (Below.refl _ _).alloc (Nat.le_refl _) _⟩
theorem whatever_any (k : Int) (s : ByteArray) (a : Option Addr) (n c : Nat) (w : World) :
    Calls Tryd.prog 37 #[.agg #[.int .i8 k, .string s, .slice a n c]] w fun e w' => e = .returned (.slice a n c) ∧ Below w.heap.size w w' := by
  go_enter Tryd.func37, Tryd.ntmps37
  go_wp2
  go_ret
  exact ⟨rfl, (Below.refl _ _).alloc (Nat.le_refl _) _⟩
/-- How many bits a byte has. -/
def lens : ByteArray := ⟨#[0, 1, 2, 2, 3, 3, 3, 3, 4, 4, 4, 4, 4, 4, 4, 4, 5, 5, 5, 5, 5, 5, 5, 5, 5, 5, 5, 5, 5, 5, 5, 5, 6, 6, 6, 6, 6, 6, 6, 6, 6, 6, 6, 6, 6, 6, 6, 6, 6, 6, 6, 6, 6, 6, 6, 6, 6, 6, 6, 6, 6, 6, 6, 6, 7, 7, 7, 7, 7, 7, 7, 7, 7, 7, 7, 7, 7, 7, 7, 7, 7, 7, 7, 7, 7, 7, 7, 7, 7, 7, 7, 7, 7, 7, 7, 7, 7, 7, 7, 7, 7, 7, 7, 7, 7, 7, 7, 7, 7, 7, 7, 7, 7, 7, 7, 7, 7, 7, 7, 7, 7, 7, 7, 7, 7, 7, 7, 7, 8, 8, 8, 8, 8, 8, 8, 8, 8, 8, 8, 8, 8, 8, 8, 8, 8, 8, 8, 8, 8, 8, 8, 8, 8, 8, 8, 8, 8, 8, 8, 8, 8, 8, 8, 8, 8, 8, 8, 8, 8, 8, 8, 8, 8, 8, 8, 8, 8, 8, 8, 8, 8, 8, 8, 8, 8, 8, 8, 8, 8, 8, 8, 8, 8, 8, 8, 8, 8, 8, 8, 8, 8, 8, 8, 8, 8, 8, 8, 8, 8, 8, 8, 8, 8, 8, 8, 8, 8, 8, 8, 8, 8, 8, 8, 8, 8, 8, 8, 8, 8, 8, 8, 8, 8, 8, 8, 8, 8, 8, 8, 8, 8, 8, 8, 8, 8, 8, 8, 8, 8, 8, 8, 8, 8, 8, 8, 8]⟩
set_option maxRecDepth 100000 in
theorem lens_size : lens.size = 256 := by decide +kernel
set_option maxRecDepth 100000 in
theorem lens_all : ∀ m : Fin 256, 1 ≤ m.val → 1 ≤ (lens[m.val]'(by rw [lens_size]; exact m.isLt)).toNat ∧ (lens[m.val]'(by rw [lens_size]; exact m.isLt)).toNat ≤ 8 ∧ 2 ^ ((lens[m.val]'(by rw [lens_size]; exact m.isLt)).toNat - 1) ≤ m.val := by decide +kernel
set_option maxRecDepth 100000 in
theorem Len64_any (m : Nat) (h1 : 1 ≤ m) (h2 : m < 256) (w : World) :
    Calls Tryd.prog 82 #[.int .u64 m] w fun e w' => (∃ L : Nat, e = .returned (.int .i64 L) ∧ 1 ≤ L ∧ L ≤ 8 ∧ 2 ^ (L - 1) ≤ m) ∧ w = w' := by
  have d1 : decide ((m : Int) ≥ 4294967296) = false := by simp; omega
  have d2 : decide ((m : Int) ≥ 65536) = false := by simp; omega
  have d3 : decide ((m : Int) ≥ 256) = false := by simp; omega
  go_enter Tryd.func82, Tryd.ntmps82
  go_wp2
  go_ret
  obtain ⟨h3, h4, h5⟩ := lens_all ⟨m, h2⟩ h1
  refine ⟨⟨(lens[m]'(by rw [lens_size]; exact h2)).toNat, ret_int ?_, h3, h4, h5⟩, rfl⟩
  have e : ∀ x : Nat, x ≤ 8 → wrap64 (wrap64 (x : Int)) = (x : Int) := fun x hx => by unfold wrap64; omega
  exact e _ h4
theorem Len_any (m : Nat) (h1 : 1 ≤ m) (h2 : m < 256) (w : World) :
    Calls Tryd.prog 68 #[.int .u64 m] w fun e w' => (∃ L : Nat, e = .returned (.int .i64 L) ∧ 1 ≤ L ∧ L ≤ 8 ∧ 2 ^ (L - 1) ≤ m) ∧ w = w' := by
  go_enter Tryd.func68, Tryd.ntmps68
  go_wp2_with fail
  refine (Len64_any m h1 h2 _).mono ?_
  rintro e w1 ⟨⟨L, rfl, h3, h4, h5⟩, rfl⟩
  go_wp2
  go_ret
  exact ⟨⟨L, rfl, h3, h4, h5⟩, rfl⟩
end Go.Proofs.YthbgigjjmojgfaaDoor
