/- The examples that every law of package num tries hold. -/
import Derived.Test.YtgbpepkhdjcnbaaNumSums
namespace Go.Proofs.Ytgbpepkhdjcnbaa
open Go.RowKit
theorem wk_add (w : World) : Calls Try.prog 9 #[.int .i64 4611686018427387904, .int .i64 1] w fun e w' => e = .returned (.tuple #[.int .i64 0, .int .i64 10]) ∧ Below w.heap.size w w' := by
  have h : addOk 4611686018427387904 1 = false := by decide
  have := Add_any 4611686018427387904 1 w ⟨by omega, by omega⟩ ⟨by omega, by omega⟩
  unfold addV addE at this
  rw [h] at this
  exact this
theorem wk_parse (w : World) : Calls Try.prog 13 #[.string ⟨#[48, 48, 55]⟩] w fun e w' => e = .returned (.tuple #[.int .i64 0, .int .i64 20]) ∧ Below w.heap.size w w' := by
  have h : numB [48, 48, 55] = false := by decide
  have := Parse_any ⟨#[48, 48, 55]⟩ w (by decide)
  unfold parseV parseE at this
  simp only at this
  rw [h] at this
  exact this
theorem wk_text (w : World) : Calls Try.prog 15 #[.int .i64 (-5)] w fun e w' => e = .returned (.tuple #[.string ⟨#[40, 45, 32, 53, 41]⟩, .int .i64 0]) ∧ Below w.heap.size w w' := by
  have h : mayB (-5) = true := by decide
  have := Text_any (-5) w ⟨by omega, by omega⟩
  unfold textV textE at this
  rw [if_pos h, if_pos h, if_pos (by omega), show (- (-5 : Int)).toNat = 5 from rfl, dec_eq, decP_small (by omega)] at this
  exact this
theorem wk_sum (w : World) (b : Nat) (hb : b < w.heap.size) (h0 : w.cell? ⟨b, 0, none⟩ = some (.int .i64 (-2))) (h1 : w.cell? ⟨b, 1, none⟩ = some (.int .i64 3)) :
    Calls Try.prog 17 #[.slice (some ⟨b, 0, none⟩) 2 2, .int .i64 7] w fun e w' => e = .returned (.tuple #[.int .i64 7, .bool true]) ∧ Below w.heap.size w w' := by
  have h : sumOk 7 [-2, 3] = true := by decide
  have := Sum_any (some ⟨b, 0, none⟩) 2 [-2, 3] 7 w (by simp) (by intro x hx; simp at hx; rcases hx with rfl | rfl <;> exact ⟨by omega, by omega⟩) (fun _ => ⟨b, 0, rfl, hb, fun j hj => by
    have : j = 0 ∨ j = 1 := by simp at hj; omega
    rcases this with rfl | rfl
    · simpa using h0
    · simpa using h1⟩)
  rw [sumV_yes h, h] at this
  exact this
theorem wakes_any (w : World) : Calls Try.prog 8 #[] w fun e w' => e = .returned (.bool true) ∧ Below w.heap.size w w' := by
  go_enter Try.func8, Try.ntmps8
  go_wp2_with fail
  refine (wk_add _).mono ?_
  rintro e w1 ⟨rfl, hb1⟩
  go_wp2_with fail
  refine (wk_parse _).mono ?_
  rintro e w2 ⟨rfl, hb2⟩
  go_wp2_with fail
  refine (wk_text _).mono ?_
  rintro e w3 ⟨rfl, hb3⟩
  go_wp2_with fail
  refine (wk_sum _ _ (by simp) (by simp) (by simp)).mono ?_
  rintro e w4 ⟨rfl, hb4⟩
  go_wp2
  go_ret
  exact ⟨rfl, ((hb1.trans (hb2.mono hb1.size)).trans (hb3.mono (Nat.le_trans hb1.size hb2.size))).trans ((((Below.refl _ _).alloc (Nat.le_refl _) _).trans (hb4.mono (by simp))).mono (Nat.le_trans (Nat.le_trans hb1.size hb2.size) hb3.size))⟩
end Go.Proofs.Ytgbpepkhdjcnbaa
