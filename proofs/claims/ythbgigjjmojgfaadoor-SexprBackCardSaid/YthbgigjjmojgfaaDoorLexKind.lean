/- The function kind of package lex: a token's kind by its first byte. -/
import Derived.Test.YthbgigjjmojgfaaDoorLexSkip
namespace Go.Proofs.YthbgigjjmojgfaaDoor
open Go.RowKit
theorem kindN_of {c : UInt8} {k : Option Nat} (h : kindN c = k) : (c.toNat = 40 ∧ k = some 0) ∨ (¬ c.toNat = 40 ∧ c.toNat = 41 ∧ k = some 1) ∨ (¬ c.toNat = 40 ∧ ¬ c.toNat = 41 ∧ c.toNat = 58 ∧ k = some 4) ∨
    (¬ c.toNat = 40 ∧ ¬ c.toNat = 41 ∧ ¬ c.toNat = 58 ∧ isDg c = true ∧ k = some 3) ∨ (¬ c.toNat = 40 ∧ ¬ c.toNat = 41 ∧ ¬ c.toNat = 58 ∧ isDg c = false ∧ c.toNat = 124 ∧ k = some 2) ∨
    (¬ c.toNat = 40 ∧ ¬ c.toNat = 41 ∧ ¬ c.toNat = 58 ∧ isDg c = false ∧ ¬ c.toNat = 124 ∧ isSign c = true ∧ k = some 2) ∨
    (¬ c.toNat = 40 ∧ ¬ c.toNat = 41 ∧ ¬ c.toNat = 58 ∧ isDg c = false ∧ ¬ c.toNat = 124 ∧ isSign c = false ∧ k = none) := by
  subst h
  unfold kindN
  by_cases h1 : c.toNat = 40
  · simp [h1]
  · by_cases h2 : c.toNat = 41
    · simp [h2]
    · by_cases h3 : c.toNat = 58
      · simp [h3]
      · cases h4 : isDg c with
        | true => simp [h1, h2, h3]
        | false =>
          by_cases h5 : c.toNat = 124
          · simp [h5]
          · cases h6 : isSign c <;> simp [h1, h2, h3, h5]
/-- The kind, as a number. -/
def kindV (k : Option Nat) : Int := match k with | none => 0 | some n => n
theorem kind_any (c : UInt8) (k : Option Nat) (w : World) (hG : Globs w) (hk : kindN c = k) :
    Calls Tryd.prog 56 #[.int .u8 c.toNat] w fun e w' => e = .returned (.tuple #[.int .i8 (kindV k), .bool k.isSome]) ∧ Below w.heap.size w w' := by
  obtain ⟨gd0, d0, d1, d2, d3⟩ := hG.digits
  obtain ⟨gs0, s0, s1, s2, s3⟩ := hG.signs
  clear hG
  rcases kindN_of hk with ⟨h1, rfl⟩ | ⟨h1, h2, rfl⟩ | ⟨h1, h2, h3, rfl⟩ | ⟨h1, h2, h3, h4, rfl⟩ | ⟨h1, h2, h3, h4, h5, rfl⟩ | ⟨h1, h2, h3, h4, h5, h6, rfl⟩ | ⟨h1, h2, h3, h4, h5, h6, rfl⟩
  · have e1 := eq_true_ (x := (c.toNat : Int)) (y := 40) (by omega)
    clear hk h1
    go_enter Tryd.func56, Tryd.ntmps56
    go_wp2
    go_ret2
    exact ⟨rfl, Below.refl _ _⟩
  · have e1 := eq_false (x := (c.toNat : Int)) (y := 40) (by omega)
    have e2 := eq_true_ (x := (c.toNat : Int)) (y := 41) (by omega)
    clear hk h1 h2
    go_enter Tryd.func56, Tryd.ntmps56
    go_wp2
    go_ret2
    exact ⟨rfl, Below.refl _ _⟩
  · have e1 := eq_false (x := (c.toNat : Int)) (y := 40) (by omega)
    have e2 := eq_false (x := (c.toNat : Int)) (y := 41) (by omega)
    have e3 := eq_true_ (x := (c.toNat : Int)) (y := 58) (by omega)
    clear hk h1 h2 h3
    go_enter Tryd.func56, Tryd.ntmps56
    go_wp2
    go_ret2
    exact ⟨rfl, Below.refl _ _⟩
  · have e1 := eq_false (x := (c.toNat : Int)) (y := 40) (by omega)
    have e2 := eq_false (x := (c.toNat : Int)) (y := 41) (by omega)
    have e3 := eq_false (x := (c.toNat : Int)) (y := 58) (by omega)
    have H4 := Lib.hid h4
    clear hk h1 h2 h3 h4
    go_enter Tryd.func56, Tryd.ntmps56
    go_wp2_with fail
    refine (has_yes _ _ _ _ isDg digitsIs c _ H4.out).mono ?_
    rintro e w1 ⟨rfl, hb1⟩
    go_wp2
    go_ret2
    exact ⟨rfl, hb1⟩
  · have e1 := eq_false (x := (c.toNat : Int)) (y := 40) (by omega)
    have e2 := eq_false (x := (c.toNat : Int)) (y := 41) (by omega)
    have e3 := eq_false (x := (c.toNat : Int)) (y := 58) (by omega)
    have e5 := eq_true_ (x := (c.toNat : Int)) (y := 124) (by omega)
    have H4 := Lib.hid h4
    clear hk h1 h2 h3 h4 h5
    go_enter Tryd.func56, Tryd.ntmps56
    go_wp2_with fail
    refine (has_no _ _ _ _ isDg digitsIs c _ H4.out).mono ?_
    rintro e w1 ⟨rfl, hb1⟩
    go_wp2
    go_ret2
    exact ⟨rfl, hb1⟩
  · have e1 := eq_false (x := (c.toNat : Int)) (y := 40) (by omega)
    have e2 := eq_false (x := (c.toNat : Int)) (y := 41) (by omega)
    have e3 := eq_false (x := (c.toNat : Int)) (y := 58) (by omega)
    have e5 := eq_false (x := (c.toNat : Int)) (y := 124) (by omega)
    have H4 := Lib.hid h4
    have H6 := Lib.hid h6
    clear hk h1 h2 h3 h4 h5 h6
    go_enter Tryd.func56, Tryd.ntmps56
    go_wp2_with fail
    refine (has_no _ _ _ _ isDg digitsIs c _ H4.out).mono ?_
    rintro e w1 ⟨rfl, hb1⟩
    obtain ⟨hc1, hf1⟩ := bcell hb1
    go_wp2_with fail
    refine (has_yes _ _ _ _ isSign signsIs c _ H6.out).mono ?_
    rintro e w2 ⟨rfl, hb2⟩
    go_wp2
    go_ret2
    exact ⟨rfl, hb1.trans (hb2.mono hb1.size)⟩
  · have e1 := eq_false (x := (c.toNat : Int)) (y := 40) (by omega)
    have e2 := eq_false (x := (c.toNat : Int)) (y := 41) (by omega)
    have e3 := eq_false (x := (c.toNat : Int)) (y := 58) (by omega)
    have e5 := eq_false (x := (c.toNat : Int)) (y := 124) (by omega)
    have H4 := Lib.hid h4
    have H6 := Lib.hid h6
    clear hk h1 h2 h3 h4 h5 h6
    go_enter Tryd.func56, Tryd.ntmps56
    go_wp2_with fail
    refine (has_no _ _ _ _ isDg digitsIs c _ H4.out).mono ?_
    rintro e w1 ⟨rfl, hb1⟩
    obtain ⟨hc1, hf1⟩ := bcell hb1
    go_wp2_with fail
    refine (has_no _ _ _ _ isSign signsIs c _ H6.out).mono ?_
    rintro e w2 ⟨rfl, hb2⟩
    go_wp2
    go_ret2
    exact ⟨rfl, hb1.trans (hb2.mono hb1.size)⟩
end Go.Proofs.YthbgigjjmojgfaaDoor
