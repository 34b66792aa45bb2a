/- The reader of numerals of package lex. -/
import Derived.Test.YtdeobdepepjbmaaDoorLexSkip
import Derived.WalkSpells
import Derived.OwnWalk
namespace Go.Proofs.YtdeobdepepjbmaaDoor
open Go.RowKit
theorem kindN_of {c : UInt8} {k : Option Nat} (h : kindN c = k) : (c.toNat = 40 ∧ k = some 0) ∨ (¬ c.toNat = 40 ∧ c.toNat = 41 ∧ k = some 1) ∨ (¬ c.toNat = 40 ∧ ¬ c.toNat = 41 ∧ c.toNat = 58 ∧ k = some 4) ∨
    (¬ c.toNat = 40 ∧ ¬ c.toNat = 41 ∧ ¬ c.toNat = 58 ∧ isDg c = true ∧ k = some 3) ∨ (¬ c.toNat = 40 ∧ ¬ c.toNat = 41 ∧ ¬ c.toNat = 58 ∧ isDg c = false ∧ c.toNat = 124 ∧ k = some 2) ∨
    (¬ c.toNat = 40 ∧ ¬ c.toNat = 41 ∧ ¬ c.toNat = 58 ∧ isDg c = false ∧ ¬ c.toNat = 124 ∧ isSign c = true ∧ k = some 2) ∨
    (¬ c.toNat = 40 ∧ ¬ c.toNat = 41 ∧ ¬ c.toNat = 58 ∧ isDg c = false ∧ ¬ c.toNat = 124 ∧ isSign c = false ∧ k = none) := by
  subst h
  unfold kindN
  by_cases h1 : c.toNat = 40
  · simp [h1]
  · by_cases h2 : c.toNat = 41
    · simp [h2]
    · by_cases h3 : c.toNat = 58
      · simp [h3]
      · cases h4 : isDg c with
        | true => simp [h1, h2, h3]
        | false =>
          by_cases h5 : c.toNat = 124
          · simp [h5]
          · cases h6 : isSign c <;> simp [h1, h2, h3, h5]
/-- The kind, as a number. -/
def kindV (k : Option Nat) : Int := match k with | none => 0 | some n => n
end Go.Proofs.YtdeobdepepjbmaaDoor
namespace Go.Proofs.YtdeobdepepjbmaaDoor
open Go.RowKit
theorem ret_three {a b c d e f : Value} (h : a = d) (g : b = e) (i : c = f) : Ending.returned (.tuple #[a, b, c]) = .returned (.tuple #[d, e, f]) := by rw [h, g, i]
/-- span, at a number in the walk's own spelling, to a number with a name. -/
theorem span_to (a0 a1 a2 a3 : Int) (p : UInt8 → Bool) (hS : SetIs a0 a1 a2 a3 p) (s : ByteArray) (x : Int) (n j : Nat) (w : World) (hx : x = (n : Int)) (hn : n ≤ s.size) (hs : s.size ≤ 9223372036854775807) (hj : n + spanN p (s.data.toList.drop n) = j) :
    Calls Tryd.prog 97 #[.agg #[.int .u64 a0, .int .u64 a1, .int .u64 a2, .int .u64 a3], .string s, .int .i64 x] w fun e w' => e = .returned (.int .i64 (j : Int)) ∧ Below w.heap.size w w' := by
  subst hx; subst hj
  exact span_any a0 a1 a2 a3 p hS s n w hn hs
theorem span_end {p : UInt8 → Bool} {s : ByteArray} {n j : Nat} (hn : n ≤ s.size) (hj : n + spanN p (s.data.toList.drop n) = j) : n ≤ j ∧ j ≤ s.size := by
  have := spanN_le p (s.data.toList.drop n)
  simp at this
  omega
end Go.Proofs.YtdeobdepepjbmaaDoor
namespace Go.Proofs.YtdeobdepepjbmaaDoor
open Go.RowKit
theorem all_yes (a0 a1 a2 a3 : Int) (p : UInt8 → Bool) (hS : SetIs a0 a1 a2 a3 p) (s : ByteArray) (w : World) (hs : s.size ≤ 9223372036854775807) (h : s.data.toList.all p = true) :
    Calls Tryd.prog 90 #[.agg #[.int .u64 a0, .int .u64 a1, .int .u64 a2, .int .u64 a3], .string s] w fun e w' => e = .returned (.bool true) ∧ Below w.heap.size w w' := by
  have := all_any a0 a1 a2 a3 p hS s w hs; rw [h] at this; exact this
theorem all_no (a0 a1 a2 a3 : Int) (p : UInt8 → Bool) (hS : SetIs a0 a1 a2 a3 p) (s : ByteArray) (w : World) (hs : s.size ≤ 9223372036854775807) (h : s.data.toList.all p = false) :
    Calls Tryd.prog 90 #[.agg #[.int .u64 a0, .int .u64 a1, .int .u64 a2, .int .u64 a3], .string s] w fun e w' => e = .returned (.bool false) ∧ Below w.heap.size w w' := by
  have := all_any a0 a1 a2 a3 p hS s w hs; rw [h] at this; exact this
end Go.Proofs.YtdeobdepepjbmaaDoor
