/- The method token and the function Next of package lex answer what the plain facts say. -/
import Derived.Test.YtbddghcdibdloaaGreatDoorLexSkip
import Derived.WalkSpells
import Derived.OwnWalk
import Derived.Lib.Strings
import Derived.Laws.EntriesVeiled
namespace Go.Proofs.YtbddghcdibdloaaGreatDoor
open Go.RowKit
theorem kindN_of {c : UInt8} {k : Option Nat} (h : kindN c = k) : (c.toNat = 40 ∧ k = some 0) ∨ (¬ c.toNat = 40 ∧ c.toNat = 41 ∧ k = some 1) ∨ (¬ c.toNat = 40 ∧ ¬ c.toNat = 41 ∧ c.toNat = 58 ∧ k = some 4) ∨
    (¬ c.toNat = 40 ∧ ¬ c.toNat = 41 ∧ ¬ c.toNat = 58 ∧ isDg c = true ∧ k = some 3) ∨ (¬ c.toNat = 40 ∧ ¬ c.toNat = 41 ∧ ¬ c.toNat = 58 ∧ isDg c = false ∧ c.toNat = 124 ∧ k = some 2) ∨
    (¬ c.toNat = 40 ∧ ¬ c.toNat = 41 ∧ ¬ c.toNat = 58 ∧ isDg c = false ∧ ¬ c.toNat = 124 ∧ isSign c = true ∧ k = some 2) ∨
    (¬ c.toNat = 40 ∧ ¬ c.toNat = 41 ∧ ¬ c.toNat = 58 ∧ isDg c = false ∧ ¬ c.toNat = 124 ∧ isSign c = false ∧ k = none) := by
  subst h
  unfold kindN
  by_cases h1 : c.toNat = 40
  · simp [h1]
  · by_cases h2 : c.toNat = 41
    · simp [h2]
    · by_cases h3 : c.toNat = 58
      · simp [h3]
      · cases h4 : isDg c with
        | true => simp [h1, h2, h3]
        | false =>
          by_cases h5 : c.toNat = 124
          · simp [h5]
          · cases h6 : isSign c <;> simp [h1, h2, h3, h5]
/-- The kind, as a number. -/
def kindV (k : Option Nat) : Int := match k with | none => 0 | some n => n
end Go.Proofs.YtbddghcdibdloaaGreatDoor
namespace Go.Proofs.YtbddghcdibdloaaGreatDoor
open Go.RowKit
theorem ret_three {a b c d e f : Value} (h : a = d) (g : b = e) (i : c = f) : Ending.returned (.tuple #[a, b, c]) = .returned (.tuple #[d, e, f]) := by rw [h, g, i]
/-- span, at a number in the walk's own spelling, to a number with a name. -/
theorem span_to (a0 a1 a2 a3 : Int) (p : UInt8 → Bool) (hS : SetIs a0 a1 a2 a3 p) (s : ByteArray) (x : Int) (n j : Nat) (w : World) (hx : x = (n : Int)) (hn : n ≤ s.size) (hs : s.size ≤ 9223372036854775807) (hj : n + spanN p (s.data.toList.drop n) = j) :
    Calls Tryz.prog 94 #[.agg #[.int .u64 a0, .int .u64 a1, .int .u64 a2, .int .u64 a3], .string s, .int .i64 x] w fun e w' => e = .returned (.int .i64 (j : Int)) ∧ Below w.heap.size w w' := by
  subst hx; subst hj
  exact span_any a0 a1 a2 a3 p hS s n w hn hs
theorem span_end {p : UInt8 → Bool} {s : ByteArray} {n j : Nat} (hn : n ≤ s.size) (hj : n + spanN p (s.data.toList.drop n) = j) : n ≤ j ∧ j ≤ s.size := by
  have := spanN_le p (s.data.toList.drop n)
  simp at this
  omega
end Go.Proofs.YtbddghcdibdloaaGreatDoor
namespace Go.Proofs.YtbddghcdibdloaaGreatDoor
open Go.RowKit
theorem all_yes (a0 a1 a2 a3 : Int) (p : UInt8 → Bool) (hS : SetIs a0 a1 a2 a3 p) (s : ByteArray) (w : World) (hs : s.size ≤ 9223372036854775807) (h : s.data.toList.all p = true) :
    Calls Tryz.prog 87 #[.agg #[.int .u64 a0, .int .u64 a1, .int .u64 a2, .int .u64 a3], .string s] w fun e w' => e = .returned (.bool true) ∧ Below w.heap.size w w' := by
  have := all_any a0 a1 a2 a3 p hS s w hs; rw [h] at this; exact this
theorem all_no (a0 a1 a2 a3 : Int) (p : UInt8 → Bool) (hS : SetIs a0 a1 a2 a3 p) (s : ByteArray) (w : World) (hs : s.size ≤ 9223372036854775807) (h : s.data.toList.all p = false) :
    Calls Tryz.prog 87 #[.agg #[.int .u64 a0, .int .u64 a1, .int .u64 a2, .int .u64 a3], .string s] w fun e w' => e = .returned (.bool false) ∧ Below w.heap.size w w' := by
  have := all_any a0 a1 a2 a3 p hS s w hs; rw [h] at this; exact this
end Go.Proofs.YtbddghcdibdloaaGreatDoor
namespace Go.Proofs.YtbddghcdibdloaaGreatDoor
open Go.RowKit
end Go.Proofs.YtbddghcdibdloaaGreatDoor
namespace Go.Proofs.YtbddghcdibdloaaGreatDoor
open Go.RowKit
set_option linter.unusedVariables false
theorem Globs.drew {w : World} (h : Globs w) : Globs w.drew := ⟨h.signs, h.bars⟩
/-- What a reader answers at byte n. -/
def ReadsAs (f : Nat) (s : ByteArray) (n : Nat) (T : ByteArray) (E : Int) (ok : Bool) : Prop :=
  ∀ W : World, Globs W → Calls Tryz.prog f #[.agg #[.string s, .int .i64 n]] W fun e w' => e = .returned (.tuple #[.string T, .int .i64 E, .bool ok]) ∧ Below W.heap.size W w'
def tokenV (k : Int) (T : ByteArray) (n E : Int) (b : Bool) : Value := .tuple #[.agg #[.int .i8 k, .string T, .int .i64 n, .int .i64 E], .bool b]
end Go.Proofs.YtbddghcdibdloaaGreatDoor
namespace Go.Proofs.YtbddghcdibdloaaGreatDoor
open Go.RowKit
set_option linter.unusedVariables false
end Go.Proofs.YtbddghcdibdloaaGreatDoor
namespace Go.Proofs.YtbddghcdibdloaaGreatDoor
open Go.RowKit
set_option linter.unusedVariables false
end Go.Proofs.YtbddghcdibdloaaGreatDoor
namespace Go.Proofs.YtbddghcdibdloaaGreatDoor
open Go.RowKit
set_option linter.unusedVariables false
end Go.Proofs.YtbddghcdibdloaaGreatDoor
namespace Go.Proofs.YtbddghcdibdloaaGreatDoor
open Go.RowKit
def bytesL (t : List UInt8) : ByteArray := ⟨t.toArray⟩
theorem bytesL_size (t : List UInt8) : (bytesL t).size = t.length := by show t.toArray.size = _; simp
theorem bytesL_list (t : List UInt8) : (bytesL t).data.toList = t := by simp [bytesL]
theorem extract_bytes (s : ByteArray) (a m : Nat) : s.extract a (a + m) = bytesL ((s.data.toList.drop a).take m) := by
  apply ByteArray.ext
  apply Array.toList_inj.1
  rw [Lib.extract_data, bytesL_list]
  congr 1; omega
theorem at_get (s : ByteArray) (n : Nat) (hn : n < s.size) : s.data.toList[n]? = some s[n] := by
  rw [List.getElem?_eq_getElem (by simpa using hn)]; rfl
/-- A token, as the program holds it. -/
def tokV (t : Tok) : Value := .agg #[.int .i8 t.kind, .string (bytesL t.text), .int .i64 t.pos, .int .i64 t.stop]
def nxtV (x : Nxt) : Value := .tuple #[tokV x.tok, .bool x.ok, .int .i64 x.err]
theorem tokV_at (k : Nat) (t : List UInt8) (n m : Nat) : tokV ⟨k, t, n, m⟩ = .agg #[.int .i8 k, .string (bytesL t), .int .i64 n, .int .i64 m] := rfl
theorem nextA_end {l : List UInt8} {n : Nat} (h : n = l.length) : nextA l n = ⟨⟨0, [], 0, 0⟩, false, 0⟩ := by unfold nextA; rw [if_pos h]
theorem nextA_bad {l : List UInt8} {n : Nat} (h : ¬ n = l.length) (h2 : tokN (l.drop n) = none) : nextA l n = ⟨⟨0, [], n, 0⟩, false, 20⟩ := by unfold nextA; rw [if_neg h, h2]
theorem nextA_ok {l : List UInt8} {n k m : Nat} {t : List UInt8} (h : ¬ n = l.length) (h2 : tokN (l.drop n) = some (k, t, m)) : nextA l n = ⟨⟨k, t, n, n + m⟩, true, 0⟩ := by unfold nextA; rw [if_neg h, h2]
theorem set4 {w : World} {b : Nat} {t : TypeId} {a0 a1 a2 a3 v0 v1 v2 v3 : Value} (h : w.heap[b]? = some (.cells #[a0, a1, a2, a3] t (0, 0))) :
    ((((w.setCell ⟨b, 0, none⟩ v0).setCell ⟨b, 1, none⟩ v1).setCell ⟨b, 2, none⟩ v2).setCell ⟨b, 3, none⟩ v3).heap[b]? = some (.cells #[v0, v1, v2, v3] t (0, 0)) := by
  simp [World.setCell, Array.getElem?_modify, h]
end Go.Proofs.YtbddghcdibdloaaGreatDoor
