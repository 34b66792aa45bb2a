/- The document's names of a signature: sorts, functions, macros, what is free. -/
import Derived.Test.YtpppfghdjbmbgaaGreatDoorProg
import Derived.Test.YtpppfghdjbmbgaaGreatDoorZNumMay
import Derived.Test.YtpppfghdjbmbgaaGreatDoorZTk
import Derived.Test.YtpppfghdjbmbgaaGreatDoorZSexRd
import Derived.Deep.RegionHeld3
import Derived.BigQuiet
import Derived.Test.YtpppfghdjbmbgaaGreatDoorZSgA
namespace Go.Proofs.YtpppfghdjbmbgaaGreatDoor
open Go.RowKit
end Go.Proofs.YtpppfghdjbmbgaaGreatDoor
namespace Go.Proofs.YtpppfghdjbmbgaaGreatDoor
open Go.RowKit
set_option linter.unusedVariables false
theorem ne_false {x y : Int} (h : x = y) : (x != y) = false := by simp [h]
theorem ne_true {x y : Int} (h : ¬ x = y) : (x != y) = true := by simp [h]
theorem eq_false {x y : Int} (h : ¬ x = y) : (x == y) = false := by simp [h]
theorem eq_true_ {x y : Int} (h : x = y) : (x == y) = true := by simp [h]
def someL : List Nat := [126, 33, 64, 36, 37, 94, 38, 42, 95, 45, 43, 61, 60, 62, 46, 63, 47]
/-- None of the first k. -/
def NoneOf (n k : Nat) : Prop := ∀ j, j < k → someL[j]? ≠ some n
theorem NoneOf.step {n k m : Nat} (h : NoneOf n k) (hm : someL[k]? = some m) (hne : m ≠ n) : NoneOf n (k + 1) := fun j hj => by
  rcases Nat.lt_succ_iff_lt_or_eq.1 hj with h' | rfl
  · exact h j h'
  · rw [hm]; simpa using hne
theorem NoneOf.all {n : Nat} (h : NoneOf n 17) : someL.contains n = false := by
  rw [Bool.eq_false_iff]
  intro hc
  rw [List.contains_iff_mem] at hc
  obtain ⟨j, hj⟩ := List.getElem?_of_mem hc
  have : j < 17 := (List.getElem?_eq_some_iff.1 hj).1
  exact h j this hj
end Go.Proofs.YtpppfghdjbmbgaaGreatDoor
namespace Go.Proofs.YtpppfghdjbmbgaaGreatDoor
open Go.RowKit
set_option linter.unusedVariables false
/-- A name that may be. -/
def nameB (l : List UInt8) : Bool := decide (l.length ≤ 100) && l.all inBar
/-- A keyword's text. -/
def keyB (l : List UInt8) : Bool := decide (0 < l.length) && (decide (l.length ≤ 100) && l.all isSign)
mutual
/-- What Depth tells. -/
def dW : Tree → Int
  | .node k _ l => if k = 3 then wrap64 (dWL l 0 + 1) else 0
def dWL : List Tree → Int → Int
  | [], n => n
  | t :: r, n => dWL r (max n (dW t))
end
mutual
/-- Whether an expression may stand, but for its depth. -/
def stW : Tree → Bool
  | .node k s l => if k = 3 then (stWL l && s.isEmpty) else if 0 < l.length then false else if k = 0 then nameB s else if k = 1 then ((parseE s != 20) && decide (s.length ≤ 100)) else if k = 2 then keyB s else false
def stWL : List Tree → Bool
  | [] => true
  | t :: r => stW t && stWL r
end
def sxB (t : Tree) : Bool := decide (dW t ≤ 60) && stW t
theorem tk_snoc {α : Type} {l : List α} {k : Nat} {y : α} (h : l[k]? = some y) : l.take (k + 1) = l.take k ++ [y] := by
  rw [List.take_add_one, h]; rfl
end Go.Proofs.YtpppfghdjbmbgaaGreatDoor
namespace Go.Proofs.YtpppfghdjbmbgaaGreatDoor
open Go.RowKit
set_option linter.unusedVariables false
/-- The names of the core. -/
def coreB (l : List UInt8) : Bool := l == [116, 114, 117, 101] || l == [102, 97, 108, 115, 101] || l == [110, 111, 116] || l == [97, 110, 100] || l == [111, 114] || l == [120, 111, 114] || l == [61, 62] || l == [61] || l == [100, 105, 115, 116, 105, 110, 99, 116] || l == [105, 116, 101] || l == [43] || l == [45] || l == [60, 61] || l == [60] || l == [62, 61] || l == [62]
/-- Whether there is a sort of that number. -/
def thereA (n : Nat) (i : Int) : Bool := decide (0 ≤ i) && decide (i < 2 + (n : Int))
/-- A signature's box: its three slices, and what memory holds of it. -/
structure SigB (w V : World) (B : Nat) (x : SigV) : Prop where
  below : Below w.heap.size w V
  box : V.heap[B]? = some (.cells #[.slice x.sa x.sorts.length x.sc, .slice x.fa x.funs.length x.fc, .slice x.ma x.macs.length x.mc] 26 (0, 0))
theorem sig_cells {V : World} {B : Nat} {a b c : Value} {ty : TypeId} (h : V.heap[B]? = some (.cells #[a, b, c] ty (0, 0))) : V.cell? ⟨B, 0, none⟩ = some a ∧ V.cell? ⟨B, 1, none⟩ = some b ∧ V.cell? ⟨B, 2, none⟩ = some c ∧ B < V.heap.size :=
  ⟨(cell_of_row _ _ 0 _ _ _ h).trans rfl, (cell_of_row _ _ 1 _ _ _ h).trans rfl, (cell_of_row _ _ 2 _ _ _ h).trans rfl, (Array.getElem?_eq_some_iff.1 h).1⟩
end Go.Proofs.YtpppfghdjbmbgaaGreatDoor
