/- The document's Values: every node's value, or that it overflows. -/
import Derived.Test.YtpppfghdjbmbgaaGreatDoorZHdR
import Derived.Test.YtpppfghdjbmbgaaGreatDoorZTmM
import Derived.Deep.AppendLies
namespace Go.Proofs.YtpppfghdjbmbgaaGreatDoor
open Go.RowKit
open Tm (NodeA NodeOk TabR)
set_option linter.unusedVariables false
def argN (n : NodeA) (j : Nat) : Int := if j = 0 then n.a0 else if j = 1 then n.a1 else n.a2
def srtN (t : List NodeA) (i : Int) : Int := ((t[i.toNat]?).map (·.sort)).getD 0
/-- The sorts of a node's arguments. -/
def sortsN (t : List NodeA) (n : NodeA) : List Int := (List.range n.len.toNat).map (fun j => srtN t (argN n j))
def rulE (x : SigV) (t : List NodeA) (n : NodeA) : Int := if n.op = 13 then (if appE x n.fn (sortsN t n) = 0 then 0 else 33) else opE n.op (sortsN t n)
def rulV (x : SigV) (t : List NodeA) (n : NodeA) : Int := if n.op = 13 then appV x n.fn (sortsN t n) else opV n.op (sortsN t n)
theorem info_int : (Tryz.prog.info? 3).map (fun i => (i.zero, i.size, i.bytes)) = some (some (.int .i64 0), 1, 8) := by kernel_rfl
/-- The node is one whose arguments stand in the table. -/
structure InT (t : List NodeA) (n : NodeA) : Prop where
  lo : 0 ≤ n.len
  hi : n.len ≤ 3
  arg : ∀ j : Nat, (j : Int) < n.len → 0 ≤ argN n j ∧ argN n j < (t.length : Int)
theorem below_push {W V V2 : World} {o : Obj} {e : TypeId} {size n : Nat} {v : Value} {xs : List Value} (h : Below W.heap.size W V) (hown : V.ownsRow W.heap.size e size v n xs) (hg : (V.alloc o).drew.grownBy V2 v.ownBlock) : Below W.heap.size W V2 := by
  have h2 : (V.alloc o).drew.heap.size = V.heap.size + 1 := by show (V.alloc o).heap.size = _; simp
  have h3 := hg.size
  have h4 := h.size
  exact ⟨hg.os.trans h.os, hg.tape.trans h.tape, hg.output.trans h.output, by omega, fun k hk => (hg.block k (by omega) (fun e' => by have := (own_ne hown e'.symm).1; omega)).trans ((Below.heap_alloc V o k (by omega)).trans (h.block k hk))⟩
end Go.Proofs.YtpppfghdjbmbgaaGreatDoor
namespace Go.Proofs.YtpppfghdjbmbgaaGreatDoor
open Go.RowKit
open Tm (NodeA NodeOk TabR mayT)
set_option linter.unusedVariables false
def rowT (x : SigV) (t : List NodeA) (n : NodeA) : Bool := decide (rulE x t n = 0) && decide (rulV x t n = n.sort)
theorem stands_in {t : List NodeA} {n : NodeA} {k : Nat} (h : Tm.standsB n k = true) (hk : k ≤ t.length) : InT t n := by
  unfold Tm.standsB at h
  rw [decide_eq_true_eq] at h
  obtain ⟨⟨h0, h1, h2⟩, _, ⟨a0, _⟩, ⟨a1, _⟩, ⟨a2, _⟩⟩ := h
  have hl : 0 ≤ n.len ∧ n.len ≤ 3 := by
    split at h2
    · exact ⟨h2.1, h2.2.1⟩
    · have h3 : n.len = Tm.arityA n.op := by
        split at h2
        · exact h2.1
        · exact h2.1
      rw [h3]
      unfold Tm.arityA
      repeat' split
      all_goals omega
  refine ⟨hl.1, hl.2, fun j hj => ?_⟩
  have hc : j = 0 ∨ j = 1 ∨ j = 2 := by omega
  rcases hc with rfl | rfl | rfl
  · have := a0 hj
    show 0 ≤ n.a0 ∧ n.a0 < _
    omega
  · have := a1 hj
    show 0 ≤ n.a1 ∧ n.a1 < _
    omega
  · have := a2 hj
    show 0 ≤ n.a2 ∧ n.a2 < _
    omega
end Go.Proofs.YtpppfghdjbmbgaaGreatDoor
namespace Go.Proofs.YtpppfghdjbmbgaaGreatDoor
open Go.RowKit
open Tm (NodeA NodeOk TabR mayT)
set_option linter.unusedVariables false
def bitN (q : Bool) : Int := if q = true then 1 else 0
/-- A node's value, and whether it is one. -/
def ndV (x : SigV) (y : WorV) (n : NodeA) (v : List Int) : Int × Bool :=
  if n.op = 0 then (1, true) else if n.op = 1 then (wrap64 (1 - v.getD 0 0), true) else if n.op = 2 then (wrap64 (v.getD 0 0 * v.getD 1 0), true)
  else if n.op = 3 then (max (v.getD 0 0) (v.getD 1 0), true) else if n.op = 4 then (bitN (!decide (v.getD 0 0 = v.getD 1 0)), true) else if n.op = 5 then (bitN (decide (v.getD 0 0 ≤ v.getD 1 0)), true)
  else if n.op = 6 then (bitN (decide (v.getD 0 0 = v.getD 1 0)), true) else if n.op = 7 then (if v.getD 0 0 = 1 then v.getD 1 0 else v.getD 2 0, true) else if n.op = 8 then (bitN (decide (v.getD 0 0 ≤ v.getD 1 0)), true)
  else if n.op = 9 then (bitN (decide (v.getD 0 0 < v.getD 1 0)), true) else if n.op = 10 then (n.num, true)
  else if n.op = 11 then (if 2305843009213693953 < wrap64 (wrap64 ((v.getD 0 0).tdiv 2) + wrap64 (n.num.tdiv 2)) ∨ wrap64 (wrap64 ((v.getD 0 0).tdiv 2) + wrap64 (n.num.tdiv 2)) < -2305843009213693953 then (0, false) else (wrap64 (v.getD 0 0 + n.num), mayB (wrap64 (v.getD 0 0 + n.num))))
  else if n.op = 12 then (bitN (atM (v.getD 0 0) (v.getD 1 0) n.num), true) else (applyV x y n.fn v, true)
end Go.Proofs.YtpppfghdjbmbgaaGreatDoor
namespace Go.Proofs.YtpppfghdjbmbgaaGreatDoor
open Go.RowKit
open Tm (NodeA NodeOk TabR mayT)
set_option linter.unusedVariables false
/-- The value at a place, and whether it overflows. -/
def atV (L : List (Int × Bool)) (i : Int) : Int × Bool := (L[i.toNat]?).getD (0, false)
def argsV (L : List (Int × Bool)) (n : NodeA) (k : Nat) : List Int := (List.range k).map (fun j => (atV L (argN n j)).1)
def badV (L : List (Int × Bool)) (n : NodeA) : Nat → Bool
  | 0 => false
  | k + 1 => badV L n k || (atV L (argN n k)).2
/-- A node's value of those ahead. -/
def stepV (x : SigV) (y : WorV) (L : List (Int × Bool)) (n : NodeA) : Int × Bool :=
  if badV L n n.len.toNat = true then (0, true) else if (ndV x y n (argsV L n n.len.toNat)).2 = true then ((ndV x y n (argsV L n n.len.toNat)).1, false) else (0, true)
theorem stands_form {n : NodeA} {k : Nat} (h : Tm.standsB n k = true) : 0 ≤ n.len ∧ n.len ≤ 3 ∧ 0 ≤ n.op ∧ n.op < 14 ∧ (n.op = 13 ∨ n.len = Tm.arityA n.op) := by
  have hi := stands_in (t := List.replicate k n) h (by rw [List.length_replicate]; exact Nat.le_refl _)
  unfold Tm.standsB at h
  rw [decide_eq_true_eq] at h
  obtain ⟨⟨h0, h1, h2⟩, _⟩ := h
  refine ⟨hi.lo, hi.hi, h0, h1, ?_⟩
  split at h2
  · exact .inl ‹_›
  · split at h2
    · exact .inr h2.1
    · exact .inr h2.1
theorem stands_arg {n : NodeA} {k : Nat} (h : Tm.standsB n k = true) (j : Nat) (hj : (j : Int) < n.len) : 0 ≤ argN n j ∧ argN n j < (k : Int) := by
  have hi := (stands_in (t := List.replicate k n) h (by rw [List.length_replicate]; exact Nat.le_refl _)).arg j hj
  rw [List.length_replicate] at hi
  exact hi
end Go.Proofs.YtpppfghdjbmbgaaGreatDoor
