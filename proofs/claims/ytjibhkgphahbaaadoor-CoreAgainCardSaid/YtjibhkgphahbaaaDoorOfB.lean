/- Package offset's sum in memory: a step of it. -/
import Derived.Test.YtjibhkgphahbaaaDoorTmB
import Derived.BigQuiet
namespace Go.Proofs.YtjibhkgphahbaaaDoor.Tm
open Go.RowKit
set_option linter.unusedVariables false
/-- All old blocks but one are as they were. -/
structure But (b : Nat) (w w' : World) : Prop where
  os : w'.os = w.os
  tape : w'.tape = w.tape
  output : w'.output = w.output
  size : w.heap.size ≤ w'.heap.size
  block : ∀ k, k < w.heap.size → k ≠ b → w'.heap[k]? = w.heap[k]?
theorem But.refl (b : Nat) (w : World) : But b w w := ⟨rfl, rfl, rfl, Nat.le_refl _, fun _ _ _ => rfl⟩
theorem But.of {b : Nat} {w w' : World} (h : Below w.heap.size w w') : But b w w' := ⟨h.os, h.tape, h.output, h.size, fun k hk _ => h.block k hk⟩
theorem But.trans {b : Nat} {u v w : World} (h : But b u v) (k : But b v w) : But b u w :=
  ⟨k.os.trans h.os, k.tape.trans h.tape, k.output.trans h.output, Nat.le_trans h.size k.size, fun i hi hb => (k.block i (Nat.lt_of_lt_of_le hi h.size) hb).trans (h.block i hi hb)⟩
theorem But.set {b o : Nat} {u w : World} {v : Value} (h : But b u w) : But b u (w.setCell ⟨b, o, none⟩ v) :=
  ⟨h.os, h.tape, h.output, by simpa using h.size, fun i hi hb => (Below.heap_setCell _ _ _ _ hb).trans (h.block i hi hb)⟩
theorem But.alloc {b : Nat} {u w : World} (h : But b u w) (o : Obj) : But b u (w.alloc o) :=
  ⟨h.os, h.tape, h.output, by simpa using Nat.le_succ_of_le h.size, fun i hi hb => (Below.heap_alloc _ _ _ (Nat.lt_of_lt_of_le hi h.size)).trans (h.block i hi hb)⟩
theorem But.drew {b : Nat} {u w : World} (h : But b u w) : But b u w.drew := ⟨h.os, h.tape, h.output, h.size, h.block⟩
/-- What is below b is as it was. -/
theorem But.below {b : Nat} {u w w' : World} (hb : Below b u w) (h : But b w w') (hs : b ≤ u.heap.size) : Below b u w' :=
  ⟨h.os.trans hb.os, h.tape.trans hb.tape, h.output.trans hb.output, Nat.le_trans hb.size h.size, fun k hk => (h.block k (Nat.lt_of_lt_of_le (Nat.lt_of_lt_of_le hk hs) hb.size) (by omega)).trans (hb.block k hk)⟩
/-- A step of a sum: what has an error keeps it. -/
def stepA (s : Int × Int) (b : Int) : Int × Int := if s.2 = 0 then (addV s.1 b, addE s.1 b) else s
def stepS (s : Int × Int) (b : Int) : Int × Int := if s.2 = 0 then (subV s.1 b, subE s.1 b) else s
theorem stepA_ok {n : Int} {b : Int} : stepA (n, 0) b = (addV n b, addE n b) := rfl
theorem stepS_ok {n : Int} {b : Int} : stepS (n, 0) b = (subV n b, subE n b) := rfl
theorem stepA_err {s : Int × Int} {b : Int} (h : s.2 ≠ 0) : stepA s b = s := if_neg h
theorem stepS_err {s : Int × Int} {b : Int} (h : s.2 ≠ 0) : stepS s b = s := if_neg h
theorem addV_i64 {a b : Int} : I64 (addV a b) := by
  unfold addV
  split
  · rename_i h
    have := addOk_true.1 h
    exact ⟨by omega, by omega⟩
  · exact ⟨by omega, by omega⟩
theorem subV_i64 {a b : Int} : I64 (subV a b) := by
  unfold subV
  split
  · rename_i h
    have := addOk_true.1 h
    exact ⟨by omega, by omega⟩
  · exact ⟨by omega, by omega⟩
theorem addE_cases (a b : Int) : addE a b = 0 ∨ addE a b = 10 := by unfold addE; split <;> simp
theorem subE_cases (a b : Int) : subE a b = 0 ∨ subE a b = 10 := by unfold subE; split <;> simp
end Go.Proofs.YtjibhkgphahbaaaDoor.Tm
