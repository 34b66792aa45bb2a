/- The document's May of interpretations. -/
import Derived.Test.YtpppfghdjbmbgaaGreatDoorZHdG
import Derived.Test.YtpppfghdjbmbgaaGreatDoorZNumMay
namespace Go.Proofs.YtpppfghdjbmbgaaGreatDoor
open Go.RowKit
set_option linter.unusedVariables false
structure RowA where
  a0 : Int
  a1 : Int
  a2 : Int
  v : Int
structure RowOk (r : RowA) : Prop where
  a0 : I64 r.a0
  a1 : I64 r.a1
  a2 : I64 r.a2
  v : I64 r.v
def rowL (r : RowA) : List Value := [.int .i64 r.a0, .int .i64 r.a1, .int .i64 r.a2, .int .i64 r.v]
/-- A function's interpretation as it lies in memory. -/
structure FvV where
  rows : List RowA
  ra : Option Addr
  rc : Nat
  els : Int
def fvL (f : FvV) : List Value := [.slice f.ra f.rows.length f.rc, .int .i64 f.els]
def numL (n : Int) : List Value := [.int .i64 n]
theorem numL_len (n : Int) : (numL n).length = 1 := rfl
structure FvOk (w : World) (B : Nat) (f : FvV) : Prop where
  rl : f.rows.length ≤ f.rc
  rm : f.rc ≤ maxLen
  rat : At w B (f.rows.flatMap rowL) f.ra
  rok : ∀ r ∈ f.rows, RowOk r
  els : I64 f.els
/-- An interpretation as it lies in memory. -/
structure WorV where
  sizes : List Int
  sa : Option Addr
  sc : Nat
  funs : List FvV
  fa : Option Addr
  fc : Nat
structure WorR (w : World) (x : WorV) : Prop where
  sl : x.sizes.length ≤ x.sc
  sm : x.sc ≤ maxLen
  sat : At w w.heap.size (x.sizes.flatMap numL) x.sa
  sok : ∀ n ∈ x.sizes, I64 n
  fl : x.funs.length ≤ x.fc
  fm : x.fc ≤ maxLen
  fat : At w w.heap.size (x.funs.flatMap fvL) x.fa
  fok : ∀ f ∈ x.funs, FvOk w w.heap.size f
theorem FvOk.up {w w' : World} {f : FvV} (h : FvOk w w.heap.size f) (hb : Below w.heap.size w w') : FvOk w' w'.heap.size f :=
  ⟨h.rl, h.rm, (h.rat.below hb).more hb.size, h.rok, h.els⟩
theorem WorR.below {w w' : World} {x : WorV} (h : WorR w x) (hb : Below w.heap.size w w') : WorR w' x :=
  ⟨h.sl, h.sm, (h.sat.below hb).more hb.size, h.sok, h.fl, h.fm, (h.fat.below hb).more hb.size, fun f hf => (h.fok f hf).up hb⟩
theorem any_no {α : Type} {p : α → Bool} {l : List α} (h : ∀ (j : Nat) (y : α), l[j]? = some y → p y = false) : l.any p = false := by
  rw [List.any_eq_false]
  intro y hy
  obtain ⟨j, hj⟩ := List.getElem?_of_mem hy
  rw [h j y hj]; simp
theorem any_yes {α : Type} {p : α → Bool} {l : List α} {j : Nat} {y : α} (h : l[j]? = some y) (hp : p y = true) : l.any p = true := List.any_eq_true.2 ⟨y, List.mem_of_getElem? h, hp⟩
theorem wor_cells {V : World} {B : Nat} {a b : Value} {ty : TypeId} (h : V.heap[B]? = some (.cells #[a, b] ty (0, 0))) : V.cell? ⟨B, 0, none⟩ = some a ∧ V.cell? ⟨B, 1, none⟩ = some b ∧ B < V.heap.size :=
  ⟨(cell_of_row _ _ 0 _ _ _ h).trans rfl, (cell_of_row _ _ 1 _ _ _ h).trans rfl, (Array.getElem?_eq_some_iff.1 h).1⟩
end Go.Proofs.YtpppfghdjbmbgaaGreatDoor
namespace Go.Proofs.YtpppfghdjbmbgaaGreatDoor
open Go.RowKit
set_option linter.unusedVariables false
def isB (n : Nat) (z : List Int) (s v : Int) : Bool := decide (z.length = n) && (thereA n s && (if s = 0 then decide (v = 0 ∨ v = 1) else if s = 1 then mayB v else decide (0 ≤ v) && decide (v < z.getD (s - 2).toNat 0)))
theorem isB_there {n : Nat} {z : List Int} {s v : Int} (hn : z.length = n) (h0 : 0 ≤ s) (h1 : s < 2 + (n : Int)) : isB n z s v = (if s = 0 then decide (v = 0 ∨ v = 1) else if s = 1 then mayB v else decide (0 ≤ v) && decide (v < z.getD (s - 2).toNat 0)) := by
  unfold isB thereA
  rw [decide_eq_true hn, decide_eq_true h0, decide_eq_true h1]; rfl
end Go.Proofs.YtpppfghdjbmbgaaGreatDoor
namespace Go.Proofs.YtpppfghdjbmbgaaGreatDoor
open Go.RowKit
set_option linter.unusedVariables false
def fitAt (n : Nat) (z : List Int) (f : FunA) (b : Int) (k : Nat) : Bool := if (k : Int) < f.len then isB n z (argV f k) b else decide (b = 0)
def fitB (n : Nat) (z : List Int) (f : FunA) (b0 b1 b2 : Int) : Bool := fitAt n z f b0 0 && (fitAt n z f b1 1 && fitAt n z f b2 2)
theorem arr_cells {V : World} {B : Nat} {a b c : Value} {ty : TypeId} (h : V.heap[B]? = some (.cells #[a, b, c] ty (0, 0))) : V.cell? ⟨B, 0, none⟩ = some a ∧ V.cell? ⟨B, 1, none⟩ = some b ∧ V.cell? ⟨B, 2, none⟩ = some c ∧ B < V.heap.size :=
  ⟨(cell_of_row _ _ 0 _ _ _ h).trans rfl, (cell_of_row _ _ 1 _ _ _ h).trans rfl, (cell_of_row _ _ 2 _ _ _ h).trans rfl, (Array.getElem?_eq_some_iff.1 h).1⟩
end Go.Proofs.YtpppfghdjbmbgaaGreatDoor
namespace Go.Proofs.YtpppfghdjbmbgaaGreatDoor
open Go.RowKit
set_option linter.unusedVariables false
end Go.Proofs.YtpppfghdjbmbgaaGreatDoor
namespace Go.Proofs.YtpppfghdjbmbgaaGreatDoor
open Go.RowKit
set_option linter.unusedVariables false
def sameA (r s : RowA) : Bool := decide (r.a0 = s.a0) && (decide (r.a1 = s.a1) && decide (r.a2 = s.a2))
/-- A row behind others. -/
def oneR (n : Nat) (z : List Int) (f : FunA) (ahead : List RowA) (r : RowA) : Bool := fitB n z f r.a0 r.a1 r.a2 && (isB n z f.res r.v && !ahead.any (fun s => sameA s r))
def fvQ (n : Nat) (z : List Int) (f : FunA) (v : FvV) : Bool := decide (v.rows.length ≤ 400) && (isB n z f.res v.els && seqQ (oneR n z f) [] v.rows)
def sizeQ (m : Int) : Bool := decide (1 ≤ m) && decide (m ≤ 1000)
/-- Whether an interpretation may be. -/
def worQ (x : SigV) (y : WorV) : Bool := checkQ x.a && (decide (y.sizes.length = x.sorts.length) && (decide (y.funs.length = x.funs.length) && (y.sizes.all sizeQ && (x.funs.zip y.funs).all (fun p => fvQ x.sorts.length y.sizes p.1 p.2))))
theorem all_no {α : Type} {p : α → Bool} {l : List α} {j : Nat} {y : α} (h : l[j]? = some y) (hp : p y = false) : l.all p = false := by
  rw [List.all_eq_false]
  exact ⟨y, List.mem_of_getElem? h, by rw [hp]; simp⟩
theorem all_yes {α : Type} {p : α → Bool} {l : List α} (h : ∀ (j : Nat) (y : α), l[j]? = some y → p y = true) : l.all p = true := by
  rw [List.all_eq_true]
  intro y hy
  obtain ⟨j, hj⟩ := List.getElem?_of_mem hy
  exact h j y hj
theorem checkQ_len {x : SigV} (h : checkQ x.a = true) : x.sorts.length ≤ 4 ∧ x.funs.length ≤ 12 := by
  unfold checkQ at h
  simp only [Bool.and_eq_true, decide_eq_true_eq] at h
  exact ⟨h.1, h.2.1⟩
end Go.Proofs.YtpppfghdjbmbgaaGreatDoor
