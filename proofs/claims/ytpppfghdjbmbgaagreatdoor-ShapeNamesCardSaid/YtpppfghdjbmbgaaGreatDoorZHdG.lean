/- The document's Check of a signature. -/
import Derived.Test.YtpppfghdjbmbgaaGreatDoorZHdC
import Derived.Test.YtpppfghdjbmbgaaGreatDoorZTk
import Derived.Test.YtpppfghdjbmbgaaGreatDoorZTmJ
import Derived.Maps.AppendAt
import Derived.Deep.AppendLies
import Derived.Deep.RegionHeldLaw
import Derived.Deep.RegionLaw
namespace Go.Proofs.YtpppfghdjbmbgaaGreatDoor
open Go.RowKit
set_option linter.unusedVariables false
/-- Is it among them? -/
def hasN (l : List ByteArray) (s : ByteArray) : Bool := l.any (fun y => decide (y = s))
def sortQ (ss : List ByteArray) (s : ByteArray) : Bool := (s.toList == [66, 111, 111, 108]) || ((s.toList == [73, 110, 116]) || hasN ss s)
/-- What Free tells. -/
def freeQ (ss fs ms : List ByteArray) (s : ByteArray) (sort : Bool) : Int :=
  if nameB s.data.toList = true then (if resB s.data.toList = true then 31 else if sort = true then (if sortQ ss s = true then 32 else 0) else (if (hasN fs s || (hasN ms s || coreB s.data.toList)) = true then 32 else 0)) else 31
end Go.Proofs.YtpppfghdjbmbgaaGreatDoor
namespace Go.Proofs.YtpppfghdjbmbgaaGreatDoor
open Go.RowKit
set_option linter.unusedVariables false
def argV (f : FunA) (k : Nat) : Int := if k = 0 then f.a0 else if k = 1 then f.a1 else f.a2
def argAt (n : Nat) (f : FunA) (k : Nat) : Bool := if (k : Int) < f.len then thereA n (argV f k) else decide (argV f k = 0)
def funB (n : Nat) (f : FunA) : Bool := decide (0 ≤ f.len) && (decide (f.len ≤ 3) && (thereA n f.res && (argAt n f 0 && (argAt n f 1 && argAt n f 2))))
theorem below_dN {B : Nat} {w w' : World} (h : Below B w w') {k : Nat} : Below B w (w'.drewN k) := ⟨h.os, h.tape, h.output, h.size, h.block⟩
end Go.Proofs.YtpppfghdjbmbgaaGreatDoor
namespace Go.Proofs.YtpppfghdjbmbgaaGreatDoor
open Go.RowKit
set_option linter.unusedVariables false
/-- A parameter behind others. -/
def oneQ (n : Nat) (ahead : List ParA) (p : ParA) : Bool := nameB p.name.data.toList && (!resB p.name.data.toList && (thereA n p.sort && !hasN (ahead.map (·.name)) p.name))
def parQ (n : Nat) (ahead : List ParA) : List ParA → Bool
  | [] => true
  | p :: r => oneQ n ahead p && parQ n (ahead ++ [p]) r
def macQ (n : Nat) (m : MacA) : Bool := decide (m.params.length ≤ 3) && (thereA n m.res && (sxB m.body && parQ n [] m.params))
end Go.Proofs.YtpppfghdjbmbgaaGreatDoor
namespace Go.Proofs.YtpppfghdjbmbgaaGreatDoor
open Go.RowKit
set_option linter.unusedVariables false
def seqQ {α : Type} (one : List α → α → Bool) (ahead : List α) : List α → Bool
  | [] => true
  | y :: r => one ahead y && seqQ one (ahead ++ [y]) r
theorem seqQ_append {α : Type} (one : List α → α → Bool) : ∀ (l m a : List α), seqQ one a (l ++ m) = (seqQ one a l && seqQ one (a ++ l) m)
  | [], m, a => by simp [seqQ]
  | y :: r, m, a => by
    simp only [List.cons_append, seqQ]
    rw [seqQ_append one r m, List.append_assoc]
    simp only [Bool.and_assoc]; rfl
theorem seqQ_take {α : Type} {one : List α → α → Bool} {l : List α} {k : Nat} {p : α} (h : l[k]? = some p) : seqQ one [] (l.take (k + 1)) = (seqQ one [] (l.take k) && one (l.take k) p) := by
  rw [tk_snoc h, seqQ_append]; simp [seqQ]
theorem seqQ_no {α : Type} {one : List α → α → Bool} {l : List α} {k : Nat} (h : seqQ one [] (l.take k) = false) : seqQ one [] l = false := by
  have := seqQ_append one (l.take k) (l.drop k) []
  rw [List.take_append_drop, h] at this
  rw [this]; rfl
def oneS (ahead : List ByteArray) (s : ByteArray) : Bool := freeQ ahead [] [] s true == 0
def oneF (ss : List ByteArray) (ahead : List FunA) (f : FunA) : Bool := freeQ ss (ahead.map (·.name)) [] f.name false == 0 && funB ss.length f
def oneM (ss : List ByteArray) (fs : List FunA) (ahead : List MacA) (m : MacA) : Bool := freeQ ss (fs.map (·.name)) (ahead.map (·.name)) m.name false == 0 && macQ ss.length m
/-- Whether a signature may be. -/
def checkQ (x : SigA) : Bool := decide (x.sorts.length ≤ 4) && (decide (x.funs.length ≤ 12) && (decide (x.macros.length ≤ 12) && (seqQ oneS [] x.sorts && (seqQ (oneF x.sorts) [] x.funs && seqQ (oneM x.sorts x.funs) [] x.macros))))
/-- The signature that Check puts together. -/
structure OB (W1 V : World) (y : SigV) : Prop where
  below : Below W1.heap.size W1 V
  box : V.heap[W1.heap.size]? = some (.cells #[.slice y.sa y.sorts.length y.sc, .slice y.fa y.funs.length y.fc, .slice y.ma y.macs.length y.mc] 26 (0, 0))
  so : V.ownsRow (W1.heap.size + 1) 9 1 (.slice y.sa y.sorts.length y.sc) y.sorts.length (y.sorts.flatMap strC)
  fo : V.ownsRow (W1.heap.size + 1) 123 6 (.slice y.fa y.funs.length y.fc) y.funs.length (y.funs.flatMap funC)
  mo : V.ownsRow (W1.heap.size + 1) 66 6 (.slice y.ma y.macs.length y.mc) y.macs.length (y.macs.flatMap macC)
theorem own_kept {w w' : World} {base size n : Nat} {E : TypeId} {v : Value} {L : List Value} (h : w.ownsRow base E size v n L) (hb : Below w.heap.size w w') : w'.ownsRow base E size v n L := Tm.own_heap h (fun k _ hk => hb.block k hk)
theorem OB.keep {W1 V V' : World} {y : SigV} (h : OB W1 V y) (hb : Below V.heap.size V V') : OB W1 V' y :=
  ⟨h.below.trans (hb.mono h.below.size), (hb.block _ (Array.getElem?_eq_some_iff.1 h.box).1).trans h.box, own_kept h.so hb, own_kept h.fo hb, own_kept h.mo hb⟩
theorem OB.drew {W1 V : World} {y : SigV} (h : OB W1 V y) : OB W1 V.drew y := h.keep (Below.refl _ _).drew
theorem OB.cells {W1 V : World} {y : SigV} (h : OB W1 V y) : V.cell? ⟨W1.heap.size, 0, none⟩ = some (.slice y.sa y.sorts.length y.sc) ∧ V.cell? ⟨W1.heap.size, 1, none⟩ = some (.slice y.fa y.funs.length y.fc) ∧ V.cell? ⟨W1.heap.size, 2, none⟩ = some (.slice y.ma y.macs.length y.mc) ∧ W1.heap.size < V.heap.size ∧ ∀ i, V.frozen? ⟨W1.heap.size, i, none⟩ = false := by
  obtain ⟨a, b, c, d⟩ := sig_cells h.box
  have hb := h.box
  exact ⟨a, b, c, d, fun i => by simp [World.frozen?, hb]⟩
theorem MacOk.up {w w' : World} {x : MacV} (h : MacOk w w.heap.size x) (hb : Below w.heap.size w w') : MacOk w' w'.heap.size x := by
  have := h.below hb
  exact ⟨this.name, this.plen, this.pcap, this.pat.more hb.size, this.pok, this.res, this.body⟩
theorem own_ne {w : World} {base size n : Nat} {E : TypeId} {v : Value} {L : List Value} (h : w.ownsRow base E size v n L) {g : Nat} (hg : v.ownBlock = some g) : base ≤ g ∧ g < w.heap.size := by
  rcases h.2 with ⟨rfl, _⟩ | ⟨g1, cap, cur, rfl, h1, h2, _⟩
  · cases hg
  · have e1 : g1 = g := by simpa [Value.ownBlock] using hg
    subst e1
    exact ⟨h1, (Array.getElem?_eq_some_iff.1 h2).1⟩
/-- What an append upon one of its rows, and the store of it, leave. -/
structure Push (W1 V V2 : World) (o : Obj) (row : Option Nat) (g : Nat) : Prop where
  grown : (V.alloc o).drew.grownBy V2 row
  at_ : row = some g ∨ g = V.heap.size + 1
theorem Push.block {W1 V V2 : World} {o : Obj} {row : Option Nat} {g b : Nat} (h : Push W1 V V2 o row g) (hb : b < V.heap.size) (hne : some b ≠ row) : V2.heap[b]? = V.heap[b]? :=
  (h.grown.block b (by show b < (V.alloc o).heap.size; simp; omega) hne).trans (Below.heap_alloc V o b hb)
theorem Push.size {W1 V V2 : World} {o : Obj} {row : Option Nat} {g : Nat} (h : Push W1 V V2 o row g) : V.heap.size < V2.heap.size := by
  have := h.grown.size
  have h2 : (V.alloc o).drew.heap.size = V.heap.size + 1 := by show (V.alloc o).heap.size = _; simp
  omega
theorem OB.ne_f {W1 V : World} {y : SigV} (h : OB W1 V y) : some W1.heap.size ≠ (Value.slice y.fa y.funs.length y.fc).ownBlock := fun e => by have := (own_ne h.fo e.symm).1; omega
end Go.Proofs.YtpppfghdjbmbgaaGreatDoor
