/- Expressions as trees, and what it is that a value reads as one. -/
import Derived.ProofKit
import Derived.Test.YtpppfghdjbmbgaaGreatDoorProg
import Derived.Test.YtpppfghdjbmbgaaGreatDoorZTk
import Derived.BigQuiet
namespace Go.Proofs.YtpppfghdjbmbgaaGreatDoor
def isWhite (c : UInt8) : Bool := c == 32 || c == 9 || c == 10 || c == 13
def isDg (c : UInt8) : Bool := decide (48 ≤ c.toNat) && decide (c.toNat ≤ 57)
def isSign (c : UInt8) : Bool := isDg c || (decide (65 ≤ c.toNat) && decide (c.toNat ≤ 90)) || (decide (97 ≤ c.toNat) && decide (c.toNat ≤ 122)) ||
  [126, 33, 64, 36, 37, 94, 38, 42, 95, 45, 43, 61, 60, 62, 46, 63, 47].contains c.toNat
def inBar (c : UInt8) : Bool := (isWhite c || (decide (32 ≤ c.toNat) && decide (c.toNat ≤ 126))) && c != 124 && c != 92
structure Tok where
  kind : Nat
  text : List UInt8
  pos : Nat
  stop : Nat
deriving DecidableEq
structure Nxt where
  tok : Tok
  ok : Bool
  err : Nat
deriving DecidableEq
end Go.Proofs.YtpppfghdjbmbgaaGreatDoor
namespace Go.Proofs.YtpppfghdjbmbgaaGreatDoor
def resB (l : List UInt8) : Bool := l == [95] || l == [33] || l == [97, 115] || l == [108, 101, 116] || l == [101, 120, 105, 115, 116, 115] || l == [102, 111, 114, 97, 108, 108] || l == [109, 97, 116, 99, 104] || l == [112, 97, 114]
end Go.Proofs.YtpppfghdjbmbgaaGreatDoor
namespace Go.Proofs.YtpppfghdjbmbgaaGreatDoor
open Go.RowKit
def bytesL (t : List UInt8) : ByteArray := ⟨t.toArray⟩
/-- An expression: its kind, its text, what it holds. -/
inductive Tree where
  | node (k : Int) (s : List UInt8) (l : List Tree) : Tree
namespace Tree
def kind : Tree → Int | node k _ _ => k
def text : Tree → List UInt8 | node _ s _ => s
def kids : Tree → List Tree | node _ _ l => l
end Tree
mutual
/-- How many expressions there are in one. -/
def szT : Tree → Nat
  | .node _ _ l => szL l + 1
def szL : List Tree → Nat
  | [] => 0
  | t :: r => szT t + szL r
end
mutual
/-- The value reads as the tree; no row lies in a block that is bad. -/
def Rd (w : World) (bad : Nat → Prop) : Tree → Value → Prop
  | .node k s l, v => ∃ a cap, v = .agg #[.int .i8 k, .string (bytesL s), .slice a l.length cap] ∧ l.length ≤ cap ∧ cap ≤ maxLen ∧ s.length ≤ maxLen ∧ RdL w bad l a
def RdL (w : World) (bad : Nat → Prop) : List Tree → Option Addr → Prop
  | [], _ => True
  | t :: l, a => ∃ g o v0 v1 v2, a = some ⟨g, o, none⟩ ∧ ¬ bad g ∧ w.frozen? ⟨g, o, none⟩ = false ∧ w.cell? ⟨g, o, none⟩ = some v0 ∧ w.cell? ⟨g, o + 1, none⟩ = some v1 ∧ w.cell? ⟨g, o + 1 + 1, none⟩ = some v2 ∧ Rd w bad t (.agg #[v0, v1, v2]) ∧ RdL w bad l (some ⟨g, o + 3, none⟩)
end
mutual
theorem Rd.keep {w w' : World} {bad : Nat → Prop} (hk : ∀ b, ¬ bad b → b < w.heap.size → w'.heap[b]? = w.heap[b]?) : ∀ (t : Tree) (v : Value), Rd w bad t v → Rd w' bad t v
  | .node k s l, v, h => by
    obtain ⟨a, cap, e, h1, h2, h3, h4⟩ := h
    exact ⟨a, cap, e, h1, h2, h3, RdL.keep hk l a h4⟩
theorem RdL.keep {w w' : World} {bad : Nat → Prop} (hk : ∀ b, ¬ bad b → b < w.heap.size → w'.heap[b]? = w.heap[b]?) : ∀ (l : List Tree) (a : Option Addr), RdL w bad l a → RdL w' bad l a
  | [], _, _ => trivial
  | t :: l, a, h => by
    obtain ⟨g, o, v0, v1, v2, e, hb, fz, c0, c1, c2, ht, hl⟩ := h
    have hlt : g < w.heap.size := World.block_lt_of_cell? w ⟨g, o, none⟩ c0
    have f : ∀ j, w'.cell? ⟨g, j, none⟩ = w.cell? ⟨g, j, none⟩ := fun j => World.cell?_of_block (hk g hb hlt)
    exact ⟨g, o, v0, v1, v2, e, hb, (World.frozen?_of_block (a := ⟨g, o, none⟩) (hk g hb hlt)).trans fz, (f _).trans c0, (f _).trans c1, (f _).trans c2, Rd.keep hk t _ ht, RdL.keep hk l _ hl⟩
end
mutual
theorem Rd.mono {w : World} {bad bad' : Nat → Prop} (hk : ∀ b, b < w.heap.size → bad' b → bad b) : ∀ (t : Tree) (v : Value), Rd w bad t v → Rd w bad' t v
  | .node k s l, v, h => by
    obtain ⟨a, cap, e, h1, h2, h3, h4⟩ := h
    exact ⟨a, cap, e, h1, h2, h3, RdL.mono hk l a h4⟩
theorem RdL.mono {w : World} {bad bad' : Nat → Prop} (hk : ∀ b, b < w.heap.size → bad' b → bad b) : ∀ (l : List Tree) (a : Option Addr), RdL w bad l a → RdL w bad' l a
  | [], _, _ => trivial
  | t :: l, a, h => by
    obtain ⟨g, o, v0, v1, v2, e, hb, fz, c0, c1, c2, ht, hl⟩ := h
    have hlt : g < w.heap.size := World.block_lt_of_cell? w ⟨g, o, none⟩ c0
    exact ⟨g, o, v0, v1, v2, e, fun h => hb (hk g hlt h), fz, c0, c1, c2, Rd.mono hk t _ ht, RdL.mono hk l _ hl⟩
end
theorem bytesL_inj {a b : List UInt8} (h : bytesL a = bytesL b) : a = b := by
  have := congrArg (fun x => x.data.toList) h
  simpa [bytesL] using this
mutual
/-- A value reads as one tree alone. -/
theorem Rd.one {w : World} {bad bad' : Nat → Prop} : ∀ (t t' : Tree) (v : Value), Rd w bad t v → Rd w bad' t' v → t = t'
  | .node k s l, .node k' s' l', v, h, h' => by
    obtain ⟨a, cap, e, _, _, _, h4⟩ := h
    obtain ⟨a', cap', e', _, _, _, h4'⟩ := h'
    rw [e] at e'
    simp only [Value.agg.injEq, Array.mk.injEq, List.cons.injEq, Value.int.injEq, Value.string.injEq, Value.slice.injEq, and_true, true_and] at e'
    obtain ⟨rfl, es, rfl, el, _⟩ := e'
    rw [bytesL_inj es, RdL.one l l' a el h4 h4']
theorem RdL.one {w : World} {bad bad' : Nat → Prop} : ∀ (l l' : List Tree) (a : Option Addr), l.length = l'.length → RdL w bad l a → RdL w bad' l' a → l = l'
  | [], [], _, _, _, _ => rfl
  | [], _ :: _, _, hl, _, _ => by simp at hl
  | _ :: _, [], _, hl, _, _ => by simp at hl
  | t :: l, t' :: l', a, hn, h, h' => by
    obtain ⟨g, o, v0, v1, v2, e, _, _, c0, c1, c2, ht, hl⟩ := h
    obtain ⟨g', o', v0', v1', v2', e', _, _, c0', c1', c2', ht', hl'⟩ := h'
    rw [e] at e'
    simp only [Option.some.injEq, Addr.mk.injEq, and_true] at e'
    obtain ⟨rfl, rfl⟩ := e'
    rw [c0] at c0'
    rw [c1] at c1'
    rw [c2] at c2'
    cases c0'; cases c1'; cases c2'
    rw [Rd.one t t' _ ht ht', RdL.one l l' _ (by simpa using hn) hl hl']
end
/-- The value reads as the tree, by what lies there. -/
def Sx (w : World) (t : Tree) (v : Value) : Prop := Rd w (fun b => w.heap.size ≤ b) t v
def SxL (w : World) (l : List Tree) (a : Option Addr) : Prop := RdL w (fun b => w.heap.size ≤ b) l a
theorem Rd.sx {w : World} {bad : Nat → Prop} {t : Tree} {v : Value} (h : Rd w bad t v) : Sx w t v := Rd.mono (fun b hb hs => by omega) t v h
theorem RdL.sx {w : World} {bad : Nat → Prop} {l : List Tree} {a : Option Addr} (h : RdL w bad l a) : SxL w l a := RdL.mono (fun b hb hs => by omega) l a h
theorem Sx.below {w w' : World} {t : Tree} {v : Value} (h : Sx w t v) (hb : Below w.heap.size w w') : Sx w' t v :=
  (Rd.keep (w' := w') (fun b hn _ => hb.block b (by omega)) t v h).sx
theorem SxL.below {w w' : World} {l : List Tree} {a : Option Addr} (h : SxL w l a) (hb : Below w.heap.size w w') : SxL w' l a :=
  (RdL.keep (w' := w') (fun b hn _ => hb.block b (by omega)) l a h).sx
/-- What is read below B. -/
theorem Sx.at {w : World} {t : Tree} {v : Value} (h : Sx w t v) : Rd w (fun b => w.heap.size ≤ b) t v := h
theorem Rd.below {w w' : World} {B : Nat} {t : Tree} {v : Value} (h : Rd w (fun b => B ≤ b) t v) (hb : Below B w w') : Rd w' (fun b => B ≤ b) t v :=
  Rd.keep (fun b hn _ => hb.block b (by omega)) t v h
theorem RdL.below {w w' : World} {B : Nat} {l : List Tree} {a : Option Addr} (h : RdL w (fun b => B ≤ b) l a) (hb : Below B w w') : RdL w' (fun b => B ≤ b) l a :=
  RdL.keep (fun b hn _ => hb.block b (by omega)) l a h
/-- The i-th of a row. -/
theorem RdL.get {w : World} {bad : Nat → Prop} : ∀ (l : List Tree) (g o : Nat) (i : Nat) (t : Tree), RdL w bad l (some ⟨g, o, none⟩) → l[i]? = some t →
    ¬ bad g ∧ ∃ v0 v1 v2, w.cell? ⟨g, o + i * 3, none⟩ = some v0 ∧ w.cell? ⟨g, o + i * 3 + 1, none⟩ = some v1 ∧ w.cell? ⟨g, o + i * 3 + 1 + 1, none⟩ = some v2 ∧ Rd w bad t (.agg #[v0, v1, v2])
  | [], _, _, _, _, _, h => by simp at h
  | t' :: l, g, o, 0, t, h, hi => by
    obtain ⟨g', o', v0, v1, v2, e, hb, fz, c0, c1, c2, ht, _⟩ := h
    simp only [Option.some.injEq, Addr.mk.injEq, and_true] at e
    obtain ⟨rfl, rfl⟩ := e
    simp at hi
    subst hi
    exact ⟨hb, v0, v1, v2, by simpa using c0, by simpa using c1, by simpa using c2, ht⟩
  | t' :: l, g, o, i + 1, t, h, hi => by
    obtain ⟨g', o', v0, v1, v2, e, hb, fz, c0, c1, c2, _, hl⟩ := h
    simp only [Option.some.injEq, Addr.mk.injEq, and_true] at e
    obtain ⟨rfl, rfl⟩ := e
    have := RdL.get l g (o + 3) i t hl (by simpa using hi)
    have e : o + 3 + i * 3 = o + (i + 1) * 3 := by omega
    rw [e] at this
    exact this
theorem RdL.drop {w : World} {bad : Nat → Prop} : ∀ (l : List Tree) (g o : Nat) (i : Nat), RdL w bad l (some ⟨g, o, none⟩) → RdL w bad (l.drop i) (some ⟨g, o + i * 3, none⟩)
  | l, g, o, 0, h => by simpa using h
  | [], _, _, _ + 1, _ => by simp [RdL]
  | t' :: l, g, o, i + 1, h => by
    obtain ⟨g', o', v0, v1, v2, e, hb, fz, c0, c1, c2, _, hl⟩ := h
    simp only [Option.some.injEq, Addr.mk.injEq, and_true] at e
    obtain ⟨rfl, rfl⟩ := e
    have := RdL.drop l g (o + 3) i hl
    have e : o + 3 + i * 3 = o + (i + 1) * 3 := by omega
    rw [e] at this
    simpa using this
/-- No block that is read bears a frozen range. -/
def Clean (w : World) (bad : Nat → Prop) : Prop := ∀ b, ¬ bad b → b < w.heap.size → ∃ cs ty, w.heap[b]? = some (.cells cs ty (0, 0))
end Go.Proofs.YtpppfghdjbmbgaaGreatDoor
