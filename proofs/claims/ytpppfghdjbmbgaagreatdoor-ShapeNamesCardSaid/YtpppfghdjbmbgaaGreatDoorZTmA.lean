/- Nodes and tables as plain data, and what it is that memory reads as one. -/
import Derived.Test.YtpppfghdjbmbgaaGreatDoorProg
import Derived.Test.YtpppfghdjbmbgaaGreatDoorZTk
import Derived.Test.YtpppfghdjbmbgaaGreatDoorZNumMay
namespace Go.Proofs.YtpppfghdjbmbgaaGreatDoor.Tm
open Go.RowKit
/-- The flat list of values lies at an address, in a block below B. -/
def At (w : World) (B : Nat) (L : List Value) (a : Option Addr) : Prop :=
  0 < L.length → ∃ g o : Nat, a = some ⟨g, o, none⟩ ∧ g < B ∧ ∀ (i : Nat) (v : Value), L[i]? = some v → w.cell? ⟨g, o + i, none⟩ = some v
theorem At.below {w w' : World} {B : Nat} {L : List Value} {a : Option Addr} (h : At w B L a) (hb : Below B w w') : At w' B L a := by
  intro h0
  obtain ⟨g, o, e, hg, hc⟩ := h h0
  exact ⟨g, o, e, hg, fun i v hv => (hb.cell (p := ⟨g, o + i, none⟩) hg).trans (hc i v hv)⟩
theorem At.more {w : World} {B B' : Nat} {L : List Value} {a : Option Addr} (h : At w B L a) (hB : B ≤ B') : At w B' L a := by
  intro h0
  obtain ⟨g, o, e, hg, hc⟩ := h h0
  exact ⟨g, o, e, by omega, hc⟩
theorem At.take {w : World} {B : Nat} {L : List Value} {a : Option Addr} (h : At w B L a) (k : Nat) : At w B (L.take k) a := by
  intro h0
  obtain ⟨g, o, e, hg, hc⟩ := h (by simp at h0; omega)
  refine ⟨g, o, e, hg, fun i v hv => hc i v ?_⟩
  rw [List.getElem?_take] at hv
  split at hv
  · exact hv
  · cases hv
theorem At.heap {w w' : World} {B : Nat} {L : List Value} {a : Option Addr} (h : At w B L a) (hk : ∀ g o, a = some ⟨g, o, none⟩ → w'.heap[g]? = w.heap[g]?) : At w' B L a := by
  intro h0
  obtain ⟨g, o, e, hg, hc⟩ := h h0
  exact ⟨g, o, e, hg, fun i v hv => (World.cell?_of_block (a := ⟨g, o + i, none⟩) (hk g o e)).trans (hc i v hv)⟩
/-- A place in a list put together of pieces of one length. -/
theorem get_flat {α : Type} {f : α → List Value} {n : Nat} (hn : ∀ x, (f x).length = n) : ∀ (l : List α) (k j : Nat) (x : α), l[k]? = some x → j < n → (l.flatMap f)[k * n + j]? = (f x)[j]?
  | [], k, j, x, h, _ => by simp at h
  | y :: r, 0, j, x, h, hj => by
    simp at h
    subst h
    simp only [List.flatMap_cons, Nat.zero_mul, Nat.zero_add]
    exact List.getElem?_append_left (by rw [hn]; exact hj)
  | y :: r, k + 1, j, x, h, hj => by
    simp only [List.flatMap_cons]
    rw [List.getElem?_append_right (by rw [hn, Nat.succ_mul]; omega), hn]
    have e : (k + 1) * n + j - n = k * n + j := by rw [Nat.succ_mul]; omega
    rw [e]
    exact get_flat hn r k j x (by simpa using h) hj
theorem len_flat {α : Type} {f : α → List Value} {n : Nat} (hn : ∀ x, (f x).length = n) : ∀ (l : List α), (l.flatMap f).length = l.length * n
  | [] => by simp
  | y :: r => by simp only [List.flatMap_cons, List.length_append, hn, len_flat hn r, List.length_cons, Nat.succ_mul]; omega
theorem take_flat {α : Type} {f : α → List Value} {n : Nat} (hn : ∀ x, (f x).length = n) : ∀ (l : List α) (k : Nat), (l.take k).flatMap f = (l.flatMap f).take (k * n)
  | [], k => by simp
  | y :: r, 0 => by simp
  | y :: r, k + 1 => by
    simp only [List.take_succ_cons, List.flatMap_cons]
    rw [take_flat hn r k, List.take_append, hn]
    have e : (k + 1) * n - n = k * n := by rw [Nat.succ_mul]; omega
    have e2 : (f y).take ((k + 1) * n) = f y := List.take_of_length_le (by rw [hn, Nat.succ_mul]; omega)
    rw [e, e2]
structure NodeA where
  op : Int
  len : Int
  a0 : Int
  a1 : Int
  a2 : Int
  sort : Int
  fn : Int
  num : Int
theorem NodeA.same {x y : NodeA} (h0 : x.op = y.op) (h1 : x.len = y.len) (h2 : x.a0 = y.a0) (h3 : x.a1 = y.a1) (h4 : x.a2 = y.a2) (h5 : x.sort = y.sort) (h6 : x.fn = y.fn) (h7 : x.num = y.num) : x = y := by
  cases x; cases y; simp_all
instance : DecidableEq NodeA := fun x y => decidable_of_iff (x.op = y.op ∧ x.len = y.len ∧ x.a0 = y.a0 ∧ x.a1 = y.a1 ∧ x.a2 = y.a2 ∧ x.sort = y.sort ∧ x.fn = y.fn ∧ x.num = y.num)
  ⟨fun ⟨h0, h1, h2, h3, h4, h5, h6, h7⟩ => NodeA.same h0 h1 h2 h3 h4 h5 h6 h7, fun h => by subst h; exact ⟨rfl, rfl, rfl, rfl, rfl, rfl, rfl, rfl⟩⟩
def nodeC (n : NodeA) : List Value := [.int .i8 n.op, .int .i8 n.len, .int .i64 n.a0, .int .i64 n.a1, .int .i64 n.a2, .int .i64 n.sort, .int .i64 n.fn, .int .i64 n.num]
theorem nodeC_len (n : NodeA) : (nodeC n).length = 8 := rfl
def I8 (x : Int) : Prop := -128 ≤ x ∧ x ≤ 127
structure NodeOk (n : NodeA) : Prop where
  op : I8 n.op
  len : I8 n.len
  a0 : I64 n.a0
  a1 : I64 n.a1
  a2 : I64 n.a2
  sort : I64 n.sort
  fn : I64 n.fn
  num : I64 n.num
/-- A table reads as l. -/
structure TabR (w : World) (l : List NodeA) (a : Option Addr) (c : Nat) : Prop where
  le : l.length ≤ c
  cap : c ≤ maxLen
  tat : At w w.heap.size (l.flatMap nodeC) a
  ok : ∀ n ∈ l, NodeOk n
theorem TabR.below {w w' : World} {l : List NodeA} {a : Option Addr} {c : Nat} (h : TabR w l a c) (hb : Below w.heap.size w w') : TabR w' l a c :=
  ⟨h.le, h.cap, (h.tat.below hb).more hb.size, h.ok⟩
/-- The cells of one node of a table. -/
theorem TabR.node {w : World} {l : List NodeA} {a : Option Addr} {c k : Nat} {n : NodeA} (h : TabR w l a c) (hk : l[k]? = some n) : ∃ g o : Nat, a = some ⟨g, o, none⟩ ∧ g < w.heap.size ∧
    w.cell? ⟨g, o + k * 8, none⟩ = some (.int .i8 n.op) ∧ w.cell? ⟨g, o + k * 8 + 1, none⟩ = some (.int .i8 n.len) ∧ w.cell? ⟨g, o + k * 8 + 2, none⟩ = some (.int .i64 n.a0) ∧ w.cell? ⟨g, o + k * 8 + 3, none⟩ = some (.int .i64 n.a1) ∧ w.cell? ⟨g, o + k * 8 + 4, none⟩ = some (.int .i64 n.a2) ∧ w.cell? ⟨g, o + k * 8 + 5, none⟩ = some (.int .i64 n.sort) ∧ w.cell? ⟨g, o + k * 8 + 6, none⟩ = some (.int .i64 n.fn) ∧ w.cell? ⟨g, o + k * 8 + 7, none⟩ = some (.int .i64 n.num) := by
  have hlt := (List.getElem?_eq_some_iff.1 hk).1
  obtain ⟨g, o, e, hg, hc⟩ := h.tat (by rw [len_flat nodeC_len]; omega)
  have c0 := hc _ _ ((get_flat nodeC_len l k 0 n hk (by omega)).trans rfl)
  have c1 := hc _ _ ((get_flat nodeC_len l k 1 n hk (by omega)).trans rfl)
  have c2 := hc _ _ ((get_flat nodeC_len l k 2 n hk (by omega)).trans rfl)
  have c3 := hc _ _ ((get_flat nodeC_len l k 3 n hk (by omega)).trans rfl)
  have c4 := hc _ _ ((get_flat nodeC_len l k 4 n hk (by omega)).trans rfl)
  have c5 := hc _ _ ((get_flat nodeC_len l k 5 n hk (by omega)).trans rfl)
  have c6 := hc _ _ ((get_flat nodeC_len l k 6 n hk (by omega)).trans rfl)
  have c7 := hc _ _ ((get_flat nodeC_len l k 7 n hk (by omega)).trans rfl)
  exact ⟨g, o, e, hg, c0, c1, c2, c3, c4, c5, c6, c7⟩
/-- How many arguments a node of a kind has: -1 any, -2 there is no such kind. -/
def arityA (op : Int) : Int := if op = 0 ∨ op = 10 then 0 else if op = 1 ∨ op = 11 then 1 else if op = 2 ∨ op = 3 ∨ op = 4 ∨ op = 5 ∨ op = 6 ∨ op = 8 ∨ op = 9 ∨ op = 12 then 2 else if op = 7 then 3 else if op = 13 then -1 else -2
def lensL : List Int := [0, 1, 2, 2, 2, 2, 2, 3, 2, 2, 0, 1, 2, 3]
/-- The kind is one, and has as many arguments, a function and a number as it may. -/
def FitsP (n : NodeA) : Prop :=
  0 ≤ n.op ∧ n.op < 14 ∧ (if n.op = 13 then 0 ≤ n.len ∧ n.len ≤ 3 ∧ 0 ≤ n.fn ∧ n.fn < 12 ∧ n.num = 0
    else if n.op = 10 ∨ n.op = 11 ∨ n.op = 12 then n.len = arityA n.op ∧ n.fn = 0 ∧ mayB n.num = true
    else n.len = arityA n.op ∧ n.fn = 0 ∧ n.num = 0)
instance (n : NodeA) : Decidable (FitsP n) := by unfold FitsP; infer_instance
/-- An argument at place i of a node that has len of them, to stand at a place. -/
def ArgP (len a : Int) (i : Nat) (at_ : Nat) : Prop := ((i : Int) < len → 0 ≤ a ∧ a < at_) ∧ (len ≤ i → a = 0)
instance (len a : Int) (i at_ : Nat) : Decidable (ArgP len a i at_) := by unfold ArgP; infer_instance
def StandsP (n : NodeA) (at_ : Nat) : Prop := FitsP n ∧ (0 ≤ n.sort ∧ n.sort < 6) ∧ ArgP n.len n.a0 0 at_ ∧ ArgP n.len n.a1 1 at_ ∧ ArgP n.len n.a2 2 at_
instance (n : NodeA) (at_ : Nat) : Decidable (StandsP n at_) := by unfold StandsP; infer_instance
def standsB (n : NodeA) (at_ : Nat) : Bool := decide (StandsP n at_)
def trueN : NodeA := ⟨0, 0, 0, 0, 0, 0, 0, 0⟩
def zeroN : NodeA := ⟨10, 0, 0, 0, 0, 1, 0, 0⟩
def newL : List NodeA := [trueN, zeroN]
/-- Each stands, and is not among those ahead. -/
def okFrom (ahead : List NodeA) : List NodeA → Bool
  | [] => true
  | y :: r => standsB y ahead.length && (!decide (y ∈ ahead) && okFrom (ahead ++ [y]) r)
/-- The table may be. -/
def mayT (l : List NodeA) : Bool := decide (l.take 2 = newL) && okFrom [] l
theorem okFrom_append : ∀ (l m a : List NodeA), okFrom a (l ++ m) = (okFrom a l && okFrom (a ++ l) m)
  | [], m, a => by simp [okFrom]
  | y :: r, m, a => by
    simp only [List.cons_append, okFrom]
    rw [okFrom_append r m, List.append_assoc]
    simp only [Bool.and_assoc]; rfl
theorem okFrom_snoc (l : List NodeA) (y : NodeA) : okFrom [] (l ++ [y]) = (okFrom [] l && (standsB y l.length && !decide (y ∈ l))) := by
  rw [okFrom_append]; simp [okFrom]
theorem ok_take {l : List NodeA} (h : okFrom [] l = true) (k : Nat) : okFrom [] (l.take k) = true := by
  have : okFrom [] (l.take k ++ l.drop k) = true := by rw [List.take_append_drop]; exact h
  rw [okFrom_append, Bool.and_eq_true] at this
  exact this.1
theorem ok_no {l : List NodeA} {k : Nat} (h : okFrom [] (l.take k) = false) : okFrom [] l = false := by
  cases hl : okFrom [] l with
  | false => rfl
  | true => rw [ok_take hl k] at h; cases h
theorem take_snoc {α : Type} {l : List α} {k : Nat} {y : α} (h : l[k]? = some y) : l.take (k + 1) = l.take k ++ [y] := by
  rw [List.take_add_one, h]; rfl
theorem ok_next {l : List NodeA} {k : Nat} {y : NodeA} (hk : l[k]? = some y) (h : okFrom [] (l.take k) = true) : okFrom [] (l.take (k + 1)) = (standsB y k && !decide (y ∈ l.take k)) := by
  have hlt := (List.getElem?_eq_some_iff.1 hk).1
  rw [take_snoc hk, okFrom_snoc, h, Bool.true_and, List.length_take, Nat.min_eq_left (by omega)]
/-- What holds in a table that may be, at each place. -/
theorem ok_at {l : List NodeA} (h : okFrom [] l = true) {k : Nat} {y : NodeA} (hk : l[k]? = some y) : standsB y k = true ∧ ∀ j, j < k → l[j]? ≠ some y := by
  have h1 := ok_take h (k + 1)
  rw [ok_next hk (ok_take h k), Bool.and_eq_true] at h1
  refine ⟨h1.1, fun j hj e => ?_⟩
  have : y ∈ l.take k := by
    refine List.mem_of_getElem? (i := j) ?_
    rw [List.getElem?_take, if_pos hj]; exact e
  simp [this] at h1
/-- The place of the first that is n; how many there are, if none is. -/
def fndN (l : List NodeA) (n : NodeA) : Nat := l.findIdx (fun x => decide (x = n))
theorem fndN_lt {l : List NodeA} {n : NodeA} : n ∈ l ↔ fndN l n < l.length := by
  unfold fndN
  rw [List.findIdx_lt_length]
  simp
theorem fndN_get {l : List NodeA} {n : NodeA} (h : n ∈ l) : l[fndN l n]? = some n := by
  have hlt := fndN_lt.1 h
  rw [List.getElem?_eq_getElem hlt]
  have := List.findIdx_getElem (w := hlt)
  rw [decide_eq_true_eq] at this
  exact congrArg some this
theorem mayT_ok {l : List NodeA} (h : mayT l = true) : l.take 2 = newL ∧ okFrom [] l = true := by
  unfold mayT at h
  rw [Bool.and_eq_true, decide_eq_true_eq] at h
  exact h
theorem mayT_len {l : List NodeA} (h : mayT l = true) : 2 ≤ l.length := by
  have := congrArg List.length (mayT_ok h).1
  rw [List.length_take] at this
  have e : newL.length = 2 := rfl
  omega
theorem mayT_snoc {l : List NodeA} {n : NodeA} (h : mayT l = true) (hs : standsB n l.length = true) (hn : n ∉ l) : mayT (l ++ [n]) = true := by
  have hl := mayT_len h
  obtain ⟨h1, h2⟩ := mayT_ok h
  unfold mayT
  rw [okFrom_snoc, h2, hs, List.take_append_of_le_length hl, h1]
  simp [hn]
end Go.Proofs.YtpppfghdjbmbgaaGreatDoor.Tm
