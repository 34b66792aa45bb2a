/- Rows of numbers in memory: what a walk is told of them. -/
import Derived.Test.YtggighikemhnfaaDoorProg
import Derived.Test.YtggighikemhnfaaDoorAid
import Derived.Laws.MakeOwn
import Derived.Laws.OwnMore
import Derived.Deep.AppendLies
import Derived.Deep.OwnRows
import Derived.BigQuiet
namespace Go.Proofs.YtggighikemhnfaaDoor.Tm
open Go.RowKit
set_option linter.unusedVariables false
def I8 (x : Int) : Prop := -128 ≤ x ∧ x ≤ 127
theorem eq_t {a b : Int} (h : a = b) : (a == b) = true := by simp [h]
theorem eq_f {a b : Int} (h : a ≠ b) : (a == b) = false := by simp [h]
theorem ne_f {a b : Int} (h : a = b) : (a != b) = false := by simp [h]
theorem ne_t {a b : Int} (h : a ≠ b) : (a != b) = true := by simp [h]
theorem below_drewN {B : Nat} {w w' : World} (h : Below B w w') {k : Nat} : Below B w (w'.drewN k) := ⟨h.os, h.tape, h.output, h.size, h.block⟩
theorem ball {w w1 w2 : World} (h : Below w.heap.size w w1) (k : Below w1.heap.size w1 w2) : Below w.heap.size w w2 := h.trans (k.mono h.size)
/-- The flat list of values lies at an address, in a block below B. -/
def At (w : World) (B : Nat) (L : List Value) (a : Option Addr) : Prop :=
  0 < L.length → ∃ g o : Nat, a = some ⟨g, o, none⟩ ∧ g < B ∧ ∀ (i : Nat) (v : Value), L[i]? = some v → w.cell? ⟨g, o + i, none⟩ = some v
theorem At.below {w w' : World} {B : Nat} {L : List Value} {a : Option Addr} (h : At w B L a) (hb : Below B w w') : At w' B L a := by
  intro h0
  obtain ⟨g, o, e, hg, hc⟩ := h h0
  exact ⟨g, o, e, hg, fun i v hv => (hb.cell (p := ⟨g, o + i, none⟩) hg).trans (hc i v hv)⟩
theorem At.more {w : World} {B B' : Nat} {L : List Value} {a : Option Addr} (h : At w B L a) (hB : B ≤ B') : At w B' L a := by
  intro h0
  obtain ⟨g, o, e, hg, hc⟩ := h h0
  exact ⟨g, o, e, by omega, hc⟩
theorem At.take {w : World} {B : Nat} {L : List Value} {a : Option Addr} (h : At w B L a) (k : Nat) : At w B (L.take k) a := by
  intro h0
  obtain ⟨g, o, e, hg, hc⟩ := h (by simp at h0; omega)
  refine ⟨g, o, e, hg, fun i v hv => hc i v ?_⟩
  rw [List.getElem?_take] at hv
  split at hv
  · exact hv
  · cases hv
theorem At.heap {w w' : World} {B : Nat} {L : List Value} {a : Option Addr} (h : At w B L a) (hk : ∀ g o, a = some ⟨g, o, none⟩ → w'.heap[g]? = w.heap[g]?) : At w' B L a := by
  intro h0
  obtain ⟨g, o, e, hg, hc⟩ := h h0
  exact ⟨g, o, e, hg, fun i v hv => (World.cell?_of_block (a := ⟨g, o + i, none⟩) (hk g o e)).trans (hc i v hv)⟩
/-- A place in a list put together of pieces of one length. -/
theorem get_flat {α : Type} {f : α → List Value} {n : Nat} (hn : ∀ x, (f x).length = n) : ∀ (l : List α) (k j : Nat) (x : α), l[k]? = some x → j < n → (l.flatMap f)[k * n + j]? = (f x)[j]?
  | [], k, j, x, h, _ => by simp at h
  | y :: r, 0, j, x, h, hj => by
    simp at h
    subst h
    simp only [List.flatMap_cons, Nat.zero_mul, Nat.zero_add]
    exact List.getElem?_append_left (by rw [hn]; exact hj)
  | y :: r, k + 1, j, x, h, hj => by
    simp only [List.flatMap_cons]
    rw [List.getElem?_append_right (by rw [hn, Nat.succ_mul]; omega), hn]
    have e : (k + 1) * n + j - n = k * n + j := by rw [Nat.succ_mul]; omega
    rw [e]
    exact get_flat hn r k j x (by simpa using h) hj
theorem len_flat {α : Type} {f : α → List Value} {n : Nat} (hn : ∀ x, (f x).length = n) : ∀ (l : List α), (l.flatMap f).length = l.length * n
  | [] => by simp
  | y :: r => by simp only [List.flatMap_cons, List.length_append, hn, len_flat hn r, List.length_cons, Nat.succ_mul]; omega
theorem take_flat {α : Type} {f : α → List Value} {n : Nat} (hn : ∀ x, (f x).length = n) : ∀ (l : List α) (k : Nat), (l.take k).flatMap f = (l.flatMap f).take (k * n)
  | [], k => by simp
  | y :: r, 0 => by simp
  | y :: r, k + 1 => by
    simp only [List.take_succ_cons, List.flatMap_cons]
    rw [take_flat hn r k, List.take_append, hn]
    have e : (k + 1) * n - n = k * n := by rw [Nat.succ_mul]; omega
    have e2 : (f y).take ((k + 1) * n) = f y := List.take_of_length_le (by rw [hn, Nat.succ_mul]; omega)
    rw [e, e2]
/-- Integers lie in a slice. -/
structure IntsR (w : World) (xs : List Int) (a : Option Addr) (c : Nat) : Prop where
  le : xs.length ≤ c
  cap : c ≤ maxLen
  tat : At w w.heap.size (xs.map (Value.int .i64)) a
  ok : ∀ x ∈ xs, I64 x
theorem IntsR.below {w w' : World} {xs : List Int} {a : Option Addr} {c : Nat} (h : IntsR w xs a c) (hb : Below w.heap.size w w') : IntsR w' xs a c :=
  ⟨h.le, h.cap, (h.tat.below hb).more hb.size, h.ok⟩
theorem IntsR.cell {w : World} {xs : List Int} {a : Option Addr} {c k : Nat} {x : Int} (h : IntsR w xs a c) (hk : xs[k]? = some x) : ∃ g o : Nat, a = some ⟨g, o, none⟩ ∧ g < w.heap.size ∧ w.cell? ⟨g, o + k, none⟩ = some (.int .i64 x) := by
  have hlt := (List.getElem?_eq_some_iff.1 hk).1
  obtain ⟨g, o, e, hg, hc⟩ := h.tat (by simp; omega)
  exact ⟨g, o, e, hg, hc k _ (by rw [List.getElem?_map, hk]; rfl)⟩
theorem IntsR.nil (w : World) (c : Nat) (hc : c ≤ maxLen) (a : Option Addr) : IntsR w [] a c := ⟨Nat.zero_le _, hc, fun h => absurd h (by simp), fun _ h => by simp at h⟩
/-- A row of one's own. -/
theorem ints_row {w : World} {b : Nat} {xs : List Int} {ty : TypeId} (h : w.heap[b]? = some (.cells ⟨xs.map (Value.int .i64)⟩ ty (0, 0))) (hok : ∀ x ∈ xs, I64 x) (hm : xs.length ≤ 3000) : IntsR w xs (some ⟨b, 0, none⟩) xs.length := by
  refine ⟨Nat.le_refl _, by unfold maxLen; omega, fun _ => ⟨b, 0, rfl, (Array.getElem?_eq_some_iff.1 h).1, fun i v hv => ?_⟩, hok⟩
  rw [Nat.zero_add, cell_of_row w b i _ _ _ h, ← Array.getElem?_toList]
  exact hv
theorem own_heap {w w' : World} {base size n : Nat} {E : TypeId} {v : Value} {L : List Value} (h : w.ownsRow base E size v n L) (hk : ∀ g, base ≤ g → g < w.heap.size → w'.heap[g]? = w.heap[g]?) : w'.ownsRow base E size v n L := by
  refine ⟨h.1, ?_⟩
  rcases h.2 with h1 | ⟨g, cap, cur, e, h1, h2, h3⟩
  · exact .inl h1
  · exact .inr ⟨g, cap, cur, e, h1, (hk g h1 (Array.getElem?_eq_some_iff.1 h2).1).trans h2, h3⟩
theorem own_base {w : World} {base base' size n : Nat} {E : TypeId} {v : Value} {L : List Value} (h : w.ownsRow base E size v n L) (hb : base' ≤ base) : w.ownsRow base' E size v n L := by
  refine ⟨h.1, ?_⟩
  rcases h.2 with h1 | ⟨g, cap, cur, e, h1, h2, h3⟩
  · exact .inl h1
  · exact .inr ⟨g, cap, cur, e, by omega, h2, h3⟩
theorem own_at {w : World} {base size n : Nat} {E : TypeId} {v : Value} {L : List Value} (h : w.ownsRow base E size v n L) : ∃ a c, v = .slice a n c ∧ n ≤ c ∧ c ≤ maxLen ∧ At w w.heap.size L a ∧ (0 < n → ∃ g, a = some ⟨g, 0, none⟩ ∧ base ≤ g ∧ g < w.heap.size) := by
  rcases h.2 with ⟨rfl, rfl⟩ | ⟨g, cap, cur, rfl, h1, h2, h3, h4, h5, h6⟩
  · refine ⟨none, 0, rfl, Nat.le_refl _, Nat.zero_le _, fun h0 => ?_, fun h0 => absurd h0 (by omega)⟩
    have := h.1
    omega
  · have hlt := (Array.getElem?_eq_some_iff.1 h2).1
    have hc : ∀ (i : Nat) (u : Value), L[i]? = some u → w.cell? ⟨g, i, none⟩ = some u := fun i u hu => by
      rw [← h6, List.getElem?_take] at hu
      split at hu
      · have := cell_of_row w g i _ _ _ h2
        rw [this, ← Array.getElem?_toList]
        exact hu
      · cases hu
    exact ⟨_, cap, rfl, h3, h4, fun _ => ⟨g, 0, rfl, hlt, fun i v hv => by rw [Nat.zero_add]; exact hc i v hv⟩, fun _ => ⟨g, rfl, h1, hlt⟩⟩
theorem info_int : (Tryd.prog.info? 3).map (fun i => (i.zero, i.size, i.bytes)) = some (some (.int .i64 0), 1, 8) := by kernel_rfl
theorem own_lt {w : World} {base size n : Nat} {E : TypeId} {v : Value} {L : List Value} (h : w.ownsRow base E size v n L) {g : Nat} (hg : v.ownBlock = some g) : base ≤ g ∧ g < w.heap.size := by
  rcases h.2 with ⟨rfl, _⟩ | ⟨g', cap, cur, rfl, h1, h2, _⟩
  · cases hg
  · obtain rfl : g' = g := by simpa [Value.ownBlock] using hg
    exact ⟨h1, (Array.getElem?_eq_some_iff.1 h2).1⟩
theorem below_pushP {W V V2 : World} {o : Obj} {B : Nat} {e : TypeId} {size n : Nat} {v : Value} {xs : List Value} (hB : W.heap.size ≤ B) (h : Below W.heap.size W V) (hown : V.ownsRow B e size v n xs) (hg : (V.alloc o).grownBy V2 v.ownBlock) : Below W.heap.size W V2 := by
  have h3 := hg.size
  have h4 := h.size
  have h2 : (V.alloc o).heap.size = V.heap.size + 1 := by simp
  exact ⟨hg.os.trans h.os, hg.tape.trans h.tape, hg.output.trans h.output, by omega, fun k hk => (hg.block k (by omega) (fun e' => by have := (own_lt hown e'.symm).1; omega)).trans ((Below.heap_alloc V o k (by omega)).trans (h.block k hk))⟩
/-- A row of places of one's own. -/
def RowO (w : World) (base : Nat) (xs : List Int) (v : Value) : Prop := w.ownsRow base 3 1 v xs.length (xs.map (Value.int .i64))
theorem RowO.ints {w : World} {base : Nat} {xs : List Int} {v : Value} (h : RowO w base xs v) (hok : ∀ x ∈ xs, I64 x) : ∃ a c, v = .slice a xs.length c ∧ IntsR w xs a c := by
  obtain ⟨a, c, e, h1, h2, h3, _⟩ := own_at h
  exact ⟨a, c, e, h1, h2, h3, hok⟩
theorem RowO.keep {w w' : World} {base : Nat} {xs : List Int} {v : Value} (h : RowO w base xs v) (hb : Below w.heap.size w w') : RowO w' base xs v := own_heap h (fun g _ hg => hb.block g hg)
theorem RowO.base {w : World} {base base' : Nat} {xs : List Int} {v : Value} (h : RowO w base xs v) (hb : base' ≤ base) : RowO w base' xs v := own_base h hb
end Go.Proofs.YtggighikemhnfaaDoor.Tm
