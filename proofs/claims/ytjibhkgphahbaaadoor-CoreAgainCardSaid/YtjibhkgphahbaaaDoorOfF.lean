/- Package offset's node and put. -/
import Derived.Test.YtjibhkgphahbaaaDoorOfA
import Derived.Test.YtjibhkgphahbaaaDoorOfB
import Derived.ScopeJumps
import Derived.WalkMore
import Derived.Deep.RegionHeld3
namespace Go.Proofs.YtjibhkgphahbaaaDoor.Tm
open Go.RowKit
set_option linter.unusedVariables false
/-- From a place on: the base, and what the sum has come to. -/
def rootP (l : List NodeA) : Nat → Nat → Int × Int → Nat × (Int × Int)
  | 0, k, s => (k, s)
  | f + 1, k, s => match l[k]? with
    | none => (k, s)
    | some n => if n.op = 10 then (1, stepA s n.num) else if n.op = 11 then rootP l f n.a0.toNat (stepA s n.num) else (k, s)
theorem rootP_num {l : List NodeA} {f k : Nat} {s : Int × Int} {n : NodeA} (h : l[k]? = some n) (ho : n.op = 10) : rootP l (f + 1) k s = (1, stepA s n.num) := by
  simp only [rootP, h]; rw [if_pos ho]
theorem rootP_add {l : List NodeA} {f k : Nat} {s : Int × Int} {n : NodeA} (h : l[k]? = some n) (ho : n.op = 11) : rootP l (f + 1) k s = rootP l f n.a0.toNat (stepA s n.num) := by
  simp only [rootP, h]; rw [if_neg (by omega), if_pos ho]
theorem rootP_end {l : List NodeA} {f k : Nat} {s : Int × Int} {n : NodeA} (h : l[k]? = some n) (h0 : ¬ n.op = 10) (h1 : ¬ n.op = 11) : rootP l (f + 1) k s = (k, s) := by
  simp only [rootP, h]; rw [if_neg h0, if_neg h1]
theorem stepA_i64 {s : Int × Int} {b : Int} (h : I64 s.1) : I64 (stepA s b).1 := by
  unfold stepA
  split
  · exact addV_i64
  · exact h
/-- An OpAdd that may stand: one argument, which lies ahead. -/
theorem stands_add {n : NodeA} {k : Nat} (h : standsB n k = true) (ho : n.op = 11) : 0 ≤ n.a0 ∧ n.a0 < k ∧ mayB n.num = true ∧ n.len = 1 ∧ n.a1 = 0 ∧ n.a2 = 0 ∧ n.fn = 0 := by
  unfold standsB at h
  rw [decide_eq_true_eq] at h
  obtain ⟨⟨_, _, h3⟩, _, h4, h5, h6⟩ := h
  rw [if_neg (by omega), if_pos (by omega)] at h3
  obtain ⟨h7, h8, h9⟩ := h3
  have h10 : n.len = 1 := by rw [h7]; unfold arityA; rw [if_neg (by omega), if_pos (by omega)]
  have := h4.1 (by omega)
  exact ⟨this.1, this.2, h9, h10, h5.2 (by omega), h6.2 (by omega), h8⟩
theorem stands_num {n : NodeA} {k : Nat} (h : standsB n k = true) (ho : n.op = 10) : mayB n.num = true ∧ n.len = 0 ∧ n.a0 = 0 ∧ n.a1 = 0 ∧ n.a2 = 0 ∧ n.fn = 0 := by
  unfold standsB at h
  rw [decide_eq_true_eq] at h
  obtain ⟨⟨_, _, h3⟩, _, h4, h5, h6⟩ := h
  rw [if_neg (by omega), if_pos (by omega)] at h3
  obtain ⟨h7, h8, h9⟩ := h3
  have h10 : n.len = 0 := by rw [h7]; unfold arityA; rw [if_pos (by omega)]
  exact ⟨h9, h10, h4.2 (by omega), h5.2 (by omega), h6.2 (by omega), h8⟩
/-- With enough ahead it makes no difference how much. -/
theorem rootP_more {l : List NodeA} (hok : okFrom [] l = true) : ∀ (f g k : Nat) (s : Int × Int), k < f → k < g → rootP l f k s = rootP l g k s
  | 0, g, k, s, h, _ => by omega
  | f + 1, 0, k, s, _, h => by omega
  | f + 1, g + 1, k, s, hf, hg => by
    unfold rootP
    cases hn : l[k]? with
    | none => rfl
    | some n =>
      simp only
      by_cases h0 : n.op = 10
      · rw [if_pos h0, if_pos h0]
      rw [if_neg h0, if_neg h0]
      by_cases h1 : n.op = 11
      · rw [if_pos h1, if_pos h1]
        have := stands_add (ok_at hok hn).1 h1
        exact rootP_more hok f g _ _ (by omega) (by omega)
      · rw [if_neg h1, if_neg h1]
def rootA (l : List NodeA) (k : Nat) : Nat × (Int × Int) := rootP l (k + 1) k (0, 0)
end Go.Proofs.YtjibhkgphahbaaaDoor.Tm
namespace Go.Proofs.YtjibhkgphahbaaaDoor.Tm
open Go.RowKit
set_option linter.unusedVariables false
/-- What of tells of a table that may be. -/
def ofP (l : List NodeA) (id : Int) : Int × Int × Int :=
  if id < 0 ∨ l.length ≤ id then (0, 0, 2) else match l[id.toNat]? with
    | none => (0, 0, 2)
    | some n => if n.sort = 1 then (if (rootA l id.toNat).2.2 = 0 then ((rootA l id.toNat).1, (rootA l id.toNat).2.1, 0) else (0, 0, (rootA l id.toNat).2.2)) else (0, 0, 33)
theorem ofP_out {l : List NodeA} {id : Int} (h : id < 0 ∨ l.length ≤ id) : ofP l id = (0, 0, 2) := if_pos h
theorem ofP_sort {l : List NodeA} {k : Nat} {n : NodeA} (h : l[k]? = some n) (hs : ¬ n.sort = 1) : ofP l k = (0, 0, 33) := by
  have hlt := (List.getElem?_eq_some_iff.1 h).1
  unfold ofP
  rw [if_neg (by omega), Int.toNat_natCast, h]
  exact if_neg hs
theorem ofP_err {l : List NodeA} {k : Nat} {n : NodeA} (h : l[k]? = some n) (hs : n.sort = 1) (he : ¬ (rootA l k).2.2 = 0) : ofP l k = (0, 0, (rootA l k).2.2) := by
  have hlt := (List.getElem?_eq_some_iff.1 h).1
  unfold ofP
  rw [if_neg (by omega), Int.toNat_natCast, h]
  simp only
  rw [if_pos hs, if_neg he]
theorem ofP_ok {l : List NodeA} {k : Nat} {n : NodeA} (h : l[k]? = some n) (hs : n.sort = 1) (he : (rootA l k).2.2 = 0) : ofP l k = (((rootA l k).1 : Int), (rootA l k).2.1, 0) := by
  have hlt := (List.getElem?_eq_some_iff.1 h).1
  unfold ofP
  rw [if_neg (by omega), Int.toNat_natCast, h]
  simp only
  rw [if_pos hs, if_pos he]
def OfP (l : List NodeA) (id : Int) : Int × Int × Int := if mayT l = true then ofP l id else (0, 0, 2)
end Go.Proofs.YtjibhkgphahbaaaDoor.Tm
namespace Go.Proofs.YtjibhkgphahbaaaDoor.Tm
open Go.RowKit
set_option linter.unusedVariables false
theorem rootP_i64 (l : List NodeA) : ∀ (f k : Nat) (s : Int × Int), I64 s.1 → I64 (rootP l f k s).2.1
  | 0, k, s, h => h
  | f + 1, k, s, h => by
    unfold rootP
    split
    · exact h
    · split
      · exact stepA_i64 h
      · split
        · exact rootP_i64 l f _ _ (stepA_i64 h)
        · exact h
theorem zero_i64 : I64 0 := ⟨by decide, by decide⟩
theorem rootA_i64 (l : List NodeA) (k : Nat) : I64 (rootA l k).2.1 := rootP_i64 l _ _ _ zero_i64
theorem ofP_i64 (l : List NodeA) (id : Int) : I64 (ofP l id).2.1 := by
  unfold ofP
  split
  · exact zero_i64
  · split
    · exact zero_i64
    · split
      · split
        · exact rootA_i64 _ _
        · exact zero_i64
      · exact zero_i64
theorem OfP_i64 (l : List NodeA) (id : Int) : I64 (OfP l id).2.1 := by
  unfold OfP
  split
  · exact ofP_i64 _ _
  · exact zero_i64
theorem stepS_i64 {s : Int × Int} {b : Int} (h : I64 s.1) : I64 (stepS s b).1 := by
  unfold stepS
  split
  · exact subV_i64
  · exact h
theorem OfP_may {l : List NodeA} {id : Int} (h : (OfP l id).2.2 = 0) : mayT l = true := by
  cases hm : mayT l with
  | true => rfl
  | false => unfold OfP at h; rw [if_neg (by rw [hm]; decide)] at h; cases h
theorem OfP_eq {l : List NodeA} {id : Int} (h : mayT l = true) : OfP l id = ofP l id := if_pos h
/-- What Diff tells. -/
def diffS (l : List NodeA) (a b c : Int) : Int × Int := stepA (stepS (c, (ofP l b).2.2) (OfP l a).2.1) (ofP l b).2.1
def diffP (l : List NodeA) (a b c : Int) : Int × Int × Int × Int :=
  if (OfP l a).2.2 = 0 then (if (diffS l a b c).2 = 0 then ((OfP l a).1, (ofP l b).1, (diffS l a b c).1, 0) else (0, 0, 0, (diffS l a b c).2)) else (0, 0, 0, (OfP l a).2.2)
theorem OfP_base_i64 (l : List NodeA) (id : Int) : 0 ≤ (OfP l id).1 := by
  unfold OfP ofP
  repeat' split
  all_goals (first | exact Int.natCast_nonneg _ | exact Int.le_refl _)
/-- The node of a difference. -/
def compN (x y d : Int) : NodeA := if x = y then (if 0 ≤ d then trueN else ⟨1, 1, 0, 0, 0, 0, 0, 0⟩) else ⟨12, 2, x, y, 0, 0, 0, d⟩
end Go.Proofs.YtjibhkgphahbaaaDoor.Tm
namespace Go.Proofs.YtjibhkgphahbaaaDoor.Tm
open Go.RowKit
set_option linter.unusedVariables false
/-- What Put answers: a table, a place, an error. -/
def putF (l : List NodeA) (N : NodeA) (most : Int) : List NodeA × Int × Int :=
  if mayT l = true ∧ standsB N l.length = true then (if N ∈ l then (l, fndN l N, 0) else if most ≤ l.length then ([], 0, 40) else (l ++ [N], l.length, 0)) else ([], 0, 2)
def TabOut (w : World) (r : List NodeA × Int × Int) (e : Ending) (w' : World) : Prop :=
  ∃ a c, e = .returned (.tuple #[.agg #[.slice a r.1.length c], .int .i64 r.2.1, .int .i64 r.2.2]) ∧ TabR w' r.1 a c ∧ Below w.heap.size w w'
theorem tab_nil (w : World) : TabR w [] none 0 := ⟨Nat.le_refl _, Nat.zero_le _, fun h => absurd h (by simp), fun _ h => by simp at h⟩
/-- A table's row is no box of a slice: a store there leaves it. -/
theorem TabR.box {w : World} {l : List NodeA} {a x : Option Addr} {c b n m : Nat} {ty : TypeId} (h : TabR w l a c) (hb : w.heap[b]? = some (.cells #[.slice x n m] ty (0, 0))) (v : Value) : TabR (w.setCell ⟨b, 0, none⟩ v) l a c := by
  refine ⟨h.le, h.cap, ?_, h.ok⟩
  cases l with
  | nil => exact fun h0 => absurd h0 (by simp)
  | cons y r =>
    obtain ⟨g, o, rfl, hg, q0, _⟩ := h.node (k := 0) (n := y) rfl
    have hne : g ≠ b := fun e => by
      subst e
      rw [cell_of_row _ _ _ _ _ _ hb] at q0
      cases o with
      | zero => simp at q0
      | succ o => simp at q0
    have hs : (w.setCell ⟨b, 0, none⟩ v).heap.size = w.heap.size := by simp
    rw [hs]
    exact h.tat.heap (fun g' o' e => by cases e; exact Below.heap_setCell _ _ _ _ hne)
/-- The node of a base and an offset. -/
def nodeP (l : List NodeA) (base : Nat) (n : Int) : NodeA := if base = 1 then ⟨10, 0, 0, 0, 0, 1, 0, n⟩ else if n = 0 then l.getD base trueN else ⟨11, 1, base, 0, 0, 1, 0, n⟩
/-- What put answers. -/
def putP (l : List NodeA) (base n most : Int) : List NodeA × Int × Int :=
  if (ofP l base).2.2 = 0 then (if (ofP l base).1 = base then (if mayB n = true then putF l (nodeP l base.toNat n) most else ([], 0, 10)) else ([], 0, 2)) else ([], 0, (ofP l base).2.2)
theorem ofP_in {l : List NodeA} {id : Int} (h : (ofP l id).2.2 = 0) : 0 ≤ id ∧ id < l.length := by
  unfold ofP at h
  split at h
  · cases h
  · omega
theorem i8_of {x : Int} (h : -128 ≤ x ∧ x ≤ 127) : I8 x := h
theorem i64_of {x : Int} (h : -9223372036854775808 ≤ x ∧ x ≤ 9223372036854775807) : I64 x := h
theorem nodeP_ok {l : List NodeA} {base : Nat} {n : Int} (hl : l.length ≤ 3000) (hb : base < l.length) (hn : I64 n) (ho : ∀ x ∈ l, NodeOk x) : NodeOk (nodeP l base n) := by
  have h0 : I8 0 := i8_of (by omega)
  have h1 : I8 1 := i8_of (by omega)
  have h10 : I8 10 := i8_of (by omega)
  have h11 : I8 11 := i8_of (by omega)
  have z1 : I64 1 := i64_of (by omega)
  have zb : I64 base := i64_of (by omega)
  unfold nodeP
  split
  · exact ⟨h10, h0, zero_i64, zero_i64, zero_i64, z1, zero_i64, hn⟩
  · split
    · rw [List.getD_eq_getElem?_getD, List.getElem?_eq_getElem hb]
      exact ho _ (List.getElem_mem hb)
    · exact ⟨h11, h1, zb, zero_i64, zero_i64, z1, zero_i64, hn⟩
end Go.Proofs.YtjibhkgphahbaaaDoor.Tm
