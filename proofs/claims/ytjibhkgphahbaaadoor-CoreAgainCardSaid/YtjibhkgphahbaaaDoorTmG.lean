/- Equality of nodes; the nodes as keys of a map. -/
import Derived.Test.YtjibhkgphahbaaaDoorTmA
import Derived.DeepKeys4
import Derived.WalkArith
import Derived.Maps.OwnSet
import Derived.Maps.OwnIn
namespace Go.Proofs.YtjibhkgphahbaaaDoor.Tm
open Go.RowKit
open Go.Maps (Keyed)
set_option linter.unusedVariables false
theorem laidOut : laidOutB Tryd.prog = true := by kernel_rfl
theorem rowNd : (36 : TypeId) < Tryd.prog.types.size := of_decide_eq_true (by kernel_rfl)
theorem keyNd4 : Tryd.prog.keyTypeAt 4 36 = true := by kernel_rfl
theorem lawNd0 : WideMaps.KeyLaw Tryd.prog 36 := deep_law_laid laidOut (m := 4) (by omega) rowNd keyNd4 (by rw [Tryd.underlying36])
theorem lawNd : Keyed Tryd.prog 36 := .of_law lawNd0
theorem keyNd : Tryd.prog.keyType 36 = true := by kernel_rfl
theorem cellsNd : Tryd.prog.cellsOf 36 = 8 := by kernel_rfl
theorem cellsI8 : Tryd.prog.cellsOf 33 = 1 := by kernel_rfl
theorem cellsInt : Tryd.prog.cellsOf 3 = 1 := by kernel_rfl
theorem cellsAr : Tryd.prog.cellsOf 34 = 3 := by kernel_rfl
theorem three_le : (2 : Nat) < Tryd.prog.types.size := of_decide_eq_true (by kernel_rfl)
theorem sizeTy : ∃ m, Tryd.prog.types.size = m + 3 := ⟨_, (Nat.sub_add_cancel three_le).symm⟩
theorem wf8 {x : Int} (h : I8 x) : (Lit.int .i8 x).wf = true := by
  have h1 : IntKind.min .i8 = -128 := by decide
  have h2 : IntKind.max .i8 = 127 := by decide
  simp only [Lit.wf, h1, h2, Bool.and_eq_true, decide_eq_true_eq]
  exact h
theorem wf64 {x : Int} (h : I64 x) : (Lit.int .i64 x).wf = true := by
  obtain ⟨h1, h2⟩ := h
  simp [Lit.wf, IntKind.min, IntKind.max, IntKind.signed, IntKind.bits]
  omega
def kn (n : NodeA) : Lit := .string (keyBytes [.int .i8 n.op, .int .i8 n.len, .int .i64 n.a0, .int .i64 n.a1, .int .i64 n.a2, .int .i64 n.sort, .int .i64 n.fn, .int .i64 n.num])
theorem lit8 (m : Nat) (x : Int) (h : I8 x) : Tryd.prog.keyLits (m + 1) 33 [.int .i8 x] = some [.int .i8 x] := by
  unfold Program.keyLits
  rw [Tryd.underlying33]
  simp [wf8 h]
theorem lit64 (m : Nat) (x : Int) (h : I64 x) : Tryd.prog.keyLits (m + 1) 3 [.int .i64 x] = some [.int .i64 x] := by
  unfold Program.keyLits
  rw [Tryd.underlying3]
  simp [wf64 h]
theorem litA (m : Nat) (a b c : Int) (ha : I64 a) (hb : I64 b) (hc : I64 c) : Tryd.prog.keyLits (m + 2) 34 [.int .i64 a, .int .i64 b, .int .i64 c] = some [.int .i64 a, .int .i64 b, .int .i64 c] := by
  unfold Program.keyLits
  rw [Tryd.underlying34]
  have hr : List.range 3 = [0, 1, 2] := rfl
  simp only [cellsInt, hr, List.length_cons, List.length_nil, List.mapM_cons, List.mapM_nil, List.drop_zero, List.take_succ_cons, List.take_zero, List.drop_succ_cons, Nat.mul_one, lit64 m a ha, lit64 m b hb, lit64 m c hc]
  simp [cellsAr]
theorem litN (m : Nat) (n : NodeA) (h : NodeOk n) : Tryd.prog.keyLits (m + 3) 36 (nodeC n) = some [.int .i8 n.op, .int .i8 n.len, .int .i64 n.a0, .int .i64 n.a1, .int .i64 n.a2, .int .i64 n.sort, .int .i64 n.fn, .int .i64 n.num] := by
  unfold Program.keyLits nodeC
  rw [Tryd.underlying36, cellsNd]
  simp only [List.length_cons, List.length_nil, List.mapM_cons, List.mapM_nil, cellsI8, cellsInt, cellsAr, List.drop_zero, List.take_succ_cons, List.take_zero, List.drop_succ_cons, lit8 _ _ h.op, lit8 _ _ h.len, litA _ _ _ _ h.a0 h.a1 h.a2, lit64 _ _ h.sort, lit64 _ _ h.fn, lit64 _ _ h.num]
  simp
theorem key_is (n : NodeA) (h : NodeOk n) : keyOf Tryd.prog 36 (.agg #[.int .i8 n.op, .int .i8 n.len, .int .i64 n.a0, .int .i64 n.a1, .int .i64 n.a2, .int .i64 n.sort, .int .i64 n.fn, .int .i64 n.num]) = some (kn n) := by
  obtain ⟨m, hm⟩ := sizeTy
  unfold keyOf
  rw [Tryd.underlying36]
  have hf : (.agg #[.int .i8 n.op, .int .i8 n.len, .int .i64 n.a0, .int .i64 n.a1, .int .i64 n.a2, .int .i64 n.sort, .int .i64 n.fn, .int .i64 n.num] : Value).formed Tryd.prog 36 = true := by
    unfold Value.formed
    rw [Tryd.underlying36, cellsNd]
    rfl
  have hc : (.agg #[.int .i8 n.op, .int .i8 n.len, .int .i64 n.a0, .int .i64 n.a1, .int .i64 n.a2, .int .i64 n.sort, .int .i64 n.fn, .int .i64 n.num] : Value).cells.toList = nodeC n := rfl
  simp only [keyNd, hf, Bool.true_and, if_true, hc]
  rw [hm, litN (m + 1) n h]
  rfl
theorem kn_inj {x y : NodeA} (hx : NodeOk x) (hy : NodeOk y) (h : kn x = kn y) : x = y := by
  have h1 := key_is x hx
  have h2 := key_is y hy
  rw [h] at h1
  have := lawNd0.inj h1 h2
  obtain ⟨⟩ := x
  obtain ⟨⟩ := y
  simp only [Value.agg.injEq, Array.mk.injEq, List.cons.injEq, Value.int.injEq, and_true, true_and] at this
  simp_all
/-- Nodes are compared as nodes. -/
theorem eq_node (x y : NodeA) (hx : NodeOk x) (hy : NodeOk y) (w : World) : (Op.equal 36 (.agg #[.int .i8 x.op, .int .i8 x.len, .int .i64 x.a0, .int .i64 x.a1, .int .i64 x.a2, .int .i64 x.sort, .int .i64 x.fn, .int .i64 x.num]) (.agg #[.int .i8 y.op, .int .i8 y.len, .int .i64 y.a0, .int .i64 y.a1, .int .i64 y.a2, .int .i64 y.sort, .int .i64 y.fn, .int .i64 y.num])).run Tryd.prog w = .ok (decide (x = y)) w := by
  obtain ⟨r, hr, hi⟩ := run_equal_deep w (m := 4) (by omega) keyNd4 (by rw [Tryd.underlying36]) (key_is x hx) (key_is y hy)
  rw [hr]
  have : r = decide (x = y) := by
    by_cases h : x = y
    · subst h
      rw [hi.2 rfl]; simp
    · rw [decide_eq_false h]
      exact Bool.eq_false_iff.2 (fun e => h (kn_inj hx hy (hi.1 e)))
  rw [this]
theorem eqi_node (x y : NodeA) (hx : NodeOk x) (hy : NodeOk y) (w : World) : (Op.equalIn 10000 36 (.agg #[.int .i8 x.op, .int .i8 x.len, .int .i64 x.a0, .int .i64 x.a1, .int .i64 x.a2, .int .i64 x.sort, .int .i64 x.fn, .int .i64 x.num]) (.agg #[.int .i8 y.op, .int .i8 y.len, .int .i64 y.a0, .int .i64 y.a1, .int .i64 y.a2, .int .i64 y.sort, .int .i64 y.fn, .int .i64 y.num])).run Tryd.prog w = .ok (decide (x = y)) w := eq_node x y hx hy w
end Go.Proofs.YtjibhkgphahbaaaDoor.Tm
