/- Core: allKinds, newMaker. -/
import Derived.Test.YtjibhkgphahbaaaDoorCoT
import Derived.Laws.CopyOwn
import Derived.Laws.MakeOwn
import Derived.Laws.EntriesVeiled
namespace Go.Proofs.YtjibhkgphahbaaaDoor.Tm
open Go.RowKit
set_option linter.unusedVariables false
theorem u64_low (n : Int) (h0 : 0 ≤ n) (h1 : n < 4294967296) : bits .and .u64 n 4294967295 = n := by
  have h2 : (BitVec.ofInt 64 4294967295).toNat = 2 ^ 32 - 1 := by decide
  have key : (BitVec.ofInt 64 n &&& BitVec.ofInt 64 4294967295).toNat = (n % ((2 ^ 64 : Nat) : Int)).toNat % 2 ^ 32 := by
    rw [BitVec.toNat_and, BitVec.toNat_ofInt, h2, Nat.and_two_pow_sub_one_eq_mod]
  show IntKind.u64.wrap ((BitVec.ofInt 64 n &&& BitVec.ofInt 64 4294967295).toNat : Nat) = n
  rw [key, IntKind.wrap_u64]
  omega
theorem u64_wrap (n : Int) (h0 : 0 ≤ n) (h1 : n < 4294967296) : IntKind.u64.wrap n = n := by
  rw [IntKind.wrap_u64]; omega
theorem Mul64_one (n : Nat) (w : World) (hn : n ≤ 3000) : Calls Tryd.prog 71 #[.int .u64 1, .int .u64 n] w fun e w' => e = .returned (.tuple #[.int .u64 0, .int .u64 n]) ∧ w = w' := by
  have b0 := u64_low 0 (by omega) (by omega)
  have b1 := u64_low 1 (by omega) (by omega)
  have b2 := u64_low n (by omega) (by omega)
  have d0 : (n : Int) / 4294967296 = 0 := by omega
  have d1 : IntKind.u64.wrap (n : Int) = n := u64_wrap n (by omega) (by omega)
  have d2 : IntKind.u64.wrap 0 = 0 := u64_wrap 0 (by omega) (by omega)
  go_enter Tryd.func71, Tryd.ntmps71
  go_wp2
  go_ret2
  exact ⟨rfl, rfl⟩
theorem Mul_one (n : Nat) (w : World) (hn : n ≤ 3000) : Calls Tryd.prog 58 #[.int .u64 1, .int .u64 n] w fun e w' => e = .returned (.tuple #[.int .u64 0, .int .u64 n]) ∧ w = w' := by
  have HM := Lib.hid (Mul64_one n w hn)
  go_enter Tryd.func58, Tryd.ntmps58
  go_wp2_with (go_at_call 71; refine HM.out.mono ?_; rintro e w' ⟨rfl, rfl⟩)
  go_ret2
  exact ⟨rfl, rfl⟩
def repL (j n : Nat) : List Value := List.replicate j (.int .i64 (-1)) ++ List.replicate (n - j) (.int .i64 0)
theorem repL_len (j n : Nat) (h : j ≤ n) : (repL j n).length = n := by simp [repL]; omega
theorem repL_splice (j m n : Nat) (h : j + m ≤ n) : splice (repL j n) j (List.replicate m (.int .i64 (-1))) = repL (j + m) n := by
  unfold splice repL
  rw [List.take_append_of_le_length (by simp), List.take_of_length_le (by simp), List.length_replicate, List.drop_append, List.drop_eq_nil_of_le (by simp)]
  simp only [List.nil_append, List.length_replicate, List.drop_replicate]
  rw [← List.append_assoc, List.replicate_append_replicate, show n - j - (j + m - j) = n - (j + m) by omega]
theorem made_rep (k : Nat) : madeCells (Value.int .i64 0).cells (k * 1) = (repL 0 k).toArray := by
  apply Array.ext
  · simp [size_madeCells, repL]
  · intro i h1 h2
    simp [madeCells, repL, Value.cells, Nat.mod_one]
theorem make_rep (k : Nat) (hk : k ≤ 3000) (w : World) : (Instr.makeSlice 25 (.int .i64 k) (.int .i64 k)).run Tryd.prog w = .ok (.slice (some ⟨w.heap.size, 0, none⟩) k k) (w.alloc (.cells (repL 0 k).toArray 3)) := by
  obtain ⟨i0, hi, hz0, hz1, hz2⟩ := info_parts info_int
  have := run_make (P := Tryd.prog) w 25 3 i0 _ Tryd.underlying25 hi hz0 .i64 .i64 k k (by omega) (by omega) (by rw [hz2]; omega) (by omega)
  rw [hz1, Int.toNat_natCast, made_rep] at this
  exact this
end Go.Proofs.YtjibhkgphahbaaaDoor.Tm
namespace Go.Proofs.YtjibhkgphahbaaaDoor.Tm
open Go.RowKit
set_option linter.unusedVariables false
def kindsA : Array Value := #[fnV 48, fnV 49, fnV 48, fnV 48, fnV 50, fnV 51, fnV 52, fnV 53, fnV 54, fnV 55, fnV 48, fnV 56, fnV 57, fnV 48]
def nilsA : Array Value := #[.nilFunc, .nilFunc, .nilFunc, .nilFunc, .nilFunc, .nilFunc, .nilFunc, .nilFunc, .nilFunc, .nilFunc, .nilFunc, .nilFunc, .nilFunc, .nilFunc]
theorem kndSize : (Tryd.prog.info? 52).map (·.size) = some 14 := by kernel_rfl
theorem set14 {w : World} {b : Nat} {t : TypeId} {x0 x1 x2 x3 x4 x5 x6 x7 x8 x9 x10 x11 x12 x13 v0 v1 v2 v3 v4 v5 v6 v7 v8 v9 v10 v11 v12 v13 : Value} (h : w.heap[b]? = some (.cells #[x0, x1, x2, x3, x4, x5, x6, x7, x8, x9, x10, x11, x12, x13] t (0, 0))) :
    ((((((((((((((w.setCell ⟨b, 0, none⟩ v0).setCell ⟨b, 1, none⟩ v1).setCell ⟨b, 2, none⟩ v2).setCell ⟨b, 3, none⟩ v3).setCell ⟨b, 4, none⟩ v4).setCell ⟨b, 5, none⟩ v5).setCell ⟨b, 6, none⟩ v6).setCell ⟨b, 7, none⟩ v7).setCell ⟨b, 8, none⟩ v8).setCell ⟨b, 9, none⟩ v9).setCell ⟨b, 10, none⟩ v10).setCell ⟨b, 11, none⟩ v11).setCell ⟨b, 12, none⟩ v12).setCell ⟨b, 13, none⟩ v13).heap[b]? = some (.cells #[v0, v1, v2, v3, v4, v5, v6, v7, v8, v9, v10, v11, v12, v13] t (0, 0)) := by
  simp [World.setCell, Array.getElem?_modify, h]
theorem below_set {n b i : Nat} {w V : World} {v : Value} (h : Below n w V) (hb : n ≤ b) : Below n w (V.setCell ⟨b, i, none⟩ v) := h.setCell (p := ⟨b, i, none⟩) hb v
set_option maxRecDepth 100000 in
theorem kinds_any (w : World) : Calls Tryd.prog 35 #[] w fun e w' => e = .returned (.agg kindsA) ∧ Below w.heap.size w w' := by
  obtain ⟨W0, hW0⟩ : ∃ W0, W0 = w.alloc (.cells nilsA 52) := ⟨_, rfl⟩
  have hB0 : Below w.heap.size w W0 := by rw [hW0]; exact (Below.refl _ w).alloc (Nat.le_refl _) _
  have hn0 : W0.heap[w.heap.size]? = some (.cells nilsA 52 (0, 0)) := by rw [hW0]; exact heap_alloc_new w _
  have c0 : W0.cell? ⟨w.heap.size, 0, none⟩ = some .nilFunc := (cell_of_row _ _ 0 _ _ _ hn0).trans rfl
  have c1 : W0.cell? ⟨w.heap.size, 1, none⟩ = some .nilFunc := (cell_of_row _ _ 1 _ _ _ hn0).trans rfl
  have c2 : W0.cell? ⟨w.heap.size, 2, none⟩ = some .nilFunc := (cell_of_row _ _ 2 _ _ _ hn0).trans rfl
  have c3 : W0.cell? ⟨w.heap.size, 3, none⟩ = some .nilFunc := (cell_of_row _ _ 3 _ _ _ hn0).trans rfl
  have c4 : W0.cell? ⟨w.heap.size, 4, none⟩ = some .nilFunc := (cell_of_row _ _ 4 _ _ _ hn0).trans rfl
  have c5 : W0.cell? ⟨w.heap.size, 5, none⟩ = some .nilFunc := (cell_of_row _ _ 5 _ _ _ hn0).trans rfl
  have c6 : W0.cell? ⟨w.heap.size, 6, none⟩ = some .nilFunc := (cell_of_row _ _ 6 _ _ _ hn0).trans rfl
  have c7 : W0.cell? ⟨w.heap.size, 7, none⟩ = some .nilFunc := (cell_of_row _ _ 7 _ _ _ hn0).trans rfl
  have c8 : W0.cell? ⟨w.heap.size, 8, none⟩ = some .nilFunc := (cell_of_row _ _ 8 _ _ _ hn0).trans rfl
  have c9 : W0.cell? ⟨w.heap.size, 9, none⟩ = some .nilFunc := (cell_of_row _ _ 9 _ _ _ hn0).trans rfl
  have c10 : W0.cell? ⟨w.heap.size, 10, none⟩ = some .nilFunc := (cell_of_row _ _ 10 _ _ _ hn0).trans rfl
  have c11 : W0.cell? ⟨w.heap.size, 11, none⟩ = some .nilFunc := (cell_of_row _ _ 11 _ _ _ hn0).trans rfl
  have c12 : W0.cell? ⟨w.heap.size, 12, none⟩ = some .nilFunc := (cell_of_row _ _ 12 _ _ _ hn0).trans rfl
  have c13 : W0.cell? ⟨w.heap.size, 13, none⟩ = some .nilFunc := (cell_of_row _ _ 13 _ _ _ hn0).trans rfl
  have hz : w.heap.size < W0.heap.size := (Array.getElem?_eq_some_iff.1 hn0).1
  have hf : ∀ i, W0.frozen? ⟨w.heap.size, i, none⟩ = false := fun i => by simp [World.frozen?, hn0]
  have HB0 := Lib.hid hB0
  have HN0 := Lib.hid hn0
  clear hB0 hn0
  unfold nilsA at hW0
  have hA := hW0.symm
  clear hW0
  go_enter Tryd.func35, Tryd.ntmps35
  go_wp2_with fail
  refine bodyPost_ret (results_cell_row rfl _ _ w.heap.size 52 kindsA (0, 0) _ rfl (set14 HN0.out) Tryd.underlying52 rfl kndSize) rfl ?_
  exact ⟨rfl, below_set (below_set (below_set (below_set (below_set (below_set (below_set (below_set (below_set (below_set (below_set (below_set (below_set (below_set HB0.out (Nat.le_refl _)) (Nat.le_refl _)) (Nat.le_refl _)) (Nat.le_refl _)) (Nat.le_refl _)) (Nat.le_refl _)) (Nat.le_refl _)) (Nat.le_refl _)) (Nat.le_refl _)) (Nat.le_refl _)) (Nat.le_refl _)) (Nat.le_refl _)) (Nat.le_refl _)) (Nat.le_refl _)⟩
end Go.Proofs.YtjibhkgphahbaaaDoor.Tm
