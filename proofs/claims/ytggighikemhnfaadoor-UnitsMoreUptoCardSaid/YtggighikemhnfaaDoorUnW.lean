/- The clauses come in. -/
import Derived.Test.YtggighikemhnfaaDoorUnV
import Derived.Laws.MakeOwn
namespace Go.Proofs.YtggighikemhnfaaDoor.Tm
open Go.RowKit
set_option linter.unusedVariables false
theorem info_row : (Tryd.prog.info? 81).map (fun i => (i.zero, i.size, i.bytes)) = some (some (.agg #[.slice none 0 0, .int .i64 0, .int .i64 0, .int .i64 0, .int .i64 0]), 5, 56) := by kernel_rfl
def zRow : RowV := ⟨⟨[], 0, 0, 0, 0⟩, none, 0⟩
theorem made_row (n : Nat) : madeCells (Value.agg #[.slice none 0 0, .int .i64 0, .int .i64 0, .int .i64 0, .int .i64 0]).cells (n * 5) = ⟨(List.replicate n zRow).flatMap rowVC⟩ := by
  apply Array.ext'
  apply List.ext_getElem?
  intro i
  by_cases hi : i < n * 5
  · have h1 : ((List.replicate n zRow).flatMap rowVC)[i]? = (rowVC zRow)[i % 5]? := by
      have := get_flat rowVC_len (List.replicate n zRow) (i / 5) (i % 5) zRow (by rw [List.getElem?_replicate, if_pos (by omega)]) (by omega)
      rw [show i / 5 * 5 + i % 5 = i by omega] at this
      exact this
    show _ = ((List.replicate n zRow).flatMap rowVC)[i]?
    rw [h1]
    have hm : i % 5 = 0 ∨ i % 5 = 1 ∨ i % 5 = 2 ∨ i % 5 = 3 ∨ i % 5 = 4 := by omega
    rw [Array.getElem?_toList]
    rcases hm with e | e | e | e | e <;> rw [e] <;> simp [madeCells, Value.cells, hi, e, zRow, rowVC]
  · rw [Array.getElem?_toList, Array.getElem?_eq_none (by rw [size_madeCells]; omega)]
    exact (List.getElem?_eq_none (by show ((List.replicate n zRow).flatMap rowVC).length ≤ i; rw [len_flat rowVC_len, List.length_replicate]; omega)).symm
theorem make_row (n : Nat) (hn : n ≤ 100000) (w : World) : (Instr.makeSlice 49 (.int .i64 n) (.int .i64 n)).run Tryd.prog w = .ok (.slice (some ⟨w.heap.size, 0, none⟩) n n) (w.alloc (.cells ⟨(List.replicate n zRow).flatMap rowVC⟩ 81)) := by
  obtain ⟨i0, hi, hz0, hz1, hz2⟩ := info_parts info_row
  have := run_make (P := Tryd.prog) w 49 81 i0 _ Tryd.underlying49 hi hz0 .i64 .i64 n n (by omega) (by omega) (by rw [hz2]; omega) (by omega)
  rw [hz1] at this
  rw [Int.toNat_natCast, made_row] at this
  exact this
theorem nat_or1 (k : Nat) : 2 * k ||| 1 = 2 * k + 1 := by
  have := Nat.two_pow_add_eq_or_of_lt (b := 1) (i := 1) (by decide) k
  rw [show (2 : Nat) ^ 1 = 2 from rfl] at this
  exact this.symm
theorem i64_or1 (k : Nat) (hk : k ≤ 1000000) : bits .or .i64 (2 * (k : Int)) 1 = 2 * (k : Int) + 1 := by
  have h1 : (BitVec.ofInt 64 1).toNat = 1 := by decide
  have h2 : (BitVec.ofInt 64 (2 * (k : Int))).toNat = 2 * k := by rw [BitVec.toNat_ofInt]; omega
  have key : (BitVec.ofInt 64 (2 * (k : Int)) ||| BitVec.ofInt 64 1).toNat = 2 * k + 1 := by
    rw [BitVec.toNat_or, h2, h1, nat_or1]
  show IntKind.i64.wrap ((BitVec.ofInt 64 (2 * (k : Int)) ||| BitVec.ofInt 64 1).toNat : Nat) = _
  rw [key, IntKind.wrap_i64]
  omega
def zU : URow := ⟨[], 0, 0, 0, 0⟩
theorem RunX.rowsMade {W0 w : World} {b : Nat} {s : USt} {ls : List Int} {pg : Nat → Option Nat} {qv lv : Value} {xs : List RowV} {L : List Int} (h : RunX W0 w b s ls pg nilV qv lv xs L) (n : Nat) (hn : n ≤ 100000) :
    RunX W0 ((w.setCell ⟨b, 1025, none⟩ (.slice (some ⟨w.heap.size, 0, none⟩) n n)).alloc (.cells ⟨(List.replicate n zRow).flatMap rowVC⟩ 81)) b { s with rows := List.replicate n zU } ls pg (.slice (some ⟨w.heap.size, 0, none⟩) n n) qv lv (List.replicate n zRow) L := by
  have hbl := h.box.cells.2.2.2.2.1
  have hW := h.bel.size
  have hsz : (w.setCell ⟨b, 1025, none⟩ (.slice (some ⟨w.heap.size, 0, none⟩) n n)).heap.size = w.heap.size := by simp
  have hold : ∀ g, g < w.heap.size → g ≠ b → ((w.setCell ⟨b, 1025, none⟩ (.slice (some ⟨w.heap.size, 0, none⟩) n n)).alloc (.cells ⟨(List.replicate n zRow).flatMap rowVC⟩ 81)).heap[g]? = w.heap[g]? := fun g h1 h2 => (Below.heap_alloc _ _ g (by rw [hsz]; exact h1)).trans (Below.heap_setCell _ _ _ _ h2)
  have hnew : ((w.setCell ⟨b, 1025, none⟩ (.slice (some ⟨w.heap.size, 0, none⟩) n n)).alloc (.cells ⟨(List.replicate n zRow).flatMap rowVC⟩ 81)).heap[w.heap.size]? = some (.cells ⟨(List.replicate n zRow).flatMap rowVC⟩ 81 (0, 0)) := by
    have := heap_alloc_new (w.setCell ⟨b, 1025, none⟩ (.slice (some ⟨w.heap.size, 0, none⟩) n n)) (.cells ⟨(List.replicate n zRow).flatMap rowVC⟩ 81)
    rw [hsz] at this
    exact this
  have hfl : ((List.replicate n zRow).flatMap rowVC).length = n * 5 := by rw [len_flat rowVC_len, List.length_replicate]
  refine ⟨(h.bel.setCell h.hb _).alloc (by rw [hsz]; exact hW) _, h.hb, h.gc, (h.box.setr _).heap (Below.heap_alloc _ _ b (by rw [hsz]; exact hbl)), fun j g hg => ?_, h.inj, h.nop, ?_, by rw [List.map_replicate]; rfl, fun x hx => ?_, ⟨own_move h.qu.row (fun g hg => hold g (own_lt h.qu.row hg).2 (h.qv_ne hg).1), h.qu.heap, h.qu.perm⟩, own_move h.lits (fun g hg => hold g (own_lt h.lits hg).2 (h.lv_ne hg).1), h.apart, h.may, h.cons⟩
  · obtain ⟨g1, g2, g3⟩ := h.pages j g hg
    exact ⟨g1, g2, (hold g (Array.getElem?_eq_some_iff.1 g3).1 (h.pg_ne hg)).trans g3⟩
  · rw [List.length_replicate]
    refine ⟨hfl, .inr ⟨w.heap.size, n, _, rfl, hW, hnew, Nat.le_refl _, by unfold maxLen; omega, hfl, ?_⟩⟩
    exact List.take_of_length_le (by rw [hfl]; exact Nat.le_refl _)
  · rw [List.eq_of_mem_replicate hx]
    exact IntsR.nil _ _ (Nat.zero_le _) _
theorem start_inv0 {ps : List Int} (cls : List (List Int)) (hmay : ∀ x ∈ ps, mayU x = true) (hcons : ∀ x ∈ ps, negM x ∉ ps) : Inv cls 0 [] { stG ps with rows := List.replicate cls.length zU } :=
  ⟨by simp, Nat.zero_le _, fun k r c hk => (by omega), fun t ht => (by cases ht), fun k r hk => (by omega), fun t ht => (by cases ht), fun x hx => ⟨[], rfl, List.nodup_nil, fun t => ⟨fun h => (by cases h), fun h => (by omega)⟩⟩, fun _ _ => rfl, List.nodup_nil, fun t ht => (by cases ht), .inl rfl, hmay, hcons⟩
end Go.Proofs.YtggighikemhnfaaDoor.Tm
