/- Assignments that a law makes of bools. -/
import Derived.Test.YtbjplhbflbabjaaDoorClM
import Derived.Laws.MakeOwn
namespace Go.Proofs.YtbjplhbflbabjaaDoor.Tm
open Go.RowKit Go.Sort Go.Lib Go.Shelf
set_option linter.unusedVariables false
def valRow (vs : List Int) : Array Value := ⟨vs.map (Value.int .i8)⟩
theorem val_cell {w : World} {b : Nat} {vs : List Int} {ty : TypeId} (h : w.heap[b]? = some (.cells (valRow vs) ty (0, 0))) {i : Nat} {x : Int} (hx : vs[i]? = some x) : w.cell? ⟨b, i, none⟩ = some (.int .i8 x) := by
  rw [cell_of_row w b i _ _ _ h, ← Array.getElem?_toList]
  simp [valRow, hx]
theorem val_set {w : World} {b : Nat} {vs : List Int} {ty : TypeId} (h : w.heap[b]? = some (.cells (valRow vs) ty (0, 0))) (i : Nat) (x : Int) : (w.setCell ⟨b, i, none⟩ (.int .i8 x)).heap[b]? = some (.cells (valRow (vs.set i x)) ty (0, 0)) := by
  simp [World.setCell, Array.getElem?_modify, h, valRow, List.map_set]
theorem row_frozen {w : World} {b : Nat} {cs : Array Value} {ty : TypeId} (h : w.heap[b]? = some (.cells cs ty (0, 0))) (i : Nat) : w.frozen? ⟨b, i, none⟩ = false := by simp [World.frozen?, h]
theorem info_i8 : (Tryd.prog.info? 30).map (fun i => (i.zero, i.size, i.bytes)) = some (some (.int .i8 0), 1, 1) := by kernel_rfl
theorem made_val (k : Nat) : madeCells (Value.int .i8 0).cells (k * 1) = valRow (List.replicate k 0) := by
  apply Array.ext
  · simp [size_madeCells, valRow]
  · intro i h1 h2
    simp [madeCells, valRow, Value.cells, Nat.mod_one]
theorem make_val (c : Int) (k : Nat) (hc : c = k) (hk : k ≤ 2000) (w : World) : (Instr.makeSlice 29 (.int .i64 c) (.int .i64 c)).run Tryd.prog w = .ok (.slice (some ⟨w.heap.size, 0, none⟩) k k) (w.alloc (.cells (valRow (List.replicate k 0)) 30)) := by
  obtain ⟨i0, hi, hz0, hz1, hz2⟩ := info_parts info_i8
  have := run_make (P := Tryd.prog) w 29 30 i0 _ Tryd.underlying29 hi hz0 .i64 .i64 c c (by omega) (by omega) (by rw [hz2]; omega) (by omega)
  rw [hz1] at this
  subst hc
  rw [Int.toNat_natCast, made_val] at this
  exact this
def vb (bs : List Bool) (i : Nat) : Int := if bs.getD i false = true then 1 else 2
def valsM (bs : List Bool) : List Int := (List.range 60).map (vb bs)
def vK (bs : List Bool) (k : Nat) : List Int := (valsM bs).take k ++ List.replicate (60 - k) 0
theorem valsM_len (bs : List Bool) : (valsM bs).length = 60 := by unfold valsM; simp
theorem vK_len (bs : List Bool) {k : Nat} (h : k ≤ 60) : (vK bs k).length = 60 := by unfold vK; rw [List.length_append, List.length_take, valsM_len, List.length_replicate]; omega
theorem vK_zero (bs : List Bool) : vK bs 0 = List.replicate 60 0 := rfl
theorem vK_all (bs : List Bool) : vK bs 60 = valsM bs := by unfold vK; rw [List.take_of_length_le (by rw [valsM_len]; exact Nat.le_refl _)]; simp
theorem vK_step (bs : List Bool) {k : Nat} (h : k < 60) : (vK bs k).set k (vb bs k) = vK bs (k + 1) := by
  have hv : (valsM bs)[k]? = some (vb bs k) := by unfold valsM; rw [List.getElem?_map, List.getElem?_range h]; rfl
  unfold vK
  rw [List.set_append_right _ _ (by rw [List.length_take, valsM_len]; omega), List.length_take, valsM_len, Nat.min_eq_left (by omega), Nat.sub_self, List.take_add_one, hv]
  rw [show 60 - k = (60 - (k + 1)) + 1 by omega, List.replicate_succ, List.set_cons_zero]
  simp
theorem vK_step2 (bs : List Bool) {k : Nat} (h : k < 60) (u : Int) : ((vK bs k).set k u).set k (vb bs k) = vK bs (k + 1) := by rw [List.set_set, vK_step bs h]
theorem valsM_ok (bs : List Bool) : ∀ v ∈ valsM bs, v = 1 ∨ v = 2 := fun v hv => by
  unfold valsM at hv
  obtain ⟨i, _, rfl⟩ := List.mem_map.1 hv
  unfold vb
  split
  · exact .inl rfl
  · exact .inr rfl
theorem vb_true {bs : List Bool} {k : Nat} (h : bs[k]? = some true) : vb bs k = 1 := by unfold vb; rw [List.getD_eq_getElem?_getD, h]; rfl
theorem vb_false {bs : List Bool} {k : Nat} (h : bs[k]? = some false) : vb bs k = 2 := by unfold vb; rw [List.getD_eq_getElem?_getD, h]; rfl
theorem vb_none {bs : List Bool} {k : Nat} (h : bs.length ≤ k) : vb bs k = 2 := by unfold vb; rw [List.getD_eq_getElem?_getD, List.getElem?_eq_none h]; rfl
theorem valsR {w : World} {b : Nat} {vs : List Int} (h : w.heap[b]? = some (.cells (valRow vs) 30 (0, 0))) (hl : vs.length ≤ 60) (hok : ∀ v ∈ vs, v = 1 ∨ v = 2) : ValR w vs (some ⟨b, 0, none⟩) vs.length :=
  val_row h (fun v hv => (hok v hv).elim (fun e => .inr (.inl e)) (fun e => .inr (.inr e))) (by omega)
/-- A row of one's own that a law fills. -/
structure FillR (w V : World) (b : Nat) (vs : List Int) : Prop where
  row : V.heap[b]? = some (.cells (valRow vs) 30 (0, 0))
  bel : Below w.heap.size w V
theorem FillR.set {w V : World} {b : Nat} {vs : List Int} (h : FillR w V b vs) (hb : w.heap.size ≤ b) (i : Nat) (x : Int) : FillR w (V.setCell ⟨b, i, none⟩ (.int .i8 x)) b (vs.set i x) := ⟨val_set h.row i x, h.bel.setCell hb _⟩
theorem FillR.cells {w V : World} {b : Nat} {vs : List Int} (h : FillR w V b vs) {i : Nat} (hi : i < vs.length) : (∃ u, V.cell? ⟨b, i, none⟩ = some (.int .i8 u)) ∧ V.frozen? ⟨b, i, none⟩ = false ∧ b < V.heap.size :=
  ⟨⟨_, val_cell h.row (List.getElem?_eq_getElem hi)⟩, row_frozen h.row i, (Array.getElem?_eq_some_iff.1 h.row).1⟩
theorem BoolsR.len {w : World} {bs : List Bool} {a : Option Addr} {c : Nat} (h : BoolsR w bs a c) : bs.length ≤ 9223372036854775807 := len_fits h.le h.cap
end Go.Proofs.YtbjplhbflbabjaaDoor.Tm
