/- Rows of integers and of bools in memory; folding a table, in plain words; the marks that ranges over functions leave. -/
import Derived.Test.YtaiabpbcipnjaaaDoorAtG
import Derived.Laws.MakeOwn
namespace Go.Proofs.YtaiabpbcipnjaaaDoor.Tm
open Go.RowKit Go.Shelf
set_option linter.unusedVariables false
def intRow (xs : List Int) : Array Value := (xs.map (Value.int .i64)).toArray
def boolRow (xs : List Bool) : Array Value := (xs.map Value.bool).toArray
theorem int_cell {w : World} {b : Nat} {xs : List Int} {ty : TypeId} (h : w.heap[b]? = some (.cells (intRow xs) ty (0, 0))) {i : Nat} {x : Int} (hx : xs[i]? = some x) : w.cell? ⟨b, i, none⟩ = some (.int .i64 x) := by
  rw [cell_of_row w b i _ _ _ h, ← Array.getElem?_toList]
  simp [intRow, hx]
theorem bool_cell {w : World} {b : Nat} {xs : List Bool} {ty : TypeId} (h : w.heap[b]? = some (.cells (boolRow xs) ty (0, 0))) {i : Nat} {x : Bool} (hx : xs[i]? = some x) : w.cell? ⟨b, i, none⟩ = some (.bool x) := by
  rw [cell_of_row w b i _ _ _ h, ← Array.getElem?_toList]
  simp [boolRow, hx]
theorem int_set {w : World} {b : Nat} {xs : List Int} {ty : TypeId} (h : w.heap[b]? = some (.cells (intRow xs) ty (0, 0))) (i : Nat) (x : Int) : (w.setCell ⟨b, i, none⟩ (.int .i64 x)).heap[b]? = some (.cells (intRow (xs.set i x)) ty (0, 0)) := by
  simp [World.setCell, Array.getElem?_modify, h, intRow, List.map_set]
theorem bool_set {w : World} {b : Nat} {xs : List Bool} {ty : TypeId} (h : w.heap[b]? = some (.cells (boolRow xs) ty (0, 0))) (i : Nat) (x : Bool) : (w.setCell ⟨b, i, none⟩ (.bool x)).heap[b]? = some (.cells (boolRow (xs.set i x)) ty (0, 0)) := by
  simp [World.setCell, Array.getElem?_modify, h, boolRow, List.map_set]
theorem row_frozen {w : World} {b : Nat} {cs : Array Value} {ty : TypeId} (h : w.heap[b]? = some (.cells cs ty (0, 0))) (i : Nat) : w.frozen? ⟨b, i, none⟩ = false := by simp [World.frozen?, h]
theorem info_bool : (Tryd.prog.info? 4).map (fun i => (i.zero, i.size, i.bytes)) = some (some (.bool false), 1, 1) := by kernel_rfl
theorem made_int (k : Nat) : madeCells (Value.int .i64 0).cells (k * 1) = intRow (List.replicate k 0) := by
  apply Array.ext
  · simp [size_madeCells, intRow]
  · intro i h1 h2
    simp [madeCells, intRow, Value.cells, Nat.mod_one]
theorem made_bool (k : Nat) : madeCells (Value.bool false).cells (k * 1) = boolRow (List.replicate k false) := by
  apply Array.ext
  · simp [size_madeCells, boolRow]
  · intro i h1 h2
    simp [madeCells, boolRow, Value.cells, Nat.mod_one]
theorem make_int (c : Int) (k : Nat) (hc : c = k) (hk : k ≤ 2000) (w : World) : (Instr.makeSlice 25 (.int .i64 c) (.int .i64 c)).run Tryd.prog w = .ok (.slice (some ⟨w.heap.size, 0, none⟩) k k) (w.alloc (.cells (intRow (List.replicate k 0)) 3)) := by
  obtain ⟨i0, hi, hz0, hz1, hz2⟩ := info_parts info_int
  have := run_make (P := Tryd.prog) w 25 3 i0 _ Tryd.underlying25 hi hz0 .i64 .i64 c c (by omega) (by omega) (by rw [hz2]; omega) (by omega)
  rw [hz1] at this
  subst hc
  rw [Int.toNat_natCast, made_int] at this
  exact this
theorem make_bool (c : Int) (k : Nat) (hc : c = k) (hk : k ≤ 2000) (w : World) : (Instr.makeSlice 52 (.int .i64 c) (.int .i64 c)).run Tryd.prog w = .ok (.slice (some ⟨w.heap.size, 0, none⟩) k k) (w.alloc (.cells (boolRow (List.replicate k false)) 4)) := by
  obtain ⟨i0, hi, hz0, hz1, hz2⟩ := info_parts info_bool
  have := run_make (P := Tryd.prog) w 52 4 i0 _ Tryd.underlying52 hi hz0 .i64 .i64 c c (by omega) (by omega) (by rw [hz2]; omega) (by omega)
  rw [hz1] at this
  subst hc
  rw [Int.toNat_natCast, made_bool] at this
  exact this
/-- The marks that ranges over functions have left. -/
def Marks (B : Nat) (ds : List Deferred) (w : World) : Prop := ∃ Ds : List Nat, ds = Ds.map (fun D => { target := .collected D, args := #[] }) ∧ Ds.Nodup ∧ ∀ D ∈ Ds, B ≤ D ∧ w.heap[D]? = some (.deferred (some []))
theorem Marks.keep {B : Nat} {ds : List Deferred} {w w' : World} (h : Marks B ds w) (hk : ∀ D, B ≤ D → D < w.heap.size → w.heap[D]? = some (.deferred (some [])) → w'.heap[D]? = w.heap[D]?) : Marks B ds w' := by
  obtain ⟨Ds, h1, h2, h3⟩ := h
  refine ⟨Ds, h1, h2, fun D hD => ⟨(h3 D hD).1, ?_⟩⟩
  rw [hk D (h3 D hD).1 (Array.getElem?_eq_some_iff.1 (h3 D hD).2).1 (h3 D hD).2]
  exact (h3 D hD).2
theorem Marks.push {B D : Nat} {ds : List Deferred} {w w' : World} (h : Marks B ds w) (hD : w'.heap[D]? = some (.deferred (some []))) (hB : B ≤ D) (hn : w.heap.size ≤ D) (hk : ∀ D, B ≤ D → D < w.heap.size → w.heap[D]? = some (.deferred (some [])) → w'.heap[D]? = w.heap[D]?) : Marks B ({ target := .collected D, args := #[] } :: ds) w' := by
  obtain ⟨Ds, h1, h2, h3⟩ := h.keep hk
  obtain ⟨Ds0, h1', h2', h3'⟩ := h
  have he : Ds0 = Ds := by
    rw [h1] at h1'
    have : Function.Injective (fun D : Nat => ({ target := .collected D, args := #[] } : Deferred)) := fun a b hab => by simpa using hab
    exact ((List.map_inj_right (fun a b hab => this hab)).1 h1').symm
  subst he
  refine ⟨D :: Ds0, by rw [h1]; rfl, List.nodup_cons.2 ⟨fun hm => ?_, h2⟩, fun E hE => ?_⟩
  · have := (Array.getElem?_eq_some_iff.1 (h3' D hm).2).1
    omega
  · rcases List.mem_cons.1 hE with rfl | hE
    · exact ⟨hB, hD⟩
    · exact h3 E hE
theorem Marks.nil (B : Nat) (w : World) : Marks B [] w := ⟨[], rfl, List.nodup_nil, fun D h => by simp at h⟩
/-- A function leaves with its marks: nothing of what lies below them is touched. -/
theorem marks_leave {F : Fence} {n : Nat} {P : Program} {fn : Func} {tmps : Array Value} {R : Ending → World → Prop} {u : FrameMode} (hu : u ≠ .run) {B : Nat} : ∀ (Ds : List Nat) (w : World), Ds.Nodup → (∀ D ∈ Ds, B ≤ D ∧ w.heap[D]? = some (.deferred (some []))) →
    (∀ w', w'.os = w.os → w'.tape = w.tape → w'.output = w.output → w'.heap.size = w.heap.size → (∀ k, k ∉ Ds → w'.heap[k]? = w.heap[k]?) → LeavesIn F n P fn tmps R [] u w') → LeavesInM F n P fn tmps R (Ds.map (fun D => { target := .collected D, args := #[] })) u w
  | [], w, _, _, h => h w rfl rfl rfl rfl (fun _ _ => rfl)
  | D :: r, w, hn, hD, h => by
    obtain ⟨hn1, hn2⟩ := List.nodup_cons.1 hn
    have h0 := hD D (by simp)
    refine ⟨hu, .inl ⟨D, _, rfl, run_takeDeferred h0.2, ?_⟩⟩
    refine marks_leave hu r _ hn2 (fun E hE => ⟨(hD E (by simp [hE])).1, (World.putObj_heap_other (by rintro rfl; exact hn1 hE)).trans (hD E (by simp [hE])).2⟩) (fun w' h1 h2 h3 h4 h5 => ?_)
    refine h w' h1 h2 h3 (by rw [h4]; simp [World.putObj]) (fun k hk => ?_)
    rw [h5 k (fun hm => hk (by simp [hm]))]
    exact World.putObj_heap_other (by rintro rfl; exact hk (by simp))
theorem Marks.leave {F : Fence} {n : Nat} {P : Program} {fn : Func} {tmps : Array Value} {R : Ending → World → Prop} {u : FrameMode} (hu : u ≠ .run) {B : Nat} {ds : List Deferred} {w : World} (h : Marks B ds w)
    (hR : ∀ w', Below B w w' → (∀ (k : Nat) (cs : Array Value) (ty : TypeId) (fz : Nat × Nat), w.heap[k]? = some (Obj.cells cs ty fz) → w'.heap[k]? = some (Obj.cells cs ty fz)) → LeavesIn F n P fn tmps R [] u w') : LeavesInM F n P fn tmps R ds u w := by
  obtain ⟨Ds, rfl, h2, h3⟩ := h
  refine marks_leave hu Ds w h2 h3 (fun w' e1 e2 e3 e4 e5 => hR w' ⟨e1, e2, e3, by omega, fun k hk => e5 k (fun hm => by have := (h3 k hm).1; omega)⟩ (fun k cs ty fz hk => ?_))
  rw [e5 k (fun hm => by have := (h3 k hm).2; rw [hk] at this; cases this)]
  exact hk
end Go.Proofs.YtaiabpbcipnjaaaDoor.Tm
