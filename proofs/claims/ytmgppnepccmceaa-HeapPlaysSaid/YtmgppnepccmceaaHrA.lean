/- The document's heap in memory; made. -/
import Derived.Test.YtmgppnepccmceaaHpY
namespace Go.Proofs.Ytmgppnepccmceaa
open Go.RowKit
set_option linter.unusedVariables false
def rowB (I : List Bool) : List Value := I.map .bool
structure RX (w : World) (g ab bb : Nat) (A : List Int) (I : List Bool) : Prop where
  gd : ∃ cb, w.heap[g]? = some (.cells #[.slice (some ⟨ab, 0, none⟩) A.length A.length, .slice (some ⟨bb, 0, none⟩) I.length cb] 59 (0, 0))
  ad : w.heap[ab]? = some (.cells ⟨rowI A⟩ 3 (0, 0))
  bd : ∃ sp, w.heap[bb]? = some (.cells ⟨rowB I ++ sp⟩ 4 (0, 0))
  len : I.length = A.length
  le : A.length ≤ 300
  act : ∀ a ∈ A, 0 ≤ a ∧ a ≤ 1099511627776
def Ot2 (ab bb : Nat) (k : Nat) : Prop := k ≠ ab ∧ k ≠ bb
section
variable {w : World} {g ab bb : Nat} {A : List Int} {I : List Bool}
theorem RX.blk (H : RX w g ab bb A I) : g < w.heap.size ∧ ab < w.heap.size ∧ bb < w.heap.size := by
  obtain ⟨cb, h1⟩ := H.gd
  obtain ⟨sp, h3⟩ := H.bd
  exact ⟨(Array.getElem?_eq_some_iff.1 h1).1, (Array.getElem?_eq_some_iff.1 H.ad).1, (Array.getElem?_eq_some_iff.1 h3).1⟩
theorem RX.ne (H : RX w g ab bb A I) : g ≠ ab ∧ g ≠ bb ∧ ab ≠ bb := by
  obtain ⟨cb, h1⟩ := H.gd
  obtain ⟨sp, h3⟩ := H.bd
  exact ⟨type_ne h1 H.ad (by decide), type_ne h1 h3 (by decide), type_ne H.ad h3 (by decide)⟩
theorem RX.gr {P : Nat → Prop} {w' : World} (H : RX w g ab bb A I) (k : Gr P w w') (h1 : P g) (h2 : P ab) (h3 : P bb) : RX w' g ab bb A I := by
  obtain ⟨b1, b2, b3⟩ := H.blk
  obtain ⟨cb, e1⟩ := H.gd
  obtain ⟨sp, e3⟩ := H.bd
  exact ⟨⟨cb, (k.keep g b1 h1).trans e1⟩, (k.keep ab b2 h2).trans H.ad, ⟨sp, (k.keep bb b3 h3).trans e3⟩, H.len, H.le, H.act⟩
theorem RX.below (H : RX w g ab bb A I) {w' : World} (hb : Below w.heap.size w w') : RX w' g ab bb A I := H.gr (P := fun _ => True) (Gr.of_below hb) trivial trivial trivial
theorem RX.head (H : RX w g ab bb A I) : ∃ cb, w.cell? ⟨g, 0, none⟩ = some (.slice (some ⟨ab, 0, none⟩) A.length A.length) ∧ w.cell? ⟨g, 1, none⟩ = some (.slice (some ⟨bb, 0, none⟩) A.length cb) := by
  obtain ⟨cb, h1⟩ := H.gd
  refine ⟨cb, ?_, ?_⟩
  · rw [cell_of_row w g _ _ _ _ h1]; rfl
  · rw [cell_of_row w g _ _ _ _ h1, ← H.len]; rfl
theorem RX.acell (H : RX w g ab bb A I) {x : Nat} (hx : x < A.length) : w.cell? ⟨ab, x, none⟩ = some (.int .i64 (A.getD x 0)) ∧ w.frozen? ⟨ab, x, none⟩ = false := by
  refine ⟨?_, by simp [World.frozen?, H.ad]⟩
  rw [cell_of_row w ab _ _ _ _ H.ad, ← Array.getElem?_toList]
  show (rowI A)[x]? = _
  unfold rowI
  rw [List.getElem?_map, List.getD_eq_getElem?_getD, List.getElem?_eq_getElem hx]; rfl
theorem RX.bcell (H : RX w g ab bb A I) {x : Nat} (hx : x < A.length) : w.cell? ⟨bb, x, none⟩ = some (.bool (I.getD x false)) ∧ w.frozen? ⟨bb, x, none⟩ = false := by
  obtain ⟨sp, h3⟩ := H.bd
  refine ⟨?_, by simp [World.frozen?, h3]⟩
  rw [cell_of_row w bb _ _ _ _ h3, ← Array.getElem?_toList]
  show (rowB I ++ sp)[x]? = _
  have hx2 : x < I.length := by rw [H.len]; exact hx
  rw [List.getElem?_append_left (by unfold rowB; rw [List.length_map]; exact hx2)]
  unfold rowB
  rw [List.getElem?_map, List.getD_eq_getElem?_getD, List.getElem?_eq_getElem hx2]; rfl
theorem RX.setA (H : RX w g ab bb A I) (x : Nat) {v : Int} (h0 : 0 ≤ v) (h1 : v ≤ 1099511627776) : RX (w.setCell ⟨ab, x, none⟩ (.int .i64 v)) g ab bb (A.set x v) I := by
  obtain ⟨n1, n2, n3⟩ := H.ne
  obtain ⟨cb, e1⟩ := H.gd
  obtain ⟨sp, e3⟩ := H.bd
  refine ⟨⟨cb, (Below.heap_setCell _ _ _ _ n1).trans (by rw [List.length_set]; exact e1)⟩, (heap_setCell_same w ab _ _ _ _ H.ad).trans ?_, ⟨sp, (Below.heap_setCell _ _ _ _ (Ne.symm n3)).trans e3⟩, by rw [List.length_set]; exact H.len, by rw [List.length_set]; exact H.le, fun a ha => ?_⟩
  · rw [List.setIfInBounds_toArray, rowI_set]
  · rcases List.mem_or_eq_of_mem_set ha with ha | rfl
    · exact H.act a ha
    · exact ⟨h0, h1⟩
theorem RX.setB (H : RX w g ab bb A I) (x : Nat) (v : Bool) (hx : x < A.length) : RX (w.setCell ⟨bb, x, none⟩ (.bool v)) g ab bb A (I.set x v) := by
  obtain ⟨n1, n2, n3⟩ := H.ne
  obtain ⟨cb, e1⟩ := H.gd
  obtain ⟨sp, e3⟩ := H.bd
  refine ⟨⟨cb, (Below.heap_setCell _ _ _ _ n2).trans (by rw [List.length_set]; exact e1)⟩, (Below.heap_setCell _ _ _ _ n3).trans H.ad, ⟨sp, (heap_setCell_same w bb _ _ _ _ e3).trans ?_⟩, by rw [List.length_set]; exact H.len, H.le, H.act⟩
  rw [List.setIfInBounds_toArray, List.set_append_left _ _ (by unfold rowB; rw [List.length_map, H.len]; exact hx)]
  unfold rowB
  rw [List.map_set]
end
/-- In a state as it is known from without. -/
def RQ (w : World) (g ab bb : Nat) (s : St) : Prop := ∃ I, RX w g ab bb s.A I ∧ s.S.Nodup ∧ ∀ x, I.getD x false = true ↔ x ∈ s.S
theorem RQ.gr {w w' : World} {g ab bb : Nat} {s : St} {P : Nat → Prop} (H : RQ w g ab bb s) (k : Gr P w w') (h1 : P g) (h2 : P ab) (h3 : P bb) : RQ w' g ab bb s := by
  obtain ⟨I, a1, a2⟩ := H
  exact ⟨I, a1.gr k h1 h2 h3, a2⟩
theorem RQ.below {w w' : World} {g ab bb : Nat} {s : St} (H : RQ w g ab bb s) (hb : Below w.heap.size w w') : RQ w' g ab bb s := H.gr (P := fun _ => True) (Gr.of_below hb) trivial trivial trivial
theorem RQ.blk {w : World} {g ab bb : Nat} {s : St} (H : RQ w g ab bb s) : g < w.heap.size ∧ ab < w.heap.size ∧ bb < w.heap.size := by obtain ⟨I, a1, a2⟩ := H; exact a1.blk
theorem info_bool : (Try.prog.info? 4).map (fun i => (i.zero, i.size, i.bytes)) = some (some (.bool false), 1, 1) := by kernel_rfl
theorem make_bool (n : Nat) (hn : n ≤ 300) (w : World) : (Instr.makeSlice 57 (.int .i64 n) (.int .i64 n)).run Try.prog w = .ok (.slice (some ⟨w.heap.size, 0, none⟩) n n) (w.alloc (.cells ⟨rowB (List.replicate n false)⟩ 4)) := by
  obtain ⟨i0, hi, hz0, hz1, hz2⟩ := info_parts info_bool
  have := run_make (P := Try.prog) w 57 4 i0 _ Try.underlying57 hi hz0 .i64 .i64 n n (by omega) (by omega) (by rw [hz2]; omega) (by omega)
  have e : madeCells (Value.bool false).cells (n * 1) = ⟨rowB (List.replicate n false)⟩ := by
    apply Array.ext'
    apply List.ext_getElem?
    intro k
    show _ = (rowB (List.replicate n false))[k]?
    unfold rowB
    rw [Array.getElem?_toList, List.getElem?_map, List.getElem?_replicate]
    by_cases hk : k < n
    · rw [if_pos hk]
      unfold madeCells
      rw [Array.getElem?_map, Array.getElem?_range, if_pos (by omega)]
      show some ((#[Value.bool false] : Array Value)[k % 1]!) = _
      rw [Nat.mod_one]
      rfl
    · rw [if_neg hk, Array.getElem?_eq_none (by rw [size_madeCells]; omega)]
      rfl
  rw [hz1] at this
  rw [Int.toNat_natCast, e] at this
  exact this
theorem RNew_bad (n : Int) (w : World) (hn : n < 0 ∨ 65536 < n) : Calls Try.prog 10 #[.int .i64 n] w fun e w' => e = .returned (.pointer none) ∧ w = w' := by
  by_cases h : n < 0
  · go_enter Try.func10, Try.ntmps10
    go_wp2
    go_ret
    exact ⟨rfl, rfl⟩
  · have h2 : 65536 < n := by omega
    go_enter Try.func10, Try.ntmps10
    go_wp2
    go_ret
    exact ⟨rfl, rfl⟩
/-- What New answers. -/
def RNewP (n : Nat) (w : World) (e : Ending) (w' : World) : Prop := ∃ g ab bb, e = .returned (.pointer (some ⟨g, 0, none⟩)) ∧ RQ w' g ab bb (s0 n) ∧ w.heap.size ≤ g ∧ w.heap.size ≤ ab ∧ w.heap.size ≤ bb ∧ Below w.heap.size w w'
theorem rq_new {w : World} {g ab bb n : Nat} (hn : n ≤ 300) (h1 : w.heap[g]? = some (.cells #[.slice (some ⟨ab, 0, none⟩) n n, .slice (some ⟨bb, 0, none⟩) n n] 59 (0, 0))) (h2 : w.heap[ab]? = some (.cells ⟨rowI (List.replicate n 0)⟩ 3 (0, 0))) (h3 : w.heap[bb]? = some (.cells ⟨rowB (List.replicate n false)⟩ 4 (0, 0))) : RQ w g ab bb (s0 n) := by
  refine ⟨List.replicate n false, ⟨⟨n, ?_⟩, h2, ⟨[], by rw [List.append_nil]; exact h3⟩, ?_, ?_, fun a ha => ?_⟩, List.Pairwise.nil, fun x => ?_⟩
  · show w.heap[g]? = some (.cells #[.slice (some ⟨ab, 0, none⟩) (List.replicate n (0 : Int)).length (List.replicate n (0 : Int)).length, _] _ _)
    rw [List.length_replicate, List.length_replicate]
    exact h1
  · show _ = (List.replicate n (0 : Int)).length
    rw [List.length_replicate, List.length_replicate]
  · show (List.replicate n (0 : Int)).length ≤ 300
    rw [List.length_replicate]
    exact hn
  · have ha2 : a ∈ List.replicate n (0 : Int) := ha
    rw [(List.mem_replicate.1 ha2).2]
    omega
  · show _ ↔ x ∈ []
    rw [List.getD_eq_getElem?_getD, List.getElem?_replicate]
    split <;> simp
theorem RNew_any (n : Nat) (w : World) (hn : n ≤ 300) : Calls Try.prog 10 #[.int .i64 n] w fun e w' => RNewP n w e w' := by
  have hm1 := fun W => make_int n hn W
  have hm2 := fun W => make_bool n hn W
  go_enter Try.func10, Try.ntmps10
  go_wp2
  go_region
  · obtain ⟨q1, q2, q3, q4⟩ := three_new w (.cells ⟨rowI (List.replicate n 0)⟩ 3) (.cells ⟨rowB (List.replicate n false)⟩ 4) (.cells #[.slice (some ⟨w.heap.size, 0, none⟩) n n, .slice (some ⟨w.heap.size + 1, 0, none⟩) n n] 59)
    go_wp2
    go_ret
    exact ⟨_, _, _, rfl, rq_new hn q3 q1 q2, by omega, Nat.le_refl _, by omega, q4⟩
  · obtain ⟨q1, q2, q3, q4⟩ := three_new w (.cells ⟨rowB (List.replicate n false)⟩ 4) (.cells ⟨rowI (List.replicate n 0)⟩ 3) (.cells #[.slice (some ⟨w.heap.size + 1, 0, none⟩) n n, .slice (some ⟨w.heap.size, 0, none⟩) n n] 59)
    go_wp2
    go_ret
    exact ⟨_, _, _, rfl, rq_new hn q3 q2 q1, by omega, by omega, Nat.le_refl _, q4⟩
end Go.Proofs.Ytmgppnepccmceaa
