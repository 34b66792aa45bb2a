/- slices.Repeat at no times; package value's Plain; gantrylaw09's one. -/
import Derived.Test.YtfhcmhlbidjjgaaDoorVaJ
namespace Go.Proofs.YtfhcmhlbidjjgaaDoor
open Go.RowKit
set_option linter.unusedVariables false
theorem Mul64_no (w : World) : Calls Tryd.prog 40 #[.int .u64 1, .int .u64 0] w fun e w' => e = .returned (.tuple #[.int .u64 0, .int .u64 0]) ∧ w = w' := by
  go_enter Tryd.func40, Tryd.ntmps40
  go_wp2
  go_ret2
  exact ⟨rfl, rfl⟩
theorem Mul_no (w : World) : Calls Tryd.prog 32 #[.int .u64 1, .int .u64 0] w fun e w' => e = .returned (.tuple #[.int .u64 0, .int .u64 0]) ∧ w = w' := by
  go_enter Tryd.func32, Tryd.ntmps32
  go_wp2_with (go_at_call 40; refine (Mul64_no _).mono ?_; rintro e w' ⟨rfl, rfl⟩)
  go_ret2
  exact ⟨rfl, rfl⟩
theorem make_in (w : World) : (Instr.makeSlice 41 (.int .i64 0) (.int .i64 0)).run Tryd.prog w = .ok (.slice (some ⟨w.heap.size, 0, none⟩) 0 0) (w.alloc (.cells #[] 3)) := by kernel_rfl
theorem make_fv (w : World) : (Instr.makeSlice 42 (.int .i64 1) (.int .i64 1)).run Tryd.prog w = .ok (.slice (some ⟨w.heap.size, 0, none⟩) 1 1) (w.alloc (.cells #[.slice none 0 0, .int .i64 0] 62)) := by kernel_rfl
def RepPost (w : World) (e : Ending) (w' : World) : Prop := ∃ sa sc, e = .returned (.slice sa 0 sc) ∧ Below w.heap.size w w'
set_option maxRecDepth 100000 in
theorem Repeat_no (b : Nat) (w : World) : Calls Tryd.prog 20 #[.slice (some ⟨b, 0, none⟩) 1 1, .int .i64 0] w (RepPost w) := by
  have hmk := make_in
  go_enter Tryd.func20, Tryd.ntmps20
  go_wp2_with (first | (go_at_call 32; refine (Mul_no _).mono ?_; rintro e w' ⟨rfl, rfl⟩) | (with_reducible refine wpList_copy_nothing rfl _ _ _ _ rfl 3 Tryd.underlying41 intSize _ _ 0 0 1 1 rfl rfl rfl ?_))
  go_loopw [8] (fun i wr => i = .int .i64 0 ∧ w.alloc (.cells #[] 3) = wr) (fun _ _ => 0)
  case atStart => exact ⟨rfl, rfl⟩
  case round =>
    obtain ⟨rfl, rfl⟩ := hrel
    go_wp2
    go_ret
    exact ⟨_, _, rfl, (Below.refl _ _).alloc (Nat.le_refl _) _⟩
theorem sigSize : (Tryd.prog.info? 26).map (·.size) = some 3 := by kernel_rfl
theorem wrSize : (Tryd.prog.info? 44).map (·.size) = some 2 := by kernel_rfl
def OnePost (w : World) (e : Ending) (w' : World) : Prop := ∃ m, e = .returned (.agg #[.slice none 0 0, .slice (some ⟨m, 0, none⟩) 1 1, .slice none 0 0]) ∧ OneR w' m ∧ Below w.heap.size w w'
set_option maxRecDepth 100000 in
theorem one_any (w : World) : Calls Tryd.prog 9 #[] w (OnePost w) := by
  go_enter Tryd.func9, Tryd.ntmps9
  go_wp2
  refine bodyPost_ret (results_cell_row rfl _ _ (w.heap.size) 26 #[.slice none 0 0, .slice (some ⟨w.heap.size + 1, 0, none⟩) 1 1, .slice none 0 0] (0, 0) _ rfl (by rw [Below.heap_alloc _ _ _ (by simp)]; exact heap_alloc_new w _) Tryd.underlying26 rfl sigSize) rfl ?_
  refine ⟨w.heap.size + 1, rfl, ?_, ((Below.refl _ _).alloc (Nat.le_refl _) _).alloc (by simp) _⟩
  have := heap_alloc_new (w.alloc (.cells #[.slice none 0 0, .slice (some ⟨w.heap.size + 1, 0, none⟩) 1 1, .slice none 0 0] 26)) (.cells #[.string ⟨#[102]⟩, .int .i64 1, .int .i64 1, .int .i64 0, .int .i64 0, .int .i64 1] 71)
  unfold OneR
  simpa only [World.size_alloc] using this
def PlainPost (w : World) (e : Ending) (w' : World) : Prop := ∃ sa sc fb, e = .returned (.agg #[.slice sa 0 sc, .slice (some ⟨fb, 0, none⟩) 1 1]) ∧ WrR w' fb [] none 0 ∧ Below w.heap.size w w'
theorem WrR.nil {w : World} {fb : Nat} (h : w.heap[fb]? = some (.cells #[.slice none 0 0, .int .i64 0] 62 (0, 0))) : WrR w fb [] none 0 :=
  ⟨⟨_, h, rfl, rfl⟩, ⟨fun h => by simp at h, by simp, by simp, by simp, fun r hr => by simp at hr, fun k r h => by simp at h⟩⟩
theorem set2 {w : World} {b : Nat} {t : TypeId} {a0 a1 v0 v1 : Value} (h : w.heap[b]? = some (.cells #[a0, a1] t (0, 0))) :
    ((w.setCell ⟨b, 0, none⟩ v0).setCell ⟨b, 1, none⟩ v1).heap[b]? = some (.cells #[v0, v1] t (0, 0)) := by
  simp [World.setCell, Array.getElem?_modify, h]
theorem oth2 {w : World} {b c : Nat} {v0 v1 : Value} (h : c ≠ b) : ((w.setCell ⟨b, 0, none⟩ v0).setCell ⟨b, 1, none⟩ v1).heap[c]? = w.heap[c]? :=
  (Below.heap_setCell _ _ _ c h).trans (Below.heap_setCell _ _ _ c h)
theorem size2 {w : World} {b : Nat} {v0 v1 : Value} : ((w.setCell ⟨b, 0, none⟩ v0).setCell ⟨b, 1, none⟩ v1).heap.size = w.heap.size := by simp [World.setCell]
theorem plain_end {w w3 : World} {fb : Nat} {x y v0 v1 : Value} (hB : Below w.heap.size w w3) (hR : w3.heap[w.heap.size + 1]? = some (.cells #[x, y] 44 (0, 0)))
    (hf : w3.heap[fb]? = some (.cells #[.slice none 0 0, .int .i64 0] 62 (0, 0))) (hfb : w.heap.size + 2 ≤ fb) :
    ((w3.setCell ⟨w.heap.size + 1, 0, none⟩ v0).setCell ⟨w.heap.size + 1, 1, none⟩ v1).heap[w.heap.size + 1]? = some (.cells #[v0, v1] 44 (0, 0)) ∧
    WrR ((w3.setCell ⟨w.heap.size + 1, 0, none⟩ v0).setCell ⟨w.heap.size + 1, 1, none⟩ v1) fb [] none 0 ∧ Below w.heap.size w ((w3.setCell ⟨w.heap.size + 1, 0, none⟩ v0).setCell ⟨w.heap.size + 1, 1, none⟩ v1) :=
  ⟨set2 hR, WrR.nil ((oth2 (by omega)).trans hf), (hB.setCell (p := ⟨w.heap.size + 1, 0, none⟩) (by simp) _).setCell (p := ⟨w.heap.size + 1, 1, none⟩) (by simp) _⟩
theorem plain_end1 {w w3 : World} {x y v0 v1 : Value} (hB : Below w.heap.size w w3) (hR : w3.heap[w.heap.size + 1]? = some (.cells #[x, y] 44 (0, 0))) :
    (((w3.setCell ⟨w.heap.size + 1, 0, none⟩ v0).setCell ⟨w.heap.size + 1, 1, none⟩ v1).alloc (.cells #[.slice none 0 0, .int .i64 0] 62)).heap[w.heap.size + 1]? = some (.cells #[v0, v1] 44 (0, 0)) ∧
    WrR (((w3.setCell ⟨w.heap.size + 1, 0, none⟩ v0).setCell ⟨w.heap.size + 1, 1, none⟩ v1).alloc (.cells #[.slice none 0 0, .int .i64 0] 62)) w3.heap.size [] none 0 ∧ Below w.heap.size w (((w3.setCell ⟨w.heap.size + 1, 0, none⟩ v0).setCell ⟨w.heap.size + 1, 1, none⟩ v1).alloc (.cells #[.slice none 0 0, .int .i64 0] 62)) := by
  have hlt := (Array.getElem?_eq_some_iff.1 hR).1
  refine ⟨?_, WrR.nil ?_, ?_⟩
  · rw [Below.heap_alloc _ _ _ (by rw [size2]; exact hlt)]; exact set2 hR
  · have := heap_alloc_new ((w3.setCell ⟨w.heap.size + 1, 0, none⟩ v0).setCell ⟨w.heap.size + 1, 1, none⟩ v1) (.cells #[.slice none 0 0, .int .i64 0] 62)
    rw [size2] at this
    exact this
  · exact ((hB.setCell (p := ⟨w.heap.size + 1, 0, none⟩) (by simp) _).setCell (p := ⟨w.heap.size + 1, 1, none⟩) (by simp) _).alloc (by rw [size2]; exact hB.size) _
theorem belowA {W0 V : World} (h : Below W0.heap.size W0 V) (o : Obj) : Below W0.heap.size W0 (V.alloc o) := h.alloc h.size _
set_option maxRecDepth 100000 in
set_option maxHeartbeats 2000000 in
theorem Plain_one (m : Nat) (w : World) : Calls Tryd.prog 10 #[.agg #[.slice none 0 0, .slice (some ⟨m, 0, none⟩) 1 1, .slice none 0 0]] w (PlainPost w) := by
  have hmk := make_fv
  obtain ⟨W1, hW1⟩ : ∃ W1, W1 = w.alloc (.cells #[.slice none 0 0, .slice (some ⟨m, 0, none⟩) 1 1, .slice none 0 0] 26) := ⟨_, rfl⟩
  have hz1 : W1.heap.size = w.heap.size + 1 := by rw [hW1]; simp
  have hb1 : Below w.heap.size w W1 := by rw [hW1]; exact (Below.refl _ _).alloc (Nat.le_refl _) _
  obtain ⟨W0, hW0⟩ : ∃ W0, W0 = W1.alloc (.cells #[.slice none 0 0, .slice none 0 0] 44) := ⟨_, rfl⟩
  have hz0 : W0.heap.size = w.heap.size + 2 := by rw [hW0]; simp [hz1]
  have hb0 : Below w.heap.size w W0 := by rw [hW0]; exact hb1.alloc (by omega) _
  have hG : W0.heap[w.heap.size]? = some (.cells #[.slice none 0 0, .slice (some ⟨m, 0, none⟩) 1 1, .slice none 0 0] 26 (0, 0)) := by
    rw [hW0, Below.heap_alloc _ _ _ (by omega), hW1]; exact heap_alloc_new w _
  have hR : W0.heap[w.heap.size + 1]? = some (.cells #[.slice none 0 0, .slice none 0 0] 44 (0, 0)) := by
    rw [hW0, ← hz1]; exact heap_alloc_new W1 _
  have HK : Hid (∀ V, Below W0.heap.size W0 V → V.cell? ⟨w.heap.size, 0, none⟩ = some (.slice none 0 0) ∧ V.cell? ⟨w.heap.size, 1, none⟩ = some (.slice (some ⟨m, 0, none⟩) 1 1) ∧ V.cell? ⟨w.heap.size + 1, 0, none⟩ = some (.slice none 0 0) ∧ V.cell? ⟨w.heap.size + 1, 1, none⟩ = some (.slice none 0 0) ∧ V.frozen? ⟨w.heap.size + 1, 0, none⟩ = false ∧ V.frozen? ⟨w.heap.size + 1, 1, none⟩ = false) := fun V hV => by
    have hx := (hV.block (w.heap.size + 1) (by omega)).trans hR
    have e0 := cell_of_row _ _ 0 _ _ _ ((hV.block _ (by omega)).trans hG)
    have e1 := cell_of_row _ _ 1 _ _ _ ((hV.block _ (by omega)).trans hG)
    have e2 := cell_of_row _ _ 0 _ _ _ hx
    have e3 := cell_of_row _ _ 1 _ _ _ hx
    simp only [List.getElem?_toArray, List.getElem?_cons_zero, List.getElem?_cons_succ] at e0 e1 e2 e3
    exact ⟨e0, e1, e2, e3, by simp [World.frozen?, hx], by simp [World.frozen?, hx]⟩
  have HR := Lib.hid hR
  have HB0 := Lib.hid hb0
  clear hG hR hb0 hb1
  go_enter Tryd.func10, Tryd.ntmps10
  go_wp2_with fail
  rw [← hW1, ← hW0]
  clear hW1 hW0
  obtain ⟨c0, c1, c2, c3, f0, f1⟩ := HK.out W0 (Below.refl _ _)
  go_region_held3 (fun V => V.cell? ⟨w.heap.size, 0, none⟩ = some (.slice none 0 0) ∧ V.cell? ⟨w.heap.size, 1, none⟩ = some (.slice (some ⟨m, 0, none⟩) 1 1))
    (first | with_reducible exact ⟨(HK.out _ (by assumption)).1, (HK.out _ (by assumption)).2.1⟩ | exact ⟨(HK.out _ (Below.refl _ _)).1, (HK.out _ (Below.refl _ _)).2.1⟩ | exact ⟨(HK.out _ (Below.refl _ _).drew).1, (HK.out _ (Below.refl _ _).drew).2.1⟩ | exact ⟨(HK.out _ (belowA (Below.refl _ _).drew _)).1, (HK.out _ (belowA (Below.refl _ _).drew _)).2.1⟩ | exact ⟨(HK.out _ (belowA (belowA (Below.refl _ _).drew _) _)).1, (HK.out _ (belowA (belowA (Below.refl _ _).drew _) _)).2.1⟩ | exact ⟨(HK.out _ (belowA (by assumption) _)).1, (HK.out _ (belowA (by assumption) _)).2.1⟩ | go_keep)
    (first | (go_at_call 20; refine (Repeat_no _ _).mono ?_; rintro e w3 ⟨sa, sc, rfl, hb3⟩; have HB3 : Below W0.heap.size W0 w3 := ball' (by first | exact belowA (Below.refl _ _).drew _ | exact belowA (belowA (Below.refl _ _).drew _) _) hb3; obtain ⟨d0, d1, d2, d3, e0, e1⟩ := HK.out w3 HB3; have hlt3 : w.heap.size + 1 < w3.heap.size := by have := HB3.size; omega))
  · have HBw := HB0.out.trans (HB3.mono (by omega))
    have hRw := (HB3.block (w.heap.size + 1) (by omega)).trans HR.out
    obtain ⟨h1, h2, h3⟩ := plain_end1 (v0 := .slice sa 0 sc) (v1 := .slice (some ⟨w3.heap.size, 0, none⟩) 1 1) HBw hRw
    have H1 := Lib.hid h1
    clear h1 hRw HBw d0 d1 d2 d3 e0 e1 hb3
    go_wp2
    refine bodyPost_ret (results_cell_row rfl _ _ (w.heap.size + 1) 44 #[.slice sa 0 sc, .slice (some ⟨w3.heap.size, 0, none⟩) 1 1] (0, 0) _ rfl H1.out Tryd.underlying44 rfl wrSize) rfl ?_
    exact ⟨sa, sc, w3.heap.size, rfl, h2, h3⟩
  · have HBw := HB0.out.trans (HB3.mono (by omega))
    have hRw := (HB3.block (w.heap.size + 1) (by omega)).trans HR.out
    have hf : w3.heap[w.heap.size + 2 + 1]? = some (.cells #[.slice none 0 0, .int .i64 0] 62 (0, 0)) := (hb3.block _ (by simp [hz0])).trans (by
      have := heap_alloc_new (W0.alloc (.cells #[.int .i64 1] 3)) (.cells #[.slice none 0 0, .int .i64 0] 62)
      rw [World.size_alloc, hz0] at this
      exact this)
    obtain ⟨h1, h2, h3⟩ := plain_end (v0 := .slice sa 0 sc) (v1 := .slice (some ⟨w.heap.size + 2 + 1, 0, none⟩) 1 1) HBw hRw hf (by omega)
    have H1 := Lib.hid h1
    clear h1 hRw HBw hf d0 d1 d2 d3 e0 e1 hb3
    go_wp2
    refine bodyPost_ret (results_cell_row rfl _ _ (w.heap.size + 1) 44 #[.slice sa 0 sc, .slice (some ⟨w.heap.size + 2 + 1, 0, none⟩) 1 1] (0, 0) _ rfl H1.out Tryd.underlying44 rfl wrSize) rfl ?_
    exact ⟨sa, sc, _, rfl, h2, h3⟩
  · have HBw := HB0.out.trans (HB3.mono (by omega))
    have hRw := (HB3.block (w.heap.size + 1) (by omega)).trans HR.out
    have hf : w3.heap[w.heap.size + 2]? = some (.cells #[.slice none 0 0, .int .i64 0] 62 (0, 0)) := (hb3.block _ (by simp [hz0])).trans (by
      show ((W0.alloc (.cells #[.slice none 0 0, .int .i64 0] 62)).alloc (.cells #[.int .i64 1] 3)).heap[w.heap.size + 2]? = _
      rw [Below.heap_alloc _ _ _ (by simp [hz0])]
      have := heap_alloc_new W0 (.cells #[.slice none 0 0, .int .i64 0] 62)
      rw [hz0] at this
      exact this)
    obtain ⟨h1, h2, h3⟩ := plain_end (v0 := .slice sa 0 sc) (v1 := .slice (some ⟨w.heap.size + 2, 0, none⟩) 1 1) HBw hRw hf (by omega)
    have H1 := Lib.hid h1
    clear h1 hRw HBw hf d0 d1 d2 d3 e0 e1 hb3
    go_wp2
    refine bodyPost_ret (results_cell_row rfl _ _ (w.heap.size + 1) 44 #[.slice sa 0 sc, .slice (some ⟨w.heap.size + 2, 0, none⟩) 1 1] (0, 0) _ rfl H1.out Tryd.underlying44 rfl wrSize) rfl ?_
    exact ⟨sa, sc, _, rfl, h2, h3⟩
end Go.Proofs.YtfhcmhlbidjjgaaDoor
