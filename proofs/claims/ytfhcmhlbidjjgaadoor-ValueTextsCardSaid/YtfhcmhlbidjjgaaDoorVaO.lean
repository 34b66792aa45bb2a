/- Package value's anew. -/
import Derived.Test.YtfhcmhlbidjjgaaDoorVaL
namespace Go.Proofs.YtfhcmhlbidjjgaaDoor
open Go.RowKit
set_option linter.unusedVariables false
def AnPost (w : World) (e : Ending) (w' : World) : Prop := ∃ sa sc g c, e = .returned (.agg #[.slice sa 0 sc, .slice (some ⟨g, 0, none⟩) 1 c]) ∧ w.heap.size ≤ g ∧ FvR w' g (.slice none 0 0) ∧ Below w.heap.size w w'
theorem FvR.set {w : World} {g : Nat} {v u : Value} (h : FvR w g v) : FvR (w.setCell ⟨g, 0, none⟩ u) g u := by
  obtain ⟨cs, h, h0, h1⟩ := h
  have hs : 0 < cs.size := (Array.getElem?_eq_some_iff.1 h0).1
  refine ⟨cs.set 0 u hs, ?_, ?_, ?_⟩
  · simp [World.setCell, Array.getElem?_modify, h, Array.setIfInBounds, hs]
  · simp
  · simp [h1]
/-- Between two rounds of anew: the box, the result, what the functions are. -/
structure AnI (w wr : World) (g c : Nat) (sa : Option Addr) (sc : Nat) : Prop where
  below : Below w.heap.size w wr
  far : w.heap.size + 2 ≤ g
  box : wr.heap[w.heap.size]? = some (.cells #[.slice sa 0 sc, .slice (some ⟨g, 0, none⟩) 1 c] 44 (0, 0))
  res : wr.heap[w.heap.size + 1]? = some (.cells #[.slice none 0 0, .slice none 0 0] 44 (0, 0))
  fv : FvR wr g (.slice none 0 0)
theorem AnI.next {w wr : World} {g c : Nat} {sa : Option Addr} {sc : Nat} (h : AnI w wr g c sa sc) : AnI w (wr.drew.setCell ⟨g, 0, none⟩ (.slice none 0 0)) g c sa sc :=
  ⟨(h.below.drew).setCell (p := ⟨g, 0, none⟩) (by have := h.far; simp; omega) _, h.far, (Below.heap_setCell _ _ _ _ (by have := h.far; simp; omega)).trans h.box, (Below.heap_setCell _ _ _ _ (by have := h.far; simp; omega)).trans h.res, FvR.set (w := wr.drew) h.fv⟩
theorem AnI.cells {w wr : World} {g c : Nat} {sa : Option Addr} {sc : Nat} (h : AnI w wr g c sa sc) : wr.cell? ⟨w.heap.size, 0, none⟩ = some (.slice sa 0 sc) ∧ wr.cell? ⟨w.heap.size, 1, none⟩ = some (.slice (some ⟨g, 0, none⟩) 1 c) ∧ wr.cell? ⟨w.heap.size + 1, 0, none⟩ = some (.slice none 0 0) ∧ wr.cell? ⟨w.heap.size + 1, 1, none⟩ = some (.slice none 0 0) ∧ wr.cell? ⟨g, 0, none⟩ = some (.slice none 0 0) ∧ wr.frozen? ⟨w.heap.size + 1, 0, none⟩ = false ∧ wr.frozen? ⟨w.heap.size + 1, 1, none⟩ = false ∧ wr.frozen? ⟨g, 0, none⟩ = false := by
  have e0 := cell_of_row _ _ 0 _ _ _ h.box
  have e1 := cell_of_row _ _ 1 _ _ _ h.box
  have e2 := cell_of_row _ _ 0 _ _ _ h.res
  have e3 := cell_of_row _ _ 1 _ _ _ h.res
  simp only [List.getElem?_toArray, List.getElem?_cons_zero, List.getElem?_cons_succ] at e0 e1 e2 e3
  exact ⟨e0, e1, e2, e3, h.fv.cells.1, by simp [World.frozen?, h.res], by simp [World.frozen?, h.res], h.fv.unfrozen 0⟩
set_option maxRecDepth 100000 in
set_option maxHeartbeats 2000000 in
theorem anew_one (fb : Nat) (sa : Option Addr) (sc fc : Nat) (w : World) (hF : FvR w fb (.slice none 0 0)) (hfc : 1 ≤ fc) :
    Calls Tryd.prog 19 #[.agg #[.slice sa 0 sc, .slice (some ⟨fb, 0, none⟩) 1 fc]] w (AnPost w) := by
  obtain ⟨W1, hW1⟩ : ∃ W1, W1 = w.alloc (.cells #[.slice sa 0 sc, .slice (some ⟨fb, 0, none⟩) 1 fc] 44) := ⟨_, rfl⟩
  have hz1 : W1.heap.size = w.heap.size + 1 := by rw [hW1]; simp
  have hb1 : Below w.heap.size w W1 := by rw [hW1]; exact (Below.refl _ _).alloc (Nat.le_refl _) _
  obtain ⟨W0, hW0⟩ : ∃ W0, W0 = W1.alloc (.cells #[.slice none 0 0, .slice none 0 0] 44) := ⟨_, rfl⟩
  have hz0 : W0.heap.size = w.heap.size + 2 := by rw [hW0]; simp [hz1]
  have hb0 : Below w.heap.size w W0 := by rw [hW0]; exact hb1.alloc (by omega) _
  have hG : W0.heap[w.heap.size]? = some (.cells #[.slice sa 0 sc, .slice (some ⟨fb, 0, none⟩) 1 fc] 44 (0, 0)) := by
    rw [hW0, Below.heap_alloc _ _ _ (by omega), hW1]; exact heap_alloc_new w _
  have hR : W0.heap[w.heap.size + 1]? = some (.cells #[.slice none 0 0, .slice none 0 0] 44 (0, 0)) := by
    rw [hW0, ← hz1]; exact heap_alloc_new W1 _
  have HK : Hid (∀ V, Below W0.heap.size W0 V → V.cell? ⟨w.heap.size, 0, none⟩ = some (.slice sa 0 sc) ∧ V.cell? ⟨w.heap.size, 1, none⟩ = some (.slice (some ⟨fb, 0, none⟩) 1 fc) ∧ V.frozen? ⟨w.heap.size, 0, none⟩ = false ∧ V.frozen? ⟨w.heap.size, 1, none⟩ = false) := fun V hV => by
    have hx := (hV.block w.heap.size (by omega)).trans hG
    have e0 := cell_of_row _ _ 0 _ _ _ hx
    have e1 := cell_of_row _ _ 1 _ _ _ hx
    simp only [List.getElem?_toArray, List.getElem?_cons_zero, List.getElem?_cons_succ] at e0 e1
    exact ⟨e0, e1, by simp [World.frozen?, hx], by simp [World.frozen?, hx]⟩
  have HCf : Hid (∀ V, Below W0.heap.size W0 V → Calls Tryd.prog 30 #[.slice (some ⟨fb, 0, none⟩) 1 fc] V (FvPost V (.slice none 0 0))) := fun V hV => Clone_fv fb fc V ((hF.below hF.lt hb0).below (by have := hF.lt; omega) hV) hfc
  have HR := Lib.hid hR
  have HG := Lib.hid hG
  have HB0 := Lib.hid hb0
  clear hG hR hb0 hb1 hF
  go_enter Tryd.func19, Tryd.ntmps19
  go_wp2_with fail
  rw [← hW1, ← hW0]
  clear hW1 hW0
  obtain ⟨c0, c1, f0, f1⟩ := HK.out W0 (Below.refl _ _)
  first | (go_region_with (first | (go_at_call 29; refine (Clone_in0 sa sc _).mono ?_; rintro e w1 ⟨sa1, sc1, rfl, hb1⟩; have HB1 : Below W0.heap.size W0 w1 := (Below.refl W0.heap.size W0).drew.trans hb1; obtain ⟨d0, d1, e0, e1⟩ := HK.out w1 HB1) | (go_at_call 30; refine (HCf.out _ HB1).mono ?_; rintro e w2 ⟨g, c, rfl, hg2, hF2, hb2⟩; have HB2 : Below W0.heap.size W0 w2 := ball' HB1 hb2; have hg2' := Nat.le_trans HB1.size hg2; clear HB1 d0 d1 e0 e1 hg2 hb2 hb1; obtain ⟨d0, d1, e0, e1⟩ := HK.out w2 HB2; have hltw : w.heap.size < w2.heap.size := by have := HB2.size; omega))) | fail
  all_goals
    have HI : Hid (AnI w ((w2.setCell ⟨w.heap.size, 0, none⟩ (.slice sa1 0 sc1)).setCell ⟨w.heap.size, 1, none⟩ (.slice (some ⟨g, 0, none⟩) 1 c)) g c sa1 sc1) :=
      ⟨((HB0.out.trans (HB2.mono (by omega))).setCell (p := ⟨w.heap.size, 0, none⟩) (by simp) _).setCell (p := ⟨w.heap.size, 1, none⟩) (by simp) _, by omega, set2 ((HB2.block _ (by omega)).trans HG.out), (oth2 (by omega)).trans ((HB2.block _ (by omega)).trans HR.out), by
        obtain ⟨cs, h, h2⟩ := hF2
        exact ⟨cs, (oth2 (by omega)).trans h, h2⟩⟩
    generalize ((w2.setCell ⟨w.heap.size, 0, none⟩ (.slice sa1 0 sc1)).setCell ⟨w.heap.size, 1, none⟩ (.slice (some ⟨g, 0, none⟩) 1 c)) = W3 at HI ⊢
    clear HB2 hF2 d0 d1 e0 e1 hg2' hltw c0 c1 f0 f1
    obtain ⟨c0, c1, c2, c3, c4, f0, f1, f2⟩ := HI.out.cells
    have hlt3 : w.heap.size + 1 < W3.heap.size := (Array.getElem?_eq_some_iff.1 HI.out.res).1
    go_wp2
    go_loopw [14] (fun i wr => (i = .int .i64 0 ∨ i = .int .i64 1) ∧ Hid (AnI w wr g c sa1 sc1)) (fun i _ => 1 - (intOf i).toNat)
    case atStart => exact ⟨.inl rfl, HI⟩
    case round =>
      obtain ⟨hi, HJ⟩ := hrel
      clear c0 c1 c2 c3 c4 f0 f1 f2 hlt3
      obtain ⟨c0, c1, c2, c3, c4, f0, f1, f2⟩ := HJ.out.cells
      have hlt3 : w.heap.size + 1 < wr.heap.size := (Array.getElem?_eq_some_iff.1 HJ.out.res).1
      have hg3 := HJ.out.fv.lt
      have hfar := HJ.out.far
      rcases hi with rfl | rfl
      · go_wp2_with fail
        go_region_held3 (fun V => V.cell? ⟨w.heap.size, 1, none⟩ = some (.slice (some ⟨g, 0, none⟩) 1 c) ∧ V.cell? ⟨g, 0, none⟩ = some (.slice none 0 0))
          (first | exact ⟨c1, c4⟩ | exact ⟨HJ.out.next.cells.2.1, HJ.out.next.cells.2.2.2.2.1⟩)
          (first | (go_at_call 31; refine (Clone_rw0 _).mono ?_; rintro e w5 ⟨rfl, rfl⟩))
        go_wp2
        go_roundw
        case rel => exact ⟨.inr rfl, HJ.out.next⟩
        case measure => simp [intOf]
      · go_wp2
        refine bodyPost_ret (results_cell_row rfl _ _ (w.heap.size + 1) 44 #[.slice sa1 0 sc1, .slice (some ⟨g, 0, none⟩) 1 c] (0, 0) _ rfl (set2 HJ.out.res) Tryd.underlying44 rfl wrSize) rfl ?_
        refine ⟨sa1, sc1, g, c, rfl, by omega, ?_, ?_⟩
        · obtain ⟨cs, h, h2⟩ := HJ.out.fv
          exact ⟨cs, (oth2 (by omega)).trans h, h2⟩
        · exact (HJ.out.below.setCell (p := ⟨w.heap.size + 1, 0, none⟩) (by simp) _).setCell (p := ⟨w.heap.size + 1, 1, none⟩) (by simp) _
end Go.Proofs.YtfhcmhlbidjjgaaDoor
