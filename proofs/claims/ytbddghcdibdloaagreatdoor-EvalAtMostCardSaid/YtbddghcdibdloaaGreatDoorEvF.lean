/- Package eval's apply, the kind of a function's node. -/
import Derived.Test.YtbddghcdibdloaaGreatDoorEvD
import Derived.Deep.RegionHeld3
import Derived.BigQuiet
namespace Go.Proofs.YtbddghcdibdloaaGreatDoor
open Go.RowKit
set_option linter.unusedVariables false
set_option maxRecDepth 100000 in
set_option maxHeartbeats 2000000 in
theorem apply_nil (m fb ab : Nat) (w : World) (hG : GS w) (hS : OneR w m) (hW : WrR w fb) :
    Calls Tryz.prog 36 #[.agg #[.slice none 0 0, .slice (some ⟨m, 0, none⟩) 1 1, .slice none 0 0], .agg #[.slice none 0 0, .slice (some ⟨fb, 0, none⟩) 1 1], .int .i64 0, .slice (some ⟨ab, 0, none⟩) 0 3] w (ApPost w 3) := by
  have HA : Hid (∀ V, Below w.heap.size w V → Calls Tryz.prog 45 #[.agg #[.slice none 0 0, .slice (some ⟨m, 0, none⟩) 1 1, .slice none 0 0], .agg #[.slice none 0 0, .slice (some ⟨fb, 0, none⟩) 1 1], .int .i64 0, .slice (some ⟨ab, 0, none⟩) 0 3] V (ApPost V 3)) := fun V hV => Apply_nil m fb ab none 0 1 V (hG.below hV) (hS.below hV) (hW.below hV)
  clear hG hS hW
  go_enter Tryz.func36, Tryz.ntmps36
  go_wp2
  go_region
  go_wp2
  go_region
  go_wp2_with fail
  refine (HA.out _ (((Below.refl _ _).alloc (Nat.le_refl _) _).alloc (by simp) _).drew.drew).mono ?_
  rintro e w1 ⟨rfl, hb1⟩
  go_wp2
  go_ret2
  exact ⟨rfl, (((Below.refl _ _).alloc (Nat.le_refl _) _).alloc (by simp) _).drew.drew.trans (hb1.mono (by simp; omega))⟩
/-- The boxes that the functions' kind holds. -/
structure BxK (w : World) (bg bw m fb : Nat) : Prop where
  g : w.heap[bg]? = some (.cells #[.slice none 0 0, .slice (some ⟨m, 0, none⟩) 1 1, .slice none 0 0] 34 (0, 0))
  u : w.heap[bw]? = some (.cells #[.slice none 0 0, .slice (some ⟨fb, 0, none⟩) 1 1] 51 (0, 0))
theorem BxK.lt {w : World} {bg bw m fb : Nat} (h : BxK w bg bw m fb) : bg < w.heap.size ∧ bw < w.heap.size := ⟨(Array.getElem?_eq_some_iff.1 h.g).1, (Array.getElem?_eq_some_iff.1 h.u).1⟩
theorem BxK.below {w w' : World} {bg bw m fb : Nat} (h : BxK w bg bw m fb) (hb : Below w.heap.size w w') : BxK w' bg bw m fb := ⟨(hb.block _ h.lt.1).trans h.g, (hb.block _ h.lt.2).trans h.u⟩
theorem BxK.cells {w : World} {bg bw m fb : Nat} (h : BxK w bg bw m fb) : w.cell? ⟨bg, 0, none⟩ = some (.slice none 0 0) ∧ w.cell? ⟨bg, 1, none⟩ = some (.slice (some ⟨m, 0, none⟩) 1 1) ∧ w.cell? ⟨bg, 2, none⟩ = some (.slice none 0 0) ∧ w.cell? ⟨bw, 0, none⟩ = some (.slice none 0 0) ∧ w.cell? ⟨bw, 1, none⟩ = some (.slice (some ⟨fb, 0, none⟩) 1 1) := by
  have e0 := cell_of_row _ _ 0 _ _ _ h.g
  have e1 := cell_of_row _ _ 1 _ _ _ h.g
  have e2 := cell_of_row _ _ 2 _ _ _ h.g
  have e3 := cell_of_row _ _ 0 _ _ _ h.u
  have e4 := cell_of_row _ _ 1 _ _ _ h.u
  simp only [List.getElem?_toArray, List.getElem?_cons_zero, List.getElem?_cons_succ] at e0 e1 e2 e3 e4
  exact ⟨e0, e1, e2, e3, e4⟩
set_option maxRecDepth 100000 in
set_option maxHeartbeats 2000000 in
theorem k14_nil (bg bw m fb : Nat) (n0 n2 n3 n4 n5 n7 b0 b1 b2 : Value) (w : World) (hG : GS w) (hS : OneR w m) (hW : WrR w fb) (hK : BxK w bg bw m fb) :
    Calls Tryz.prog 35 #[.agg #[n0, .int .i8 0, n2, n3, n4, n5, .int .i64 0, n7], .agg #[b0, b1, b2], .pointer (some ⟨bg, 0, none⟩), .pointer (some ⟨bw, 0, none⟩)] w (ApPost w 3) := by
  obtain ⟨W0, hW0⟩ : ∃ W0, W0 = (w.alloc (.cells #[n0, .int .i8 0, n2, n3, n4, n5, .int .i64 0, n7] 41)).alloc (.cells #[b0, b1, b2] 72) := ⟨_, rfl⟩
  have hB0 : Below w.heap.size w W0 := by rw [hW0]; exact ((Below.refl _ _).alloc (Nat.le_refl _) _).alloc (by simp) _
  have hz0 : W0.heap.size = w.heap.size + 2 := by rw [hW0]; simp
  have hN : W0.heap[w.heap.size]? = some (.cells #[n0, .int .i8 0, n2, n3, n4, n5, .int .i64 0, n7] 41 (0, 0)) := by rw [hW0]; exact mid_new' w _ _
  have hA : W0.heap[w.heap.size + 1]? = some (.cells #[b0, b1, b2] 72 (0, 0)) := by
    rw [hW0]
    have := heap_alloc_new (w.alloc (.cells #[n0, .int .i8 0, n2, n3, n4, n5, .int .i64 0, n7] 41)) (.cells #[b0, b1, b2] 72)
    simpa only [World.size_alloc] using this
  have HA : Hid (∀ V, Below w.heap.size w V → Calls Tryz.prog 36 #[.agg #[.slice none 0 0, .slice (some ⟨m, 0, none⟩) 1 1, .slice none 0 0], .agg #[.slice none 0 0, .slice (some ⟨fb, 0, none⟩) 1 1], .int .i64 0, .slice (some ⟨w.heap.size + 1, 0, none⟩) 0 3] V (ApPost V 3)) := fun V hV => apply_nil m fb _ V (hG.below hV) (hS.below hV) (hW.below hV)
  have HK : Hid (∀ V, Below W0.heap.size W0 V → V.cell? ⟨bg, 0, none⟩ = some (.slice none 0 0) ∧ V.cell? ⟨bg, 1, none⟩ = some (.slice (some ⟨m, 0, none⟩) 1 1) ∧ V.cell? ⟨bg, 2, none⟩ = some (.slice none 0 0) ∧ V.cell? ⟨bw, 0, none⟩ = some (.slice none 0 0) ∧ V.cell? ⟨bw, 1, none⟩ = some (.slice (some ⟨fb, 0, none⟩) 1 1) ∧ V.cell? ⟨w.heap.size, 1, none⟩ = some (.int .i8 0) ∧ V.cell? ⟨w.heap.size, 6, none⟩ = some (.int .i64 0)) := fun V hV => by
    obtain ⟨d0, d1, d2, d3, d4⟩ := ((hK.below hB0).below hV).cells
    have hx := (hV.block _ (by omega)).trans hN
    have e1 := cell_of_row _ _ 1 _ _ _ hx
    have e6 := cell_of_row _ _ 6 _ _ _ hx
    simp only [List.getElem?_toArray, List.getElem?_cons_zero, List.getElem?_cons_succ] at e1 e6
    exact ⟨d0, d1, d2, d3, d4, e1, e6⟩
  have HB0 := Lib.hid hB0
  obtain ⟨l1, l2⟩ := hK.lt
  clear hG hS hW hK hB0 hN hA
  go_enter Tryz.func35, Tryz.ntmps35
  go_wp2_with fail
  rw [← hW0]
  clear hW0
  obtain ⟨c0, c1, c2, c3, c4, c5, c6⟩ := HK.out W0 (Below.refl _ _)
  go_region_held3 (fun V => V.cell? ⟨bg, 0, none⟩ = some (.slice none 0 0) ∧ V.cell? ⟨bg, 1, none⟩ = some (.slice (some ⟨m, 0, none⟩) 1 1) ∧ V.cell? ⟨bg, 2, none⟩ = some (.slice none 0 0) ∧ V.cell? ⟨bw, 0, none⟩ = some (.slice none 0 0) ∧ V.cell? ⟨bw, 1, none⟩ = some (.slice (some ⟨fb, 0, none⟩) 1 1) ∧ V.cell? ⟨w.heap.size, 1, none⟩ = some (.int .i8 0) ∧ V.cell? ⟨w.heap.size, 6, none⟩ = some (.int .i64 0))
    (first | with_reducible exact HK.out _ (by assumption) | exact HK.out _ (Below.refl _ _) | exact HK.out _ (Below.refl _ _).drew)
    (first | (go_at_call 36; refine (HA.out _ HB0.out.drew).mono ?_; rintro e w2 ⟨rfl, hb2⟩; have hb3 : Below W0.heap.size W0 w2 := (Below.refl W0.heap.size W0).drew.trans hb2; clear hb2))
  clear c0 c1 c2 c3 c4 c5 c6
  go_wp2
  go_ret2
  exact ⟨rfl, ball' HB0.out hb3⟩
end Go.Proofs.YtbddghcdibdloaaGreatDoor
