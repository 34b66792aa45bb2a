/- What the document says of a name of the core, and of a sort: wakes of the statements of layer 4. -/
import Derived.Test.YthejmepiliiihaaDoorSgPf
import Derived.Test.YthejmepiliiihaaDoorSgY
import Derived.Test.YthejmepiliiihaaDoorSgZ
namespace Go.Proofs.YthejmepiliiihaaDoor
open Go.RowKit
set_option linter.unusedVariables false
def wkS : ByteArray := ⟨#[83]⟩
def wkAnd : ByteArray := ⟨#[97, 110, 100]⟩
def WkPost (w : World) (e : Ending) (w' : World) : Prop := ∃ (sa : Option Addr) (sc : Nat) (fa : Option Addr) (fc : Nat) (ma : Option Addr) (mc : Nat), e = .returned (.tuple #[.agg #[.slice sa 1 sc, .slice fa 0 fc, .slice ma 0 mc], .int .i64 0]) ∧ SigR w' ⟨[wkS], sa, sc, [], fa, fc, [], ma, mc⟩ ∧ Below w.heap.size w w'
theorem wk_add (w : World) (hG : GS w) : Calls Tryd.prog 7 #[.agg #[.slice none 0 0, .slice none 0 0, .slice none 0 0], .string ⟨#[83]⟩] w (WkPost w) := by
  refine (AddSort_any emptyV wkS w hG (empty_R w) (by decide) (fun m h => by simp [emptyV, SigV.a] at h)).mono ?_
  rintro e w' ⟨z, r, rfl, hb, h0, _, h2⟩
  have hr : r = 0 := h2 (empty_K w) trivial (by decide +kernel) (by decide +kernel) (by decide +kernel) (by decide +kernel)
  subst hr
  obtain ⟨hz, hR, _⟩ := h0 rfl
  obtain ⟨ss, sa, sc, fs, fa, fc, ms, ma, mc⟩ := z
  simp only [SigV.a, emptyV, SigA.mk.injEq, List.nil_append, List.map_nil, List.map_eq_nil_iff] at hz
  obtain ⟨rfl, rfl, rfl⟩ := hz
  exact ⟨sa, sc, fa, fc, ma, mc, rfl, hR, hb⟩
theorem wk_s : sortI [wkS] wkS = 2 ∧ sortB [wkS] wkS = true := by decide +kernel
theorem wk_f1 : freeA (memB (wkAnd, false) (namesA ⟨[wkS], [], []⟩)) wkAnd false = 32 := by decide +kernel
theorem wk_f2 : freeA (memB (wkS, false) (namesA ⟨[wkS], [], []⟩)) wkS false = 0 := by decide +kernel
set_option maxRecDepth 100000 in
theorem wakes_any (w : World) (hG : GS w) : Calls Tryd.prog 6 #[] w fun e w' => e = .returned (.bool true) ∧ Below w.heap.size w w' := by
  have HA := Lib.hid (wk_add w hG)
  have HG := Lib.hid hG
  clear hG
  go_enter Tryd.func6, Tryd.ntmps6
  go_wp2_with fail
  refine HA.out.mono ?_
  rintro e w1 ⟨sa, sc, fa, fc, ma, mc, rfl, hR, hb1⟩
  have HS : Hid (∀ V, Below w1.heap.size w1 V → Calls Tryd.prog 8 #[.agg #[.slice sa 1 sc, .slice fa 0 fc, .slice ma 0 mc], .string ⟨#[83]⟩] V fun e w' => e = .returned (.tuple #[.int .i64 2, .bool true]) ∧ Below V.heap.size V w') := fun V hV => by
    have := Sort_any ⟨[wkS], sa, sc, [], fa, fc, [], ma, mc⟩ wkS V ((HG.out.below hb1).below hV) (hR.below hV) (by simp)
    rw [wk_s.1, wk_s.2] at this
    exact this
  have HF1 : Hid (∀ V, Below w1.heap.size w1 V → Calls Tryd.prog 14 #[.agg #[.slice sa 1 sc, .slice fa 0 fc, .slice ma 0 mc], .string ⟨#[97, 110, 100]⟩, .bool false] V fun e w' => e = .returned (.int .i64 32) ∧ Below V.heap.size V w') := fun V hV =>
    Free_any ⟨[wkS], sa, sc, [], fa, fc, [], ma, mc⟩ wkAnd false 32 V ((HG.out.below hb1).below hV) (hR.below hV) (by decide) (by simp [namesA, SigV.a]) wk_f1
  have HF2 : Hid (∀ V, Below w1.heap.size w1 V → Calls Tryd.prog 14 #[.agg #[.slice sa 1 sc, .slice fa 0 fc, .slice ma 0 mc], .string ⟨#[83]⟩, .bool false] V fun e w' => e = .returned (.int .i64 0) ∧ Below V.heap.size V w') := fun V hV =>
    Free_any ⟨[wkS], sa, sc, [], fa, fc, [], ma, mc⟩ wkS false 0 V ((HG.out.below hb1).below hV) (hR.below hV) (by decide) (by simp [namesA, SigV.a]) wk_f2
  have HB1 := Lib.hid hb1
  have hA : Below w1.heap.size w1 (w1.alloc (.cells #[.slice sa 1 sc, .slice fa 0 fc, .slice ma 0 mc] 26)) := (Below.refl _ _).alloc (Nat.le_refl _) _
  have HK : Hid (∀ V, Below (w1.heap.size + 1) (w1.alloc (.cells #[.slice sa 1 sc, .slice fa 0 fc, .slice ma 0 mc] 26)) V → V.cell? ⟨w1.heap.size, 0, none⟩ = some (.slice sa 1 sc) ∧ V.cell? ⟨w1.heap.size, 1, none⟩ = some (.slice fa 0 fc) ∧ V.cell? ⟨w1.heap.size, 2, none⟩ = some (.slice ma 0 mc)) := fun V hV => by
    have e0 := (hV.block _ (by omega)).trans (heap_alloc_new w1 _)
    have a0 := cell_of_row _ _ 0 _ _ _ e0
    have a1 := cell_of_row _ _ 1 _ _ _ e0
    have a2 := cell_of_row _ _ 2 _ _ _ e0
    simp only [List.getElem?_toArray, List.getElem?_cons_zero, List.getElem?_cons_succ] at a0 a1 a2
    exact ⟨a0, a1, a2⟩
  have HAl := Lib.hid hA
  clear hb1 hR HA HG hA
  go_wp2_with fail
  refine (HS.out _ HAl.out).mono ?_
  rintro e w2 ⟨rfl, hb2⟩
  rw [World.size_alloc] at hb2
  obtain ⟨a0, a1, a2⟩ := HK.out _ hb2
  have HB2 := Lib.hid (HAl.out.trans (hb2.mono (by omega)))
  have HQ2 := Lib.hid hb2
  clear hb2 HAl
  go_wp2_with fail
  refine (HF1.out _ HB2.out).mono ?_
  rintro e w3 ⟨rfl, hb3⟩
  clear a0 a1 a2
  have hq := HQ2.out.trans (hb3.mono (by have := HQ2.out.size; rwa [World.size_alloc] at this))
  have hB3 := Lib.hid (HB2.out.trans (hb3.mono HB2.out.size))
  obtain ⟨a0, a1, a2⟩ := HK.out _ hq
  clear hq hb3
  go_wp2_with fail
  refine (HF2.out _ hB3.out).mono ?_
  rintro e w4 ⟨rfl, hb4⟩
  have hB4 := hB3.out.trans (hb4.mono hB3.out.size)
  go_wp2
  go_ret
  exact ⟨rfl, HB1.out.trans (hB4.mono HB1.out.size)⟩
end Go.Proofs.YthejmepiliiihaaDoor
