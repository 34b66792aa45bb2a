/- Package value's values (of a world without sorts of its own): valuesOf, has; of a function of one Int: fit. -/
import Derived.Test.YtfhcmhlbidjjgaaDoorVaP
import Derived.Test.YtfhcmhlbidjjgaaDoorNumText
import Derived.Deep.RegionHeld3
import Derived.BigQuiet
namespace Go.Proofs.YtfhcmhlbidjjgaaDoor
open Go.RowKit
set_option linter.unusedVariables false
theorem NMay_yes (v : Int) (w : World) (hv : mayB v = true) :
    Calls Tryd.prog 28 #[.int .i64 v] w fun e w' => e = .returned (.bool true) ∧ Below w.heap.size w w' := by
  have HM := Lib.hid hv
  have h2 := mayB_true.1 hv
  clear hv
  go_enter Tryd.func28, Tryd.ntmps28
  go_wp2_with (go_at_call 21; refine (allMay1_yes _ v _ HM.out (by simp)).mono ?_; rintro e w' ⟨rfl, rfl⟩)
  go_ret
  exact ⟨rfl, (Below.refl _ _).alloc (Nat.le_refl _) _⟩
theorem below_any (n : Int) (w : World) :
    Calls Tryd.prog 27 #[.int .i64 n] w fun e w' => e = .returned (.func (.func 38) #[] #[.pointer (some ⟨w.heap.size, 0, none⟩)]) ∧ w.alloc (.cells #[.int .i64 n] 3) = w' := by
  go_enter Tryd.func27, Tryd.ntmps27
  go_wp2
  go_ret
  exact ⟨rfl, rfl⟩
/-- The closures of Bool and Int lie in block B. -/
def LV (w : World) (B : Nat) : Prop := B < w.heap.size ∧ w.cell? ⟨B, 1, none⟩ = some (.func (.func 28) #[] #[])
theorem LV.below {w w' : World} {B : Nat} (h : LV w B) (hb : Below w.heap.size w w') : LV w' B :=
  ⟨Nat.lt_of_lt_of_le h.1 hb.size, (hb.cell (p := ⟨B, 1, none⟩) h.1).trans h.2⟩
def VOPost (w : World) (e : Ending) (w' : World) : Prop := ∃ B, w.heap.size ≤ B ∧ e = .returned (.slice (some ⟨B, 0, none⟩) 2 2) ∧ LV w' B ∧ Below w.heap.size w w'
theorem valuesOf_none (sa fa : Option Addr) (sc fn fc : Nat) (w : World) :
    Calls Tryd.prog 17 #[.agg #[.slice sa 0 sc, .slice fa fn fc]] w (VOPost w) := by
  go_enter Tryd.func17, Tryd.ntmps17
  go_wp2_with (go_at_call 27; refine (below_any _ _).mono ?_; rintro e w' ⟨rfl, rfl⟩)
  obtain ⟨W2, hW2⟩ : ∃ W2, W2 = (((w.alloc (.cells #[.slice sa 0 sc, .slice fa fn fc] 44)).alloc (.cells #[.int .i64 2] 3)).alloc (.cells #[.func (.func 38) #[] #[.pointer (some ⟨w.heap.size + 1, 0, none⟩)], .func (.func 28) #[] #[]] 83)) := ⟨_, rfl⟩
  have hB2 : Below w.heap.size w W2 := by rw [hW2]; exact (((Below.refl _ _).alloc (Nat.le_refl _) _).alloc (by simp) _).alloc (by simp; omega) _
  have hL : LV W2 (w.heap.size + 1 + 1) := by
    have e0 : W2.heap[w.heap.size + 1 + 1]? = some (.cells #[.func (.func 38) #[] #[.pointer (some ⟨w.heap.size + 1, 0, none⟩)], .func (.func 28) #[] #[]] 83 (0, 0)) := by
      rw [hW2]
      have := heap_alloc_new ((w.alloc (.cells #[.slice sa 0 sc, .slice fa fn fc] 44)).alloc (.cells #[.int .i64 2] 3)) (.cells #[.func (.func 38) #[] #[.pointer (some ⟨w.heap.size + 1, 0, none⟩)], .func (.func 28) #[] #[]] 83)
      simpa only [World.size_alloc] using this
    have a1 := cell_of_row _ _ 1 _ _ _ e0
    simp only [List.getElem?_toArray, List.getElem?_cons_zero, List.getElem?_cons_succ] at a1
    exact ⟨(Array.getElem?_eq_some_iff.1 e0).1, a1⟩
  rw [← hW2]
  have HB2 := Lib.hid hB2
  have HL := Lib.hid hL
  clear hW2 hB2 hL
  go_loopw [3, 11] (fun v i wr => v = .slice (some ⟨w.heap.size + 1 + 1, 0, none⟩) 2 2 ∧ i = .int .i64 0 ∧ W2 = wr) (fun _ _ _ => 0)
  case atStart => exact ⟨rfl, rfl, rfl⟩
  case round =>
    obtain ⟨rfl, rfl, rfl⟩ := hrel
    go_wp2
    go_ret
    exact ⟨_, by omega, rfl, HL.out, HB2.out⟩
theorem has_int (B : Nat) (v : Int) (w : World) (hL : LV w B) (hv : mayB v = true) :
    Calls Tryd.prog 18 #[.slice (some ⟨B, 0, none⟩) 2 2, .int .i64 1, .int .i64 v] w fun e w' => e = .returned (.bool true) ∧ Below w.heap.size w w' := by
  obtain ⟨hlt, c1⟩ := hL
  have HM := Lib.hid hv
  clear hv
  go_enter Tryd.func18, Tryd.ntmps18
  go_wp2_with (go_at_call 28; refine (NMay_yes v _ HM.out).mono ?_; rintro e w' ⟨rfl, hb1⟩)
  go_ret
  exact ⟨rfl, hb1⟩
end Go.Proofs.YtfhcmhlbidjjgaaDoor
