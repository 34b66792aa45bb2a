/- Package value's fit and mayFun, of a function of one Int to Int. -/
import Derived.Test.YtfhcmhlbidjjgaaDoorVaV
namespace Go.Proofs.YtfhcmhlbidjjgaaDoor
open Go.RowKit
set_option linter.unusedVariables false
def fS : ByteArray := ⟨#[102]⟩
/-- A function of an Int, to Int. -/
def fun1 : FunA := ⟨fS, 1, 1, 0, 0, 1⟩
set_option maxRecDepth 100000 in
set_option maxHeartbeats 2000000 in
theorem fit_one (B : Nat) (v : Int) (w : World) (hL : LV w B) (hv : mayB v = true) :
    Calls Tryd.prog 26 #[.slice (some ⟨B, 0, none⟩) 2 2, .agg #[.string ⟨#[102]⟩, .int .i64 1, .int .i64 1, .int .i64 0, .int .i64 0, .int .i64 1], .agg #[.int .i64 v, .int .i64 0, .int .i64 0]] w fun e w' => e = .returned (.bool true) ∧ Below w.heap.size w w' := by
  obtain ⟨W2, hW2⟩ : ∃ W2, W2 = ((w.alloc (.cells #[.string ⟨#[102]⟩, .int .i64 1, .int .i64 1, .int .i64 0, .int .i64 0, .int .i64 1] 71)).alloc (.cells #[.int .i64 v, .int .i64 0, .int .i64 0] 57)) := ⟨_, rfl⟩
  have hB2 : Below w.heap.size w W2 := by rw [hW2]; exact ((Below.refl _ _).alloc (Nat.le_refl _) _).alloc (by simp) _
  have hF : W2.heap[w.heap.size]? = some (.cells #[.string ⟨#[102]⟩, .int .i64 1, .int .i64 1, .int .i64 0, .int .i64 0, .int .i64 1] 71 (0, 0)) := by
    rw [hW2, Below.heap_alloc _ _ _ (by simp)]; exact heap_alloc_new w _
  have hsz : W2.heap.size = w.heap.size + 2 := by rw [hW2]; simp
  have HF := Lib.hid hF
  have HH : Hid (∀ V, Below w.heap.size w V → Calls Tryd.prog 18 #[.slice (some ⟨B, 0, none⟩) 2 2, .int .i64 1, .int .i64 v] V fun e w' => e = .returned (.bool true) ∧ Below V.heap.size V w') := fun V hV => has_int B v V (hL.below hV) hv
  have HB2 := Lib.hid hB2
  have i0 : ∀ W, (Instr.index 57 (.agg #[.int .i64 v, .int .i64 0, .int .i64 0]) (.int .i64 0)).run Tryd.prog W = .ok (.int .i64 v) W := fun _ => by kernel_rfl
  have i1 : ∀ W, (Instr.index 57 (.agg #[.int .i64 v, .int .i64 0, .int .i64 0]) (.int .i64 1)).run Tryd.prog W = .ok (.int .i64 0) W := fun _ => by kernel_rfl
  have i2 : ∀ W, (Instr.index 57 (.agg #[.int .i64 v, .int .i64 0, .int .i64 0]) (.int .i64 2)).run Tryd.prog W = .ok (.int .i64 0) W := fun _ => by kernel_rfl
  clear hF hL hv hB2
  go_enter Tryd.func26, Tryd.ntmps26
  go_wp2_with fail
  rw [← hW2]
  clear hW2
  go_loopw [10] (fun i wr => (i = .int .i64 0 ∨ i = .int .i64 1 ∨ i = .int .i64 2 ∨ i = .int .i64 3) ∧ Hid (Below W2.heap.size W2 wr)) (fun i _ => 3 - (intOf i).toNat)
  case atStart => exact ⟨.inl rfl, Below.refl _ _⟩
  case round =>
    obtain ⟨hi, HW⟩ := hrel
    have hx := (HW.out.block _ (by omega)).trans HF.out
    have d1 := cell_of_row _ _ 1 _ _ _ hx
    have d2 := cell_of_row _ _ 2 _ _ _ hx
    have hlt := (Array.getElem?_eq_some_iff.1 hx).1
    simp only [List.getElem?_toArray, List.getElem?_cons_zero, List.getElem?_cons_succ] at d1 d2
    have HWw : Hid (Below w.heap.size w wr) := HB2.out.trans (HW.out.mono (by omega))
    clear hx
    rcases hi with rfl | rfl | rfl | rfl
    · go_wp2_with (go_at_call 18; refine (HH.out _ HWw.out).mono ?_; rintro e w1 ⟨rfl, hb1⟩; obtain ⟨hc1, hf1⟩ := bcell hb1)
      go_roundw
      case rel => exact ⟨.inr (.inl rfl), HW.out.trans (hb1.mono HW.out.size)⟩
      case measure => simp [intOf]
    · go_wp2
      go_roundw
      case rel => exact ⟨.inr (.inr (.inl rfl)), HW.out⟩
      case measure => simp [intOf]
    · go_wp2
      go_roundw
      case rel => exact ⟨.inr (.inr (.inr rfl)), HW.out⟩
      case measure => simp [intOf]
    · go_wp2
      go_ret
      exact ⟨rfl, HWw.out⟩
end Go.Proofs.YtfhcmhlbidjjgaaDoor
