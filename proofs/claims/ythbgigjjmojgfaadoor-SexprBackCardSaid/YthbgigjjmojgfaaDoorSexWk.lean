/- What the document says of a list: wakes of the statements of layer 3. -/
import Derived.Test.YthbgigjjmojgfaaDoorSexHead
import Derived.Test.YthbgigjjmojgfaaDoorSexDepth
import Derived.Test.YthbgigjjmojgfaaDoorSexTo
namespace Go.Proofs.YthbgigjjmojgfaaDoor
open Go.RowKit
set_option linter.unusedVariables false
theorem Read_is (s : ByteArray) (k : Nat) (at_ : Int) (X : RdR) (w : World) (hG : Globs w) (hK : Kinds w) (hs : s.size < 900000) (ha : (k : Int) = at_) (h63 : at_ < 9223372036854775808) (hk : k ≤ s.size) (hX : readL s.data.toList k = X) :
    Calls Tryd.prog 9 #[.string s, .int .i64 at_] w (ReadPost w X) := by
  have := Read_nat s at_ w hG hK hs (by omega) h63
  rw [← ha, clampN_nat hk, hX] at this
  rw [← ha]
  exact this
def wkT : Tree := .node 3 [] [.node 0 [97] [], .node 3 [] [.node 0 [98] []], .node 1 [55] []]
theorem wk_read : readL [40, 97, 32, 40, 98, 41, 32, 55, 41, 32, 120] 0 = ⟨wkT, 9, 0⟩ := by kernel_rfl
theorem wk_read2 : readL [41] 0 = ⟨emptyT, 0, 20⟩ := by kernel_rfl
theorem wk_text : textR wkT = ([40, 97, 32, 40, 98, 41, 32, 55, 41], 0) := by kernel_rfl
theorem wk_head : headT wkT = [97] := by kernel_rfl
theorem wk_depth : depthT wkT = 2 := by kernel_rfl
theorem wakes_any (w : World) (hG : Globs w) (hK : Kinds w) : Calls Tryd.prog 8 #[] w fun e w' => e = .returned (.bool true) ∧ Below w.heap.size w w' := by
  have HG := Lib.hid hG
  have HK := Lib.hid hK
  have HR1 : Hid (∀ W, Globs W → Kinds W → Calls Tryd.prog 9 #[.string ⟨#[40, 97, 32, 40, 98, 41, 32, 55, 41, 32, 120]⟩, .int .i64 0] W (ReadPost W ⟨wkT, 9, 0⟩)) := fun W h1 h2 => Read_is _ 0 0 _ W h1 h2 (by decide) rfl (by decide) (by decide) wk_read
  have HR2 : Hid (∀ W, Globs W → Kinds W → Calls Tryd.prog 9 #[.string ⟨#[41]⟩, .int .i64 0] W (ReadPost W ⟨emptyT, 0, 20⟩)) := fun W h1 h2 => Read_is _ 0 0 _ W h1 h2 (by decide) rfl (by decide) (by decide) wk_read2
  have HT : Hid (∀ (W : World) (B : Nat) (v : Value), Globs W → RdOut B W wkT v → Calls Tryd.prog 15 #[v] W fun e w' => e = .returned (.tuple #[.string ⟨#[40, 97, 32, 40, 98, 41, 32, 55, 41]⟩, .int .i64 0]) ∧ Below W.heap.size W w') := fun W B v h1 h2 => by
    obtain ⟨bad, q1, q2, q3⟩ := h2.use
    have := Text_any wkT v W h1 bad q1 q2 q3
    rw [wk_text] at this
    exact this
  have HH : Hid (∀ (W : World) (B : Nat) (v : Value), RdOut B W wkT v → Calls Tryd.prog 22 #[v] W fun e w' => e = .returned (.string ⟨#[97]⟩) ∧ Below W.heap.size W w') := fun W B v h2 => by
    obtain ⟨bad, q1, q2, q3⟩ := h2.use
    exact Head_is wkT v _ W q2.sx rfl
  have HD : Hid (∀ (W : World) (B : Nat) (v : Value), RdOut B W wkT v → Calls Tryd.prog 19 #[v] W fun e w' => e = .returned (.int .i64 2) ∧ Below W.heap.size W w') := fun W B v h2 => by
    obtain ⟨bad, q1, q2, q3⟩ := h2.use
    have := Depth_any wkT v W (by rw [wk_depth]; omega) bad q1 q2 q3
    rw [wk_depth] at this
    exact this
  clear hG hK
  go_enter Tryd.func8, Tryd.ntmps8
  go_wp2_with fail
  refine (HR1.out _ HG.out HK.out).mono ?_
  rintro e w1 ⟨v, rfl, ho1, hb1⟩
  obtain ⟨a, cap, hv⟩ := ho1.parts
  have hv' : v = .agg #[.int .i8 3, .string (bytesL []), .slice a 3 cap] := hv
  subst hv'
  have HO1 := Lib.hid ho1
  have HB1 := Lib.hid hb1
  have HG1 := Lib.hid (HG.out.below hb1)
  have HK1 := Lib.hid (HK.out.below hb1 HK.out.lt)
  clear ho1 hb1 hv
  have hA : Below w1.heap.size w1 (w1.alloc (.cells #[.int .i8 3, .string (bytesL []), .slice a 3 cap] 26)) := (Below.refl _ _).alloc (Nat.le_refl _) _
  have HA := Lib.hid hA
  clear hA
  go_wp2_with fail
  refine (HR2.out _ (HG1.out.below HA.out) (HK1.out.below HA.out HK1.out.lt)).mono ?_
  rintro e w2 ⟨v, rfl, ho2, hb2⟩
  obtain ⟨a2, cap2, hv⟩ := ho2.parts
  have hv' : v = .agg #[.int .i8 0, .string (bytesL []), .slice a2 0 cap2] := hv
  subst hv'
  have hx2 : w2.heap[w1.heap.size]? = some (.cells #[.int .i8 3, .string (bytesL []), .slice a 3 cap] 26 (0, 0)) := (hb2.block _ (by simp)).trans (heap_alloc_new w1 _)
  have x0 := cell_of_row _ _ 0 _ _ _ hx2
  have x1 := cell_of_row _ _ 1 _ _ _ hx2
  have x2 := cell_of_row _ _ 2 _ _ _ hx2
  simp only [List.getElem?_toArray, List.getElem?_cons_zero, List.getElem?_cons_succ] at x0 x1 x2
  have hz2 : w1.heap.size < w2.heap.size := by have := hb2.size; simp at this; omega
  have HX2 := Lib.hid hx2
  have hW2 : Below w1.heap.size w1 w2 := HA.out.trans (hb2.mono HA.out.size)
  have HW2 := Lib.hid hW2
  clear ho2 hb2 hv hx2 hW2
  have hA2 : Below w2.heap.size w2 (w2.alloc (.cells #[.int .i8 0, .string (bytesL []), .slice a2 0 cap2] 26)) := (Below.refl _ _).alloc (Nat.le_refl _) _
  have HA2 := Lib.hid hA2
  clear hA2
  go_wp2_with fail
  have hW3 := HW2.out.trans (HA2.out.mono HW2.out.size)
  refine (HT.out _ _ _ (HG1.out.below hW3) (HO1.out.keep hW3)).mono ?_
  rintro e w3 ⟨rfl, hb3⟩
  have hW4 : Below w1.heap.size w1 w3 := hW3.trans (hb3.mono hW3.size)
  have hx3 := (hb3.block w1.heap.size (by simp; omega)).trans ((Below.heap_alloc w2 (.cells #[.int .i8 0, .string (bytesL []), .slice a2 0 cap2] 26) _ hz2).trans HX2.out)
  have y0 := cell_of_row _ _ 0 _ _ _ hx3
  have y1 := cell_of_row _ _ 1 _ _ _ hx3
  have y2 := cell_of_row _ _ 2 _ _ _ hx3
  simp only [List.getElem?_toArray, List.getElem?_cons_zero, List.getElem?_cons_succ] at y0 y1 y2
  have HX3 := Lib.hid hx3
  have HW4 := Lib.hid hW4
  have hz3 : w1.heap.size < w3.heap.size := by have := hb3.size; simp at this; omega
  clear hW3 hb3 hW4 hx3 x0 x1 x2
  go_wp2_with fail
  refine (HH.out _ _ _ (HO1.out.keep HW4.out)).mono ?_
  rintro e w4 ⟨rfl, hb4⟩
  have hx4 := (hb4.block w1.heap.size hz3).trans HX3.out
  have z0 := cell_of_row _ _ 0 _ _ _ hx4
  have z1 := cell_of_row _ _ 1 _ _ _ hx4
  have z2 := cell_of_row _ _ 2 _ _ _ hx4
  simp only [List.getElem?_toArray, List.getElem?_cons_zero, List.getElem?_cons_succ] at z0 z1 z2
  have HW5 : Hid (Below w1.heap.size w1 w4) := HW4.out.trans (hb4.mono HW4.out.size)
  clear hb4 hx4 y0 y1 y2
  go_wp2_with fail
  refine (HD.out _ _ _ (HO1.out.keep HW5.out)).mono ?_
  rintro e w5 ⟨rfl, hb5⟩
  have HW6 : Hid (Below w1.heap.size w1 w5) := HW5.out.trans (hb5.mono HW5.out.size)
  clear hb5
  go_wp2
  go_ret
  exact ⟨rfl, HB1.out.trans (HW6.out.mono HB1.out.size)⟩
end Go.Proofs.YthbgigjjmojgfaaDoor
