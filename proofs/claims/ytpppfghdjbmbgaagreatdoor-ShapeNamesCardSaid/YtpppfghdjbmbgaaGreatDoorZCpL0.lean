/- Core: what the laws find in the variables. -/
import Derived.Test.YtpppfghdjbmbgaaGreatDoorZCpD
import Derived.Test.YtpppfghdjbmbgaaGreatDoorZCoOf
import Derived.Test.YtpppfghdjbmbgaaGreatDoorZCpT
namespace Go.Proofs.YtpppfghdjbmbgaaGreatDoor.Tm
open Go.RowKit
set_option linter.unusedVariables false
end Go.Proofs.YtpppfghdjbmbgaaGreatDoor.Tm
namespace Go.Proofs.YtpppfghdjbmbgaaGreatDoor.Tm
open Go.RowKit
set_option linter.unusedVariables false
theorem RNew_own (w : World) : Calls Tryz.prog 21 #[] w fun e w' => e = .returned (.agg #[.slice (some ⟨w.heap.size + 1, 0, none⟩) 2 2]) ∧ w'.heap[w.heap.size + 1]? = some (.cells newC 54 (0, 0)) ∧ Below w.heap.size w w' := by
  go_enter Tryz.func21, Tryz.ntmps21
  go_wp2
  have hb := heap_alloc_new (w.alloc (.cells #[.slice (some ⟨w.heap.size + 1, 0, none⟩) 2 2] 33)) (.cells newC 54)
  refine bodyPost_ret (v := .agg #[.slice (some ⟨w.heap.size + 1, 0, none⟩) 2 2]) (by simp [results, Tryz.results21, go_sem]) rfl ⟨rfl, ?_, ?_⟩
  · rw [World.size_alloc] at hb
    exact hb
  · exact ((Below.refl _ w).alloc (Nat.le_refl _) _).alloc (by simp) _
theorem new_own {w : World} {base g : Nat} (h : w.heap[g]? = some (.cells newC 54 (0, 0))) (hb : base ≤ g) : w.ownsRow base 54 8 (.slice (some ⟨g, 0, none⟩) 2 2) 2 newC.toList := ⟨rfl, .inr ⟨g, 2, newC, rfl, hb, h, Nat.le_refl _, by decide, rfl, rfl⟩⟩
/-- What comes of wakes' table. -/
structure CoW (w : World) (l : List NodeA) (a : Option Addr) (c x y : Nat) (b : Option Addr) (d : Nat) : Prop where
  tab : TabR w l a c
  row : IntsR w [(x : Int)] b d
  len : l.length = 6
  x6 : x < 6
  op : (nodA l x).op = 3
  a0 : (nodA l x).a0 = (y : Int)
  y6 : y < 6
  op0 : (nodA l y).op = 1
  is_ : isB l = true
theorem mid_new' (A : World) (o1 o2 : Obj) : ((A.alloc o1).alloc o2).heap[A.heap.size]? = some o1 := (Below.heap_alloc _ _ _ (by simp)).trans (heap_alloc_new A o1)
end Go.Proofs.YtpppfghdjbmbgaaGreatDoor.Tm
namespace Go.Proofs.YtpppfghdjbmbgaaGreatDoor.Tm
open Go.RowKit
set_option linter.unusedVariables false
theorem mayT_zero {l : List NodeA} (h : mayT l = true) : l[1]? = some zeroN := by
  have h1 := (mayT_ok h).1
  have : (l.take 2)[1]? = some zeroN := by rw [h1]; rfl
  rwa [List.getElem?_take, if_pos (by decide)] at this
theorem tab_box {w W0 : World} {v : Value} {T : TypeId} (hW0 : W0 = w.alloc (.cells #[v] T)) : Below w.heap.size w W0 ∧ (∀ V, Below W0.heap.size W0 V → V.cell? ⟨w.heap.size, 0, none⟩ = some v ∧ w.heap.size < V.heap.size) := by
  have hX0 : W0.heap[w.heap.size]? = some (.cells #[v] T (0, 0)) := by rw [hW0]; exact heap_alloc_new w _
  refine ⟨by rw [hW0]; exact (Below.refl _ w).alloc (Nat.le_refl _) _, fun V hV => ?_⟩
  have e0 := (hV.block _ (Array.getElem?_eq_some_iff.1 hX0).1).trans hX0
  exact ⟨(cell_of_row _ _ 0 _ _ _ e0).trans rfl, (Array.getElem?_eq_some_iff.1 e0).1⟩
theorem ball {w w1 w2 : World} (h : Below w.heap.size w w1) (k : Below w1.heap.size w1 w2) : Below w.heap.size w w2 := h.trans (k.mono h.size)
end Go.Proofs.YtpppfghdjbmbgaaGreatDoor.Tm
