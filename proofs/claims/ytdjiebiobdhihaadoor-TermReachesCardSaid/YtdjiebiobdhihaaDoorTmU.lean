/- Package term's Tree and Depth; the document's Ints. -/
import Derived.Test.YtdjiebiobdhihaaDoorTmQ
import Derived.Deep.RegionHeld3
import Derived.BigQuiet
namespace Go.Proofs.YtdjiebiobdhihaaDoor
open Go.RowKit
set_option linter.unusedVariables false
def treeF (a b : Int) : Int := min (wrap64 (a + b)) 1073741824
def depthF (a b : Int) : Int := max (wrap64 a) (wrap64 (b + 1))
theorem treeF_i64 (a b : Int) : I64 (treeF a b) := by unfold treeF I64 wrap64; omega
theorem depthF_i64 (a b : Int) : I64 (depthF a b) := by unfold depthF I64 wrap64; omega
theorem tree1_any (a b : Int) (W : World) (ha : I64 a) (hb : I64 b) : Calls Tryd.prog 27 #[.int .i64 a, .int .i64 b] W fun e w' => e = .returned (.int .i64 (treeF a b)) ∧ W = w' := by
  obtain ⟨r, hr⟩ : ∃ r, treeF a b = r := ⟨_, rfl⟩
  rw [hr]
  have HR := Lib.hid hr
  clear hr
  go_enter Tryd.func27, Tryd.ntmps27
  go_wp2
  all_goals
    go_ret
    exact ⟨ret_int (by rw [← HR.out]; unfold treeF; omega), rfl⟩
theorem depth1_any (a b : Int) (W : World) (ha : I64 a) (hb : I64 b) : Calls Tryd.prog 28 #[.int .i64 a, .int .i64 b] W fun e w' => e = .returned (.int .i64 (depthF a b)) ∧ W = w' := by
  obtain ⟨r, hr⟩ : ∃ r, depthF a b = r := ⟨_, rfl⟩
  rw [hr]
  have HR := Lib.hid hr
  clear hr
  go_enter Tryd.func28, Tryd.ntmps28
  have hwa : wrap64 a = a := by obtain ⟨h1, h2⟩ := ha; unfold wrap64; omega
  have HWA := Lib.hid hwa
  clear hwa
  go_wp2
  all_goals
    go_ret
    exact ⟨ret_int (by rw [← HR.out]; unfold depthF; rw [HWA.out]; omega), rfl⟩
theorem ent_tree (args : Array Value) (w : World) : (callFunc 27 args).run Tryd.prog w = .ok (.enter 27 args) w := enters_of Tryd.func27 (by kernel_rfl) rfl args w
theorem ent_depth (args : Array Value) (w : World) : (callFunc 28 args).run Tryd.prog w = .ok (.enter 28 args) w := enters_of Tryd.func28 (by kernel_rfl) rfl args w
def treeV (l : List NodeA) (id : Nat) : Int := (FV treeF l).getD id 0
def depthV (l : List NodeA) (id : Nat) : Int := (FV depthF l).getD id 0
theorem Tree_any (l : List NodeA) (a : Option Addr) (c id : Nat) (r : Int) (w : World) (hA : TabR w l a c) (hid : id < l.length) (hl : l.length ≤ 1000) (hr : treeV l id = r) :
    Calls Tryd.prog 16 #[.agg #[.slice a l.length c], .int .i64 id] w fun e w' => e = .returned (.int .i64 r) ∧ Below w.heap.size w w' := by
  obtain ⟨W0, hW0⟩ : ∃ W0, W0 = w.alloc (.cells #[.slice a l.length c] 24) := ⟨_, rfl⟩
  have hB0 : Below w.heap.size w W0 := by rw [hW0]; exact (Below.refl _ w).alloc (Nat.le_refl _) _
  have HC : Hid (Calls Tryd.prog 26 #[.agg #[.slice a l.length c], .int .i64 id, .func (.func 27) #[] #[]] W0 fun e w' => e = .returned (.int .i64 r) ∧ Below W0.heap.size W0 w') := by
    rw [← hr]
    exact callsIn_wide.1 (fold_in treeF _ ent_tree tree1_any treeF_i64 l a c id W0 (hA.below hB0) hid hl)
  have HB0 := Lib.hid hB0
  clear hA hB0 hr
  go_enter Tryd.func16, Tryd.ntmps16
  go_wp2_with (go_at_call 26; rw [← hW0]; clear hW0; refine HC.out.mono ?_; rintro e w1 ⟨rfl, hb1⟩)
  go_ret
  exact ⟨rfl, HB0.out.trans (hb1.mono HB0.out.size)⟩
theorem Depth_any (l : List NodeA) (a : Option Addr) (c id : Nat) (r : Int) (w : World) (hA : TabR w l a c) (hid : id < l.length) (hl : l.length ≤ 1000) (hr : depthV l id = r) :
    Calls Tryd.prog 17 #[.agg #[.slice a l.length c], .int .i64 id] w fun e w' => e = .returned (.int .i64 r) ∧ Below w.heap.size w w' := by
  obtain ⟨W0, hW0⟩ : ∃ W0, W0 = w.alloc (.cells #[.slice a l.length c] 24) := ⟨_, rfl⟩
  have hB0 : Below w.heap.size w W0 := by rw [hW0]; exact (Below.refl _ w).alloc (Nat.le_refl _) _
  have HC : Hid (Calls Tryd.prog 26 #[.agg #[.slice a l.length c], .int .i64 id, .func (.func 28) #[] #[]] W0 fun e w' => e = .returned (.int .i64 r) ∧ Below W0.heap.size W0 w') := by
    rw [← hr]
    exact callsIn_wide.1 (fold_in depthF _ ent_depth depth1_any depthF_i64 l a c id W0 (hA.below hB0) hid hl)
  have HB0 := Lib.hid hB0
  clear hA hB0 hr
  go_enter Tryd.func17, Tryd.ntmps17
  go_wp2_with (go_at_call 26; rw [← hW0]; clear hW0; refine HC.out.mono ?_; rintro e w1 ⟨rfl, hb1⟩)
  go_ret
  exact ⟨rfl, HB0.out.trans (hb1.mono HB0.out.size)⟩
end Go.Proofs.YtdjiebiobdhihaaDoor
