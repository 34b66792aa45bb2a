/- Clauses made: join, Make, without, Resolve. -/
import Derived.Test.YtbjplhbflbabjaaDoorClE
namespace Go.Proofs.YtbjplhbflbabjaaDoor.Tm
open Go.RowKit Go.Sort Go.Lib Go.Shelf
set_option linter.unusedVariables false
theorem joinf_any (x : Int) (W : World) : FnGives Tryd.prog 30 #[] #[.int .i64 x] (.bool (decide (x < 0))) W := by
  show Calls Tryd.prog 30 #[.int .i64 x] W _
  go_enter Tryd.func30, Tryd.ntmps30
  go_wp2
  go_ret
  exact ⟨rfl, 0, rfl⟩
theorem withf_any (x lit : Int) (bx : Nat) (W : World) (hc : W.cell? ⟨bx, 0, none⟩ = some (.int .i64 lit)) : FnGives Tryd.prog 40 #[.pointer (some ⟨bx, 0, none⟩)] #[.int .i64 x] (.bool (x == lit)) W := by
  show Calls Tryd.prog 40 #[.int .i64 x, .pointer (some ⟨bx, 0, none⟩)] W _
  have hlt := World.block_lt_of_cell? (a := ⟨bx, 0, none⟩) W hc
  go_enter Tryd.func40, Tryd.ntmps40
  go_wp2
  go_ret
  exact ⟨rfl, 0, rfl⟩
def sortM (xs : List Int) : List Int := xs.mergeSort fun x y => decide (x ≤ y)
/-- The clause of some literals. -/
def makeM (xs : List Int) : List Int := Lib.compact (sortM (xs.filter fun x => !decide (x < 0)))
theorem join_any (rs : List RowD) (a : Option Addr) (c : Nat) (w : World) (hA : RowsR w rs a c) (hm : (flatM rs).length ≤ 5000) :
    Calls Tryd.prog 17 #[.slice a rs.length c] w fun e w' => ∃ v, e = .returned v ∧ RowO w' w.heap.size (makeM (flatM rs)) v ∧ Below w.heap.size w w' := by
  have HC : Hid (Calls Tryd.prog 29 #[.slice a rs.length c] w fun e w' => ∃ v, e = .returned v ∧ Hid (RowO w' w.heap.size (flatM rs) v) ∧ Hid (Below w.heap.size w w')) := Concat_any rs a c w hA hm
  have HD : Hid (∀ V v, Below w.heap.size w V → RowO V w.heap.size (flatM rs) v → Calls Tryd.prog 28 #[v, .func (.func 30) #[] #[]] V fun e w' => ∃ v', e = .returned v' ∧ Hid (RowO w' w.heap.size ((flatM rs).filter fun x => !decide (x < 0)) v') ∧ Hid (Below w.heap.size w w')) := fun V v hV hr => (delete_any (fun x => decide (x < 0)) 30 #[] (enters_of Tryd.func30 (by kernel_rfl) rfl) (flatM rs) v w.heap.size V hr hV.size (fun W x _ => joinf_any x W)).mono fun e w' ⟨v', h1, h2, h3⟩ => ⟨v', h1, h2, hV.trans h3⟩
  have HS : Hid (∀ V v, Below w.heap.size w V → RowO V w.heap.size ((flatM rs).filter fun x => !decide (x < 0)) v → Calls Tryd.prog 31 #[v] V fun e w' => e = .returned (.tuple #[]) ∧ Hid (RowO w' w.heap.size (sortM ((flatM rs).filter fun x => !decide (x < 0))) v) ∧ Hid (Below w.heap.size w w')) := fun V v hV hr => (sort_any _ v w.heap.size V hr hV.size (by have := List.length_filter_le (fun x => !decide (x < 0)) (flatM rs); omega)).mono fun e w' ⟨h1, h2, h3⟩ => ⟨h1, h2, hV.trans h3⟩
  have HK : Hid (∀ V v, Below w.heap.size w V → RowO V w.heap.size (sortM ((flatM rs).filter fun x => !decide (x < 0))) v → Calls Tryd.prog 32 #[v] V fun e w' => ∃ v', e = .returned v' ∧ Hid (RowO w' w.heap.size (makeM (flatM rs)) v') ∧ Hid (Below w.heap.size w w')) := fun V v hV hr => (compact_any _ v w.heap.size V hr hV.size).mono fun e w' ⟨v', h1, h2, h3⟩ => ⟨v', h1, h2, hV.trans h3⟩
  clear hA hm
  go_enter Tryd.func17, Tryd.ntmps17
  go_wp2_with (first
    | (go_at_call 29; refine HC.out.mono ?_; rintro e w1 ⟨v1, rfl, HR1, HB1⟩)
    | (go_at_call 28; refine (HD.out _ _ HB1.out HR1.out).mono ?_; rintro e w2 ⟨v2, rfl, HR2, HB2⟩)
    | (go_at_call 31; refine (HS.out _ _ HB2.out HR2.out).mono ?_; rintro e w3 ⟨rfl, HR3, HB3⟩)
    | (go_at_call 32; refine (HK.out _ _ HB3.out HR3.out).mono ?_; rintro e w4 ⟨v4, rfl, HR4, HB4⟩))
  go_ret
  exact ⟨_, rfl, HR4.out, HB4.out⟩
theorem rows_one {w : World} {xs : List Int} {a : Option Addr} {c : Nat} (h : IntsR w xs a c) : RowsR (w.alloc (.cells #[.slice a xs.length c] 22)) [⟨xs, a, c⟩] (some ⟨w.heap.size, 0, none⟩) 1 := by
  have hb := heap_alloc_new w (.cells #[.slice a xs.length c] 22)
  refine ⟨Nat.le_refl _, by decide, fun _ => ⟨w.heap.size, 0, rfl, by simp, fun i v hv => ?_⟩, fun r hr => ?_⟩
  · rw [Nat.zero_add, cell_of_row _ _ _ _ _ _ hb, ← Array.getElem?_toList]
    exact hv
  · obtain rfl : r = ⟨xs, a, c⟩ := by simpa using hr
    exact h.below ((Below.refl _ w).alloc (Nat.le_refl _) _)
theorem rows_two {w : World} {xs ys : List Int} {a b : Option Addr} {c d : Nat} (h : IntsR w xs a c) (k : IntsR w ys b d) : RowsR (w.alloc (.cells #[.slice a xs.length c, .slice b ys.length d] 22)) [⟨xs, a, c⟩, ⟨ys, b, d⟩] (some ⟨w.heap.size, 0, none⟩) 2 := by
  have hb := heap_alloc_new w (.cells #[.slice a xs.length c, .slice b ys.length d] 22)
  refine ⟨Nat.le_refl _, by decide, fun _ => ⟨w.heap.size, 0, rfl, by simp, fun i v hv => ?_⟩, fun r hr => ?_⟩
  · rw [Nat.zero_add, cell_of_row _ _ _ _ _ _ hb, ← Array.getElem?_toList]
    exact hv
  · simp only [List.mem_cons, List.not_mem_nil, or_false] at hr
    rcases hr with rfl | rfl
    · exact h.below ((Below.refl _ w).alloc (Nat.le_refl _) _)
    · exact k.below ((Below.refl _ w).alloc (Nat.le_refl _) _)
theorem Make_any (xs : List Int) (a : Option Addr) (c : Nat) (w : World) (hA : IntsR w xs a c) (hm : xs.length ≤ 5000) :
    Calls Tryd.prog 8 #[.slice a xs.length c] w fun e w' => ∃ v, e = .returned v ∧ RowO w' w.heap.size (makeM xs) v ∧ Below w.heap.size w w' := by
  obtain ⟨W0, hW0⟩ : ∃ W0, W0 = w.alloc (.cells #[.slice a xs.length c] 22) := ⟨_, rfl⟩
  have hR0 := rows_one hA
  rw [← hW0] at hR0
  have hB0 : Below w.heap.size w W0 := by rw [hW0]; exact (Below.refl _ w).alloc (Nat.le_refl _) _
  have hf : flatM [⟨xs, a, c⟩] = xs := by simp [flatM]
  have HJ : Hid (Calls Tryd.prog 17 #[.slice (some ⟨w.heap.size, 0, none⟩) 1 1] W0 fun e w' => ∃ v, e = .returned v ∧ Hid (RowO w' w.heap.size (makeM xs) v) ∧ Hid (Below w.heap.size w w')) := (join_any [⟨xs, a, c⟩] _ 1 W0 hR0 (by rw [hf]; exact hm)).mono fun e w' ⟨v, h1, h2, h3⟩ => ⟨v, h1, by rw [hf] at h2; exact h2.base hB0.size, ball hB0 h3⟩
  clear hR0 hB0 hf hA hm
  go_enter Tryd.func8, Tryd.ntmps8
  go_wp2_with fail
  rw [← hW0]
  clear hW0
  refine HJ.out.mono ?_
  rintro e w1 ⟨v1, rfl, HR1, HB1⟩
  go_wp2
  go_ret
  exact ⟨_, rfl, HR1.out, HB1.out⟩
theorem getD_cell {w : World} {xs : List Int} {g o : Nat} (h : ∀ (i : Nat) (v : Value), (xs.map (Value.int .i64))[i]? = some v → w.cell? ⟨g, o + i, none⟩ = some v) : ∀ j, j < xs.length → w.cell? ⟨g, o + j, none⟩ = some (.int .i64 (xs.getD j 0)) := fun j hj => h j _ (by rw [List.getElem?_map, List.getElem?_eq_getElem hj, List.getD_eq_getElem?_getD, List.getElem?_eq_getElem hj]; rfl)
theorem clone_any (xs : List Int) (a : Option Addr) (c : Nat) (w : World) (hA : IntsR w xs a c) (hm : xs.length ≤ 5000) :
    Calls Tryd.prog 39 #[.slice a xs.length c] w fun e w' => ∃ v, e = .returned v ∧ RowO w' w.heap.size xs v ∧ Below w.heap.size w w' := by
  cases a with
  | none =>
    have hx : xs = [] := by
      cases xs with
      | nil => rfl
      | cons y r => obtain ⟨g, o, e, _⟩ := hA.tat (by simp); cases e
    subst hx
    refine (Tryd.slices_Clone_int_nil 0 c w).mono ?_
    rintro e w' ⟨rfl, rfl⟩
    exact ⟨_, rfl, ⟨rfl, .inl ⟨rfl, rfl⟩⟩, Below.refl _ _⟩
  | some ad =>
    by_cases h0 : xs.length = 0
    · have hx : xs = [] := List.eq_nil_of_length_eq_zero h0
      subst hx
      refine (Tryd.slices_Clone_int_zero ad c w).mono ?_
      rintro e w' ⟨v, rfl, h1, _, h2⟩
      exact ⟨_, rfl, h1, h2⟩
    · obtain ⟨g, o, e, hg, hc⟩ := hA.tat (by simp; omega)
      cases e
      refine (Tryd.slices_Clone_int g o xs.length c xs w (Nat.le_refl _) (by omega) (getD_cell hc)).mono ?_
      rintro e w' ⟨v, rfl, h1, _, h2⟩
      rw [List.take_length] at h1
      exact ⟨_, rfl, h1, h2⟩
theorem contains_any (xs : List Int) (a : Option Addr) (c : Nat) (x : Int) (w : World) (hA : IntsR w xs a c) :
    Calls Tryd.prog 25 #[.slice a xs.length c, .int .i64 x] w fun e w' => e = .returned (.bool (xs.contains x)) ∧ w' = w := by
  by_cases h0 : xs.length = 0
  · have hx : xs = [] := List.eq_nil_of_length_eq_zero h0
    subst hx
    exact Tryd.slices_Contains_int_empty a c x w
  · obtain ⟨g, o, rfl, hg, hc⟩ := hA.tat (by simp; omega)
    refine (Tryd.slices_Contains_int g o xs.length c xs x w (Nat.le_refl _) (len_fits hA.le hA.cap) (getD_cell hc)).mono ?_
    rintro e w' ⟨rfl, rfl⟩
    rw [List.take_length]
    exact ⟨rfl, rfl⟩
theorem without_any (xs : List Int) (a : Option Addr) (c : Nat) (x : Int) (w : World) (hA : IntsR w xs a c) (hm : xs.length ≤ 5000) :
    Calls Tryd.prog 26 #[.slice a xs.length c, .int .i64 x] w fun e w' => ∃ v, e = .returned v ∧ RowO w' w.heap.size (xs.filter fun y => !(y == x)) v ∧ Below w.heap.size w w' := by
  obtain ⟨W0, hW0⟩ : ∃ W0, W0 = w.alloc (.cells #[.int .i64 x] 3) := ⟨_, rfl⟩
  have hB0 : Below w.heap.size w W0 := by rw [hW0]; exact (Below.refl _ w).alloc (Nat.le_refl _) _
  have hs0 : W0.heap.size = w.heap.size + 1 := by rw [hW0]; simp
  have hc0 : W0.cell? ⟨w.heap.size, 0, none⟩ = some (.int .i64 x) := by rw [hW0]; exact (cell_of_row _ _ 0 _ _ _ (heap_alloc_new w (.cells #[.int .i64 x] 3))).trans rfl
  have HC : Hid (Calls Tryd.prog 39 #[.slice a xs.length c] W0 fun e w' => ∃ v, e = .returned v ∧ Hid (RowO w' W0.heap.size xs v) ∧ Hid (Below W0.heap.size W0 w')) := clone_any xs a c W0 (hA.below hB0) hm
  have HD : Hid (∀ V v, Below W0.heap.size W0 V → RowO V W0.heap.size xs v → Calls Tryd.prog 28 #[v, .func (.func 40) #[] #[.pointer (some ⟨w.heap.size, 0, none⟩)]] V fun e w' => ∃ v', e = .returned v' ∧ Hid (RowO w' w.heap.size (xs.filter fun y => !(y == x)) v') ∧ Hid (Below w.heap.size w w')) := fun V v hV hr => (delete_any (fun y => y == x) 40 #[.pointer (some ⟨w.heap.size, 0, none⟩)] (enters_of Tryd.func40 (by kernel_rfl) rfl) xs v W0.heap.size V hr hV.size (fun W y hW => withf_any y x w.heap.size W (((hV.trans hW).cell (p := ⟨w.heap.size, 0, none⟩) (by show w.heap.size < _; omega)).trans hc0))).mono fun e w' ⟨v', h1, h2, h3⟩ => ⟨v', h1, h2.base hB0.size, hB0.trans ((hV.trans h3).mono hB0.size)⟩
  clear hA hm hB0 hs0 hc0
  go_enter Tryd.func26, Tryd.ntmps26
  go_wp2_with fail
  rw [← hW0]
  clear hW0
  refine HC.out.mono ?_
  rintro e w1 ⟨v1, rfl, HR1, HB1⟩
  go_wp2_with (first | (go_at_call 28; refine (HD.out _ _ HB1.out HR1.out).mono ?_; rintro e w2 ⟨v2, rfl, HR2, HB2⟩))
  go_ret
  exact ⟨_, rfl, HR2.out, HB2.out⟩
end Go.Proofs.YtbjplhbflbabjaaDoor.Tm
