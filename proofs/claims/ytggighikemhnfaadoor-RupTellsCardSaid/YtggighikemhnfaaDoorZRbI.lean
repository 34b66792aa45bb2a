/- law17's wakes. -/
import Derived.Test.YtggighikemhnfaaDoorZRbG
namespace Go.Proofs.YtggighikemhnfaaDoor.Tm
open Go.RowKit
set_option linter.unusedVariables false
theorem alloc_at {A : World} {o o2 : Obj} {k : Nat} (h : A.heap[k]? = some o2) : (A.alloc o).heap[k]? = some o2 := (Below.heap_alloc _ _ _ (Array.getElem?_eq_some_iff.1 h).1).trans h
theorem alloc_new {A : World} (o : Obj) {n : Nat} (h : A.heap.size = n) : (A.alloc o).heap[n]? = some o := by subst h; exact heap_alloc_new A o
theorem below_two (V : World) (o1 o2 : Obj) : Below V.heap.size V ((V.alloc o1).alloc o2) := ((Below.refl _ V).alloc (Nat.le_refl _) _).alloc (by simp) _
theorem below_three (V : World) (o1 o2 o3 : Obj) : Below V.heap.size V (((V.alloc o1).alloc o2).alloc o3) := (below_two V o1 o2).alloc (by simp <;> omega) _
theorem below_four (V : World) (o1 o2 o3 o4 : Obj) : Below V.heap.size V ((((V.alloc o1).alloc o2).alloc o3).alloc o4) := (below_three V o1 o2 o3).alloc (by simp <;> omega) _
theorem below_five (V : World) (o1 o2 o3 o4 o5 : Obj) : Below V.heap.size V (((((V.alloc o1).alloc o2).alloc o3).alloc o4).alloc o5) := (below_four V o1 o2 o3 o4).alloc (by simp <;> omega) _
def FourR (V : World) (a : Option Addr) : Prop := ∃ rs : List RowD, rs.length = 4 ∧ rs.map (·.xs) = fourL ∧ RowsR V rs a 4
theorem FourR.below {V W : World} {a : Option Addr} (h : FourR V a) (hb : Below V.heap.size V W) : FourR W a := by
  obtain ⟨rs, h1, h2, h3⟩ := h
  exact ⟨rs, h1, h2, h3.below hb⟩
theorem ok_small {xs : List Int} (h : ∀ x ∈ xs, 0 ≤ x ∧ x ≤ 10) : ∀ x ∈ xs, I64 x := fun x hx => by have := h x hx; exact ⟨by omega, by omega⟩
theorem four_any (V : World) : Calls Tryd.prog 49 #[] V fun e w' => ∃ a, e = .returned (.slice a 4 4) ∧ Hid (FourR w' a) ∧ Hid (Below V.heap.size V w') := by
  have HB : Hid (∀ o1 o2 o3 o4 o5, Below V.heap.size V (((((V.alloc o1).alloc o2).alloc o3).alloc o4).alloc o5)) := fun o1 o2 o3 o4 o5 => below_five V o1 o2 o3 o4 o5
  have HF : Hid (FourR (((((V.alloc (.cells #[.int .i64 2, .int .i64 4] 3)).alloc (.cells #[.int .i64 2, .int .i64 5] 3)).alloc (.cells #[.int .i64 3, .int .i64 4] 3)).alloc (.cells #[.int .i64 3, .int .i64 5] 3)).alloc (.cells #[.slice (some ⟨V.heap.size, 0, none⟩) 2 2, .slice (some ⟨V.heap.size + 1, 0, none⟩) 2 2, .slice (some ⟨V.heap.size + 1 + 1, 0, none⟩) 2 2, .slice (some ⟨V.heap.size + 1 + 1 + 1, 0, none⟩) 2 2] 23)) (some ⟨V.heap.size + 1 + 1 + 1 + 1, 0, none⟩)) := by
    refine ⟨[⟨[2, 4], some ⟨V.heap.size, 0, none⟩, 2⟩, ⟨[2, 5], some ⟨V.heap.size + 1, 0, none⟩, 2⟩, ⟨[3, 4], some ⟨V.heap.size + 1 + 1, 0, none⟩, 2⟩, ⟨[3, 5], some ⟨V.heap.size + 1 + 1 + 1, 0, none⟩, 2⟩], rfl, rfl, ?_⟩
    have e0 := alloc_new (A := V) (.cells #[.int .i64 2, .int .i64 4] 3) rfl
    have e1 := alloc_new (A := V.alloc (.cells #[.int .i64 2, .int .i64 4] 3)) (.cells #[.int .i64 2, .int .i64 5] 3) (n := V.heap.size + 1) (by simp)
    have e2 := alloc_new (A := (V.alloc (.cells #[.int .i64 2, .int .i64 4] 3)).alloc (.cells #[.int .i64 2, .int .i64 5] 3)) (.cells #[.int .i64 3, .int .i64 4] 3) (n := V.heap.size + 1 + 1) (by simp)
    have e3 := alloc_new (A := ((V.alloc (.cells #[.int .i64 2, .int .i64 4] 3)).alloc (.cells #[.int .i64 2, .int .i64 5] 3)).alloc (.cells #[.int .i64 3, .int .i64 4] 3)) (.cells #[.int .i64 3, .int .i64 5] 3) (n := V.heap.size + 1 + 1 + 1) (by simp)
    refine rows_row (ty := 23) (alloc_new _ (by simp)) (fun r hr => ?_) (by simp)
    simp only [List.mem_cons, List.not_mem_nil, or_false] at hr
    rcases hr with rfl | rfl | rfl | rfl
    · exact ints_row (xs := [2, 4]) (alloc_at (alloc_at (alloc_at (alloc_at e0)))) (ok_small (by decide)) (by decide)
    · exact ints_row (xs := [2, 5]) (alloc_at (alloc_at (alloc_at e1))) (ok_small (by decide)) (by decide)
    · exact ints_row (xs := [3, 4]) (alloc_at (alloc_at e2)) (ok_small (by decide)) (by decide)
    · exact ints_row (xs := [3, 5]) (alloc_at e3) (ok_small (by decide)) (by decide)
  go_enter Tryd.func49, Tryd.ntmps49
  go_wp2
  go_ret
  exact ⟨_, rfl, HF, HB.out _ _ _ _ _⟩
set_option maxRecDepth 100000 in
set_option maxHeartbeats 4000000 in
theorem wakes17_any (w : World) (hG : GC w) : Calls Tryd.prog 23 #[] w fun e w' => e = .returned (.bool true) ∧ Below w.heap.size w w' := by
  have HFr : Hid (∀ V, Below w.heap.size w V → Calls Tryd.prog 49 #[] V fun e w' => ∃ a, e = .returned (.slice a 4 4) ∧ Hid (FourR w' a) ∧ Hid (Below w.heap.size w w')) := fun V hV => by
    refine (four_any V).mono ?_
    rintro e w' ⟨a, h1, h2, h3⟩
    exact ⟨a, h1, h2, ball hV h3.out⟩
  have sm : ∀ {rs : List RowD} {L : List (List Int)}, rs.map (·.xs) = L → (∀ x ∈ L, x.length ≤ 100) → ∀ y ∈ rs, y.xs.length ≤ 100 := fun h hL y hy => hL _ (by rw [← h]; exact List.mem_map.2 ⟨y, hy, rfl⟩)
  have HT1 : Hid (∀ V a, FourR V a → Below w.heap.size w V → Calls Tryd.prog 28 #[.slice a 4 4, .slice (some ⟨V.heap.size + 1 + 1, 0, none⟩) 2 2] (((V.alloc (.cells #[.int .i64 2] 3)).alloc (.cells #[] 3)).alloc (.cells #[.slice (some ⟨V.heap.size, 0, none⟩) 1 1, .slice (some ⟨V.heap.size + 1, 0, none⟩) 0 0] 23)) fun e w' => e = .returned (.bool true) ∧ Hid (Below w.heap.size w w')) := fun V a hF hV => by
    have hb := below_three V (.cells #[.int .i64 2] 3) (.cells #[] 3) (.cells #[.slice (some ⟨V.heap.size, 0, none⟩) 1 1, .slice (some ⟨V.heap.size + 1, 0, none⟩) 0 0] 23)
    have e0 := alloc_new (A := V) (.cells #[.int .i64 2] 3) rfl
    have e1 := alloc_new (A := V.alloc (.cells #[.int .i64 2] 3)) (.cells #[] 3) (n := V.heap.size + 1) (by simp)
    obtain ⟨rs, h1, h2, h3⟩ := hF.below hb
    have hS : RowsR (((V.alloc (.cells #[.int .i64 2] 3)).alloc (.cells #[] 3)).alloc (.cells #[.slice (some ⟨V.heap.size, 0, none⟩) 1 1, .slice (some ⟨V.heap.size + 1, 0, none⟩) 0 0] 23)) [⟨[2], some ⟨V.heap.size, 0, none⟩, 1⟩, ⟨[], some ⟨V.heap.size + 1, 0, none⟩, 0⟩] (some ⟨V.heap.size + 1 + 1, 0, none⟩) 2 := by
      refine rows_row (ty := 23) (alloc_new _ (by simp)) (fun r hr => ?_) (by simp)
      simp only [List.mem_cons, List.not_mem_nil, or_false] at hr
      rcases hr with rfl | rfl
      · exact ints_row (xs := [2]) (alloc_at (alloc_at e0)) (ok_small (by decide)) (by decide)
      · exact ints_row (xs := []) (alloc_at e1) (ok_small (by decide)) (by decide)
    have h := Refutes_any rs a 4 _ _ 2 fourL [[2], []] _ h2 rfl ((hG.below hV).below hb) h3 hS (by rw [h1]; simp) (fun y hy => (List.mem_append.1 hy).elim (sm h2 (by decide) y) (sm (L := [[2], []]) rfl (by decide) y))
    rw [h1] at h
    refine h.mono ?_
    rintro e w' ⟨⟨q, rfl, hq⟩, hb2⟩
    rw [hq.2 ref1]
    exact ⟨rfl, ball (ball hV hb) hb2⟩
  have HT2 : Hid (∀ V a, FourR V a → Below w.heap.size w V → Calls Tryd.prog 28 #[.slice a 4 4, .slice (some ⟨V.heap.size + 1, 0, none⟩) 1 1] ((V.alloc (.cells #[] 3)).alloc (.cells #[.slice (some ⟨V.heap.size, 0, none⟩) 0 0] 23)) fun e w' => e = .returned (.bool false) ∧ Hid (Below w.heap.size w w')) := fun V a hF hV => by
    have hb := below_two V (.cells #[] 3) (.cells #[.slice (some ⟨V.heap.size, 0, none⟩) 0 0] 23)
    have e0 := alloc_new (A := V) (.cells #[] 3) rfl
    obtain ⟨rs, h1, h2, h3⟩ := hF.below hb
    have hS : RowsR ((V.alloc (.cells #[] 3)).alloc (.cells #[.slice (some ⟨V.heap.size, 0, none⟩) 0 0] 23)) [⟨[], some ⟨V.heap.size, 0, none⟩, 0⟩] (some ⟨V.heap.size + 1, 0, none⟩) 1 := by
      refine rows_row (ty := 23) (alloc_new _ (by simp)) (fun r hr => ?_) (by simp)
      simp only [List.mem_cons, List.not_mem_nil, or_false] at hr
      rw [hr]
      exact ints_row (xs := []) (alloc_at e0) (ok_small (by decide)) (by decide)
    have h := Refutes_any rs a 4 _ _ 1 fourL [[]] _ h2 rfl ((hG.below hV).below hb) h3 hS (by rw [h1]; simp) (fun y hy => (List.mem_append.1 hy).elim (sm h2 (by decide) y) (sm (L := [[]]) rfl (by decide) y))
    rw [h1] at h
    refine h.mono ?_
    rintro e w' ⟨⟨q, rfl, hq⟩, hb2⟩
    cases q with
    | true => exact absurd (hq.1 rfl) ref2
    | false => exact ⟨rfl, ball (ball hV hb) hb2⟩
  have HT3 : Hid (∀ V a, FourR V a → Below w.heap.size w V → Calls Tryd.prog 24 #[.slice a 4 4, .slice (some ⟨V.heap.size, 0, none⟩) 1 1] (V.alloc (.cells #[.int .i64 2] 3)) fun e w' => e = .returned (.bool true) ∧ Hid (Below w.heap.size w w')) := fun V a hF hV => by
    have hb : Below V.heap.size V (V.alloc (.cells #[.int .i64 2] 3)) := (Below.refl _ V).alloc (Nat.le_refl _) _
    have e0 := alloc_new (A := V) (.cells #[.int .i64 2] 3) rfl
    obtain ⟨rs, h1, h2, h3⟩ := hF.below hb
    have h := Follows_any rs a 4 [2] (some ⟨V.heap.size, 0, none⟩) 1 fourL _ h2 ((hG.below hV).below hb) h3 (ints_row (xs := [2]) e0 (ok_small (by decide)) (by decide)) (by rw [h1]; decide) (by decide) (by decide)
    rw [h1] at h
    refine h.mono ?_
    rintro e w' ⟨⟨q, rfl, hq⟩, hb2⟩
    rw [hq.2 fol1]
    exact ⟨rfl, ball (ball hV hb) hb2⟩
  have HT4 : Hid (∀ V a, FourR V a → Below w.heap.size w V → Calls Tryd.prog 26 #[.slice a 4 4, .slice (some ⟨V.heap.size + 1 + 1 + 1, 0, none⟩) 3 3] ((((V.alloc (.cells #[.int .i64 2] 3)).alloc (.cells #[.int .i64 4, .int .i64 5] 3)).alloc (.cells #[.int .i64 6] 3)).alloc (.cells #[.slice (some ⟨V.heap.size, 0, none⟩) 1 1, .slice (some ⟨V.heap.size + 1, 0, none⟩) 2 2, .slice (some ⟨V.heap.size + 1 + 1, 0, none⟩) 1 1] 23)) fun e w' => e = .returned (.int .i64 (-1)) ∧ Hid (Below w.heap.size w w')) := fun V a hF hV => by
    have hb := below_four V (.cells #[.int .i64 2] 3) (.cells #[.int .i64 4, .int .i64 5] 3) (.cells #[.int .i64 6] 3) (.cells #[.slice (some ⟨V.heap.size, 0, none⟩) 1 1, .slice (some ⟨V.heap.size + 1, 0, none⟩) 2 2, .slice (some ⟨V.heap.size + 1 + 1, 0, none⟩) 1 1] 23)
    have e0 := alloc_new (A := V) (.cells #[.int .i64 2] 3) rfl
    have e1 := alloc_new (A := V.alloc (.cells #[.int .i64 2] 3)) (.cells #[.int .i64 4, .int .i64 5] 3) (n := V.heap.size + 1) (by simp)
    have e2 := alloc_new (A := (V.alloc (.cells #[.int .i64 2] 3)).alloc (.cells #[.int .i64 4, .int .i64 5] 3)) (.cells #[.int .i64 6] 3) (n := V.heap.size + 1 + 1) (by simp)
    obtain ⟨rs, h1, h2, h3⟩ := hF.below hb
    have hS : RowsR ((((V.alloc (.cells #[.int .i64 2] 3)).alloc (.cells #[.int .i64 4, .int .i64 5] 3)).alloc (.cells #[.int .i64 6] 3)).alloc (.cells #[.slice (some ⟨V.heap.size, 0, none⟩) 1 1, .slice (some ⟨V.heap.size + 1, 0, none⟩) 2 2, .slice (some ⟨V.heap.size + 1 + 1, 0, none⟩) 1 1] 23)) [⟨[2], some ⟨V.heap.size, 0, none⟩, 1⟩, ⟨[4, 5], some ⟨V.heap.size + 1, 0, none⟩, 2⟩, ⟨[6], some ⟨V.heap.size + 1 + 1, 0, none⟩, 1⟩] (some ⟨V.heap.size + 1 + 1 + 1, 0, none⟩) 3 := by
      refine rows_row (ty := 23) (alloc_new _ (by simp)) (fun r hr => ?_) (by simp)
      simp only [List.mem_cons, List.not_mem_nil, or_false] at hr
      rcases hr with rfl | rfl | rfl
      · exact ints_row (xs := [2]) (alloc_at (alloc_at (alloc_at e0))) (ok_small (by decide)) (by decide)
      · exact ints_row (xs := [4, 5]) (alloc_at (alloc_at e1)) (ok_small (by decide)) (by decide)
      · exact ints_row (xs := [6]) (alloc_at e2) (ok_small (by decide)) (by decide)
    have h := Row_any rs a 4 _ _ 3 fourL [[2], [4, 5], [6]] _ h2 rfl ((hG.below hV).below hb) h3 hS (by rw [h1]; simp) (fun y hy => (List.mem_append.1 hy).elim (sm h2 (by decide) y) (sm (L := [[2], [4, 5], [6]]) rfl (by decide) y))
    rw [h1] at h
    refine h.mono ?_
    rintro e w' ⟨⟨n, rfl, hn⟩, hb2⟩
    rw [hn.same row3]
    exact ⟨rfl, ball (ball hV hb) hb2⟩
  have HB0 : Hid (Below w.heap.size w w) := Below.refl _ _
  clear hG sm
  go_enter Tryd.func23, Tryd.ntmps23
  go_wp2_with fail
  with_reducible refine (HFr.out w HB0.out).mono ?_
  rintro e w1 ⟨a1, rfl, HF1, HW1⟩
  have H1 := Lib.hid (HT1.out w1 a1 HF1.out HW1.out)
  go_wp2_with fail
  with_reducible refine H1.out.mono ?_
  rintro e w2 ⟨rfl, HW2⟩
  go_wp2_with fail
  with_reducible refine (HFr.out w2 HW2.out).mono ?_
  rintro e w3 ⟨a3, rfl, HF3, HW3⟩
  have H3 := Lib.hid (HT2.out w3 a3 HF3.out HW3.out)
  go_wp2_with fail
  with_reducible refine H3.out.mono ?_
  rintro e w4 ⟨rfl, HW4⟩
  go_wp2_with fail
  with_reducible refine (HFr.out w4 HW4.out).mono ?_
  rintro e w5 ⟨a5, rfl, HF5, HW5⟩
  have H5 := Lib.hid (HT3.out w5 a5 HF5.out HW5.out)
  go_wp2_with fail
  with_reducible refine H5.out.mono ?_
  rintro e w6 ⟨rfl, HW6⟩
  go_wp2_with fail
  with_reducible refine (HFr.out w6 HW6.out).mono ?_
  rintro e w7 ⟨a7, rfl, HF7, HW7⟩
  have H7 := Lib.hid (HT4.out w7 a7 HF7.out HW7.out)
  go_wp2_with fail
  with_reducible refine H7.out.mono ?_
  rintro e w8 ⟨rfl, HW8⟩
  go_wp2_with fail
  go_ret
  exact ⟨rfl, HW8.out⟩
end Go.Proofs.YtggighikemhnfaaDoor.Tm
