/- wakes. -/
import Derived.Test.YtggighikemhnfaaDoorUoB
namespace Go.Proofs.YtggighikemhnfaaDoor.Tm
open Go.RowKit
set_option linter.unusedVariables false
instance (ps c : List Int) : Decidable (FalC ps c) := inferInstanceAs (Decidable (∀ x ∈ c, valL ps x = 2))
instance (ps c : List Int) (y : Int) : Decidable (UniC ps c y) := inferInstanceAs (Decidable (y ∈ c ∧ valL ps y = 0 ∧ ∀ x ∈ c, valL ps x = 2 ∨ x = y))
theorem noF {cls : List (List Int)} {ps : List Int} (h : ∀ d ∈ cls, ¬ FalC ps d) : ∀ (j : Nat) (d : List Int), cls[j]? = some d → ¬ FalC ps d := fun j d hd => h d (List.mem_of_getElem? hd)
theorem noU {cls : List (List Int)} {ps : List Int} (k : Nat) (h : ∀ d ∈ cls.take k, ∀ z ∈ d, ¬ UniC ps d z) : ∀ (j : Nat) (d : List Int), j < k → cls[j]? = some d → ∀ z, ¬ UniC ps d z := fun j d hj hd z hz =>
  h d (List.mem_of_getElem? (i := j) (by rw [List.getElem?_take, if_pos hj]; exact hd)) z hz.1 hz
theorem wk1 {r : List Int} {k : Int} (h : RunRel [[3, 4], [5, 6]] [2] r k) : r = [2, 4, 6] ∧ k = -1 := by
  have h2 : RunRel [[3, 4], [5, 6]] [2] [2, 4, 6] (-1) := by
    refine .inr ⟨by decide, ?_⟩
    show RunsD _ [2] _ _
    refine .put (k := 0) (c := [3, 4]) (y := 4) (noF (by decide)) rfl (by decide) (noU 0 (by decide)) ?_
    refine .put (k := 1) (c := [5, 6]) (y := 6) (noF (by decide)) rfl (by decide) (noU 1 (by decide)) ?_
    exact .done (noF (by decide)) (fun j d hd => noU 2 (by decide) j d (List.getElem?_eq_some_iff.1 hd).1 hd)
  exact h.same h2
theorem wk2 {r : List Int} {k : Int} (h : RunRel [[3]] [2] r k) : r = [2] ∧ k = 0 := by
  have h2 : RunRel [[3]] [2] [2] ((0 : Nat) : Int) := .inr ⟨by decide, .conf (k := 0) (c := [3]) rfl (by decide) (fun j d hj => absurd hj (Nat.not_lt_zero _))⟩
  exact h.same h2
theorem wk3 {r : List Int} {k : Int} (h : RunRel [] [2, 3] r k) : r = [2] ∧ k = -2 := by
  have h2 : RunRel [] [2, 3] [2] (-2) := .inl ⟨by decide, by decide, rfl⟩
  exact h.same h2
theorem wk4 {r : List Int} {k : Int} (h : RunRel [[3, 4]] [2] r k) : r = [2, 4] ∧ k = -1 := by
  have h2 : RunRel [[3, 4]] [2] [2, 4] (-1) := by
    refine .inr ⟨by decide, ?_⟩
    show RunsD _ [2] _ _
    refine .put (k := 0) (c := [3, 4]) (y := 4) (noF (by decide)) rfl (by decide) (noU 0 (by decide)) ?_
    exact .done (noF (by decide)) (fun j d hd => noU 1 (by decide) j d (List.getElem?_eq_some_iff.1 hd).1 hd)
  exact h.same h2
theorem rows_row {w : World} {b : Nat} {rs : List RowD} {ty : TypeId} (h : w.heap[b]? = some (.cells ⟨rs.map rowV⟩ ty (0, 0))) (hok : ∀ r ∈ rs, IntsR w r.xs r.a r.c) (hm : rs.length ≤ 3000) : RowsR w rs (some ⟨b, 0, none⟩) rs.length := by
  refine ⟨Nat.le_refl _, by unfold maxLen; omega, fun _ => ⟨b, 0, rfl, (Array.getElem?_eq_some_iff.1 h).1, fun i v hv => ?_⟩, hok⟩
  rw [Nat.zero_add, cell_of_row w b i _ _ _ h, ← Array.getElem?_toList]
  exact hv
theorem i64s {xs : List Int} (h : ∀ x ∈ xs, 0 ≤ x ∧ x ≤ 10) : ∀ x ∈ xs, I64 x := fun x hx => by have := h x hx; exact ⟨by omega, by omega⟩
/-- Two allocs of numbers, a row of rows of the first, both calls' arguments. -/
theorem two_args (w : World) (xs gs : List Int) (h1 : ∀ x ∈ xs, I64 x) (h2 : ∀ x ∈ gs, I64 x) (l1 : xs.length ≤ 100) (l2 : gs.length ≤ 100) :
    let W := ((w.alloc (.cells ⟨xs.map (Value.int .i64)⟩ 3)).alloc (.cells #[.slice (some ⟨w.heap.size, 0, none⟩) xs.length xs.length] 23)).alloc (.cells ⟨gs.map (Value.int .i64)⟩ 3)
    RowsR W [⟨xs, some ⟨w.heap.size, 0, none⟩, xs.length⟩] (some ⟨w.heap.size + 1, 0, none⟩) 1 ∧ IntsR W gs (some ⟨w.heap.size + 1 + 1, 0, none⟩) gs.length ∧ Below w.heap.size w W := by
  intro W
  have e0 : W.heap[w.heap.size]? = some (.cells ⟨xs.map (Value.int .i64)⟩ 3 (0, 0)) := (Below.heap_alloc _ _ _ (by simp <;> omega)).trans ((Below.heap_alloc _ _ _ (by simp)).trans (heap_alloc_new w _))
  have e1 : W.heap[w.heap.size + 1]? = some (.cells #[.slice (some ⟨w.heap.size, 0, none⟩) xs.length xs.length] 23 (0, 0)) := by
    have := heap_alloc_new (w.alloc (.cells ⟨xs.map (Value.int .i64)⟩ 3)) (.cells #[.slice (some ⟨w.heap.size, 0, none⟩) xs.length xs.length] 23)
    rw [World.size_alloc] at this
    exact (Below.heap_alloc _ _ _ (by simp)).trans this
  have e2 : W.heap[w.heap.size + 1 + 1]? = some (.cells ⟨gs.map (Value.int .i64)⟩ 3 (0, 0)) := by
    have := heap_alloc_new ((w.alloc (.cells ⟨xs.map (Value.int .i64)⟩ 3)).alloc (.cells #[.slice (some ⟨w.heap.size, 0, none⟩) xs.length xs.length] 23)) (.cells ⟨gs.map (Value.int .i64)⟩ 3)
    rw [World.size_alloc, World.size_alloc] at this
    exact this
  refine ⟨rows_row (ty := 23) e1 (fun r hr => ?_) (by simp), ints_row e2 h2 (by omega), (((Below.refl _ w).alloc (Nat.le_refl _) _).alloc (by simp) _).alloc (by simp <;> omega) _⟩
  rw [show r = ⟨xs, some ⟨w.heap.size, 0, none⟩, xs.length⟩ by simpa using hr]
  exact ints_row e0 h1 (by show xs.length ≤ _; omega)
def arr (xs : List Int) : Obj := .cells ⟨xs.map (Value.int .i64)⟩ 3
set_option maxRecDepth 100000 in
set_option maxHeartbeats 4000000 in
theorem wakes_any (w : World) (hG : GC w) : Calls Tryd.prog 11 #[] w fun e w' => e = .returned (.bool true) ∧ Below w.heap.size w w' := by
  have H1 : Hid (Calls Tryd.prog 12 #[.slice (some ⟨w.heap.size + 1 + 1, 0, none⟩) 2 2, .slice (some ⟨w.heap.size + 1 + 1 + 1, 0, none⟩) 1 1] ((((w.alloc (.cells #[.int .i64 3, .int .i64 4] 3)).alloc (.cells #[.int .i64 5, .int .i64 6] 3)).alloc (.cells #[.slice (some ⟨w.heap.size, 0, none⟩) 2 2, .slice (some ⟨w.heap.size + 1, 0, none⟩) 2 2] 23)).alloc (.cells #[.int .i64 2] 3)) fun e w' => ∃ a c, e = .returned (.tuple #[.slice a 3 c, .int .i64 (-1)]) ∧ Hid (IntsR w' [2, 4, 6] a c) ∧ Hid (Below w.heap.size w w')) := by
    obtain ⟨W, hW⟩ : ∃ W, (((w.alloc (.cells #[.int .i64 3, .int .i64 4] 3)).alloc (.cells #[.int .i64 5, .int .i64 6] 3)).alloc (.cells #[.slice (some ⟨w.heap.size, 0, none⟩) 2 2, .slice (some ⟨w.heap.size + 1, 0, none⟩) 2 2] 23)).alloc (.cells #[.int .i64 2] 3) = W := ⟨_, rfl⟩
    have e0 : W.heap[w.heap.size]? = some (.cells ⟨[3, 4].map (Value.int .i64)⟩ 3 (0, 0)) := by
      rw [← hW]
      exact (Below.heap_alloc _ _ _ (by simp <;> omega)).trans ((Below.heap_alloc _ _ _ (by simp <;> omega)).trans ((Below.heap_alloc _ _ _ (by simp)).trans (heap_alloc_new w _)))
    have e1 : W.heap[w.heap.size + 1]? = some (.cells ⟨[5, 6].map (Value.int .i64)⟩ 3 (0, 0)) := by
      rw [← hW]
      have := heap_alloc_new (w.alloc (.cells #[.int .i64 3, .int .i64 4] 3)) (.cells #[.int .i64 5, .int .i64 6] 3)
      rw [World.size_alloc] at this
      exact (Below.heap_alloc _ _ _ (by simp <;> omega)).trans ((Below.heap_alloc _ _ _ (by simp)).trans this)
    have e2 : W.heap[w.heap.size + 1 + 1]? = some (.cells ⟨[(⟨[3, 4], some ⟨w.heap.size, 0, none⟩, 2⟩ : RowD), ⟨[5, 6], some ⟨w.heap.size + 1, 0, none⟩, 2⟩].map rowV⟩ 23 (0, 0)) := by
      rw [← hW]
      have := heap_alloc_new ((w.alloc (.cells #[.int .i64 3, .int .i64 4] 3)).alloc (.cells #[.int .i64 5, .int .i64 6] 3)) (.cells #[.slice (some ⟨w.heap.size, 0, none⟩) 2 2, .slice (some ⟨w.heap.size + 1, 0, none⟩) 2 2] 23)
      rw [World.size_alloc, World.size_alloc] at this
      exact (Below.heap_alloc _ _ _ (by simp)).trans this
    have e3 : W.heap[w.heap.size + 1 + 1 + 1]? = some (.cells ⟨[2].map (Value.int .i64)⟩ 3 (0, 0)) := by
      rw [← hW]
      have := heap_alloc_new (((w.alloc (.cells #[.int .i64 3, .int .i64 4] 3)).alloc (.cells #[.int .i64 5, .int .i64 6] 3)).alloc (.cells #[.slice (some ⟨w.heap.size, 0, none⟩) 2 2, .slice (some ⟨w.heap.size + 1, 0, none⟩) 2 2] 23)) (.cells #[.int .i64 2] 3)
      rw [World.size_alloc, World.size_alloc, World.size_alloc] at this
      exact this
    have hb : Below w.heap.size w W := by
      rw [← hW]
      exact ((((Below.refl _ w).alloc (Nat.le_refl _) _).alloc (by simp) _).alloc (by simp <;> omega) _).alloc (by simp <;> omega) _
    have i1 : ∀ x ∈ ([3, 4] : List Int), I64 x := i64s (by decide)
    have i2 : ∀ x ∈ ([5, 6] : List Int), I64 x := i64s (by decide)
    have i3 : ∀ x ∈ ([2] : List Int), I64 x := i64s (by decide)
    have hR := rows_row (rs := [(⟨[3, 4], some ⟨w.heap.size, 0, none⟩, 2⟩ : RowD), ⟨[5, 6], some ⟨w.heap.size + 1, 0, none⟩, 2⟩]) e2 (fun r hr => by
      simp only [List.mem_cons, List.not_mem_nil, or_false] at hr
      rcases hr with rfl | rfl
      · exact ints_row e0 i1 (by simp)
      · exact ints_row e1 i2 (by simp)) (by simp)
    rw [hW]
    refine (Run_any _ _ 2 [2] _ 1 [[3, 4], [5, 6]] W rfl (hG.below hb) hR (ints_row e3 i3 (by decide)) (by simp) (by decide) (by decide)).mono ?_
    rintro e w' ⟨r, k, a, c, rfl, h1, h2, h3⟩
    obtain ⟨rfl, rfl⟩ := wk1 h1
    exact ⟨a, c, rfl, h2, ball hb h3⟩
  have H2 : Hid (∀ V, Below w.heap.size w V → Calls Tryd.prog 12 #[.slice (some ⟨V.heap.size + 1, 0, none⟩) 1 1, .slice (some ⟨V.heap.size + 1 + 1, 0, none⟩) 1 1] (((V.alloc (.cells #[.int .i64 3] 3)).alloc (.cells #[.slice (some ⟨V.heap.size, 0, none⟩) 1 1] 23)).alloc (.cells #[.int .i64 2] 3)) fun e w' => ∃ a n c, e = .returned (.tuple #[.slice a n c, .int .i64 0]) ∧ Hid (Below V.heap.size V w')) := fun V hV => by
    obtain ⟨h1, h2, h3⟩ := two_args V [3] [2] (i64s (by decide)) (i64s (by decide)) (by decide) (by decide)
    refine (Run_any _ _ 1 [2] _ 1 [[3]] _ rfl ((hG.below hV).below h3) h1 h2 (by simp) (by decide) (by decide)).mono ?_
    rintro e w' ⟨r, k, a, c, rfl, g1, g2, g3⟩
    obtain ⟨rfl, rfl⟩ := wk2 g1
    exact ⟨a, _, c, rfl, ball h3 g3⟩
  have H3 : Hid (∀ V, Below w.heap.size w V → Calls Tryd.prog 12 #[.slice none 0 0, .slice (some ⟨V.heap.size, 0, none⟩) 2 2] (V.alloc (.cells #[.int .i64 2, .int .i64 3] 3)) fun e w' => ∃ a n c, e = .returned (.tuple #[.slice a n c, .int .i64 (-2)]) ∧ Hid (Below V.heap.size V w')) := fun V hV => by
    have hb := (Below.refl _ V).alloc (Nat.le_refl _) (.cells #[.int .i64 2, .int .i64 3] 3)
    have hI : IntsR (V.alloc (.cells #[.int .i64 2, .int .i64 3] 3)) [2, 3] (some ⟨V.heap.size, 0, none⟩) 2 := ints_row (heap_alloc_new V _) (i64s (by decide)) (by decide)
    refine (Run_any [] none 0 [2, 3] _ 2 [] _ rfl ((hG.below hV).below hb) ⟨Nat.le_refl _, Nat.zero_le _, fun h => absurd h (by simp), fun r hr => (by cases hr)⟩ hI (by simp) (by decide) (by decide)).mono ?_
    rintro e w' ⟨r, k, a, c, rfl, g1, g2, g3⟩
    obtain ⟨rfl, rfl⟩ := wk3 g1
    exact ⟨a, _, c, rfl, ball hb g3⟩
  have H4 : Hid (∀ V, Below w.heap.size w V → Calls Tryd.prog 19 #[.slice (some ⟨V.heap.size + 1, 0, none⟩) 1 1, .slice (some ⟨V.heap.size + 1 + 1, 0, none⟩) 1 1, .int .i64 4] (((V.alloc (.cells #[.int .i64 3, .int .i64 4] 3)).alloc (.cells #[.slice (some ⟨V.heap.size, 0, none⟩) 2 2] 23)).alloc (.cells #[.int .i64 2] 3)) fun e w' => e = .returned (.bool true) ∧ Hid (Below w.heap.size w w')) := fun V hV => by
    obtain ⟨h1, h2, h3⟩ := two_args V [3, 4] [2] (i64s (by decide)) (i64s (by decide)) (by decide) (by decide)
    refine (Implies_any _ _ 1 [2] _ 1 4 [[3, 4]] _ rfl ((hG.below hV).below h3) h1 h2 (by simp) (by decide) (by decide)).mono ?_
    rintro e w' ⟨⟨r, k, q, g1, rfl, g2⟩, g3⟩
    obtain ⟨rfl, rfl⟩ := wk4 g1
    rw [decide_eq_true (.inr (by decide))] at g2
    subst g2
    exact ⟨rfl, ball hV (ball h3 g3)⟩
  clear hG
  go_enter Tryd.func11, Tryd.ntmps11
  go_wp2_with fail
  with_reducible refine H1.out.mono ?_
  rintro e w1 ⟨a, c, rfl, HI, HB1⟩
  go_wp2_with fail
  with_reducible refine (H2.out _ HB1.out).mono ?_
  rintro e w2 ⟨a2, n2, c2, rfl, HB2⟩
  have HB2' := Lib.hid (ball HB1.out HB2.out)
  go_wp2_with fail
  with_reducible refine (H3.out _ HB2'.out).mono ?_
  rintro e w3 ⟨a3, n3, c3, rfl, HB3⟩
  have HB3' := Lib.hid (ball HB2'.out HB3.out)
  have hI := (HI.out.below HB2.out).below HB3.out
  obtain ⟨g, o, e1, hg, q0⟩ := hI.cell (k := 0) (x := 2) rfl
  subst e1
  rw [Nat.add_zero] at q0
  obtain ⟨g1, o1, e1, _, q1⟩ := hI.cell (k := 1) (x := 4) rfl
  cases e1
  obtain ⟨g2, o2, e2, _, q2⟩ := hI.cell (k := 2) (x := 6) rfl
  cases e2
  clear hI
  go_wp2_with fail
  with_reducible refine (H4.out _ HB3'.out).mono ?_
  rintro e w4 ⟨rfl, HB4⟩
  go_wp2
  go_ret
  exact ⟨rfl, HB4.out⟩
end Go.Proofs.YtggighikemhnfaaDoor.Tm
