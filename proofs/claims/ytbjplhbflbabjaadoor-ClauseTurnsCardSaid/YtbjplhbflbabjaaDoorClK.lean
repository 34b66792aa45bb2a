/- Clauses: wakes. -/
import Derived.Test.YtbjplhbflbabjaaDoorClJ
namespace Go.Proofs.YtbjplhbflbabjaaDoor.Tm
open Go.RowKit Go.Sort Go.Lib Go.Shelf
set_option linter.unusedVariables false
theorem val_row {w : World} {b : Nat} {vs : List Int} {ty : TypeId} (h : w.heap[b]? = some (.cells ⟨vs.map (Value.int .i8)⟩ ty (0, 0))) (hok : ∀ v ∈ vs, v = 0 ∨ v = 1 ∨ v = 2) (hm : vs.length ≤ 3000) : ValR w vs (some ⟨b, 0, none⟩) vs.length := by
  refine ⟨Nat.le_refl _, by unfold maxLen; omega, fun _ => ⟨b, 0, rfl, (Array.getElem?_eq_some_iff.1 h).1, fun i v hv => ?_⟩, hok⟩
  rw [Nat.zero_add, cell_of_row w b i _ _ _ h, ← Array.getElem?_toList]
  exact hv
theorem wak_make : makeM [7, 2, 7, 3] = [2, 3, 7] := strict_ext _ _ (makeM_strict _) (by decide) (fun x => by
  rw [makeM_mem]
  simp only [List.mem_cons, List.not_mem_nil, or_false]
  omega)
theorem wak_idle : idleM [2, 3, 7] = true := idle_iff.2 ⟨2, by simp, by decide⟩
theorem wak_state : stM [0, 2] [2, 4] = (2, 4) := by decide
set_option maxRecDepth 100000 in
set_option maxHeartbeats 4000000 in
theorem wakes_any (w : World) (hG : GC w) : Calls Tryd.prog 7 #[] w fun e w' => e = .returned (.bool true) ∧ Below w.heap.size w w' := by
  have H1 : Hid (Calls Tryd.prog 8 #[.slice (some ⟨w.heap.size, 0, none⟩) 4 4] (w.alloc (.cells #[.int .i64 7, .int .i64 2, .int .i64 7, .int .i64 3] 3)) fun e w' => ∃ g c, e = .returned (.slice (some ⟨g, 0, none⟩) 3 c) ∧ 3 ≤ c ∧ Hid (IntsR w' [2, 3, 7] (some ⟨g, 0, none⟩) c) ∧ Hid (Below w.heap.size w w')) := by
    have hb := (Below.refl _ w).alloc (Nat.le_refl _) (.cells #[.int .i64 7, .int .i64 2, .int .i64 7, .int .i64 3] 3)
    have hI : IntsR (w.alloc (.cells #[.int .i64 7, .int .i64 2, .int .i64 7, .int .i64 3] 3)) [7, 2, 7, 3] (some ⟨w.heap.size, 0, none⟩) 4 := ints_row (heap_alloc_new w _) (fun x hx => by
      simp only [List.mem_cons, List.not_mem_nil, or_false] at hx
      rcases hx with rfl | rfl | rfl | rfl <;> exact ⟨by decide, by decide⟩) (by decide)
    refine (Make_any [7, 2, 7, 3] _ 4 _ hI (by decide)).mono ?_
    rintro e w' ⟨v, rfl, h1, h2⟩
    rw [wak_make] at h1
    obtain ⟨a, c, rfl, h3⟩ := h1.ints (fun x hx => by
      simp only [List.mem_cons, List.not_mem_nil, or_false] at hx
      rcases hx with rfl | rfl | rfl <;> exact ⟨by decide, by decide⟩)
    obtain ⟨a', c', e', _, _, _, h4⟩ := own_at h1
    obtain ⟨g, rfl, _⟩ := h4 (by decide)
    cases e'
    exact ⟨g, c, rfl, h3.le, h3, ball hb h2⟩
  have H2 : Hid (∀ V, Below w.heap.size w V → Calls Tryd.prog 14 #[.slice (some ⟨V.heap.size, 0, none⟩) 2 2, .slice (some ⟨V.heap.size + 1, 0, none⟩) 2 2] ((V.alloc (.cells #[.int .i64 2, .int .i64 4] 3)).alloc (.cells #[.int .i8 0, .int .i8 2] 30)) fun e w' => e = .returned (.tuple #[.int .i8 2, .int .i64 4]) ∧ Hid (Below w.heap.size w w') ∧ Hid (Below V.heap.size V w')) := fun V hV => by
    have hb1 := (Below.refl _ V).alloc (Nat.le_refl _) (.cells #[.int .i64 2, .int .i64 4] 3)
    have hb2 := hb1.alloc (by simp) (.cells #[.int .i8 0, .int .i8 2] 30)
    have hn := heap_alloc_new (V.alloc (.cells #[.int .i64 2, .int .i64 4] 3)) (.cells #[.int .i8 0, .int .i8 2] 30)
    rw [World.size_alloc] at hn
    have hI : IntsR ((V.alloc (.cells #[.int .i64 2, .int .i64 4] 3)).alloc (.cells #[.int .i8 0, .int .i8 2] 30)) [2, 4] (some ⟨V.heap.size, 0, none⟩) 2 := ints_row (ty := 3) ((Below.heap_alloc _ _ _ (by simp)).trans (heap_alloc_new V _)) (fun x hx => by
      simp only [List.mem_cons, List.not_mem_nil, or_false] at hx
      rcases hx with rfl | rfl <;> exact ⟨by decide, by decide⟩) (by decide)
    have hV2 : ValR ((V.alloc (.cells #[.int .i64 2, .int .i64 4] 3)).alloc (.cells #[.int .i8 0, .int .i8 2] 30)) [0, 2] (some ⟨V.heap.size + 1, 0, none⟩) 2 := val_row (ty := 30) hn (fun x hx => by
      simp only [List.mem_cons, List.not_mem_nil, or_false] at hx
      rcases hx with rfl | rfl
      · exact .inl rfl
      · exact .inr (.inr rfl)) (by decide)
    refine (State_any [2, 4] _ 2 [0, 2] _ 2 (2, 4) _ ((hG.below hV).below hb2) hI (fun x hx => ?_) hV2 wak_state).mono fun e w' ⟨k1, k2⟩ => ⟨k1, ball (ball hV hb2) k2, ball hb2 k2⟩
    simp only [List.mem_cons, List.not_mem_nil, or_false] at hx
    rcases hx with rfl | rfl <;> decide
  have H3 : Hid (∀ V a c, Below w.heap.size w V → IntsR V [2, 3, 7] a c → Calls Tryd.prog 15 #[.slice a 3 c] V fun e w' => e = .returned (.bool true) ∧ Below w.heap.size w w') := fun V a c hV hI => (Idle_any [2, 3, 7] a c true V hI (by decide) wak_idle).mono fun e w' ⟨k1, k2⟩ => ⟨k1, ball hV k2⟩
  clear hG
  go_enter Tryd.func7, Tryd.ntmps7
  go_wp2_with fail
  refine H1.out.mono ?_
  rintro e w1 ⟨g, c, rfl, hc3, HI1, HB1⟩
  go_wp2_with fail
  refine (H2.out _ HB1.out).mono ?_
  rintro e w2 ⟨rfl, HB2, HV2⟩
  have hI2 := HI1.out.below HV2.out
  obtain ⟨g1, o1, e1, hg1, q0⟩ := hI2.cell (k := 0) (x := 2) rfl
  cases e1
  obtain ⟨g2, o2, e2, _, q2⟩ := hI2.cell (k := 2) (x := 7) rfl
  cases e2
  have HI2 := Lib.hid hI2
  clear hI2
  go_wp2_with (first | (go_at_call 15; refine (H3.out _ _ _ HB2.out HI2.out).mono ?_; rintro e w3 ⟨rfl, hb3⟩))
  go_ret
  exact ⟨rfl, hb3⟩
end Go.Proofs.YtbjplhbflbabjaaDoor.Tm
