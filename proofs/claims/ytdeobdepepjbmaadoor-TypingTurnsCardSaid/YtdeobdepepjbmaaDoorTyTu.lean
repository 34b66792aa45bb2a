/- TypingTurns, walked. -/
import Derived.Test.YtdeobdepepjbmaaDoorTyG
import Derived.BigQuiet
namespace Go.Proofs.YtdeobdepepjbmaaDoor
open Go.RowKit
set_option linter.unusedVariables false
theorem ok_two {a b : Int} (ha : I64 a) (hb : I64 b) : ∀ x ∈ [a, b], I64 x := fun x hx => by
  simp at hx
  rcases hx with rfl | rfl
  · exact ha
  · exact hb
theorem ok_three {a b c : Int} (ha : I64 a) (hb : I64 b) (hc : I64 c) : ∀ x ∈ [a, b, c], I64 x := fun x hx => by
  simp at hx
  rcases hx with rfl | rfl | rfl
  · exact ha
  · exact hb
  · exact hc
set_option maxRecDepth 100000 in
set_option maxHeartbeats 8000000 in
theorem TypingTurns_w (op a b c : Int) (w : World) (hG : GA w) (ho : Tm.I8 op) (ha : I64 a) (hb : I64 b) (hc : I64 c) :
    Calls Tryd.prog 5 #[.int .i8 op, .int .i64 a, .int .i64 b, .int .i64 c] w fun e w' => e = .returned (.bool true) ∧ Below w.heap.size w w' := by
  obtain ⟨⟨p1, p2⟩, hp⟩ : ∃ p, Tm.opA op [a, b] = p := ⟨_, rfl⟩
  obtain ⟨⟨r1, r2⟩, hr⟩ : ∃ p, Tm.opA op [a, c] = p := ⟨_, rfl⟩
  obtain ⟨⟨u1, u2⟩, hu⟩ : ∃ p, Tm.opA 7 [0, a, b] = p := ⟨_, rfl⟩
  have HO1 : Hid (∀ V, Below w.heap.size w V → ∀ o, o = Obj.cells #[.int .i64 a, .int .i64 b] 3 → Calls Tryd.prog 8 #[.int .i8 op, .slice (some ⟨V.heap.size, 0, none⟩) 2 2] (V.alloc o) fun e w' => e = .returned (.tuple #[.int .i64 p1, .int .i64 p2]) ∧ Below V.heap.size V w') :=
    Op_lit op [a, b] p1 p2 w hG ho (by simp) (ok_two ha hb) hp
  have HO2 : Hid (∀ V, Below w.heap.size w V → ∀ o, o = Obj.cells #[.int .i64 b, .int .i64 a] 3 → Calls Tryd.prog 8 #[.int .i8 op, .slice (some ⟨V.heap.size, 0, none⟩) 2 2] (V.alloc o) fun e w' => e = .returned (.tuple #[.int .i64 p1, .int .i64 p2]) ∧ Below V.heap.size V w') :=
    Op_lit op [b, a] p1 p2 w hG ho (by simp) (ok_two hb ha) ((Tm.op_turn op a b).trans hp)
  have HO3 : Hid (∀ V, Below w.heap.size w V → ∀ o, o = Obj.cells #[.int .i64 a, .int .i64 c] 3 → Calls Tryd.prog 8 #[.int .i8 op, .slice (some ⟨V.heap.size, 0, none⟩) 2 2] (V.alloc o) fun e w' => e = .returned (.tuple #[.int .i64 r1, .int .i64 r2]) ∧ Below V.heap.size V w') :=
    Op_lit op [a, c] r1 r2 w hG ho (by simp) (ok_two ha hc) hr
  have HO4 : Hid (∀ V, Below w.heap.size w V → ∀ o, o = Obj.cells #[.int .i64 0, .int .i64 a, .int .i64 b] 3 → Calls Tryd.prog 8 #[.int .i8 7, .slice (some ⟨V.heap.size, 0, none⟩) 3 3] (V.alloc o) fun e w' => e = .returned (.tuple #[.int .i64 u1, .int .i64 u2]) ∧ Below V.heap.size V w') :=
    Op_lit 7 [0, a, b] u1 u2 w hG ⟨by decide, by decide⟩ (by simp) (ok_three i64_0 ha hb) hu
  have HWk : Hid (∀ V, Below w.heap.size w V → Calls Tryd.prog 7 #[] V fun e w' => e = .returned (.bool true) ∧ Below V.heap.size V w') := fun V hV => wakes_any V (hG.below hV)
  have f1 : (p1 != p1) = false := Tm.ne_f rfl
  have f2 : (p2 != p2) = false := Tm.ne_f rfl
  have hcase : ((p2 == 0) = false) ∨ ((p2 == 0) = true ∧ (r2 == 0) = false) ∨ ((p2 == 0) = true ∧ (r2 == 0) = true ∧ (p1 != r1) = false ∧ (b != c) = false) := by
    by_cases h1 : p2 = 0
    · by_cases h2 : r2 = 0
      · obtain ⟨g1, g2⟩ := Tm.op_once (op := op) (a := a) (b := b) (c := c) (by rw [hp]; exact h1) (by rw [hr]; exact h2)
        rw [hp, hr] at g1
        exact .inr (.inr ⟨Tm.eq_t h1, Tm.eq_t h2, Tm.ne_f g1, Tm.ne_f g2⟩)
      · exact .inr (.inl ⟨Tm.eq_t h1, Tm.eq_f h2⟩)
    · exact .inl (Tm.eq_f h1)
  have hcase2 : ((a == b) = true ∧ 0 ≤ a ∧ u1 = a ∧ u2 = 0 ∧ (u1 == a) = true) ∨ ((a == b) = true ∧ a < 0 ∧ u1 = 0 ∧ u2 = 33) ∨ ((a == b) = false ∧ u1 = 0 ∧ u2 = 33) := by
    rw [Tm.op_ite] at hu
    by_cases h1 : a = b
    · by_cases h2 : 0 ≤ a
      · rw [if_pos ⟨h2, h1⟩] at hu
        cases hu
        exact .inl ⟨Tm.eq_t h1, h2, rfl, rfl, Tm.eq_t rfl⟩
      · rw [if_neg (fun g => h2 g.1)] at hu
        cases hu
        exact .inr (.inl ⟨Tm.eq_t h1, by omega, rfl, rfl⟩)
    · rw [if_neg (fun g => h1 g.2)] at hu
      cases hu
      exact .inr (.inr ⟨Tm.eq_f h1, rfl, rfl⟩)
  clear hG ho ha hb hc hp hr hu
  rcases hcase2 with ⟨d1, d2, rfl, rfl, d3⟩ | ⟨d1, d2, rfl, rfl⟩ | ⟨d1, rfl, rfl⟩ <;> rcases hcase with e1 | ⟨e1, e2⟩ | ⟨e1, e2, e3, e4⟩
  all_goals
    go_enter Tryd.func5, Tryd.ntmps5
    go_wp2_with fail
    refine (HO1.out _ (Below.refl _ _) _ rfl).mono ?_
    rintro e w1 ⟨rfl, hb1⟩
    have HB1 := Lib.hid hb1
    go_wp2_with fail
    refine (HO2.out _ HB1.out _ rfl).mono ?_
    rintro e w2 ⟨rfl, hb2⟩
    have HB2 : Hid (Below w.heap.size w w2) := HB1.out.trans (hb2.mono HB1.out.size)
    clear hb1 hb2
    go_wp2_with fail
    refine (HO3.out _ HB2.out _ rfl).mono ?_
    rintro e w3 ⟨rfl, hb3⟩
    have HB3 : Hid (Below w.heap.size w w3) := HB2.out.trans (hb3.mono HB2.out.size)
    clear hb3
    go_wp2_with fail
    refine (HO4.out _ HB3.out _ rfl).mono ?_
    rintro e w4 ⟨rfl, hb4⟩
    have HB4 : Hid (Below w.heap.size w w4) := HB3.out.trans (hb4.mono HB3.out.size)
    clear hb4
    go_wp2_with fail
    refine (HWk.out _ HB4.out).mono ?_
    rintro e w5 ⟨rfl, hb5⟩
    go_wp2
    go_ret
    refine ⟨?_, HB4.out.trans (hb5.mono HB4.out.size)⟩
    first | rfl | (show Ending.returned (.bool (!decide (0 ≤ a))) = _; rw [decide_eq_false (by omega)]; rfl)
theorem TypingTurns_c (w : World) (op : Int) (h0 : (Lit.int .i8 op).wf = true) (a : Int) (h1 : (Lit.int .i64 a).wf = true) (b : Int) (h2 : (Lit.int .i64 b).wf = true) (c : Int) (h3 : (Lit.int .i64 c).wf = true) (hG : GA w) :
    Calls Tryd.prog 5 #[.int .i8 op, .int .i64 a, .int .i64 b, .int .i64 c] w fun e w' => e = .returned (.bool true) ∧ Below w.heap.size w w' :=
  TypingTurns_w op a b c w hG (by have := bounds_i8 h0; exact ⟨by omega, by omega⟩) (i64_of_wf h1) (i64_of_wf h2) (i64_of_wf h3)
end Go.Proofs.YtdeobdepepjbmaaDoor
