/- UnitsTurn. -/
import Derived.Test.YtaiclnlpehfdjaaDoorUoD
namespace Go.Proofs.YtaiclnlpehfdjaaDoor.Tm
open Go.RowKit
set_option linter.unusedVariables false
theorem flat_sum {rs : List RowD} (h : ∀ y ∈ rs, y.xs.length ≤ 20) : (rs.map (·.xs)).flatten.length ≤ 20 * rs.length := by
  induction rs with
  | nil => simp
  | cons y r ih =>
    rw [List.map_cons, List.flatten_cons, List.length_append, List.length_cons]
    have := h y (by simp)
    have := ih (fun z hz => h z (by simp [hz]))
    omega
theorem row_one (w : World) (x : Int) : RowO (w.alloc (.cells #[.int .i64 x] 3)) w.heap.size [x] (.slice (some ⟨w.heap.size, 0, none⟩) 1 1) := ⟨rfl, .inr ⟨w.heap.size, 1, #[.int .i64 x], rfl, Nat.le_refl _, heap_alloc_new w _, Nat.le_refl _, by decide, rfl, rfl⟩⟩
theorem row_zero2 (w : World) : RowO (w.alloc (.cells #[] 3)) w.heap.size [] (.slice (some ⟨w.heap.size, 0, none⟩) 0 0) := row_zero w
set_option maxRecDepth 100000 in
set_option maxHeartbeats 4000000 in
theorem UnitsTurn_c (w : World) (rs : List RowD) (a : Option Addr) (c : Nat) (hR : RowsR w rs a c) (gs : List Int) (b : Option Addr) (d : Nat) (hA : IntsR w gs b d) (hgl : gs.length ≤ 17592186043904) (x : Int) (hx : I64 x) (hG : GC w) :
    Calls Tryd.prog 8 #[.slice a rs.length c, .slice b gs.length d, .int .i64 x] w fun e w' => e = .returned (.bool true) ∧ Below w.heap.size w w' := by
  obtain ⟨cls, hcl⟩ : ∃ cls, rs.map (·.xs) = cls := ⟨_, rfl⟩
  have HWk : Hid (∀ V, Below w.heap.size w V → Calls Tryd.prog 11 #[] V fun e w' => e = .returned (.bool true) ∧ Hid (Below w.heap.size w w')) := fun V hV => (wakes_any V (hG.below hV)).mono fun e w' ⟨h1, h2⟩ => ⟨h1, ball hV h2⟩
  have HGr : Hid (∀ V zs a' c', Below w.heap.size w V → IntsR V zs a' c' → Calls Tryd.prog 10 #[.slice a rs.length c, .slice a' zs.length c'] V fun e w' => GrP e (SmallG rs zs) ∧ V = w') := fun V zs a' c' hV hz => great_any rs a c zs a' c' V (hR.below hV) hz
  have HIm : Hid (∀ V, Below w.heap.size w V → SmallG rs (x :: gs) → Calls Tryd.prog 19 #[.slice a rs.length c, .slice b gs.length d, .int .i64 x] V fun e w' => (∃ r k q, RunRel cls gs r k ∧ e = .returned (.bool q) ∧ q = decide (k ≠ -1 ∨ x ∈ r)) ∧ Hid (Below w.heap.size w w')) := fun V hV hS =>
    (Implies_any rs a c gs b d x cls V hcl (hG.below hV) (hR.below hV) (hA.below hV) (by have := hS.1.1; omega) (by rw [← hcl]; have := flat_sum hS.1.2; have := hS.1.1; omega) (by have := hS.2.1; simp at this; omega)).mono fun e w' ⟨h1, h2⟩ => ⟨h1, ball hV h2⟩
  have HCl : Hid (∀ V zs a' c', Below w.heap.size w V → IntsR V zs a' c' → zs.length ≤ 1000 → SmallG rs (x :: gs) → Calls Tryd.prog 17 #[.slice a rs.length c, .slice a' zs.length c'] V fun e w' => (∃ r k q, RunRel cls zs r k ∧ e = .returned (.bool q) ∧ q = decide (k ≠ -1)) ∧ Hid (Below w.heap.size w w')) := fun V zs a' c' hV hz hzl hS =>
    (Closes_any rs a c zs a' c' cls V hcl (hG.below hV) (hR.below hV) hz (by have := hS.1.1; omega) (by rw [← hcl]; have := flat_sum hS.1.2; have := hS.1.1; omega) (by omega)).mono fun e w' ⟨h1, h2⟩ => ⟨h1, ball hV h2⟩
  have HBr : Hid (Below w.heap.size w w) := Below.refl _ _
  have HA : Hid (∀ V, Below w.heap.size w V → IntsR V gs b d) := fun V hV => hA.below hV
  have hA0 : IntsR (w.alloc (.cells #[.int .i64 x] 3)) gs b d := hA.below ((Below.refl _ w).alloc (Nat.le_refl _) _)
  have HOk : Hid (I64 x ∧ ∀ y ∈ gs, I64 y) := ⟨hx, hA.ok⟩
  have c1 : gs.length ≤ 9223372036854775807 := by omega
  have hro := row_one w x
  clear hR hA hG hx hcl
  go_enter Tryd.func8, Tryd.ntmps8
  go_wp2_with (at_builtin; refine wpList_appB rfl _ _ rfl rfl w.heap.size _ [x] gs b d (by rfl) (by rfl) hro hA0 (by simp) (by simp; omega) ?_; intro v4 w4 hr4 hg4)
  have HB4 : Hid (Below w.heap.size w w4) := ((Below.refl _ w).alloc (Nat.le_refl _) (.cells #[.int .i64 x] 3)).grown hg4 (by simp) (fun k e => by cases e; exact Nat.le_refl _)
  obtain ⟨a4, c4, rfl, hi4⟩ := hr4.ints (fun y hy => by
    rcases List.mem_cons.1 hy with rfl | hy
    · exact HOk.out.1
    · exact HOk.out.2 y hy)
  have HG4 := Lib.hid (HGr.out w4 _ a4 c4 HB4.out hi4)
  clear hr4 hg4 hi4 hA0 hro
  with_reducible refine HG4.out.mono ?_
  rintro e w5 ⟨⟨q, rfl, hq⟩, rfl⟩
  cases q with
  | true =>
    clear hq
    go_wp2_with (first | (go_at_call 11; with_reducible refine (HWk.out _ HB4.out).mono ?_; rintro e wz ⟨rfl, HBz⟩))
    go_ret
    exact ⟨rfl, HBz.out⟩
  | false =>
    have HS : Hid (SmallG rs (x :: gs)) := hq rfl
    clear hq
    by_cases hx0 : x < 0
    · have d0 : decide (x < 0) = true := decide_eq_true hx0
      clear hx0
      go_wp2_with (first | (go_at_call 11; with_reducible refine (HWk.out _ HB4.out).mono ?_; rintro e wz ⟨rfl, HBz⟩))
      go_ret
      exact ⟨rfl, HBz.out⟩
    · have d0 : decide (x < 0) = false := decide_eq_false hx0
      have HX0 : Hid (0 ≤ x) := by show 0 ≤ x; omega
      have HI4 := Lib.hid (HIm.out w4 HB4.out HS.out)
      clear hx0 HG4
      go_wp2_with fail
      with_reducible refine HI4.out.mono ?_
      rintro e w5 ⟨⟨r, k, q, h1, rfl, h2⟩, HB5⟩
      have HR5 := Lib.hid (And.intro h1 h2)
      clear h1 h2 HI4
      cases q with
      | false =>
        have HC5 := Lib.hid (HCl.out w5 gs b d HB5.out (HA.out w5 HB5.out) (by have := HS.out.2.1; simp at this; omega) HS.out)
        go_wp2_with fail
        with_reducible refine HC5.out.mono ?_
        rintro e w6 ⟨⟨r', k', q', h3, rfl, h4⟩, HB6⟩
        obtain rfl : q' = false := by
          have h5 := HR5.out.2
          have h6 : ¬ (k ≠ -1 ∨ x ∈ r) := of_decide_eq_false h5.symm
          have h7 := (HR5.out.1.same h3).2
          rw [h4]
          exact decide_eq_false (fun e => h6 (.inl (by rw [h7]; exact e)))
        clear h3 h4
        go_wp2_with (first | (go_at_call 11; with_reducible refine (HWk.out _ HB6.out).mono ?_; rintro e wz ⟨rfl, HBz⟩))
        go_ret
        exact ⟨rfl, HBz.out⟩
      | true =>
        have hand : bits .and .i64 x 1 = x % 2 := i64_and1 x HOk.out.1
        obtain ⟨p, hp⟩ : ∃ p, x % 2 = p := ⟨_, rfl⟩
        rw [hp] at hand
        obtain ⟨ng, hng⟩ : ∃ ng, x + 1 - 2 * p = ng := ⟨_, rfl⟩
        have HNg : Hid (negM x = ng ∧ I64 ng) := by
          have hx4 : x ≤ 4000 := HS.out.2.2.1 x (by simp)
          have h0 := HX0.out
          have hn : negM x = ng := by
            rw [← hng, ← hp]
            unfold negM
            split <;> omega
          refine ⟨hn, ?_⟩
          rw [← hn]
          exact negM_i64 HOk.out.1
        have hxb : 0 ≤ x ∧ x ≤ 4000 := ⟨HX0.out, HS.out.2.2.1 x (by simp)⟩
        have hpb : 0 ≤ p ∧ p ≤ 1 := by omega
        obtain ⟨hx1, hx2⟩ := hxb
        obtain ⟨hp1, hp2⟩ := hpb
        have hA6 : IntsR (w5.alloc (.cells #[] 3)) gs b d := HA.out _ (HB5.out.alloc HB5.out.size _)
        have hr0 := row_zero2 w5
        have hg2 : gs.length ≤ 200 := by have := HS.out.2.1; simp at this; omega
        have hws := HB5.out.size
        clear hp
        have HOg : Hid (∀ y ∈ gs ++ [ng], I64 y) := fun y hy => by
          rcases List.mem_append.1 hy with hy | hy
          · exact HOk.out.2 y hy
          · rw [show y = ng by simpa using hy]; exact HNg.out.2
        have HIn : Hid (∀ V : World, IntsR (V.alloc (.cells #[.int .i64 ng] 3)) [ng] (some ⟨V.heap.size, 0, none⟩) 1) := fun V => ints_row (heap_alloc_new V _) (fun y hy => by rw [show y = ng by simpa using hy]; exact HNg.out.2) (by simp)
        go_wp2_with (first
          | (at_builtin; refine wpList_appB rfl _ _ rfl rfl w5.heap.size _ [] gs b d (by rfl) (by rfl) hr0 hA6 (by simp) (by simp; omega) ?_; intro v6 w6 hr6 hg6; rw [List.nil_append] at hr6; have HB6 : Hid (Below w.heap.size w w6) := (HB5.out.alloc HB5.out.size (.cells #[] 3)).grown hg6 (by simp; omega) (fun k e => by cases e; exact HB5.out.size); obtain ⟨a6, c6, rfl, hi6⟩ := hr6.ints HOk.out.2; have hz6 : w5.heap.size ≤ w6.heap.size := (by have := hg6.size; simp at this; omega); have HR6 := Lib.hid hr6; have hro6 : RowO (w6.alloc (.cells #[.int .i64 ng] 3)) w5.heap.size gs (.slice a6 gs.length c6) := hr6.keep ((Below.refl _ w6).alloc (Nat.le_refl _) _); have hin6 := HIn.out w6; clear hr6 hg6 hi6 hA6 hr0)
          | (at_builtin; refine wpList_appB rfl _ _ rfl rfl w5.heap.size _ gs [ng] _ 1 (by rfl) (by rfl) hro6 hin6 (by simp; omega) (by simp; omega) ?_; intro v7 w7 hr7 hg7; have HB7 : Hid (Below w.heap.size w w7) := (HB6.out.alloc HB6.out.size (.cells #[.int .i64 ng] 3)).grown hg7 (by simp; have := HB6.out.size; omega) (fun k e => Nat.le_trans HB5.out.size (own_lt HR6.out e).1); obtain ⟨a7, c7, rfl, hi7⟩ := hr7.ints HOg.out; have HC7 := Lib.hid (HCl.out w7 _ a7 c7 HB7.out hi7 (by rw [List.length_append]; simp; omega) HS.out); rw [List.length_append, List.length_singleton] at HC7; clear hr7 hg7 hi7 hro6 hin6))
        with_reducible refine HC7.out.mono ?_
        rintro e w8 ⟨⟨r', k', q', h3, rfl, h4⟩, HB8⟩
        obtain rfl : q' = true := by
          rw [h4]
          exact decide_eq_true (turn_plain HR5.out.1 (of_decide_eq_true HR5.out.2.symm) HX0.out (HS.out.2.2.1 x (by simp)) HNg.out.1 h3)
        clear h3 h4
        go_wp2_with (first | (go_at_call 11; with_reducible refine (HWk.out _ HB8.out).mono ?_; rintro e wz ⟨rfl, HBz⟩))
        go_ret
        exact ⟨rfl, HBz.out⟩
end Go.Proofs.YtaiclnlpehfdjaaDoor.Tm
