/- UnitsImply. -/
import Derived.Test.YtggighikemhnfaaDoorRaD
namespace Go.Proofs.YtggighikemhnfaaDoor.Tm
open Go.RowKit Go.Lib
set_option linter.unusedVariables false
theorem row_one (w : World) (x : Int) : RowO (w.alloc (.cells #[.int .i64 x] 3)) w.heap.size [x] (.slice (some ⟨w.heap.size, 0, none⟩) 1 1) := ⟨rfl, .inr ⟨w.heap.size, 1, #[.int .i64 x], rfl, Nat.le_refl _, heap_alloc_new w _, Nat.le_refl _, by decide, rfl, rfl⟩⟩
set_option maxRecDepth 100000 in
set_option maxHeartbeats 4000000 in
theorem UnitsImply_c (w : World) (rs : List RowD) (a : Option Addr) (c : Nat) (hR : RowsR w rs a c) (gs : List Int) (b : Option Addr) (d : Nat) (hA : IntsR w gs b d) (hgl : gs.length ≤ 17592186043904) (x : Int) (hx : I64 x) (hG : GC w) :
    Calls Tryd.prog 4 #[.slice a rs.length c, .slice b gs.length d, .int .i64 x] w fun e w' => e = .returned (.bool true) ∧ Below w.heap.size w w' := by
  obtain ⟨cls, hcl⟩ : ∃ cls, rs.map (·.xs) = cls := ⟨_, rfl⟩
  have HWk : Hid (∀ V, Below w.heap.size w V → Calls Tryd.prog 11 #[] V fun e w' => e = .returned (.bool true) ∧ Hid (Below w.heap.size w w')) := fun V hV => (wakes_any V (hG.below hV)).mono fun e w' ⟨h1, h2⟩ => ⟨h1, ball hV h2⟩
  have HGr : Hid (∀ V zs a' c', Below w.heap.size w V → IntsR V zs a' c' → Calls Tryd.prog 10 #[.slice a rs.length c, .slice a' zs.length c'] V fun e w' => GrP e (SmallG rs zs) ∧ V = w') := fun V zs a' c' hV hz => great_any rs a c zs a' c' V (hR.below hV) hz
  have HCl : Hid (∀ V, Below w.heap.size w V → SmallG rs (x :: gs) → Calls Tryd.prog 17 #[.slice a rs.length c, .slice b gs.length d] V fun e w' => (∃ r k q, RunRel cls gs r k ∧ e = .returned (.bool q) ∧ q = decide (k ≠ -1)) ∧ Hid (Below w.heap.size w w')) := fun V hV hS =>
    (Closes_any rs a c gs b d cls V hcl (hG.below hV) (hR.below hV) (hA.below hV) (by have := hS.1.1; omega) (by rw [← hcl]; have := flat_sum hS.1.2; have := hS.1.1; omega) (by have := hS.2.1; simp at this; omega)).mono fun e w' ⟨h1, h2⟩ => ⟨h1, ball hV h2⟩
  have HCr : Hid (∀ V, Below w.heap.size w V → SmallG rs (x :: gs) → Calls Tryd.prog 18 #[.slice a rs.length c, .slice b gs.length d] V fun e w' => (∃ r k q, RunRel cls gs r k ∧ e = .returned (.bool q) ∧ q = decide (k ≠ -1)) ∧ Hid (Below w.heap.size w w')) := fun V hV hS =>
    (RCloses_any rs a c gs b d cls V hcl (hR.below hV) (hA.below hV) (by have := hS.1.1; omega) (fun y hy => by have := hS.1.2 y hy; omega)).mono fun e w' ⟨h1, h2⟩ => ⟨h1, ball hV h2⟩
  have HIm : Hid (∀ V, Below w.heap.size w V → SmallG rs (x :: gs) → Calls Tryd.prog 19 #[.slice a rs.length c, .slice b gs.length d, .int .i64 x] V fun e w' => (∃ r k q, RunRel cls gs r k ∧ e = .returned (.bool q) ∧ q = decide (k ≠ -1 ∨ x ∈ r)) ∧ Hid (Below w.heap.size w w')) := fun V hV hS =>
    (Implies_any rs a c gs b d x cls V hcl (hG.below hV) (hR.below hV) (hA.below hV) (by have := hS.1.1; omega) (by rw [← hcl]; have := flat_sum hS.1.2; have := hS.1.1; omega) (by have := hS.2.1; simp at this; omega)).mono fun e w' ⟨h1, h2⟩ => ⟨h1, ball hV h2⟩
  have HIr : Hid (∀ V, Below w.heap.size w V → SmallG rs (x :: gs) → Calls Tryd.prog 20 #[.slice a rs.length c, .slice b gs.length d, .int .i64 x] V fun e w' => (∃ r k q, RunRel cls gs r k ∧ e = .returned (.bool q) ∧ q = decide (k ≠ -1 ∨ x ∈ r)) ∧ Hid (Below w.heap.size w w')) := fun V hV hS =>
    (RImplies_any rs a c gs b d x cls V hcl (hR.below hV) (hA.below hV) (by have := hS.1.1; omega) (fun y hy => by have := hS.1.2 y hy; omega)).mono fun e w' ⟨h1, h2⟩ => ⟨h1, ball hV h2⟩
  have hA0 : IntsR (w.alloc (.cells #[.int .i64 x] 3)) gs b d := hA.below ((Below.refl _ w).alloc (Nat.le_refl _) _)
  have HOk : Hid (I64 x ∧ ∀ y ∈ gs, I64 y) := ⟨hx, hA.ok⟩
  have c1 : gs.length ≤ 9223372036854775807 := by omega
  have hro := row_one w x
  clear hR hA hG hx hcl
  go_enter Tryd.func4, Tryd.ntmps4
  go_wp2_with (at_builtin; refine wpList_appB rfl _ _ rfl rfl w.heap.size _ [x] gs b d (by rfl) (by rfl) hro hA0 (by simp) (by simp; omega) ?_; intro v4 w4 hr4 hg4)
  have HB4 : Hid (Below w.heap.size w w4) := ((Below.refl _ w).alloc (Nat.le_refl _) (.cells #[.int .i64 x] 3)).grown hg4 (by simp) (fun k e => by cases e; exact Nat.le_refl _)
  obtain ⟨a4, c4, rfl, hi4⟩ := hr4.ints (fun y hy => by
    rcases List.mem_cons.1 hy with rfl | hy
    · exact HOk.out.1
    · exact HOk.out.2 y hy)
  have HG4 := Lib.hid (HGr.out w4 _ a4 c4 HB4.out hi4)
  clear hr4 hg4 hi4 hA0 hro
  with_reducible refine HG4.out.mono ?_
  rintro e w5 ⟨⟨q, rfl, hq⟩, rfl⟩
  cases q with
  | true =>
    clear hq
    go_wp2_with (first | (go_at_call 11; with_reducible refine (HWk.out _ HB4.out).mono ?_; rintro e wz ⟨rfl, HBz⟩))
    go_ret
    exact ⟨rfl, HBz.out⟩
  | false =>
    have HS : Hid (SmallG rs (x :: gs)) := hq rfl
    clear hq
    have HC1 := Lib.hid (HCl.out w4 HB4.out HS.out)
    go_wp2_with fail
    with_reducible refine HC1.out.mono ?_
    rintro e w6 ⟨⟨r, k, q, h1, rfl, h2⟩, HB6⟩
    have HR6 := Lib.hid (And.intro h1 h2)
    have HC2 := Lib.hid (HCr.out w6 HB6.out HS.out)
    clear h1 h2 HC1
    go_wp2_with fail
    with_reducible refine HC2.out.mono ?_
    rintro e w7 ⟨⟨r', k', q', h1, rfl, h2⟩, HB7⟩
    obtain rfl : q' = q := by rw [h2, HR6.out.2, (h1.same HR6.out.1).2]
    have dq : (q' == q') = true := by simp
    have HI1 := Lib.hid (HIm.out w7 HB7.out HS.out)
    clear h1 h2 HC2
    go_wp2_with fail
    with_reducible refine HI1.out.mono ?_
    rintro e w8 ⟨⟨r8, k8, q8, h1, rfl, h2⟩, HB8⟩
    have HR8 := Lib.hid (And.intro h1 h2)
    have HI2 := Lib.hid (HIr.out w8 HB8.out HS.out)
    clear h1 h2 HI1
    go_wp2_with fail
    with_reducible refine HI2.out.mono ?_
    rintro e w9 ⟨⟨r9, k9, q9, h1, rfl, h2⟩, HB9⟩
    obtain rfl : q9 = q8 := by
      obtain ⟨e1, e2⟩ := h1.same HR8.out.1
      rw [h2, HR8.out.2, e1, e2]
    have dq9 : (q9 == q9) = true := by simp
    clear h1 h2 HI2
    go_wp2_with (first | (go_at_call 11; with_reducible refine (HWk.out _ HB9.out).mono ?_; rintro e wz ⟨rfl, HBz⟩))
    go_ret
    exact ⟨rfl, HBz.out⟩
end Go.Proofs.YtggighikemhnfaaDoor.Tm
