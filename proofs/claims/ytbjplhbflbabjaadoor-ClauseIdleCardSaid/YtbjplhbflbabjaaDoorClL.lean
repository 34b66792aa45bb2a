/- ClauseTurns: its walk. -/
import Derived.Test.YtbjplhbflbabjaaDoorClK
namespace Go.Proofs.YtbjplhbflbabjaaDoor.Tm
open Go.RowKit Go.Sort Go.Lib Go.Shelf
set_option linter.unusedVariables false
theorem row_zero2 (w : World) : RowO (w.alloc (.cells #[] 3)) w.heap.size [] (.slice (some ⟨w.heap.size, 0, none⟩) 0 0) := ⟨rfl, .inr ⟨w.heap.size, 0, #[], rfl, Nat.le_refl _, heap_alloc_new w _, Nat.le_refl _, by decide, rfl, rfl⟩⟩
theorem resM_i64 {xs ys : List Int} {lit : Int} (hx : ∀ x ∈ xs, I64 x) (hy : ∀ x ∈ ys, I64 x) : ∀ x ∈ resM xs ys lit, I64 x := fun x h => (List.mem_append.1 (resM_mem x h)).elim (hx x) (hy x)
/-- What Resolve answers, as a walk wants it. -/
theorem Resolve_at (xs : List Int) (a : Option Addr) (c : Nat) (ys : List Int) (b : Option Addr) (d : Nat) (lit : Int) (r : Bool) (m : List Int) (w V : World) (hV : Below w.heap.size w V) (hA : IntsR w xs a c) (hB : IntsR w ys b d) (hl : I64 lit) (hxm : xs.length ≤ 60) (hym : ys.length ≤ 60) (hr : resB xs ys lit = r) (hm : resM xs ys lit = m) :
    Calls Tryd.prog 12 #[.slice a xs.length c, .slice b ys.length d, .int .i64 lit] V fun e w' => ∃ a' c', e = .returned (.tuple #[.slice a' m.length c', .bool r]) ∧ Hid (IntsR w' m a' c') ∧ Hid (Below w.heap.size w w') ∧ Hid (Below V.heap.size V w') := by
  refine (Resolve_any xs a c ys b d lit r V (hA.below hV) (hB.below hV) hl (by omega) (by omega) hr).mono ?_
  rintro e w' ⟨v, rfl, h1, h2⟩
  rw [hm] at h1
  obtain ⟨a', c', rfl, h3⟩ := h1.ints (by rw [← hm]; exact resM_i64 hA.ok hB.ok)
  exact ⟨a', c', rfl, h3, ball hV h2, h2⟩
set_option maxRecDepth 100000 in
set_option maxHeartbeats 4000000 in
theorem ClauseTurns_c (w : World) (xs : List Int) (a : Option Addr) (c : Nat) (hA : IntsR w xs a c) (ys : List Int) (b : Option Addr) (d : Nat) (hB : IntsR w ys b d) (lit : Int) (hl : I64 lit) (hG : GC w) :
    Calls Tryd.prog 6 #[.slice a xs.length c, .slice b ys.length d, .int .i64 lit] w fun e w' => e = .returned (.bool true) ∧ Below w.heap.size w w' := by
  have HWk : Hid (∀ V, Below w.heap.size w V → Calls Tryd.prog 7 #[] V fun e w' => e = .returned (.bool true) ∧ Below w.heap.size w w') := fun V hV => (wakes_any V (hG.below hV)).mono fun e w' ⟨h1, h2⟩ => ⟨h1, ball hV h2⟩
  have HBr : Hid (Below w.heap.size w w) := Below.refl _ _
  have c1 : xs.length ≤ 9223372036854775807 := len_fits hA.le hA.cap
  have c2 : ys.length ≤ 9223372036854775807 := len_fits hB.le hB.cap
  by_cases h1 : 60 < xs.length
  · have d1 : decide (60 < (xs.length : Int)) = true := decide_eq_true (by omega)
    clear hA hB hG h1
    go_enter Tryd.func6, Tryd.ntmps6
    go_wp2_with fail
    refine (HWk.out _ HBr.out).mono ?_
    rintro e w1 ⟨rfl, hb1⟩
    go_wp2
    go_ret
    exact ⟨rfl, hb1⟩
  have d1 : decide (60 < (xs.length : Int)) = false := decide_eq_false (by omega)
  by_cases h2 : 60 < ys.length
  · have d2 : decide (60 < (ys.length : Int)) = true := decide_eq_true (by omega)
    clear hA hB hG h1 h2
    go_enter Tryd.func6, Tryd.ntmps6
    go_wp2_with fail
    refine (HWk.out _ HBr.out).mono ?_
    rintro e w1 ⟨rfl, hb1⟩
    go_wp2
    go_ret
    exact ⟨rfl, hb1⟩
  have d2 : decide (60 < (ys.length : Int)) = false := decide_eq_false (by omega)
  by_cases h3 : lit < 0
  · have d3 : decide (lit < 0) = true := decide_eq_true h3
    clear hA hB hG h1 h2 h3
    go_enter Tryd.func6, Tryd.ntmps6
    go_wp2_with fail
    refine (HWk.out _ HBr.out).mono ?_
    rintro e w1 ⟨rfl, hb1⟩
    go_wp2
    go_ret
    exact ⟨rfl, hb1⟩
  have d3 : decide (lit < 0) = false := decide_eq_false h3
  obtain ⟨r, hr⟩ : ∃ r, resB xs ys lit = r := ⟨_, rfl⟩
  obtain ⟨m, hm⟩ : ∃ m, resM xs ys lit = m := ⟨_, rfl⟩
  have hr2 : resB ys xs (negM lit) = r := by rw [resB_turn (by omega), hr]
  have hm2 : resM ys xs (negM lit) = m := by rw [resM_turn (by omega), hm]
  have HR1 : Hid (∀ V, Below w.heap.size w V → Calls Tryd.prog 12 #[.slice a xs.length c, .slice b ys.length d, .int .i64 lit] V fun e w' => ∃ a' c', e = .returned (.tuple #[.slice a' m.length c', .bool r]) ∧ Hid (IntsR w' m a' c') ∧ Hid (Below w.heap.size w w') ∧ Hid (Below V.heap.size V w')) := fun V hV => Resolve_at xs a c ys b d lit r m w V hV hA hB hl (by omega) (by omega) hr hm
  have HR2 : Hid (∀ V, Below w.heap.size w V → Calls Tryd.prog 12 #[.slice b ys.length d, .slice a xs.length c, .int .i64 (bits .xor .i64 lit 1)] V fun e w' => ∃ a' c', e = .returned (.tuple #[.slice a' m.length c', .bool r]) ∧ Hid (IntsR w' m a' c') ∧ Hid (Below w.heap.size w w') ∧ Hid (Below V.heap.size V w')) := fun V hV => by rw [i64_xor1 lit hl]; exact Resolve_at ys b d xs a c (negM lit) r m w V hV hB hA (negM_i64 hl) (by omega) (by omega) hr2 hm2
  have HS : Hid (∀ V a1 c1 a2 c2, Below w.heap.size w V → IntsR V m a1 c1 → IntsR V m a2 c2 → Calls Tryd.prog 16 #[.slice a1 m.length c1, .slice a2 m.length c2] V fun e w' => e = .returned (.bool true) ∧ Hid (Below w.heap.size w w') ∧ Hid (Below V.heap.size V w')) := fun V a1 c1 a2 c2 hV h1 h2 => (RSame_any m m a1 a2 c1 c2 true V h1 h2 (decide_eq_true rfl)).mono fun e w' ⟨k1, k2⟩ => ⟨k1, ball hV k2, k2⟩
  obtain ⟨zs, hz⟩ : ∃ zs, xs ++ ys = zs := ⟨_, rfl⟩
  have hzl : zs.length ≤ 120 := by rw [← hz, List.length_append]; omega
  have hwi : withinM m zs = true := within_of (fun x hx => by rw [← hz]; rw [← hm] at hx; exact resM_mem x hx)
  have HW : Hid (∀ V a1 c1 a2 c2, Below w.heap.size w V → IntsR V m a1 c1 → IntsR V zs a2 c2 → Calls Tryd.prog 9 #[.slice a1 m.length c1, .slice a2 zs.length c2] V fun e w' => e = .returned (.bool true) ∧ Hid (Below w.heap.size w w') ∧ Hid (Below V.heap.size V w')) := fun V a1 c1 a2 c2 hV h1 h2 => (Within_any m a1 c1 zs a2 c2 true V h1 h2 (by omega) hwi).mono fun e w' ⟨k1, k2⟩ => ⟨k1, ball hV k2, k2⟩
  have HI : Hid (r = true → ∀ V a1 c1, Below w.heap.size w V → IntsR V m a1 c1 → Calls Tryd.prog 10 #[.slice a1 m.length c1] V fun e w' => e = .returned (.bool true) ∧ Hid (Below w.heap.size w w') ∧ Hid (Below V.heap.size V w')) := fun h V a1 c1 hV h1 => (Isc_any m a1 c1 true V h1 (by rw [← hm]; exact resM_is (by rw [hr]; exact h))).mono fun e w' ⟨k1, k2⟩ => ⟨k1, ball hV k2, k2⟩
  have HX : Hid (∀ V, Below w.heap.size w V → IntsR V xs a c ∧ IntsR V ys b d) := fun V hV => ⟨hA.below hV, hB.below hV⟩
  have HZ := Lib.hid hz
  have HOk : Hid ((∀ x ∈ xs, I64 x) ∧ ∀ x ∈ zs, I64 x) := ⟨hA.ok, fun x hx => by rw [← hz] at hx; exact (List.mem_append.1 hx).elim (hA.ok x) (hB.ok x)⟩
  have hx6 : xs.length ≤ 60 := by omega
  have hy6 : ys.length ≤ 60 := by omega
  clear hA hB hG h1 h2 h3 hr hm hr2 hm2 hwi hz
  go_enter Tryd.func6, Tryd.ntmps6
  go_wp2_with fail
  refine (HR1.out _ HBr.out).mono ?_
  rintro e w1 ⟨a1, e1, rfl, HI1, HB1, HV1⟩
  go_wp2_with fail
  refine (HR2.out _ HB1.out).mono ?_
  rintro e w2 ⟨a2, e2, rfl, HI2, HB2, HV2⟩
  have HI1b := Lib.hid (HI1.out.below HV2.out)
  have hrr : (r == r) = true := by cases r <;> rfl
  go_wp2_with fail
  refine (HS.out _ _ _ _ _ HB2.out HI1b.out HI2.out).mono ?_
  rintro e w3 ⟨rfl, HB3, HV3⟩
  have HI3 := Lib.hid (HI1b.out.below HV3.out)
  have hb3a := (Below.refl _ w3).alloc (Nat.le_refl _) (.cells #[] 3)
  obtain ⟨hXa, hYa⟩ := HX.out _ (ball HB3.out hb3a)
  have HI3a := Lib.hid (HI3.out.below hb3a)
  have HB3a := Lib.hid (ball HB3.out hb3a)
  clear hb3a
  go_wp2_with (first
    | (at_builtin; refine wpList_appG (by first | rfl | go_simp) _ _ rfl rfl w3.heap.size _ [] xs a c (by rfl) (by rfl) (row_zero2 w3) hXa (by simp) (by simp; omega) ?_; intro v4 w4 hr4 hg4; rw [List.nil_append] at hr4; have HB4 : Hid (Below w3.heap.size w3 w4) := ((Below.refl _ w3).alloc (Nat.le_refl _) _).grown hg4 (by simp) (fun k e => by cases e; exact Nat.le_refl _); obtain ⟨a4, c4, rfl, hi4⟩ := hr4.ints HOk.out.1; have hY4 : IntsR w4 ys b d := (HX.out _ (ball HB3.out HB4.out)).2; have hz4 : w3.heap.size ≤ w4.heap.size := HB4.out.size)
    | (at_builtin; refine wpList_appG (by first | rfl | go_simp) _ _ rfl rfl w3.heap.size _ xs ys b d (by rfl) (by rfl) hr4 hY4 hz4 (by omega) ?_; intro v5 w5 hr5 hg5; have HB5 : Hid (Below w3.heap.size w3 w5) := HB4.out.grown hg5 HB4.out.size (fun k e => (own_lt hr4 e).1); rw [HZ.out] at hr5; obtain ⟨a5, c5, rfl, hi5⟩ := hr5.ints HOk.out.2; have HI5 := Lib.hid hi5; have HI5m := Lib.hid (HI3.out.below HB5.out); clear hr5 hg5 hi5 hr4 hY4 hz4 hg4 hi4)
    | (go_at_call 9; refine (HW.out _ _ _ _ _ (ball HB3.out HB5.out) HI5m.out HI5.out).mono ?_; rintro e w6 ⟨rfl, HB6, HV6⟩))
  · refine (HI.out (by first | rfl | assumption) _ _ _ HB6.out (HI5m.out.below HV6.out)).mono ?_
    rintro e w7 ⟨rfl, HB7, HV7⟩
    go_wp2_with fail
    refine (HWk.out _ HB7.out).mono ?_
    rintro e w8 ⟨rfl, hb8⟩
    go_wp2
    go_ret
    exact ⟨rfl, hb8⟩
  · refine (HWk.out _ HB6.out).mono ?_
    rintro e w8 ⟨rfl, hb8⟩
    go_wp2
    go_ret
    exact ⟨rfl, hb8⟩
end Go.Proofs.YtbjplhbflbabjaaDoor.Tm
