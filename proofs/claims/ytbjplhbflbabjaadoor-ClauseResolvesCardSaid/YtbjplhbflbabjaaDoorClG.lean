/- Clauses: Resolve, Same. -/
import Derived.Test.YtbjplhbflbabjaaDoorClF
namespace Go.Proofs.YtbjplhbflbabjaaDoor.Tm
open Go.RowKit Go.Sort Go.Lib Go.Shelf
set_option linter.unusedVariables false
def resB (xs ys : List Int) (lit : Int) : Bool := !decide (lit < 0) && (xs.contains lit && ys.contains (negM lit))
def resL (xs ys : List Int) (lit : Int) : List Int := (xs.filter fun y => !(y == lit)) ++ (ys.filter fun y => !(y == negM lit))
def resM (xs ys : List Int) (lit : Int) : List Int := if resB xs ys lit = true then makeM (resL xs ys lit) else []
theorem nil_own (w : World) (base : Nat) : RowO w base [] (.slice none 0 0) := ⟨rfl, .inl ⟨rfl, rfl⟩⟩
theorem Resolve_any (xs : List Int) (a : Option Addr) (c : Nat) (ys : List Int) (b : Option Addr) (d : Nat) (lit : Int) (r : Bool) (w : World) (hA : IntsR w xs a c) (hB : IntsR w ys b d) (hl : I64 lit) (hxm : xs.length ≤ 2000) (hym : ys.length ≤ 2000) (hr : resB xs ys lit = r) :
    Calls Tryd.prog 12 #[.slice a xs.length c, .slice b ys.length d, .int .i64 lit] w fun e w' => ∃ v, e = .returned (.tuple #[v, .bool r]) ∧ RowO w' w.heap.size (resM xs ys lit) v ∧ Below w.heap.size w w' := by
  have HN : Hid (∀ V, Calls Tryd.prog 24 #[.int .i64 lit] V fun e w' => e = .returned (.int .i64 (negM lit)) ∧ V = w') := fun V => Neg_any lit V hl
  obtain ⟨p, hp⟩ : ∃ p, xs.contains lit = p := ⟨_, rfl⟩
  obtain ⟨q, hq⟩ : ∃ q, ys.contains (negM lit) = q := ⟨_, rfl⟩
  have HCx : Hid (∀ V, Below w.heap.size w V → Calls Tryd.prog 25 #[.slice a xs.length c, .int .i64 lit] V fun e w' => e = .returned (.bool p) ∧ w' = V) := fun V hV => by rw [← hp]; exact contains_any xs a c lit V (hA.below hV)
  have HCy : Hid (∀ V, Below w.heap.size w V → Calls Tryd.prog 25 #[.slice b ys.length d, .int .i64 (negM lit)] V fun e w' => e = .returned (.bool q) ∧ w' = V) := fun V hV => by rw [← hq]; exact contains_any ys b d (negM lit) V (hB.below hV)
  have HBr : Hid (Below w.heap.size w w) := Below.refl _ _
  obtain ⟨m, hm⟩ : ∃ m, resM xs ys lit = m := ⟨_, rfl⟩
  rw [hm]
  unfold resM at hm
  rw [hr] at hm
  unfold resB at hr
  rw [hp, hq] at hr
  by_cases h0 : lit < 0
  · rw [decide_eq_true h0] at hr
    obtain rfl : false = r := hr
    obtain rfl : [] = m := hm
    have d0 : decide (lit < 0) = true := decide_eq_true h0
    clear hp hq HCx HCy hA hB h0
    go_enter Tryd.func12, Tryd.ntmps12
    go_wp2_with (first | (go_at_call 24; refine (HN.out _).mono ?_; rintro e w1 ⟨rfl, rfl⟩))
    go_ret2
    exact ⟨_, rfl, nil_own _ _, HBr.out⟩
  · rw [decide_eq_false h0] at hr
    have d0 : decide (lit < 0) = false := decide_eq_false h0
    cases p with
    | false =>
      obtain rfl : false = r := hr
      obtain rfl : [] = m := hm
      clear hp hq HCy hA hB h0
      go_enter Tryd.func12, Tryd.ntmps12
      go_wp2_with (first | (go_at_call 24; refine (HN.out _).mono ?_; rintro e w1 ⟨rfl, rfl⟩) | (go_at_call 25; refine (HCx.out _ HBr.out).mono ?_; rintro e w2 ⟨rfl, rfl⟩))
      go_ret2
      exact ⟨_, rfl, nil_own _ _, HBr.out⟩
    | true =>
      cases q with
      | false =>
        obtain rfl : false = r := hr
        obtain rfl : [] = m := hm
        clear hp hq hA hB h0
        go_enter Tryd.func12, Tryd.ntmps12
        go_wp2_with (first | (go_at_call 24; refine (HN.out _).mono ?_; rintro e w1 ⟨rfl, rfl⟩))
        have HBs := Lib.hid HBr.out
        go_wp2_with fail
        refine (HCx.out _ HBr.out).mono ?_
        rintro e w2 ⟨rfl, rfl⟩
        go_wp2_with fail
        refine (HCy.out _ HBr.out).mono ?_
        rintro e w3 ⟨rfl, rfl⟩
        go_wp2
        go_ret2
        exact ⟨_, rfl, nil_own _ _, HBr.out⟩
      | true =>
        obtain rfl : true = r := hr
        rw [if_pos rfl] at hm
        have HW1 : Hid (∀ V, Below w.heap.size w V → Calls Tryd.prog 26 #[.slice a xs.length c, .int .i64 lit] V fun e w' => ∃ v, e = .returned v ∧ Hid (RowO w' w.heap.size (xs.filter fun y => !(y == lit)) v) ∧ Hid (Below w.heap.size w w')) := fun V hV => (without_any xs a c lit V (hA.below hV) (by omega)).mono fun e w' ⟨v, h1, h2, h3⟩ => ⟨v, h1, h2.base hV.size, ball hV h3⟩
        have HW2 : Hid (∀ V, Below w.heap.size w V → Calls Tryd.prog 26 #[.slice b ys.length d, .int .i64 (negM lit)] V fun e w' => ∃ v, e = .returned v ∧ Hid (RowO w' w.heap.size (ys.filter fun y => !(y == negM lit)) v) ∧ Hid (Below w.heap.size w w') ∧ Hid (Below V.heap.size V w')) := fun V hV => (without_any ys b d (negM lit) V (hB.below hV) (by omega)).mono fun e w' ⟨v, h1, h2, h3⟩ => ⟨v, h1, h2.base hV.size, ball hV h3, h3⟩
        have hokx : ∀ z ∈ xs.filter (fun y => !(y == lit)), I64 z := fun z hz => hA.ok z ((List.mem_filter.1 hz).1)
        have hoky : ∀ z ∈ ys.filter (fun y => !(y == negM lit)), I64 z := fun z hz => hB.ok z ((List.mem_filter.1 hz).1)
        have hlx : (xs.filter (fun y => !(y == lit))).length ≤ 2000 := Nat.le_trans (List.length_filter_le _ _) hxm
        have hly : (ys.filter (fun y => !(y == negM lit))).length ≤ 2000 := Nat.le_trans (List.length_filter_le _ _) hym
        unfold resL at hm
        obtain ⟨xs1, hx1⟩ : ∃ z, xs.filter (fun y => !(y == lit)) = z := ⟨_, rfl⟩
        obtain ⟨ys1, hy1⟩ : ∃ z, ys.filter (fun y => !(y == negM lit)) = z := ⟨_, rfl⟩
        rw [hx1] at hokx hlx hm HW1
        rw [hy1] at hoky hly hm HW2
        have HJ : Hid (∀ (V : World) (a1 b1 : Option Addr) (c1 d1 : Nat), Below w.heap.size w V → IntsR V xs1 a1 c1 → IntsR V ys1 b1 d1 → Calls Tryd.prog 17 #[.slice (some ⟨V.heap.size, 0, none⟩) 2 2] (V.alloc (.cells #[.slice a1 xs1.length c1, .slice b1 ys1.length d1] 22)) fun e w' => ∃ v, e = .returned v ∧ Hid (RowO w' w.heap.size m v) ∧ Hid (Below w.heap.size w w')) := fun V a1 b1 c1 d1 hV h1 h2 => by
          have hb := (Below.refl _ V).alloc (Nat.le_refl _) (.cells #[.slice a1 xs1.length c1, .slice b1 ys1.length d1] 22)
          have hf : flatM [⟨xs1, a1, c1⟩, ⟨ys1, b1, d1⟩] = xs1 ++ ys1 := by simp [flatM]
          refine (join_any [⟨xs1, a1, c1⟩, ⟨ys1, b1, d1⟩] _ 2 _ (rows_two h1 h2) (by rw [hf, List.length_append]; omega)).mono fun e w' ⟨v, k1, k2, k3⟩ => ⟨v, k1, ?_, ball (ball hV hb) k3⟩
          rw [hf, hm] at k2
          exact k2.base (Nat.le_trans hV.size hb.size)
        have HOx := Lib.hid hokx
        have HOy := Lib.hid hoky
        clear hp hq hA hB h0 hokx hoky hlx hly hm hx1 hy1
        go_enter Tryd.func12, Tryd.ntmps12
        go_wp2_with fail
        refine (HN.out _).mono ?_
        rintro e w1 ⟨rfl, rfl⟩
        go_wp2_with fail
        refine (HCx.out _ HBr.out).mono ?_
        rintro e w2 ⟨rfl, rfl⟩
        go_wp2_with fail
        refine (HCy.out _ HBr.out).mono ?_
        rintro e w3 ⟨rfl, rfl⟩
        go_wp2_with fail
        refine (HW1.out _ HBr.out).mono ?_
        rintro e w4 ⟨v4, rfl, HR4, HB4⟩
        go_wp2_with fail
        refine (HW2.out _ HB4.out).mono ?_
        rintro e w5 ⟨v5, rfl, HR5, HB5, HV5⟩
        obtain ⟨a1, c1, rfl, hi1⟩ := (HR4.out.keep HV5.out).ints HOx.out
        obtain ⟨b1, d1, rfl, hi2⟩ := HR5.out.ints HOy.out
        have HI := Lib.hid (And.intro hi1 hi2)
        clear hi1 hi2
        go_wp2_with fail
        refine (HJ.out w5 a1 b1 c1 d1 HB5.out HI.out.1 HI.out.2).mono ?_
        rintro e w6 ⟨v6, rfl, HR6, HB6⟩
        go_wp2
        go_ret2
        exact ⟨_, rfl, HR6.out, HB6.out⟩
theorem Same_any (xs ys : List Int) (a b : Option Addr) (c d : Nat) (r : Bool) (w : World) (hA : IntsR w xs a c) (hB : IntsR w ys b d) (hr : decide (xs = ys) = r) :
    Calls Tryd.prog 11 #[.slice a xs.length c, .slice b ys.length d] w fun e w' => e = .returned (.bool r) ∧ Below w.heap.size w w' := by
  have HE : Hid (Calls Tryd.prog 23 #[.slice a xs.length c, .slice b ys.length d] w fun e w' => e = .returned (.bool r) ∧ Below w.heap.size w w') := by
    show Calls _ _ _ _ _
    by_cases hl : xs.length = ys.length
    · by_cases h0 : xs.length = 0
      · have hx : xs = [] := List.eq_nil_of_length_eq_zero h0
        have hy : ys = [] := List.eq_nil_of_length_eq_zero (by omega)
        subst hx hy
        refine (Tryd.slices_Equal_int_empty a b c 0 d w (by omega)).mono ?_
        rintro e w' ⟨rfl, rfl⟩
        exact ⟨ret_bool (by rw [← hr]; rfl), Below.refl _ _⟩
      · obtain ⟨g, o, rfl, hg, hc⟩ := hA.tat (by simp; omega)
        obtain ⟨g', o', rfl, hg', hc'⟩ := hB.tat (by simp; omega)
        refine (Tryd.slices_Equal_int g o xs.length c g' o' ys.length d xs ys w (Nat.le_refl _) (Nat.le_refl _) (len_fits hA.le hA.cap) (len_fits hB.le hB.cap) (getD_cell hc) (getD_cell hc')).mono ?_
        rintro e w' ⟨rfl, q, rfl⟩
        rw [List.take_length, List.take_length]
        refine ⟨ret_bool ?_, below_drewN (Below.refl _ _)⟩
        rw [← hr]
        by_cases h : xs = ys
        · rw [decide_eq_true h, h]; exact beq_self_eq_true _
        · rw [decide_eq_false h]; exact beq_eq_false_iff_ne.2 h
    · refine (Tryd.slices_Equal_int_lens a b xs.length c ys.length d w hl).mono ?_
      rintro e w' ⟨rfl, rfl⟩
      exact ⟨ret_bool (by rw [← hr]; exact (decide_eq_false (fun e => hl (by rw [e]))).symm), Below.refl _ _⟩
  clear hA hB hr
  go_enter Tryd.func11, Tryd.ntmps11
  go_wp2_with fail
  refine HE.out.mono ?_
  rintro e w1 ⟨rfl, hb1⟩
  go_wp2
  go_ret
  exact ⟨rfl, hb1⟩
end Go.Proofs.YtbjplhbflbabjaaDoor.Tm
