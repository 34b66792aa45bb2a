/- ClauseResolves: its walk. -/
import Derived.Test.YtbjplhbflbabjaaDoorClN
namespace Go.Proofs.YtbjplhbflbabjaaDoor.Tm
open Go.RowKit Go.Sort Go.Lib Go.Shelf
set_option linter.unusedVariables false
set_option maxRecDepth 100000 in
set_option maxHeartbeats 4000000 in
theorem ClauseResolves_c (w : World) (xs : List Int) (a : Option Addr) (c : Nat) (hA : IntsR w xs a c) (ys : List Int) (b : Option Addr) (d : Nat) (hB : IntsR w ys b d) (lit : Int) (hl : I64 lit) (bs : List Bool) (ba : Option Addr) (bc : Nat) (hbs : BoolsR w bs ba bc) (hG : GC w) :
    Calls Tryd.prog 4 #[.slice a xs.length c, .slice b ys.length d, .int .i64 lit, .slice ba bs.length bc] w fun e w' => e = .returned (.bool true) ∧ Below w.heap.size w w' := by
  have HWk : Hid (∀ V, Below w.heap.size w V → Calls Tryd.prog 7 #[] V fun e w' => e = .returned (.bool true) ∧ Below w.heap.size w w') := fun V hV => (wakes_any V (hG.below hV)).mono fun e w' ⟨h1, h2⟩ => ⟨h1, ball hV h2⟩
  have HBr : Hid (Below w.heap.size w w) := Below.refl _ _
  have c1 : xs.length ≤ 9223372036854775807 := len_fits hA.le hA.cap
  have c2 : ys.length ≤ 9223372036854775807 := len_fits hB.le hB.cap
  have c3 : bs.length ≤ 9223372036854775807 := hbs.len
  by_cases h1 : 60 < xs.length
  · have d1 : decide (60 < (xs.length : Int)) = true := decide_eq_true (by omega)
    clear hA hB hG hbs h1
    go_enter Tryd.func4, Tryd.ntmps4
    go_wp2_with fail
    refine (HWk.out _ HBr.out).mono ?_
    rintro e w1 ⟨rfl, hb1⟩
    go_wp2
    go_ret
    exact ⟨rfl, hb1⟩
  have d1 : decide (60 < (xs.length : Int)) = false := decide_eq_false (by omega)
  by_cases h2 : 60 < ys.length
  · have d2 : decide (60 < (ys.length : Int)) = true := decide_eq_true (by omega)
    clear hA hB hG hbs h1 h2
    go_enter Tryd.func4, Tryd.ntmps4
    go_wp2_with fail
    refine (HWk.out _ HBr.out).mono ?_
    rintro e w1 ⟨rfl, hb1⟩
    go_wp2
    go_ret
    exact ⟨rfl, hb1⟩
  have d2 : decide (60 < (ys.length : Int)) = false := decide_eq_false (by omega)
  obtain ⟨r, hr⟩ : ∃ r, resB xs ys lit = r := ⟨_, rfl⟩
  obtain ⟨m, hm⟩ : ∃ m, resM xs ys lit = m := ⟨_, rfl⟩
  have HR1 : Hid (∀ V, Below w.heap.size w V → Calls Tryd.prog 12 #[.slice a xs.length c, .slice b ys.length d, .int .i64 lit] V fun e w' => ∃ a' c', e = .returned (.tuple #[.slice a' m.length c', .bool r]) ∧ Hid (IntsR w' m a' c') ∧ Hid (Below w.heap.size w w') ∧ Hid (Below V.heap.size V w')) := fun V hV => Resolve_at xs a c ys b d lit r m w V hV hA hB hl (by omega) (by omega) hr hm
  obtain ⟨zs, hz⟩ : ∃ zs, xs ++ ys = zs := ⟨_, rfl⟩
  have hzl : zs.length ≤ 120 := by rw [← hz, List.length_append]; omega
  have HX : Hid (∀ V, Below w.heap.size w V → IntsR V xs a c ∧ IntsR V ys b d) := fun V hV => ⟨hA.below hV, hB.below hV⟩
  have HBo : Hid (∀ V, Below w.heap.size w V → BoolsR V bs ba bc) := fun V hV => hbs.below hV
  have HGC : Hid (∀ V, Below w.heap.size w V → GC V) := fun V hV => hG.below hV
  have HZ := Lib.hid hz
  have HOk : Hid ((∀ x ∈ xs, I64 x) ∧ ∀ x ∈ zs, I64 x) := ⟨hA.ok, fun x hx => by rw [← hz] at hx; exact (List.mem_append.1 hx).elim (hA.ok x) (hB.ok x)⟩
  have HRM := Lib.hid (And.intro hr hm)
  have hx6 : xs.length ≤ 60 := by omega
  have hy6 : ys.length ≤ 60 := by omega
  have HL := Lib.hid hl
  have hmk := make_val 60 60 rfl (by omega)
  clear hA hB hG hbs h1 h2 hr hm hz hl
  go_enter Tryd.func4, Tryd.ntmps4
  go_wp2
  go_loopw [27] (fun i wr => ∃ k : Nat, k ≤ 60 ∧ i = .int .i64 k ∧ Hid (FillR w wr w.heap.size (vK bs k))) (fun i _ => 60 - (intOf i).toNat)
  case atStart => exact ⟨0, Nat.zero_le _, rfl, ⟨by rw [vK_zero]; exact heap_alloc_new w _, (Below.refl _ w).alloc (Nat.le_refl _) _⟩⟩
  case round =>
    rename World => U
    obtain ⟨k, hk, rfl, HF⟩ := hrel
    by_cases hlt : k < 60
    · obtain ⟨⟨u, q0⟩, qf, qz⟩ := HF.out.cells (i := k) (by rw [vK_len bs hk]; exact hlt)
      have hk6 : (k : Int) < 60 := by omega
      by_cases hkb : k < bs.length
      · obtain ⟨v, hv⟩ : ∃ v, bs[k]? = some v := ⟨_, List.getElem?_eq_getElem hkb⟩
        have hkb2 : (k : Int) < (bs.length : Int) := by omega
        have db : decide ((k : Int) < (bs.length : Int)) = true := decide_eq_true hkb2
        obtain ⟨g, o, rfl, hg, r0⟩ := (HBo.out _ HF.out.bel).cell hv
        obtain ⟨g1, o1, e1, hg1, _⟩ := (HBo.out _ HBr.out).cell hv
        cases e1
        have hgb : ¬ g = w.heap.size := by omega
        have hbc := (HBo.out _ HBr.out).le
        cases v with
        | true =>
          have HN : Hid (FillR w ((U.setCell ⟨w.heap.size, k, none⟩ (.int .i8 2)).setCell ⟨w.heap.size, k, none⟩ (.int .i8 1)) w.heap.size (vK bs (k + 1))) := by
            have h := (HF.out.set (Nat.le_refl _) k 2).set (Nat.le_refl _) k 1
            rw [← vb_true hv, vK_step2 bs hlt] at h
            rw [vb_true hv] at h
            exact h
          have h2 := HF.out.set (Nat.le_refl _) k 2
          clear hv
          go_wp2
          go_roundw
          case rel => exact ⟨k + 1, by omega, by go_num, HN⟩
          case measure => simp [intOf]; omega
        | false =>
          have HN : Hid (FillR w (U.setCell ⟨w.heap.size, k, none⟩ (.int .i8 2)) w.heap.size (vK bs (k + 1))) := by
            have h := HF.out.set (Nat.le_refl _) k 2
            rw [← vb_false hv, vK_step bs hlt] at h
            rw [vb_false hv] at h
            exact h
          clear hv
          go_wp2
          go_roundw
          case rel => exact ⟨k + 1, by omega, by go_num, HN⟩
          case measure => simp [intOf]; omega
      · have db : decide ((k : Int) < (bs.length : Int)) = false := decide_eq_false (by omega)
        have HN : Hid (FillR w (U.setCell ⟨w.heap.size, k, none⟩ (.int .i8 2)) w.heap.size (vK bs (k + 1))) := by
          have h := HF.out.set (Nat.le_refl _) k 2
          have e := vb_none (bs := bs) (k := k) (by omega)
          rw [← e, vK_step bs hlt] at h
          rw [e] at h
          exact h
        go_wp2
        go_roundw
        case rel => exact ⟨k + 1, by omega, by go_num, HN⟩
        case measure => simp [intOf]; omega
    · obtain rfl : k = 60 := by omega
      have HF6 : Hid (FillR w U w.heap.size (valsM bs)) := by rw [← vK_all]; exact HF.out
      clear HF
      have hXa := HX.out _ (HF6.out.bel.alloc HF6.out.bel.size (.cells #[] 3))
      have HVa : Hid (Below U.heap.size U (U.alloc (.cells #[] 3))) := (Below.refl _ U).alloc (Nat.le_refl _) _
      obtain ⟨hXa1, _⟩ := hXa
      go_wp2_with (first
        | (at_builtin; refine wpList_app rfl _ _ rfl rfl U.heap.size _ [] xs a c (by rfl) (by rfl) (row_zero2 U) hXa1 (by simp) (by simp; omega) ?_; intro v4 w4 hr4 hg4; rw [List.nil_append] at hr4; have HB4 : Hid (Below U.heap.size U w4) := HVa.out.grown hg4 (by simp) (fun k e => by cases e; exact Nat.le_refl _); obtain ⟨a4, c4, rfl, hi4⟩ := hr4.ints HOk.out.1; have hY4 : IntsR w4 ys b d := (HX.out _ (ball HF6.out.bel HB4.out)).2; have hz4 : U.heap.size ≤ w4.heap.size := HB4.out.size)
        | (at_builtin; refine wpList_app rfl _ _ rfl rfl U.heap.size _ xs ys b d (by rfl) (by rfl) hr4 hY4 hz4 (by omega) ?_; intro v5 w5 hr5 hg5; have HB5 : Hid (Below U.heap.size U w5) := HB4.out.grown hg5 HB4.out.size (fun k e => (own_lt hr4 e).1); rw [HZ.out] at hr5; obtain ⟨a5, c5, rfl, hi5⟩ := hr5.ints HOk.out.2; have HI5 := Lib.hid hi5; clear hr5 hg5 hi5 hr4 hY4 hz4 hg4 hi4))
      have hzc : zs.length ≤ c5 := HI5.out.le
      go_loopw [53] (fun i wr => ∃ k : Nat, k ≤ zs.length ∧ i = .int .i64 k ∧ Hid (∀ j x, j < k → zs[j]? = some x → 0 ≤ x ∧ x < 120) ∧ Hid (wr = w5)) (fun i _ => zs.length - (intOf i).toNat)
      case atStart => exact ⟨0, Nat.zero_le _, rfl, (fun j x h _ => absurd h (by omega)), rfl⟩
      case round =>
        obtain ⟨k, hk, rfl, HQ, HW⟩ := hrel
        have HIw : Hid (IntsR wr zs a5 c5) := by show IntsR _ _ _ _; rw [HW.out]; exact HI5.out
        have HBw : Hid (Below w.heap.size w wr) := by show Below _ _ _; rw [HW.out]; exact ball HF6.out.bel HB5.out
        by_cases hlt : k < zs.length
        · obtain ⟨x, hx⟩ : ∃ x, zs[k]? = some x := ⟨_, List.getElem?_eq_getElem hlt⟩
          obtain ⟨g, o, rfl, hg, q0⟩ := HIw.out.cell hx
          by_cases h0 : x < 0
          · have d0 : decide (x < 0) = true := decide_eq_true h0
            clear hx h0
            go_wp2_with fail
            refine (HWk.out _ HBw.out).mono ?_
            rintro e w6 ⟨rfl, hb6⟩
            go_wp2
            go_ret
            exact ⟨rfl, hb6⟩
          · have d0 : decide (x < 0) = false := decide_eq_false h0
            by_cases h120 : 120 ≤ x
            · have d3 : decide (120 ≤ x) = true := decide_eq_true h120
              clear hx h0 h120
              go_wp2_with fail
              refine (HWk.out _ HBw.out).mono ?_
              rintro e w6 ⟨rfl, hb6⟩
              go_wp2
              go_ret
              exact ⟨rfl, hb6⟩
            · have d3 : decide (120 ≤ x) = false := decide_eq_false h120
              have HQ2 : Hid (∀ j x, j < k + 1 → zs[j]? = some x → 0 ≤ x ∧ x < 120) := fun j y hj hy => by
                by_cases e : j = k
                · subst e
                  rw [hx] at hy
                  cases hy
                  exact ⟨by omega, by omega⟩
                · exact HQ.out j y (by omega) hy
              clear hx h0 h120 HQ
              go_wp2
              go_roundw
              case rel => exact ⟨k + 1, by omega, by go_num, HQ2, HW⟩
              case measure => simp [intOf]; omega
        · obtain rfl : k = zs.length := by omega
          have HAll : Hid ((∀ x ∈ xs, 0 ≤ x ∧ x < 120) ∧ ∀ x ∈ ys, 0 ≤ x ∧ x < 120) := by
            have h : ∀ x ∈ zs, 0 ≤ x ∧ x < 120 := fun x hx => by
              obtain ⟨j, hj⟩ := List.getElem?_of_mem hx
              exact HQ.out j x (List.getElem?_eq_some_iff.1 hj).1 hj
            rw [← HZ.out] at h
            exact ⟨fun x hx => h x (List.mem_append.2 (.inl hx)), fun x hx => h x (List.mem_append.2 (.inr hx))⟩
          have HFw : Hid (FillR w wr w.heap.size (valsM bs)) := by
            refine ⟨?_, HBw.out⟩
            rw [HW.out]
            exact (HB5.out.block _ (Array.getElem?_eq_some_iff.1 HF6.out.row).1).trans HF6.out.row
          clear HQ HIw
          go_wp2_with fail
          refine (HR1.out _ HBw.out).mono ?_
          rintro e u1 ⟨a1, e1, rfl, HI1, HB1, HV1⟩
          have HVal : Hid (ValR u1 (valsM bs) (some ⟨w.heap.size, 0, none⟩) 60) := by
            have h := valsR ((HV1.out.block _ (Array.getElem?_eq_some_iff.1 HFw.out.row).1).trans HFw.out.row) (by rw [valsM_len]; exact Nat.le_refl _) (valsM_ok bs)
            rw [valsM_len] at h
            exact h
          obtain ⟨hr, hm⟩ := HRM.out
          cases r with
          | false =>
            have hm0 : m = [] := by rw [← hm]; unfold resM; rw [hr]; rfl
            subst hm0
            clear hr hm
            go_wp2_with fail
            refine (HWk.out _ HB1.out).mono ?_
            rintro e u2 ⟨rfl, hb2⟩
            go_wp2
            go_ret
            exact ⟨rfl, hb2⟩
          | true =>
            have hmm : m = makeM (resL xs ys lit) := by rw [← hm]; unfold resM; rw [if_pos hr]
            have hlit : 0 ≤ lit ∧ lit < 120 := by
              unfold resB at hr
              rw [Bool.and_eq_true, Bool.and_eq_true] at hr
              exact HAll.out.1 lit (List.contains_iff_mem.1 hr.2.1)
            obtain ⟨p, hp⟩ : ∃ p, holdsM (valsM bs) [xs, ys] = p := ⟨_, rfl⟩
            have hph : p = true → holdsM (valsM bs) [m] = true := fun e => by
              rw [hmm]
              exact resolves (valsM_ok bs) hlit.1 (by rw [valsM_len]; omega) (fun x hx => (HAll.out.1 x hx).1) (fun x hx => (HAll.out.2 x hx).1) (by rw [hp, e])
            have hmem : ∀ x ∈ m, 0 ≤ x := fun x hx => by rw [hmm] at hx; exact (makeM_mem.1 hx).2
            have HH2 : Hid (∀ V, Below u1.heap.size u1 V → Calls Tryd.prog 13 #[.slice (some ⟨V.heap.size, 0, none⟩) 2 2, .slice (some ⟨w.heap.size, 0, none⟩) 60 60] (V.alloc (.cells #[.slice a xs.length c, .slice b ys.length d] 22)) fun e w' => e = .returned (.bool p) ∧ Hid (Below u1.heap.size u1 w')) := fun V hV => by
              have hb := (Below.refl _ V).alloc (Nat.le_refl _) (.cells #[.slice a xs.length c, .slice b ys.length d] 22)
              have hVw := ball HB1.out hV
              have h := (Holds_any [⟨xs, a, c⟩, ⟨ys, b, d⟩] _ 2 (valsM bs) (some ⟨w.heap.size, 0, none⟩) 60 p _ (HGC.out _ (ball hVw hb)) (rows_two (HX.out V hVw).1 (HX.out V hVw).2) (fun q hq x hx => ?_) (HVal.out.below (ball hV hb)) hp).mono fun e w' ⟨k1, k2⟩ => And.intro k1 (show Hid (Below u1.heap.size u1 w') from ball (ball hV hb) k2)
              · rw [valsM_len] at h
                exact h
              · simp only [List.mem_cons, List.not_mem_nil, or_false] at hq
                rcases hq with rfl | rfl
                · exact (HAll.out.1 x hx).1
                · exact (HAll.out.2 x hx).1
            have HH1 : Hid (p = true → ∀ V, Below u1.heap.size u1 V → Calls Tryd.prog 13 #[.slice (some ⟨V.heap.size, 0, none⟩) 1 1, .slice (some ⟨w.heap.size, 0, none⟩) 60 60] (V.alloc (.cells #[.slice a1 m.length e1] 22)) fun e w' => e = .returned (.bool true) ∧ Hid (Below u1.heap.size u1 w')) := fun hpt V hV => by
              have hb := (Below.refl _ V).alloc (Nat.le_refl _) (.cells #[.slice a1 m.length e1] 22)
              have hVw := ball HB1.out hV
              have h := (Holds_any [⟨m, a1, e1⟩] _ 1 (valsM bs) (some ⟨w.heap.size, 0, none⟩) 60 true _ (HGC.out _ (ball hVw hb)) (rows_one (HI1.out.below hV)) (fun q hq x hx => ?_) (HVal.out.below (ball hV hb)) (hph hpt)).mono fun e w' ⟨k1, k2⟩ => And.intro k1 (show Hid (Below u1.heap.size u1 w') from ball (ball hV hb) k2)
              · rw [valsM_len] at h
                exact h
              · rw [List.mem_singleton.1 hq] at hx
                exact hmem x hx
            have HIs : Hid (∀ V, Below u1.heap.size u1 V → Calls Tryd.prog 10 #[.slice a1 m.length e1] V fun e w' => e = .returned (.bool true) ∧ Hid (Below u1.heap.size u1 w')) := fun V hV => (Isc_any m a1 e1 true V (HI1.out.below hV) (by rw [hmm]; exact isM_make _)).mono fun e w' ⟨k1, k2⟩ => ⟨k1, ball hV k2⟩
            have HBu : Hid (Below u1.heap.size u1 u1) := Below.refl _ _
            clear hr hm hmm hlit hp hph hmem
            cases p with
            | false =>
              go_wp2_with fail
              refine (HH2.out _ HBu.out).mono ?_
              rintro e u2 ⟨rfl, HB2⟩
              go_wp2_with fail
              refine (HIs.out _ HB2.out).mono ?_
              rintro e u3 ⟨rfl, HB3⟩
              go_wp2_with fail
              refine (HWk.out _ (ball HB1.out HB3.out)).mono ?_
              rintro e u4 ⟨rfl, hb4⟩
              go_wp2
              go_ret
              exact ⟨rfl, hb4⟩
            | true =>
              go_wp2_with fail
              refine (HH2.out _ HBu.out).mono ?_
              rintro e u2 ⟨rfl, HB2⟩
              go_wp2_with fail
              refine (HH1.out (by first | trivial | rfl) _ HB2.out).mono ?_
              rintro e u3 ⟨rfl, HB3⟩
              go_wp2_with fail
              refine (HIs.out _ HB3.out).mono ?_
              rintro e u4 ⟨rfl, HB4⟩
              go_wp2_with fail
              refine (HWk.out _ (ball HB1.out HB4.out)).mono ?_
              rintro e u5 ⟨rfl, hb5⟩
              go_wp2
              go_ret
              exact ⟨rfl, hb5⟩
end Go.Proofs.YtbjplhbflbabjaaDoor.Tm
