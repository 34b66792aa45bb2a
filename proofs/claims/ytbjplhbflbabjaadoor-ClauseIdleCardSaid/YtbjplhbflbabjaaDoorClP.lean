/- ClauseIdle: its walk. -/
import Derived.Test.YtbjplhbflbabjaaDoorClN
namespace Go.Proofs.YtbjplhbflbabjaaDoor.Tm
open Go.RowKit Go.Sort Go.Lib Go.Shelf
set_option linter.unusedVariables false
/-- Two rows of one's own that a law fills alike. -/
structure Fill2 (w V : World) (b : Nat) (vs us : List Int) : Prop where
  one : FillR w V b vs
  two : FillR w V (b + 1) us
theorem FillR.other {w V : World} {b : Nat} {vs : List Int} (h : FillR w V b vs) {g : Nat} (hb : w.heap.size ≤ g) (hg : g ≠ b) (i : Nat) (x : Value) : FillR w (V.setCell ⟨g, i, none⟩ x) b vs :=
  ⟨(Below.heap_setCell _ _ _ _ (Ne.symm hg)).trans h.row, h.bel.setCell hb _⟩
theorem Fill2.both {w V : World} {b : Nat} {vs us : List Int} (h : Fill2 w V b vs us) (hb : w.heap.size ≤ b) (i : Nat) (x : Int) :
    Fill2 w ((V.setCell ⟨b, i, none⟩ (.int .i8 x)).setCell ⟨b + 1, i, none⟩ (.int .i8 x)) b (vs.set i x) (us.set i x) :=
  ⟨(h.one.set hb i x).other (by omega) (by omega) i _, (h.two.other hb (by omega) i _).set (by omega) i x⟩
theorem agL_snoc : ∀ (l vs : List Int) (x : Int), agL vs (l ++ [x]) = (agL vs l).set (x / 2).toNat (lvM x)
  | [], _, _ => rfl
  | y :: r, vs, x => by
    show agL (vs.set (y / 2).toNat (lvM y)) (r ++ [x]) = _
    rw [agL_snoc r]
    rfl
set_option maxRecDepth 100000 in
set_option maxHeartbeats 4000000 in
theorem ClauseIdle_c (w : World) (xs : List Int) (a : Option Addr) (c : Nat) (hA : IntsR w xs a c) (bs : List Bool) (ba : Option Addr) (bc : Nat) (hbs : BoolsR w bs ba bc) (hG : GC w) :
    Calls Tryd.prog 5 #[.slice a xs.length c, .slice ba bs.length bc] w fun e w' => e = .returned (.bool true) ∧ Below w.heap.size w w' := by
  have HWk : Hid (∀ V, Below w.heap.size w V → Calls Tryd.prog 7 #[] V fun e w' => e = .returned (.bool true) ∧ Below w.heap.size w w') := fun V hV => (wakes_any V (hG.below hV)).mono fun e w' ⟨h1, h2⟩ => ⟨h1, ball hV h2⟩
  have HBr : Hid (Below w.heap.size w w) := Below.refl _ _
  have c1 : xs.length ≤ 9223372036854775807 := len_fits hA.le hA.cap
  have c3 : bs.length ≤ 9223372036854775807 := hbs.len
  by_cases h1 : 60 < xs.length
  · have d1 : decide (60 < (xs.length : Int)) = true := decide_eq_true (by omega)
    clear hA hG hbs h1
    go_enter Tryd.func5, Tryd.ntmps5
    go_wp2_with fail
    refine (HWk.out _ HBr.out).mono ?_
    rintro e w1 ⟨rfl, hb1⟩
    go_wp2
    go_ret
    exact ⟨rfl, hb1⟩
  have d1 : decide (60 < (xs.length : Int)) = false := decide_eq_false (by omega)
  have HX : Hid (∀ V, Below w.heap.size w V → IntsR V xs a c) := fun V hV => hA.below hV
  have HBo : Hid (∀ V, Below w.heap.size w V → BoolsR V bs ba bc) := fun V hV => hbs.below hV
  have HGC : Hid (∀ V, Below w.heap.size w V → GC V) := fun V hV => hG.below hV
  have HOk := Lib.hid hA.ok
  have hx6 : xs.length ≤ 60 := by omega
  have hxc : xs.length ≤ c := hA.le
  have hmk := make_val 60 60 rfl (by omega)
  have HI0 : Hid (Fill2 w ((w.alloc (.cells (valRow (List.replicate 60 0)) 30)).alloc (.cells (valRow (List.replicate 60 0)) 30)) w.heap.size (vK bs 0) (vK bs 0)) := by
    have hb1 := (Below.refl _ w).alloc (Nat.le_refl _) (.cells (valRow (List.replicate 60 0)) 30)
    have hb2 := hb1.alloc hb1.size (.cells (valRow (List.replicate 60 0)) 30)
    have hn := heap_alloc_new (w.alloc (.cells (valRow (List.replicate 60 0)) 30)) (.cells (valRow (List.replicate 60 0)) 30)
    rw [World.size_alloc] at hn
    exact ⟨⟨by rw [vK_zero]; exact (Below.heap_alloc _ _ _ (by simp)).trans (heap_alloc_new w _), hb2⟩, ⟨by rw [vK_zero]; exact hn, hb2⟩⟩
  clear hA hG hbs h1
  go_enter Tryd.func5, Tryd.ntmps5
  go_wp2
  go_loopw [22] (fun i wr => ∃ k : Nat, k ≤ 60 ∧ i = .int .i64 k ∧ Hid (Fill2 w wr w.heap.size (vK bs k) (vK bs k))) (fun i _ => 60 - (intOf i).toNat)
  case atStart => exact ⟨0, Nat.zero_le _, rfl, HI0⟩
  case round =>
    clear HI0
    rename World => U
    obtain ⟨k, hk, rfl, HF⟩ := hrel
    by_cases hlt : k < 60
    · obtain ⟨⟨u, q0⟩, qf, qz⟩ := HF.out.one.cells (i := k) (by rw [vK_len bs hk]; exact hlt)
      obtain ⟨⟨u', r0⟩, rf, rz⟩ := HF.out.two.cells (i := k) (by rw [vK_len bs hk]; exact hlt)
      have hk6 : (k : Int) < 60 := by omega
      by_cases hkb : k < bs.length
      · obtain ⟨v, hv⟩ : ∃ v, bs[k]? = some v := ⟨_, List.getElem?_eq_getElem hkb⟩
        have hkb2 : (k : Int) < (bs.length : Int) := by omega
        have db : decide ((k : Int) < (bs.length : Int)) = true := decide_eq_true hkb2
        obtain ⟨g, o, rfl, hg, s0⟩ := (HBo.out _ HF.out.one.bel).cell hv
        obtain ⟨g1, o1, e1, hg1, _⟩ := (HBo.out _ HBr.out).cell hv
        cases e1
        have hgb : ¬ g = w.heap.size := by omega
        have hgb1 : ¬ g = w.heap.size + 1 := by omega
        have hbc := (HBo.out _ HBr.out).le
        cases v with
        | true =>
          have HN : Hid (Fill2 w ((((U.setCell ⟨w.heap.size, k, none⟩ (.int .i8 2)).setCell ⟨w.heap.size + 1, k, none⟩ (.int .i8 2)).setCell ⟨w.heap.size, k, none⟩ (.int .i8 1)).setCell ⟨w.heap.size + 1, k, none⟩ (.int .i8 1)) w.heap.size (vK bs (k + 1)) (vK bs (k + 1))) := by
            have h := (HF.out.both (Nat.le_refl _) k 2).both (Nat.le_refl _) k 1
            rw [← vb_true hv, vK_step2 bs hlt] at h
            rw [vb_true hv] at h
            exact h
          have HM : Hid (Fill2 w ((U.setCell ⟨w.heap.size, k, none⟩ (.int .i8 2)).setCell ⟨w.heap.size + 1, k, none⟩ (.int .i8 2)) w.heap.size ((vK bs k).set k 2) ((vK bs k).set k 2)) := HF.out.both (Nat.le_refl _) k 2
          clear hv
          go_wp2
          go_roundw
          case rel => exact ⟨k + 1, by omega, by go_num, HN⟩
          case measure => simp [intOf]; omega
        | false =>
          have HN : Hid (Fill2 w ((U.setCell ⟨w.heap.size, k, none⟩ (.int .i8 2)).setCell ⟨w.heap.size + 1, k, none⟩ (.int .i8 2)) w.heap.size (vK bs (k + 1)) (vK bs (k + 1))) := by
            have h := HF.out.both (Nat.le_refl _) k 2
            rw [← vb_false hv, vK_step bs hlt] at h
            rw [vb_false hv] at h
            exact h
          clear hv
          go_wp2
          go_roundw
          case rel => exact ⟨k + 1, by omega, by go_num, HN⟩
          case measure => simp [intOf]; omega
      · have db : decide ((k : Int) < (bs.length : Int)) = false := decide_eq_false (by omega)
        have HN : Hid (Fill2 w ((U.setCell ⟨w.heap.size, k, none⟩ (.int .i8 2)).setCell ⟨w.heap.size + 1, k, none⟩ (.int .i8 2)) w.heap.size (vK bs (k + 1)) (vK bs (k + 1))) := by
          have h := HF.out.both (Nat.le_refl _) k 2
          have e := vb_none (bs := bs) (k := k) (by omega)
          rw [← e, vK_step bs hlt] at h
          rw [e] at h
          exact h
        go_wp2
        go_roundw
        case rel => exact ⟨k + 1, by omega, by go_num, HN⟩
        case measure => simp [intOf]; omega
    · obtain rfl : k = 60 := by omega
      have HF6 : Hid (Fill2 w U w.heap.size (valsM bs) (agL (valsM bs) (xs.take 0))) := by
        have h := HF.out
        rw [vK_all] at h
        exact h
      clear HF
      go_wp2
      go_loopw [50] (fun i wr => ∃ j : Nat, j ≤ xs.length ∧ i = .int .i64 j ∧ Hid (∀ i x, i < j → xs[i]? = some x → 0 ≤ x ∧ x < 120) ∧ Hid (Fill2 w wr w.heap.size (valsM bs) (agL (valsM bs) (xs.take j)))) (fun i _ => xs.length - (intOf i).toNat)
      case atStart => exact ⟨0, Nat.zero_le _, rfl, (fun i x h _ => absurd h (by omega)), HF6⟩
      case round =>
        clear HF6
        obtain ⟨j, hj, rfl, HQ, HF⟩ := hrel
        by_cases hlt : j < xs.length
        · obtain ⟨x, hx⟩ : ∃ x, xs[j]? = some x := ⟨_, List.getElem?_eq_getElem hlt⟩
          obtain ⟨g, o, rfl, hg, q0⟩ := (HX.out _ HF.out.one.bel).cell hx
          obtain ⟨g1, o1, e1, hg1, _⟩ := (HX.out _ HBr.out).cell hx
          cases e1
          by_cases h0 : x < 0
          · have d0 : decide (x < 0) = true := decide_eq_true h0
            have HB1 := Lib.hid HF.out.one.bel
            clear hx h0
            go_wp2_with fail
            refine (HWk.out _ HB1.out).mono ?_
            rintro e w6 ⟨rfl, hb6⟩
            go_wp2
            go_ret
            exact ⟨rfl, hb6⟩
          · have d0 : decide (x < 0) = false := decide_eq_false h0
            by_cases h120 : 120 ≤ x
            · have d3 : decide (120 ≤ x) = true := decide_eq_true h120
              have HB1 := Lib.hid HF.out.one.bel
              clear hx h0 h120
              go_wp2_with fail
              refine (HWk.out _ HB1.out).mono ?_
              rintro e w6 ⟨rfl, hb6⟩
              go_wp2
              go_ret
              exact ⟨rfl, hb6⟩
            · have d3 : decide (120 ≤ x) = false := decide_eq_false h120
              have HQ2 : Hid (∀ i x, i < j + 1 → xs[i]? = some x → 0 ≤ x ∧ x < 120) := fun i y hi hy => by
                by_cases e : i = j
                · subst e
                  rw [hx] at hy
                  cases hy
                  exact ⟨by omega, by omega⟩
                · exact HQ.out i y (by omega) hy
              obtain ⟨n, hn⟩ : ∃ n : Nat, x / 2 = (n : Int) := ⟨(x / 2).toNat, by omega⟩
              have hn6 : n < 60 := by omega
              have hni : (n : Int) < 60 := by omega
              have hn0 : (0 : Int) ≤ (n : Int) := by omega
              obtain ⟨⟨u', r0⟩, rf, rz⟩ := HF.out.two.cells (i := n) (by rw [agL_len, valsM_len]; exact hn6)
              have hst : ∀ v, lvM x = v → (agL (valsM bs) (xs.take j)).set n v = agL (valsM bs) (xs.take (j + 1)) := fun v hv => by
                rw [take_step hx, agL_snoc, hn, hv, Int.toNat_natCast]
              have hand := i64_and1 x (HOk.out x (List.mem_of_getElem? hx))
              by_cases hp : x % 2 = 1
              · have hl1 : lvM x = 1 := by unfold lvM; rw [if_pos hp]
                have HN : Hid (Fill2 w ((wr.setCell ⟨w.heap.size + 1, n, none⟩ (.int .i8 2)).setCell ⟨w.heap.size + 1, n, none⟩ (.int .i8 1)) w.heap.size (valsM bs) (agL (valsM bs) (xs.take (j + 1)))) := by
                  refine ⟨(HF.out.one.other (by omega) (by omega) n _).other (by omega) (by omega) n _, ?_⟩
                  have h := (HF.out.two.set (by omega) n 2).set (by omega) n 1
                  rw [List.set_set, hst 1 hl1] at h
                  exact h
                rw [hp] at hand
                have hgx : ¬ g = w.heap.size + 1 := by omega
                clear hx h0 h120 HQ hst hp hl1
                go_wp2
                go_roundw
                case rel => exact ⟨j + 1, by omega, by go_num, HQ2, HN⟩
                case measure => simp [intOf]; omega
              · have hl1 : lvM x = 2 := by unfold lvM; rw [if_neg hp]
                have HN : Hid (Fill2 w (wr.setCell ⟨w.heap.size + 1, n, none⟩ (.int .i8 2)) w.heap.size (valsM bs) (agL (valsM bs) (xs.take (j + 1)))) := by
                  refine ⟨HF.out.one.other (by omega) (by omega) n _, ?_⟩
                  have h := HF.out.two.set (by omega) n 2
                  rw [hst 2 hl1] at h
                  exact h
                rw [show x % 2 = 0 by omega] at hand
                clear hx h0 h120 HQ hst hp hl1
                go_wp2
                go_roundw
                case rel => exact ⟨j + 1, by omega, by go_num, HQ2, HN⟩
                case measure => simp [intOf]; omega
        · obtain rfl : j = xs.length := by omega
          have hAll : ∀ x ∈ xs, 0 ≤ x ∧ x < 120 := fun x hx => by
            obtain ⟨i, hi⟩ := List.getElem?_of_mem hx
            exact HQ.out i x (List.getElem?_eq_some_iff.1 hi).1 hi
          have hF := HF.out
          rw [List.take_length] at hF
          have hAll2 : ∀ x ∈ xs, 0 ≤ x ∧ x < 2 * ((valsM bs).length : Int) := fun x hx => by rw [valsM_len]; have := hAll x hx; omega
          have hB := hF.one.bel
          have hV1 := valsR hF.one.row (by rw [valsM_len]; exact Nat.le_refl _) (valsM_ok bs)
          have hV2 := valsR hF.two.row (by rw [agL_len, valsM_len]; exact Nat.le_refl _) (agL_ok xs _ (valsM_ok bs))
          obtain ⟨⟨s, y⟩, hs⟩ : ∃ p, stM (valsM bs) xs = p := ⟨_, rfl⟩
          obtain ⟨⟨t, z⟩, ht⟩ : ∃ p, stM (agL (valsM bs) xs) xs = p := ⟨_, rfl⟩
          have HS1 : Hid (∀ V, Below wr.heap.size wr V → Calls Tryd.prog 14 #[.slice a xs.length c, .slice (some ⟨w.heap.size, 0, none⟩) 60 60] V fun e w' => e = .returned (.tuple #[.int .i8 s, .int .i64 y]) ∧ Hid (Below wr.heap.size wr w')) := fun V hV => by
            have h := (State_any xs a c (valsM bs) (some ⟨w.heap.size, 0, none⟩) (valsM bs).length (s, y) V (HGC.out _ (ball hB hV)) (HX.out _ (ball hB hV)) (fun x hx => (hAll x hx).1) (hV1.below hV) hs).mono fun e w' ⟨k1, k2⟩ => And.intro k1 (show Hid (Below wr.heap.size wr w') from ball hV k2)
            rw [valsM_len] at h
            exact h
          have HS2 : Hid (∀ V, Below wr.heap.size wr V → Calls Tryd.prog 14 #[.slice a xs.length c, .slice (some ⟨w.heap.size + 1, 0, none⟩) 60 60] V fun e w' => e = .returned (.tuple #[.int .i8 t, .int .i64 z]) ∧ Hid (Below wr.heap.size wr w')) := fun V hV => by
            have h := (State_any xs a c (agL (valsM bs) xs) (some ⟨w.heap.size + 1, 0, none⟩) (agL (valsM bs) xs).length (t, z) V (HGC.out _ (ball hB hV)) (HX.out _ (ball hB hV)) (fun x hx => (hAll x hx).1) (hV2.below hV) ht).mono fun e w' ⟨k1, k2⟩ => And.intro k1 (show Hid (Below wr.heap.size wr w') from ball hV k2)
            rw [agL_len, valsM_len] at h
            exact h
          obtain ⟨q, hq⟩ : ∃ q, idleM xs = q := ⟨_, rfl⟩
          have HId : Hid (∀ V, Below wr.heap.size wr V → Calls Tryd.prog 15 #[.slice a xs.length c] V fun e w' => e = .returned (.bool q) ∧ Hid (Below wr.heap.size wr w')) := fun V hV => (Idle_any xs a c q V (HX.out _ (ball hB hV)) (by omega) hq).mono fun e w' ⟨k1, k2⟩ => ⟨k1, ball hV k2⟩
          have HB1 := Lib.hid hB
          have HBu : Hid (Below wr.heap.size wr wr) := Below.refl _ _
          cases q with
          | true =>
            have hs0 : s = 0 := by have h := idle_true (valsM_ok bs) hAll2 hq; rw [hs] at h; exact h
            subst hs0
            clear hAll hF hAll2 hB hV1 hV2 hs ht hq HQ HF
            go_wp2_with fail
            refine (HS1.out _ HBu.out).mono ?_
            rintro e u1 ⟨rfl, HB2⟩
            go_wp2_with fail
            refine (HS2.out _ HB2.out).mono ?_
            rintro e u2 ⟨rfl, HB3⟩
            go_wp2_with fail
            refine (HId.out _ HB3.out).mono ?_
            rintro e u3 ⟨rfl, HB4⟩
            go_wp2_with fail
            refine (HWk.out _ (ball HB1.out HB4.out)).mono ?_
            rintro e u4 ⟨rfl, hb5⟩
            go_wp2
            go_ret
            exact ⟨rfl, hb5⟩
          | false =>
            have ht1 : t = 1 := by have h := idle_not (valsM_ok bs) hAll2 hq; rw [ht] at h; exact h
            subst ht1
            clear hAll hF hAll2 hB hV1 hV2 hs ht hq HQ HF
            go_wp2_with fail
            refine (HS1.out _ HBu.out).mono ?_
            rintro e u1 ⟨rfl, HB2⟩
            go_wp2_with fail
            refine (HS2.out _ HB2.out).mono ?_
            rintro e u2 ⟨rfl, HB3⟩
            go_wp2_with fail
            refine (HId.out _ HB3.out).mono ?_
            rintro e u3 ⟨rfl, HB4⟩
            go_wp2_with fail
            refine (HWk.out _ (ball HB1.out HB4.out)).mono ?_
            rintro e u4 ⟨rfl, hb5⟩
            go_wp2
            go_ret
            exact ⟨rfl, hb5⟩
end Go.Proofs.YtbjplhbflbabjaaDoor.Tm
