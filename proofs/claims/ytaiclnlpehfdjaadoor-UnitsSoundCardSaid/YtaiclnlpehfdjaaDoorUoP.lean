/- UnitsSound. -/
import Derived.Test.YtaiclnlpehfdjaaDoorUoO
import Derived.Test.YtaiclnlpehfdjaaDoorTmOpen
namespace Go.Proofs.YtaiclnlpehfdjaaDoor.Tm
open Go.RowKit Go.Lib
set_option linter.unusedVariables false
theorem I8sR.below {w w' : World} {vs : List Int} {a : Option Addr} {c : Nat} (h : I8sR w vs a c) (hb : Below w.heap.size w w') : I8sR w' vs a c := ⟨h.le, h.cap, (h.tat.below hb).more hb.size⟩
theorem I8sR.cell {w : World} {vs : List Int} {a : Option Addr} {c k : Nat} {x : Int} (h : I8sR w vs a c) (hk : vs[k]? = some x) : ∃ g o : Nat, a = some ⟨g, o, none⟩ ∧ g < w.heap.size ∧ w.cell? ⟨g, o + k, none⟩ = some (.int .i8 x) := by
  have hlt := (List.getElem?_eq_some_iff.1 hk).1
  obtain ⟨g, o, e, hg, hc⟩ := h.tat (by simp; omega)
  exact ⟨g, o, e, hg, hc k _ (by rw [List.getElem?_map, hk]; rfl)⟩
set_option maxRecDepth 100000 in
set_option maxHeartbeats 4000000 in
theorem UnitsSound_c (w : World) (rs : List RowD) (a : Option Addr) (c : Nat) (hR : RowsR w rs a c) (gs : List Int) (b : Option Addr) (d : Nat) (hA : IntsR w gs b d) (hgl : gs.length ≤ 17592186043904) (vs : List Int) (v : Option Addr) (f : Nat) (hV : I8sR w vs v f) (hG : GC w) :
    Calls Tryd.prog 5 #[.slice a rs.length c, .slice b gs.length d, .slice v vs.length f] w fun e w' => e = .returned (.bool true) ∧ Below w.heap.size w w' := by
  obtain ⟨cls, hcl⟩ : ∃ cls, rs.map (·.xs) = cls := ⟨_, rfl⟩
  have HCl := Lib.hid hcl
  have HWk : Hid (∀ V, Below w.heap.size w V → Calls Tryd.prog 11 #[] V fun e w' => e = .returned (.bool true) ∧ Hid (Below w.heap.size w w')) := fun V hV => (wakes_any V (hG.below hV)).mono fun e w' ⟨h1, h2⟩ => ⟨h1, ball hV h2⟩
  have HGr : Hid (Calls Tryd.prog 10 #[.slice a rs.length c, .slice b gs.length d] w fun e w' => GrP e (SmallG rs gs) ∧ w = w') := great_any rs a c gs b d w hR hA
  have HRn : Hid (SmallG rs gs → Calls Tryd.prog 12 #[.slice a rs.length c, .slice b gs.length d] w fun e w' => ∃ r k a' c', e = .returned (.tuple #[.slice a' r.length c', .int .i64 k]) ∧ Hid (RunRel cls gs r k ∧ IntsR w' r a' c') ∧ Hid (Below w.heap.size w w')) := fun hS =>
    (Run_any rs a c gs b d cls w hcl hG hR hA (by have := hS.1.1; omega) (by rw [← hcl]; have := flat_sum hS.1.2; have := hS.1.1; omega) (by have := hS.2.1; omega)).mono fun e w' ⟨r, k, a', c', h0, h1, h2, h3⟩ => ⟨r, k, a', c', h0, ⟨h1, h2⟩, h3⟩
  have HB0 : Hid (Below w.heap.size w w) := Below.refl _ _
  have HA : Hid (∀ V, Below w.heap.size w V → IntsR V gs b d) := fun V hV => hA.below hV
  have HR : Hid (∀ V, Below w.heap.size w V → RowsR V rs a c) := fun V hV => hR.below hV
  have HVs : Hid (I8sR w vs v f) := hV
  have l1 : rs.length ≤ c := hR.le
  have c1 : rs.length ≤ 9223372036854775807 := by have := hR.cap; simp only [maxLen] at this; omega
  have l2 : gs.length ≤ d := hA.le
  have c2 : gs.length ≤ 9223372036854775807 := by omega
  have l3 : vs.length ≤ f := hV.le
  have c3 : vs.length ≤ 9223372036854775807 := by have := hV.cap; simp only [maxLen] at this; omega
  clear hR hA hG hcl hV
  go_enter Tryd.func5, Tryd.ntmps5
  go_wp2_with fail
  with_reducible refine HGr.out.mono ?_
  rintro e w5 ⟨⟨q, rfl, hq⟩, rfl⟩
  cases q with
  | true =>
    clear hq
    go_wp2_with (first | (go_at_call 11; with_reducible refine (HWk.out _ HB0.out).mono ?_; rintro e wz ⟨rfl, HBz⟩))
    go_ret
    exact ⟨rfl, HBz.out⟩
  | false =>
    have HS : Hid (SmallG rs gs) := hq rfl
    have HRn1 := Lib.hid (HRn.out HS.out)
    clear hq HGr HRn
    by_cases hvl : 3000 < vs.length
    · have d0 : decide (3000 < (vs.length : Int)) = true := decide_eq_true (by omega)
      clear hvl
      go_wp2_with (first | (go_at_call 11; with_reducible refine (HWk.out _ HB0.out).mono ?_; rintro e wz ⟨rfl, HBz⟩))
      go_ret
      exact ⟨rfl, HBz.out⟩
    · have d0 : decide (3000 < (vs.length : Int)) = false := decide_eq_false (by omega)
      clear hvl
      go_wp2_with fail
      go_loopw [7] (fun iv wr => ∃ k : Nat, k ≤ vs.length ∧ iv = .int .i64 k ∧ Hid (∀ j x, j < k → vs[j]? = some x → x = 0 ∨ x = 1 ∨ x = 2) ∧ wr = w) (fun iv _ => vs.length - (intOf iv).toNat)
      case atStart => exact ⟨0, Nat.zero_le _, rfl, (fun j y h _ => absurd h (by omega)), rfl⟩
      case round =>
        obtain ⟨k, hkl, rfl, HE, rfl⟩ := hrel
        by_cases hlt : k < vs.length
        · obtain ⟨x, hx⟩ : ∃ x, vs[k]? = some x := ⟨_, List.getElem?_eq_getElem hlt⟩
          obtain ⟨g, o, rfl, hg, q0⟩ := HVs.out.cell hx
          have HX := Lib.hid hx
          clear hx
          by_cases hn : x < 0
          · have d1 : decide (x < 0) = true := decide_eq_true hn
            clear hn
            go_wp2_with (first | (go_at_call 11; with_reducible refine (HWk.out _ HB0.out).mono ?_; rintro e wz ⟨rfl, HBz⟩))
            go_ret
            exact ⟨rfl, HBz.out⟩
          · have d1 : decide (x < 0) = false := decide_eq_false hn
            by_cases h2 : 2 < x
            · have d2 : decide (2 < x) = true := decide_eq_true h2
              clear hn h2
              go_wp2_with (first | (go_at_call 11; with_reducible refine (HWk.out _ HB0.out).mono ?_; rintro e wz ⟨rfl, HBz⟩))
              go_ret
              exact ⟨rfl, HBz.out⟩
            · have d2 : decide (2 < x) = false := decide_eq_false h2
              have HN : Hid (∀ j x, j < k + 1 → vs[j]? = some x → x = 0 ∨ x = 1 ∨ x = 2) := fun j z hj h1 => by
                by_cases e : j = k
                · subst e
                  rw [HX.out] at h1
                  cases h1
                  omega
                · exact HE.out j z (by omega) h1
              clear hn h2
              go_wp2_with fail
              go_roundw
              case rel => exact ⟨k + 1, by omega, by go_num, HN, trivial⟩
              case measure => simp [intOf]; omega
        · obtain rfl : k = vs.length := by omega
          have HVr : Hid (∀ V, Below wr.heap.size wr V → ValR V vs v f) := fun V hV => by
            have h := HVs.out.below hV
            exact ⟨h.le, h.cap, h.tat, fun x hx => by
              obtain ⟨j, hj⟩ := List.getElem?_of_mem hx
              exact HE.out j x (List.getElem?_eq_some_iff.1 hj).1 hj⟩
          clear HE
          go_wp2_with fail
          with_reducible refine HRn1.out.mono ?_
          rintro e w1 ⟨r, n, a1, c1', rfl, HX, HB1⟩
          clear HRn1
          have HBb : Hid (∀ V, Below w1.heap.size w1 V → Below wr.heap.size wr V) := fun V hV => ball HB1.out hV
          have HB2 : Hid (Below w1.heap.size w1 w1) := Below.refl _ _
          have l4 : r.length ≤ c1' := HX.out.2.le
          have c4 : r.length ≤ 9223372036854775807 := by have := HX.out.2.cap; simp only [maxLen] at this; omega
          go_wp2_with fail
          go_loopw [10] (fun iv w2 => ∃ i : Nat, i ≤ rs.length ∧ iv = .int .i64 i ∧ Hid (∀ j y, j < i → rs[j]? = some y → ∀ x ∈ y.xs, 0 ≤ x) ∧ Hid (Below w1.heap.size w1 w2)) (fun iv _ => rs.length - (intOf iv).toNat)
          case atStart => exact ⟨0, Nat.zero_le _, rfl, (fun j y h _ => absurd h (by omega)), HB2⟩
          case round =>
            rename World => w2
            obtain ⟨i, hil, rfl, HI, HW⟩ := hrel
            by_cases hlt : i < rs.length
            · obtain ⟨y, hy⟩ : ∃ y, rs[i]? = some y := ⟨_, List.getElem?_eq_getElem hlt⟩
              obtain ⟨g, o, rfl, hg, q0⟩ := (HR.out w2 (HBb.out _ HW.out)).cell hy
              have HY := Lib.hid hy
              have HIs := Lib.hid (RIs_any y.xs y.a y.c w2 ((HR.out w2 (HBb.out _ HW.out)).ok y (List.mem_of_getElem? hy)) (by have := HS.out.1.2 y (List.mem_of_getElem? hy); omega))
              clear hy
              go_wp2_with fail
              with_reducible refine HIs.out.mono ?_
              rintro e w3 ⟨⟨q, rfl, hq⟩, hb⟩
              have HQ := Lib.hid hq
              have HW3 : Hid (Below w1.heap.size w1 w3) := ball HW.out hb
              clear hq hb
              cases q with
              | false =>
                go_wp2_with (first | (go_at_call 11; with_reducible refine (HWk.out _ (HBb.out _ HW3.out)).mono ?_; rintro e wz ⟨rfl, HBz⟩))
                go_ret
                exact ⟨rfl, HBz.out⟩
              | true =>
                have HN : Hid (∀ j y, j < i + 1 → rs[j]? = some y → ∀ x ∈ y.xs, 0 ≤ x) := fun j z hj h1 => by
                  by_cases e : j = i
                  · subst e
                    rw [HY.out] at h1
                    cases h1
                    exact HQ.out rfl
                  · exact HI.out j z (by omega) h1
                go_wp2_with fail
                go_roundw
                case rel => exact ⟨i + 1, by omega, by go_num, HN, HW3⟩
                case measure => simp [intOf]; omega
            · obtain rfl : i = rs.length := by omega
              have HPos : Hid (∀ cc ∈ cls, ∀ x ∈ cc, mayU x = true) := fun cc hc x hx => by
                rw [← HCl.out] at hc
                obtain ⟨y, hy, rfl⟩ := List.mem_map.1 hc
                obtain ⟨j, hj⟩ := List.getElem?_of_mem hy
                have h0 := HI.out j y (List.getElem?_eq_some_iff.1 hj).1 hj x hx
                have h4 := HS.out.2.2.2 y hy x hx
                exact mayU_iff.2 ⟨h0, by omega⟩
              clear HI
              go_wp2_with fail
              go_loopw [11] (fun iv w3 => ∃ i : Nat, i ≤ gs.length ∧ iv = .int .i64 i ∧ Hid (∀ j x, j < i → gs[j]? = some x → 0 ≤ x → rvM vs x = 1) ∧ w3 = w2) (fun iv _ => gs.length - (intOf iv).toNat)
              case atStart => exact ⟨0, Nat.zero_le _, rfl, (fun j y h _ => absurd h (by omega)), rfl⟩
              case round =>
                obtain ⟨i, hil, rfl, HI, rfl⟩ := hrel
                rename World => w2
                by_cases hlt : i < gs.length
                · obtain ⟨x, hx⟩ : ∃ x, gs[i]? = some x := ⟨_, List.getElem?_eq_getElem hlt⟩
                  obtain ⟨g, o, rfl, hg, q0⟩ := (HA.out w2 (HBb.out _ HW.out)).cell hx
                  have HX2 := Lib.hid hx
                  obtain ⟨z, hz⟩ : ∃ z, rvM vs x = z := ⟨_, rfl⟩
                  have HZ := Lib.hid hz
                  have HVx := Lib.hid (RVal_any vs v f x z w2 (HVr.out w2 (HBb.out _ HW.out)) ((HA.out w2 (HBb.out _ HW.out)).ok x (List.mem_of_getElem? hx)) hz)
                  clear hx hz
                  by_cases h0 : 0 ≤ x
                  · have d1 : decide (0 ≤ x) = true := decide_eq_true h0
                    by_cases hz1 : z = 1
                    · have d2 : (z != 1) = false := ne_f hz1
                      have HN : Hid (∀ j x, j < i + 1 → gs[j]? = some x → 0 ≤ x → rvM vs x = 1) := fun j u hj h1 h2 => by
                        by_cases e : j = i
                        · subst e
                          rw [HX2.out] at h1
                          cases h1
                          rw [HZ.out]; exact hz1
                        · exact HI.out j u (by omega) h1 h2
                      clear hz1 h0
                      go_wp2_with fail
                      with_reducible refine HVx.out.mono ?_
                      rintro e w4 ⟨rfl, rfl⟩
                      go_wp2_with fail
                      go_roundw
                      case rel => exact ⟨i + 1, by omega, by go_num, HN, trivial⟩
                      case measure => simp [intOf]; omega
                    · have d2 : (z != 1) = true := ne_t hz1
                      clear hz1 h0
                      go_wp2_with fail
                      with_reducible refine HVx.out.mono ?_
                      rintro e w4 ⟨rfl, rfl⟩
                      go_wp2_with (first | (go_at_call 11; with_reducible refine (HWk.out _ (HBb.out _ HW.out)).mono ?_; rintro e wz ⟨rfl, HBz⟩))
                      go_ret
                      exact ⟨rfl, HBz.out⟩
                  · have d1 : decide (0 ≤ x) = false := decide_eq_false h0
                    have HN : Hid (∀ j x, j < i + 1 → gs[j]? = some x → 0 ≤ x → rvM vs x = 1) := fun j u hj h1 h2 => by
                      by_cases e : j = i
                      · subst e
                        rw [HX2.out] at h1
                        cases h1
                        exact absurd h2 h0
                      · exact HI.out j u (by omega) h1 h2
                    clear h0
                    go_wp2_with fail
                    go_roundw
                    case rel => exact ⟨i + 1, by omega, by go_num, HN, trivial⟩
                    case measure => simp [intOf]; omega
                · obtain rfl : i = gs.length := by omega
                  have HGv : Hid (∀ x ∈ gs, mayU x = true → rvM vs x = 1) := fun x hx hm => by
                    obtain ⟨j, hj⟩ := List.getElem?_of_mem hx
                    exact HI.out j x (List.getElem?_eq_some_iff.1 hj).1 hj (mayU_iff.1 hm).1
                  have HHo := Lib.hid (RHolds_any rs a c vs v f w2 (HR.out w2 (HBb.out _ HW.out)) (HVr.out w2 (HBb.out _ HW.out)))
                  clear HI
                  go_wp2_with fail
                  with_reducible refine HHo.out.mono ?_
                  rintro e w4 ⟨⟨q, rfl, hq⟩, hb⟩
                  have HQ := Lib.hid hq
                  have HW4 : Hid (Below w1.heap.size w1 w4) := ball HW.out hb
                  clear hq hb
                  cases q with
                  | false =>
                    go_wp2_with (first | (go_at_call 11; with_reducible refine (HWk.out _ (HBb.out _ HW4.out)).mono ?_; rintro e wz ⟨rfl, HBz⟩))
                    go_ret
                    exact ⟨rfl, HBz.out⟩
                  | true =>
                    have HSd := Lib.hid (HX.out.1.sound (vs := vs) HPos.out (fun cc hc => by
                      rw [← HCl.out] at hc
                      obtain ⟨y, hy, rfl⟩ := List.mem_map.1 hc
                      exact HQ.out rfl y hy) HGv.out)
                    obtain rfl : n = -1 := HSd.out.2
                    have HI4 : Hid (IntsR w4 r a1 c1') := HX.out.2.below HW4.out
                    go_wp2_with fail
                    go_loopw [12] (fun iv w3 => ∃ i : Nat, i ≤ r.length ∧ iv = .int .i64 i ∧ w3 = w4) (fun iv _ => r.length - (intOf iv).toNat)
                    case atStart => exact ⟨0, Nat.zero_le _, rfl, rfl⟩
                    case round =>
                      obtain ⟨i, hil, rfl, rfl⟩ := hrel
                      rename World => w4
                      by_cases hlt : i < r.length
                      · obtain ⟨x, hx⟩ : ∃ x, r[i]? = some x := ⟨_, List.getElem?_eq_getElem hlt⟩
                        obtain ⟨g, o, rfl, hg, q0⟩ := HI4.out.cell hx
                        have HVx := Lib.hid (RVal_any vs v f x 1 w4 (HVr.out w4 (HBb.out _ HW4.out)) (HI4.out.ok x (List.mem_of_getElem? hx)) (HSd.out.1 x (List.mem_of_getElem? hx)))
                        clear hx
                        go_wp2_with fail
                        with_reducible refine HVx.out.mono ?_
                        rintro e w6 ⟨rfl, rfl⟩
                        go_wp2_with fail
                        go_roundw
                        case rel => exact ⟨i + 1, by omega, by go_num, trivial⟩
                        case measure => simp [intOf]; omega
                      · obtain rfl : i = r.length := by omega
                        go_wp2_with (first | (go_at_call 11; with_reducible refine (HWk.out _ (HBb.out _ HW4.out)).mono ?_; rintro e wz ⟨rfl, HBz⟩))
                        go_ret
                        exact ⟨rfl, HBz.out⟩
end Go.Proofs.YtaiclnlpehfdjaaDoor.Tm
