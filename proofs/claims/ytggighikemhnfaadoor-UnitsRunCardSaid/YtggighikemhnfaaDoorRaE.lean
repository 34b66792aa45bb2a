/- UnitsRun. -/
import Derived.Test.YtggighikemhnfaaDoorRaD
namespace Go.Proofs.YtggighikemhnfaaDoor.Tm
open Go.RowKit Go.Lib
set_option linter.unusedVariables false
set_option maxRecDepth 100000 in
set_option maxHeartbeats 4000000 in
theorem UnitsRun_c (w : World) (rs : List RowD) (a : Option Addr) (c : Nat) (hR : RowsR w rs a c) (gs : List Int) (b : Option Addr) (d : Nat) (hA : IntsR w gs b d) (hgl : gs.length ≤ 17592186043904) (hG : GC w) :
    Calls Tryd.prog 3 #[.slice a rs.length c, .slice b gs.length d] w fun e w' => e = .returned (.bool true) ∧ Below w.heap.size w w' := by
  obtain ⟨cls, hcl⟩ : ∃ cls, rs.map (·.xs) = cls := ⟨_, rfl⟩
  have HWk : Hid (∀ V, Below w.heap.size w V → Calls Tryd.prog 11 #[] V fun e w' => e = .returned (.bool true) ∧ Hid (Below w.heap.size w w')) := fun V hV => (wakes_any V (hG.below hV)).mono fun e w' ⟨h1, h2⟩ => ⟨h1, ball hV h2⟩
  have HGr : Hid (Calls Tryd.prog 10 #[.slice a rs.length c, .slice b gs.length d] w fun e w' => GrP e (SmallG rs gs) ∧ w = w') := great_any rs a c gs b d w hR hA
  have HRn : Hid (SmallG rs gs → Calls Tryd.prog 12 #[.slice a rs.length c, .slice b gs.length d] w fun e w' => ∃ r k a' c', e = .returned (.tuple #[.slice a' r.length c', .int .i64 k]) ∧ Hid (RunRel cls gs r k ∧ IntsR w' r a' c') ∧ Hid (Below w.heap.size w w')) := fun hS =>
    (Run_any rs a c gs b d cls w hcl hG hR hA (by have := hS.1.1; omega) (by rw [← hcl]; have := flat_sum hS.1.2; have := hS.1.1; omega) (by have := hS.2.1; omega)).mono fun e w' ⟨r, k, a', c', h0, h1, h2, h3⟩ => ⟨r, k, a', c', h0, ⟨h1, h2⟩, h3⟩
  have HRr : Hid (∀ V, SmallG rs gs → Below w.heap.size w V → Calls Tryd.prog 13 #[.slice a rs.length c, .slice b gs.length d] V fun e w' => ∃ r k a' c', e = .returned (.tuple #[.slice a' r.length c', .int .i64 k]) ∧ Hid (RunRel cls gs r k ∧ IntsR w' r a' c') ∧ Hid (Below V.heap.size V w')) := fun V hS hV => RRun_any rs a c gs b d cls V hcl (hR.below hV) (hA.below hV) (by have := hS.1.1; omega) (fun y hy => by have := hS.1.2 y hy; omega)
  have HVp : Hid (∀ V zs a1 c1 L, IntsR V zs a1 c1 → vL (psV zs) = L → Calls Tryd.prog 15 #[.slice a1 zs.length c1] V fun e w' => ∃ a c, e = .returned (.slice a L.length c) ∧ Hid (ValR w' L a c ∧ Below V.heap.size V w')) := fun V zs a1 c1 L hz hL => by
    rw [← hL]; exact PValues_any zs a1 c1 V hz
  have HVr : Hid (∀ V zs a1 c1 L, IntsR V zs a1 c1 → vL (psV zs) = L → Calls Tryd.prog 16 #[.slice a1 zs.length c1] V fun e w' => ∃ a c, e = .returned (.slice a L.length c) ∧ Hid (ValR w' L a c ∧ Below V.heap.size V w')) := fun V zs a1 c1 L hz hL => by
    rw [← hL]
    refine (Values_any zs a1 c1 V hz).mono ?_
    rintro e w' ⟨a, c, h, H⟩
    exact ⟨a, c, h, ⟨H.out.1.val, H.out.2⟩⟩
  have HB0 : Hid (Below w.heap.size w w) := Below.refl _ _
  have HA : Hid (∀ V, Below w.heap.size w V → IntsR V gs b d) := fun V hV => hA.below hV
  obtain ⟨L2, hL2⟩ : ∃ L2, vL (psV gs) = L2 := ⟨_, rfl⟩
  have HL2 := Lib.hid hL2
  clear hR hA hG hcl hL2
  go_enter Tryd.func3, Tryd.ntmps3
  go_wp2_with fail
  with_reducible refine HGr.out.mono ?_
  rintro e w5 ⟨⟨q, rfl, hq⟩, rfl⟩
  cases q with
  | true =>
    clear hq
    go_wp2_with (first | (go_at_call 11; with_reducible refine (HWk.out _ HB0.out).mono ?_; rintro e wz ⟨rfl, HBz⟩))
    go_ret
    exact ⟨rfl, HBz.out⟩
  | false =>
    have HS : Hid (SmallG rs gs) := hq rfl
    have HRn1 := Lib.hid (HRn.out HS.out)
    clear hq HGr
    go_wp2_with fail
    with_reducible refine HRn1.out.mono ?_
    rintro e w1 ⟨r, k, a1, c1', rfl, HX, HB1⟩
    have HRr1 := Lib.hid (HRr.out w1 HS.out HB1.out)
    clear HRn1
    go_wp2_with fail
    with_reducible refine HRr1.out.mono ?_
    rintro e w2 ⟨r', k', a2, c2', rfl, HX2, HB2⟩
    obtain ⟨er, ek⟩ := HX.out.1.same HX2.out.1
    subst er
    subst ek
    have HI1 : Hid (IntsR w2 r a1 c1') := HX.out.2.below HB2.out
    have HI2 : Hid (IntsR w2 r a2 c2') := HX2.out.2
    have HW2 : Hid (Below w.heap.size w w2) := ball HB1.out HB2.out
    have HSm := Lib.hid (same_any r a1 a2 c1' c2' w2 HI1.out HI2.out)
    have dk : (k != k) = false := ne_f rfl
    obtain ⟨L, hL⟩ : ∃ L, vL (psV r) = L := ⟨_, rfl⟩
    have HL := Lib.hid hL
    have dl : ((L.length : Int) != (L.length : Int)) = false := ne_f rfl
    have dl2 : ((L2.length : Int) != (L2.length : Int)) = false := ne_f rfl
    clear hL HRr1 HX HX2
    go_wp2_with fail
    with_reducible refine HSm.out.mono ?_
    rintro e w3 ⟨rfl, hb3⟩
    have HW3 : Hid (Below w.heap.size w w3) := ball HW2.out hb3
    have HV3 := Lib.hid (HVp.out w3 r a2 c2' L (HI2.out.below hb3) HL.out)
    have HI3 : Hid (IntsR w3 r a2 c2') := HI2.out.below hb3
    clear hb3 HSm
    go_wp2_with fail
    with_reducible refine HV3.out.mono ?_
    rintro e w4 ⟨a4, c4, rfl, HY4⟩
    have HW4 : Hid (Below w.heap.size w w4) := ball HW3.out HY4.out.2
    have HV4 := Lib.hid (HVr.out w4 r a2 c2' L (HI3.out.below HY4.out.2) HL.out)
    clear HV3
    go_wp2_with fail
    with_reducible refine HV4.out.mono ?_
    rintro e w5 ⟨a5, c5, rfl, HY5⟩
    have HW5 : Hid (Below w.heap.size w w5) := ball HW4.out HY5.out.2
    have HV5 := Lib.hid (HVp.out w5 gs b d L2 (HA.out w5 HW5.out) HL2.out)
    clear HV4
    go_wp2_with fail
    with_reducible refine HV5.out.mono ?_
    rintro e w6 ⟨a6, c6, rfl, HY6⟩
    have HW6 : Hid (Below w.heap.size w w6) := ball HW5.out HY6.out.2
    have HV6 := Lib.hid (HVr.out w6 gs b d L2 (HA.out w6 HW6.out) HL2.out)
    clear HV5
    go_wp2_with fail
    with_reducible refine HV6.out.mono ?_
    rintro e w7 ⟨a7, c7, rfl, HY7⟩
    have HW7 : Hid (Below w.heap.size w w7) := ball HW6.out HY7.out.2
    have HQ6 : Hid (∀ V, Below w7.heap.size w7 V → ValR V L2 a6 c6) := fun V hV => (HY6.out.1.below HY7.out.2).below hV
    have HQ7 : Hid (∀ V, Below w7.heap.size w7 V → ValR V L2 a7 c7) := fun V hV => HY7.out.1.below hV
    have l6 : L2.length ≤ c6 := HY6.out.1.le
    have l7 : L2.length ≤ c7 := HY7.out.1.le
    have k6 : L2.length ≤ 9223372036854775807 := by have := HY6.out.1.cap; simp only [maxLen] at this; omega
    have HB7 : Hid (Below w7.heap.size w7 w7) := Below.refl _ _
    clear HV6
    go_wp2_with fail
    go_loopw [11] (fun iv wr => ∃ k : Nat, k ≤ L2.length ∧ iv = .int .i64 k ∧ Hid (Below w7.heap.size w7 wr)) (fun iv _ => L2.length - (intOf iv).toNat)
    case atStart => exact ⟨0, Nat.zero_le _, rfl, HB7⟩
    case round =>
      obtain ⟨i, hil, rfl, HW⟩ := hrel
      by_cases hlt : i < L2.length
      · obtain ⟨x, hx⟩ : ∃ x, L2[i]? = some x := ⟨_, List.getElem?_eq_getElem hlt⟩
        obtain ⟨g, o, rfl, hg, q0⟩ := (HQ6.out _ HW.out).cell hx
        obtain ⟨g', o', rfl, hg', r0⟩ := (HQ7.out _ HW.out).cell hx
        have hxx : (x != x) = false := ne_f rfl
        clear hx
        go_wp2_with fail
        go_quiet (fail)
        go_wp2_with fail
        go_roundw
        case rel => exact ⟨i + 1, by omega, by go_num, below_drewN HW.out⟩
        case measure => simp [intOf]; omega
      · obtain rfl : i = L2.length := by omega
        have HWr : Hid (Below w.heap.size w _) := ball HW7.out HW.out
        go_wp2_with (first | (go_at_call 11; with_reducible refine (HWk.out _ HWr.out).mono ?_; rintro e wz ⟨rfl, HBz⟩))
        go_ret
        exact ⟨rfl, HBz.out⟩
end Go.Proofs.YtggighikemhnfaaDoor.Tm
