/- EvalOrder: differences go as integers do. -/
import Derived.Test.YtbddghcdibdloaaDoorEvX
namespace Go.Proofs.YtbddghcdibdloaaDoor
open Go.RowKit
set_option linter.unusedVariables false
theorem AtMost_in (x y z : Int) (r : Bool) (w : World) (hx : -4611686018427387904 ≤ x ∧ x ≤ 4611686018427387904) (hy : -4611686018427387904 ≤ y ∧ y ≤ 4611686018427387904) (hz : -4611686018427387904 ≤ z ∧ z ≤ 4611686018427387904) (hr : decide (x - y ≤ z) = r) :
    Calls Tryd.prog 5 #[.int .i64 x, .int .i64 y, .int .i64 z] w fun e w' => e = .returned (.bool r) ∧ Below w.heap.size w w' := by
  refine AtMost_any x y z r w ⟨by omega, by omega⟩ ⟨by omega, by omega⟩ ⟨by omega, by omega⟩ ?_
  unfold atM
  rw [mayB_true.2 hx, mayB_true.2 hy, mayB_true.2 hz, hr]
  rfl
set_option maxRecDepth 100000 in
set_option maxHeartbeats 4000000 in
theorem EvalOrder_w (a b c n m : Int) (w : World) (hG : GA w) (ha : I64 a) (hb : I64 b) (hc : I64 c) (hn : I64 n) (hm : I64 m) :
    Calls Tryd.prog 3 #[.int .i64 a, .int .i64 b, .int .i64 c, .int .i64 n, .int .i64 m] w fun e w' => e = .returned (.bool true) ∧ Below w.heap.size w w' := by
  have HWk : Hid (∀ V, Below w.heap.size w V → Calls Tryd.prog 4 #[] V fun e w' => e = .returned (.bool true) ∧ Below V.heap.size V w') := fun V hV => wakes_any V (hG.below hV)
  have HW0 := Lib.hid (HWk.out w (Below.refl _ _))
  obtain ⟨a1, a2⟩ := ha
  obtain ⟨b1, b2⟩ := hb
  obtain ⟨c1, c2⟩ := hc
  obtain ⟨n1, n2⟩ := hn
  obtain ⟨m1, m2⟩ := hm
  clear hG
  by_cases qag : 576460752303423488 < a
  · go_enter Tryd.func3, Tryd.ntmps3
    go_wp2_with (go_at_call 4; refine HW0.out.mono ?_; rintro e w1 ⟨rfl, hb1⟩)
    go_ret
    exact ⟨rfl, hb1⟩
  by_cases qal : a < -576460752303423488
  · go_enter Tryd.func3, Tryd.ntmps3
    go_wp2_with (go_at_call 4; refine HW0.out.mono ?_; rintro e w1 ⟨rfl, hb1⟩)
    go_ret
    exact ⟨rfl, hb1⟩
  by_cases qbg : 576460752303423488 < b
  · go_enter Tryd.func3, Tryd.ntmps3
    go_wp2_with (go_at_call 4; refine HW0.out.mono ?_; rintro e w1 ⟨rfl, hb1⟩)
    go_ret
    exact ⟨rfl, hb1⟩
  by_cases qbl : b < -576460752303423488
  · go_enter Tryd.func3, Tryd.ntmps3
    go_wp2_with (go_at_call 4; refine HW0.out.mono ?_; rintro e w1 ⟨rfl, hb1⟩)
    go_ret
    exact ⟨rfl, hb1⟩
  by_cases qcg : 576460752303423488 < c
  · go_enter Tryd.func3, Tryd.ntmps3
    go_wp2_with (go_at_call 4; refine HW0.out.mono ?_; rintro e w1 ⟨rfl, hb1⟩)
    go_ret
    exact ⟨rfl, hb1⟩
  by_cases qcl : c < -576460752303423488
  · go_enter Tryd.func3, Tryd.ntmps3
    go_wp2_with (go_at_call 4; refine HW0.out.mono ?_; rintro e w1 ⟨rfl, hb1⟩)
    go_ret
    exact ⟨rfl, hb1⟩
  by_cases qng : 576460752303423488 < n
  · go_enter Tryd.func3, Tryd.ntmps3
    go_wp2_with (go_at_call 4; refine HW0.out.mono ?_; rintro e w1 ⟨rfl, hb1⟩)
    go_ret
    exact ⟨rfl, hb1⟩
  by_cases qnl : n < -576460752303423488
  · go_enter Tryd.func3, Tryd.ntmps3
    go_wp2_with (go_at_call 4; refine HW0.out.mono ?_; rintro e w1 ⟨rfl, hb1⟩)
    go_ret
    exact ⟨rfl, hb1⟩
  by_cases qmg : 576460752303423488 < m
  · go_enter Tryd.func3, Tryd.ntmps3
    go_wp2_with (go_at_call 4; refine HW0.out.mono ?_; rintro e w1 ⟨rfl, hb1⟩)
    go_ret
    exact ⟨rfl, hb1⟩
  by_cases qml : m < -576460752303423488
  · go_enter Tryd.func3, Tryd.ntmps3
    go_wp2_with (go_at_call 4; refine HW0.out.mono ?_; rintro e w1 ⟨rfl, hb1⟩)
    go_ret
    exact ⟨rfl, hb1⟩
  have zax : a ≤ 576460752303423488 := by omega
  have zay : -576460752303423488 ≤ a := by omega
  clear qag qal
  have zbx : b ≤ 576460752303423488 := by omega
  have zby : -576460752303423488 ≤ b := by omega
  clear qbg qbl
  have zcx : c ≤ 576460752303423488 := by omega
  have zcy : -576460752303423488 ≤ c := by omega
  clear qcg qcl
  have znx : n ≤ 576460752303423488 := by omega
  have zny : -576460752303423488 ≤ n := by omega
  clear qng qnl
  have zmx : m ≤ 576460752303423488 := by omega
  have zmy : -576460752303423488 ≤ m := by omega
  clear qmg qml
  by_cases hab : a - b ≤ n
  · have e0 : decide (a - b ≤ n) = true := decide_eq_true hab
    by_cases hbc : b - c ≤ m
    · go_enter Tryd.func3, Tryd.ntmps3
      go_wp2_with fail
      refine (AtMost_in (a) (b) (n) true _ ⟨by omega, by omega⟩ ⟨by omega, by omega⟩ ⟨by omega, by omega⟩ (decide_eq_true (by omega))).mono ?_
      rintro e w1 ⟨rfl, hb1⟩
      have HB1 : Hid (Below w.heap.size w w1) := hb1
      clear hb1
      go_wp2_with fail
      refine (AtMost_in (a) (b) (n) true _ ⟨by omega, by omega⟩ ⟨by omega, by omega⟩ ⟨by omega, by omega⟩ (decide_eq_true (by omega))).mono ?_
      rintro e w2 ⟨rfl, hb2⟩
      have HB2 : Hid (Below w.heap.size w w2) := ball' HB1.out hb2
      clear hb2
      go_wp2_with fail
      refine (AtMost_in (b) (a) (-n - 1) false _ ⟨by omega, by omega⟩ ⟨by omega, by omega⟩ ⟨by omega, by omega⟩ (decide_eq_false (by omega))).mono ?_
      rintro e w3 ⟨rfl, hb3⟩
      have HB3 : Hid (Below w.heap.size w w3) := ball' HB2.out hb3
      clear hb3
      go_wp2_with fail
      refine (AtMost_in (a) (b) (n) true _ ⟨by omega, by omega⟩ ⟨by omega, by omega⟩ ⟨by omega, by omega⟩ (decide_eq_true (by omega))).mono ?_
      rintro e w4 ⟨rfl, hb4⟩
      have HB4 : Hid (Below w.heap.size w w4) := ball' HB3.out hb4
      clear hb4
      go_wp2_with fail
      refine (AtMost_in (b) (c) (m) true _ ⟨by omega, by omega⟩ ⟨by omega, by omega⟩ ⟨by omega, by omega⟩ (decide_eq_true (by omega))).mono ?_
      rintro e w5 ⟨rfl, hb5⟩
      have HB5 : Hid (Below w.heap.size w w5) := ball' HB4.out hb5
      clear hb5
      go_wp2_with fail
      refine (AtMost_in (a) (c) (n + m) true _ ⟨by omega, by omega⟩ ⟨by omega, by omega⟩ ⟨by omega, by omega⟩ (decide_eq_true (by omega))).mono ?_
      rintro e w6 ⟨rfl, hb6⟩
      have HB6 : Hid (Below w.heap.size w w6) := ball' HB5.out hb6
      clear hb6
      go_wp2_with fail
      refine (HWk.out _ HB6.out).mono ?_
      rintro e w7 ⟨rfl, hb7⟩
      go_wp2
      go_ret
      exact ⟨rfl, ball' HB6.out hb7⟩
    · go_enter Tryd.func3, Tryd.ntmps3
      go_wp2_with fail
      refine (AtMost_in (a) (b) (n) true _ ⟨by omega, by omega⟩ ⟨by omega, by omega⟩ ⟨by omega, by omega⟩ (decide_eq_true (by omega))).mono ?_
      rintro e w1 ⟨rfl, hb1⟩
      have HB1 : Hid (Below w.heap.size w w1) := hb1
      clear hb1
      go_wp2_with fail
      refine (AtMost_in (a) (b) (n) true _ ⟨by omega, by omega⟩ ⟨by omega, by omega⟩ ⟨by omega, by omega⟩ (decide_eq_true (by omega))).mono ?_
      rintro e w2 ⟨rfl, hb2⟩
      have HB2 : Hid (Below w.heap.size w w2) := ball' HB1.out hb2
      clear hb2
      go_wp2_with fail
      refine (AtMost_in (b) (a) (-n - 1) false _ ⟨by omega, by omega⟩ ⟨by omega, by omega⟩ ⟨by omega, by omega⟩ (decide_eq_false (by omega))).mono ?_
      rintro e w3 ⟨rfl, hb3⟩
      have HB3 : Hid (Below w.heap.size w w3) := ball' HB2.out hb3
      clear hb3
      go_wp2_with fail
      refine (AtMost_in (a) (b) (n) true _ ⟨by omega, by omega⟩ ⟨by omega, by omega⟩ ⟨by omega, by omega⟩ (decide_eq_true (by omega))).mono ?_
      rintro e w4 ⟨rfl, hb4⟩
      have HB4 : Hid (Below w.heap.size w w4) := ball' HB3.out hb4
      clear hb4
      go_wp2_with fail
      refine (AtMost_in (b) (c) (m) false _ ⟨by omega, by omega⟩ ⟨by omega, by omega⟩ ⟨by omega, by omega⟩ (decide_eq_false (by omega))).mono ?_
      rintro e w5 ⟨rfl, hb5⟩
      have HB5 : Hid (Below w.heap.size w w5) := ball' HB4.out hb5
      clear hb5
      go_wp2_with fail
      refine (HWk.out _ HB5.out).mono ?_
      rintro e w6 ⟨rfl, hb6⟩
      go_wp2
      go_ret
      exact ⟨rfl, ball' HB5.out hb6⟩
  · have e0 : decide (a - b ≤ n) = false := decide_eq_false hab
    go_enter Tryd.func3, Tryd.ntmps3
    go_wp2_with fail
    refine (AtMost_in (a) (b) (n) false _ ⟨by omega, by omega⟩ ⟨by omega, by omega⟩ ⟨by omega, by omega⟩ (decide_eq_false (by omega))).mono ?_
    rintro e w1 ⟨rfl, hb1⟩
    have HB1 : Hid (Below w.heap.size w w1) := hb1
    clear hb1
    go_wp2_with fail
    refine (AtMost_in (a) (b) (n) false _ ⟨by omega, by omega⟩ ⟨by omega, by omega⟩ ⟨by omega, by omega⟩ (decide_eq_false (by omega))).mono ?_
    rintro e w2 ⟨rfl, hb2⟩
    have HB2 : Hid (Below w.heap.size w w2) := ball' HB1.out hb2
    clear hb2
    go_wp2_with fail
    refine (AtMost_in (b) (a) (-n - 1) true _ ⟨by omega, by omega⟩ ⟨by omega, by omega⟩ ⟨by omega, by omega⟩ (decide_eq_true (by omega))).mono ?_
    rintro e w3 ⟨rfl, hb3⟩
    have HB3 : Hid (Below w.heap.size w w3) := ball' HB2.out hb3
    clear hb3
    go_wp2_with fail
    refine (AtMost_in (a) (b) (n) false _ ⟨by omega, by omega⟩ ⟨by omega, by omega⟩ ⟨by omega, by omega⟩ (decide_eq_false (by omega))).mono ?_
    rintro e w4 ⟨rfl, hb4⟩
    have HB4 : Hid (Below w.heap.size w w4) := ball' HB3.out hb4
    clear hb4
    go_wp2_with fail
    refine (HWk.out _ HB4.out).mono ?_
    rintro e w5 ⟨rfl, hb5⟩
    go_wp2
    go_ret
    exact ⟨rfl, ball' HB4.out hb5⟩
theorem EvalOrder_c (w : World) (a : Int) (ha : (Lit.int .i64 a).wf = true) (b : Int) (hb : (Lit.int .i64 b).wf = true) (c : Int) (hc : (Lit.int .i64 c).wf = true) (n : Int) (hn : (Lit.int .i64 n).wf = true) (m : Int) (hm : (Lit.int .i64 m).wf = true) (hG : GA w) :
    Calls Tryd.prog 3 #[.int .i64 a, .int .i64 b, .int .i64 c, .int .i64 n, .int .i64 m] w fun e w' => e = .returned (.bool true) ∧ Below w.heap.size w w' :=
  EvalOrder_w a b c n m w hG (i64_of_wf ha) (i64_of_wf hb) (i64_of_wf hc) (i64_of_wf hn) (i64_of_wf hm)
end Go.Proofs.YtbddghcdibdloaaDoor
