/- HeapHalves. -/
import Derived.Test.YtmgppnepccmceaaHpT
namespace Go.Proofs.Ytmgppnepccmceaa
open Go.RowKit
set_option linter.unusedVariables false
theorem actV_half (A : List Int) (x : Int) : actV (halfA A) x = actV A x / 2 := by
  unfold actV
  split
  · unfold halfA
    rw [List.getD_eq_getElem?_getD, List.getD_eq_getElem?_getD, List.getElem?_map]
    cases A[x.toNat]? <;> rfl
  · rfl
theorem actV_bd {A : List Int} (h : ∀ a ∈ A, 0 ≤ a ∧ a ≤ 1099511627776) (x : Int) : 0 ≤ actV A x ∧ actV A x ≤ 1099511627776 := by
  unfold actV
  split
  · exact getD_act h _
  · omega
theorem below_two {w w1 w2 : World} (h : Below w.heap.size w w1) (g : Below w1.heap.size w1 w2) : Below w.heap.size w w2 :=
  ⟨g.os.trans h.os, g.tape.trans h.tape, g.output.trans h.output, Nat.le_trans h.size g.size, fun k hk => (g.block k (Nat.lt_of_lt_of_le hk h.size)).trans (h.block k hk)⟩
set_option maxRecDepth 100000 in
set_option maxHeartbeats 1000000 in
theorem HeapHalves_w (w : World) (n : Int) (hn : I64 n) (az : List ActA) (a : Option Addr) (c : Nat) (hA : ActsR w az a c) (x : Int) (hx : I64 x) (y : Int) (hy : I64 y) :
    Calls Try.prog 5 #[.int .i64 n, .slice a az.length c, .int .i64 x, .int .i64 y] w fun e w' => e = .returned (.bool true) ∧ Below w.heap.size w w' := by
  have HWk := Lib.hid (wakes_any w)
  have hle := hA.le
  have hcm : c ≤ 9223372036854775807 := by have := hA.cap; simp only [maxLen] at this; omega
  obtain ⟨l, hl⟩ : ∃ l, az.length = l := ⟨_, rfl⟩
  have HLL := Lib.hid hl
  rw [hl] at hle ⊢
  have HA := Lib.hid hA
  clear hA hl
  by_cases h1 : 300 < l
  · have h1i : (300 : Int) < (l : Int) := by omega
    go_enter Try.func5, Try.ntmps5
    go_wp2_with fail
    with_reducible refine HWk.out.mono ?_
    rintro e w1 ⟨rfl, hb⟩
    go_wp2
    go_ret
    exact ⟨rfl, hb⟩
  · have h1i : ¬ (300 : Int) < (l : Int) := by omega
    by_cases h2 : n < 0
    · go_enter Try.func5, Try.ntmps5
      go_wp2_with fail
      with_reducible refine HWk.out.mono ?_
      rintro e w1 ⟨rfl, hb⟩
      go_wp2
      go_ret
      exact ⟨rfl, hb⟩
    · by_cases h3 : 300 < n
      · go_enter Try.func5, Try.ntmps5
        go_wp2_with fail
        with_reducible refine HWk.out.mono ?_
        rintro e w1 ⟨rfl, hb⟩
        go_wp2
        go_ret
        exact ⟨rfl, hb⟩
      · obtain ⟨m, rfl⟩ : ∃ m : Nat, n = (m : Int) := ⟨n.toNat, by omega⟩
        have CB : Hid (Calls Try.prog 28 #[.int .i64 m, .slice a l c] w fun e w' => BehindP m az w e w') := by
          have := behind_any m az a c w (by omega) (by rw [HLL.out]; omega) HA.out
          rw [HLL.out] at this
          exact this
        clear HWk
        go_enter Try.func5, Try.ntmps5
        go_wp2_with fail
        with_reducible refine CB.out.mono ?_
        rintro e w1 ⟨h, t, nb, ib, rfl, q1, o1, o2, o3, o4, hb1⟩
        obtain ⟨s, hs⟩ : ∃ s, runS (s0 m) az = s := ⟨_, rfl⟩
        rw [hs] at q1
        obtain ⟨_, _, _, hSl, hact⟩ := q1.lt
        obtain ⟨p, hp⟩ : ∃ p, actV s.A x = p := ⟨_, rfl⟩
        obtain ⟨q, hq⟩ : ∃ q, actV s.A y = q := ⟨_, rfl⟩
        obtain ⟨r, hr⟩ : ∃ r, hasV s x = r := ⟨_, rfl⟩
        have hp0 := actV_bd hact x
        have hq0 := actV_bd hact y
        rw [hp] at hp0
        rw [hq] at hq0
        have C1 := Lib.hid (Len_q q1)
        have C2 := Lib.hid (Act_q q1 x hp)
        have C3 := Lib.hid (Act_q q1 y hq)
        have C4 := Lib.hid (Has_q q1 x hr)
        have C5 := Lib.hid (Halve_q q1)
        have HO := Lib.hid (show w.heap.size ≤ t ∧ w.heap.size ≤ nb ∧ w.heap.size ≤ ib ∧ Below w.heap.size w w1 from ⟨o2, o3, o4, hb1⟩)
        have hpx : actV (halfS s).A x = p / 2 := by rw [← hp]; exact actV_half _ _
        have hqx : actV (halfS s).A y = q / 2 := by rw [← hq]; exact actV_half _ _
        have hrx : hasV (halfS s) x = r := by rw [← hr]; rfl
        have HX := Lib.hid (show actV (halfS s).A x = p / 2 ∧ actV (halfS s).A y = q / 2 ∧ hasV (halfS s) x = r from ⟨hpx, hqx, hrx⟩)
        obtain ⟨k, hk⟩ : ∃ k, s.S.length = k := ⟨_, rfl⟩
        have HK := Lib.hid hk
        rw [hk] at C1
        clear hs q1 o1 o2 o3 o4 hb1 hact hSl hp hq hr CB hpx hqx hrx hk
        go_wp2_with fail
        with_reducible refine C1.out.mono ?_
        rintro e w2 ⟨rfl, rfl⟩
        go_wp2_with fail
        with_reducible refine C2.out.mono ?_
        rintro e w2 ⟨rfl, rfl⟩
        go_wp2_with fail
        with_reducible refine C3.out.mono ?_
        rintro e w2 ⟨rfl, rfl⟩
        go_wp2_with fail
        with_reducible refine C4.out.mono ?_
        rintro e w2 ⟨rfl, rfl⟩
        go_wp2_with fail
        with_reducible refine C5.out.mono ?_
        rintro e w3 ⟨rfl, HW⟩
        have D1 := Lib.hid (Len_q HW.out.1)
        rw [show (halfS s).S.length = k from HK.out] at D1
        have D2 := Lib.hid (Act_q HW.out.1 x HX.out.1)
        have D3 := Lib.hid (Act_q HW.out.1 y HX.out.2.1)
        have D4 := Lib.hid (Has_q HW.out.1 x HX.out.2.2)
        have D5 := Lib.hid (wakes_any w3)
        have HF := Lib.hid (below_gr HO.out.2.2.2 HW.out.2 HO.out.1 HO.out.2.1 HO.out.2.2.1)
        clear C1 C2 C3 C4 C5
        go_wp2_with fail
        with_reducible refine D1.out.mono ?_
        rintro e w4 ⟨rfl, rfl⟩
        go_wp2_with fail
        with_reducible refine D2.out.mono ?_
        rintro e w4 ⟨rfl, rfl⟩
        go_wp2_with fail
        with_reducible refine D3.out.mono ?_
        rintro e w4 ⟨rfl, rfl⟩
        go_wp2_with fail
        with_reducible refine D4.out.mono ?_
        rintro e w4 ⟨rfl, rfl⟩
        by_cases hpq : q < p
        · have hd : decide (p / 2 < q / 2) = false := decide_eq_false (by omega)
          go_wp2_with fail
          with_reducible refine D2.out.mono ?_
          rintro e w4 ⟨rfl, rfl⟩
          go_wp2_with fail
          with_reducible refine D3.out.mono ?_
          rintro e w4 ⟨rfl, rfl⟩
          go_wp2_with fail
          with_reducible refine D5.out.mono ?_
          rintro e w5 ⟨rfl, hb5⟩
          have HB5 := Lib.hid hb5
          clear hb5
          go_wp2
          go_ret
          exact ⟨rfl, below_two HF.out HB5.out⟩
        · go_wp2_with fail
          with_reducible refine D5.out.mono ?_
          rintro e w5 ⟨rfl, hb5⟩
          have HB5 := Lib.hid hb5
          clear hb5
          go_wp2
          go_ret
          exact ⟨rfl, below_two HF.out HB5.out⟩
end Go.Proofs.Ytmgppnepccmceaa
